/-
  Plain mathematics of division: what is cut from the front of a word, what two words have in common at their fronts.
-/
import Derived.Test.YtmooanfcedgfnaaDoorSameM
namespace Go.Proofs.YtmooanfcedgfnaaDoor
open Go.RowKit
set_option linter.unusedVariables false
set_option maxRecDepth 100000

/-- What is left of a word when the letters of another one are taken from its front, if they can be. -/
def cutM (D : Nat → Nat → Bool) : List Nat → List Nat → Option (List Nat)
  | [], v => some v
  | a :: u, v => if freeB D v a = true then cutM D u (v.erase a) else none
/-- Whether a letter depends on one of a word. -/
def depL (D : Nat → Nat → Bool) (f : List Nat) (a : Nat) : Bool := f.any fun b => D b a
def indM (D : Nat → Nat → Bool) (u v : List Nat) : Bool := !(v.any fun y => depL D u y)
/-- The comparison: what is taken from both, what is passed over of the first, what is left of the second. -/
def cmpGo (D : Nat → Nat → Bool) : List Nat → List Nat → List Nat → List Nat → List Nat × List Nat × List Nat
  | [], p, f, s => (p, f, s)
  | a :: u, p, f, s => if (freeB D s a && !depL D f a) = true then cmpGo D u (p ++ [a]) f (s.erase a) else cmpGo D u p (f ++ [a]) s
def cmpM (D : Nat → Nat → Bool) (u v : List Nat) : List Nat × List Nat × List Nat := cmpGo D u [] [] v

theorem depL_nil (D : Nat → Nat → Bool) (a : Nat) : depL D [] a = false := rfl
theorem depL_no (D : Nat → Nat → Bool) (f : List Nat) (a : Nat) : depL D f a = false ↔ ∀ b, b ∈ f → D b a = false := by
  unfold depL
  rw [List.any_eq_false]
  exact ⟨fun h b hb => by simpa using h b hb, fun h b hb => by rw [h b hb]; decide⟩
theorem cmp_in (D : Nat → Nat → Bool) (a : Nat) (u p f s : List Nat) (h : freeB D s a = true) (h2 : depL D f a = false) : cmpGo D (a :: u) p f s = cmpGo D u (p ++ [a]) f (s.erase a) := by
  show (if (freeB D s a && !depL D f a) = true then _ else _) = _
  rw [if_pos (by rw [h, h2]; rfl)]
theorem cmp_out (D : Nat → Nat → Bool) (a : Nat) (u p f s : List Nat) (h : freeB D s a = false) : cmpGo D (a :: u) p f s = cmpGo D u p (f ++ [a]) s := by
  show (if (freeB D s a && !depL D f a) = true then _ else _) = _
  rw [if_neg (by rw [h]; simp)]
theorem cmp_dep (D : Nat → Nat → Bool) (a : Nat) (u p f s : List Nat) (h : depL D f a = true) : cmpGo D (a :: u) p f s = cmpGo D u p (f ++ [a]) s := by
  show (if (freeB D s a && !depL D f a) = true then _ else _) = _
  rw [if_neg (by rw [h]; simp)]
theorem cmp_more (D : Nat → Nat → Bool) : ∀ u p f s : List Nat, f ≠ [] → (cmpGo D u p f s).2.1 ≠ []
  | [], _, _, _, h => h
  | a :: u, p, f, s, h => by
    show (if (freeB D s a && !depL D f a) = true then _ else _ : List Nat × List Nat × List Nat).2.1 ≠ []
    split
    · exact cmp_more D u _ _ _ h
    · exact cmp_more D u _ _ _ (by simp)
theorem cmp_cut (D : Nat → Nat → Bool) : ∀ u p v r : List Nat, cutM D u v = some r → cmpGo D u p [] v = (p ++ u, [], r)
  | [], p, v, r, h => by
    injection h with h
    rw [List.append_nil, ← h]; rfl
  | a :: u, p, v, r, h => by
    have h' : (if freeB D v a = true then cutM D u (v.erase a) else none) = some r := h
    cases hf : freeB D v a with
    | false => rw [hf] at h'; cases h'
    | true =>
      rw [hf, if_pos rfl] at h'
      rw [cmp_in D a u p [] v hf rfl, cmp_cut D u _ _ _ h', List.append_assoc]; rfl
theorem cmp_uncut (D : Nat → Nat → Bool) : ∀ u p v : List Nat, cutM D u v = none → (cmpGo D u p [] v).2.1 ≠ []
  | [], p, v, h => by cases h
  | a :: u, p, v, h => by
    have h' : (if freeB D v a = true then cutM D u (v.erase a) else none) = none := h
    cases hf : freeB D v a with
    | false => rw [cmp_out D a u p [] v hf]; exact cmp_more D _ _ _ _ (by simp)
    | true =>
      rw [hf, if_pos rfl] at h'
      rw [cmp_in D a u p [] v hf rfl]
      exact cmp_uncut D u _ _ h'
theorem cut_len (D : Nat → Nat → Bool) : ∀ u v r : List Nat, cutM D u v = some r → r.length ≤ v.length ∧ ∀ x, x ∈ r → x ∈ v
  | [], v, r, h => by injection h with h; subst h; exact ⟨Nat.le_refl _, fun x hx => hx⟩
  | a :: u, v, r, h => by
    have h' : (if freeB D v a = true then cutM D u (v.erase a) else none) = some r := h
    cases hf : freeB D v a with
    | false => rw [hf] at h'; cases h'
    | true =>
      rw [hf, if_pos rfl] at h'
      have ih := cut_len D u _ _ h'
      exact ⟨Nat.le_trans ih.1 List.length_erase_le, fun x hx => List.mem_of_mem_erase (ih.2 x hx)⟩
/-- Each part of a comparison has letters of its words only, and not more than they. -/
theorem cmp_parts (D : Nat → Nat → Bool) : ∀ u p f s : List Nat, (cmpGo D u p f s).1.length + (cmpGo D u p f s).2.1.length = p.length + f.length + u.length ∧ (cmpGo D u p f s).2.2.length ≤ s.length ∧ (∀ x, x ∈ (cmpGo D u p f s).1 → x ∈ p ∨ x ∈ u) ∧ (∀ x, x ∈ (cmpGo D u p f s).2.1 → x ∈ f ∨ x ∈ u) ∧ (∀ x, x ∈ (cmpGo D u p f s).2.2 → x ∈ s)
  | [], p, f, s => ⟨by simp [cmpGo], Nat.le_refl _, fun x hx => .inl hx, fun x hx => .inl hx, fun x hx => hx⟩
  | a :: u, p, f, s => by
    by_cases h : (freeB D s a && !depL D f a) = true
    · have e : cmpGo D (a :: u) p f s = cmpGo D u (p ++ [a]) f (s.erase a) := if_pos h
      rw [e]
      obtain ⟨h1, h2, h3, h4, h5⟩ := cmp_parts D u (p ++ [a]) f (s.erase a)
      refine ⟨by rw [h1]; simp; omega, Nat.le_trans h2 List.length_erase_le, fun x hx => ?_, fun x hx => ?_, fun x hx => List.mem_of_mem_erase (h5 x hx)⟩
      · rcases h3 x hx with h | h
        · rcases List.mem_append.1 h with h | h
          · exact .inl h
          · simp at h; subst h; exact .inr List.mem_cons_self
        · exact .inr (List.mem_cons_of_mem _ h)
      · rcases h4 x hx with h | h
        · exact .inl h
        · exact .inr (List.mem_cons_of_mem _ h)
    · have e : cmpGo D (a :: u) p f s = cmpGo D u p (f ++ [a]) s := if_neg h
      rw [e]
      obtain ⟨h1, h2, h3, h4, h5⟩ := cmp_parts D u p (f ++ [a]) s
      refine ⟨by rw [h1]; simp; omega, h2, fun x hx => ?_, fun x hx => ?_, h5⟩
      · rcases h3 x hx with h | h
        · exact .inl h
        · exact .inr (List.mem_cons_of_mem _ h)
      · rcases h4 x hx with h | h
        · rcases List.mem_append.1 h with h | h
          · exact .inl h
          · simp at h; subst h; exact .inr List.mem_cons_self
        · exact .inr (List.mem_cons_of_mem _ h)

/-! Traces by projections. -/
theorem prj_append (u v : List Nat) (x y : Nat) : prj (u ++ v) x y = prj u x y ++ prj v x y := by unfold prj; rw [List.filter_append]
theorem Eqv.append {D : Nat → Nat → Bool} {u u' v v' : List Nat} (h : Eqv D u u') (h2 : Eqv D v v') : Eqv D (u ++ v) (u' ++ v') := fun x y d => by rw [prj_append, prj_append, h x y d, h2 x y d]
theorem Eqv.cancel {D : Nat → Nat → Bool} {u u' v v' : List Nat} (h : Eqv D (u ++ v) (u' ++ v')) (h2 : Eqv D u u') : Eqv D v v' := fun x y d => by
  have := h x y d
  rw [prj_append, prj_append, h2 x y d] at this
  exact List.append_cancel_left this
theorem Eqv.of_eq {D : Nat → Nat → Bool} {u v : List Nat} (h : u = v) : Eqv D u v := by rw [h]; exact Eqv.refl _ _
theorem free_append (D : Nat → Nat → Bool) (c : Nat) : ∀ u v : List Nat, freeB D (u ++ v) c = true → freeB D u c = true ∨ (depL D u c = false ∧ freeB D v c = true)
  | [], v, h => .inr ⟨rfl, h⟩
  | a :: u, v, h => by
    have h' : freeB D (a :: (u ++ v)) c = true := h
    rw [free_cons] at h' ⊢
    by_cases e : a = c
    · rw [if_pos e]; exact .inl rfl
    · rw [if_neg e] at h' ⊢
      cases hD : D a c with
      | true => rw [hD] at h'; simp at h'
      | false =>
        rw [hD] at h'
        rcases free_append D c u v (by simpa using h') with h | ⟨h1, h2⟩
        · exact .inl (by simpa using h)
        · refine .inr ⟨?_, h2⟩
          show (D a c || depL D u c) = false
          rw [hD, h1]; rfl
theorem free_left (D : Nat → Nat → Bool) (c : Nat) : ∀ u v : List Nat, freeB D u c = true → freeB D (u ++ v) c = true
  | [], v, h => by simp [freeB] at h
  | a :: u, v, h => by
    show freeB D (a :: (u ++ v)) c = true
    rw [free_cons] at h ⊢
    by_cases e : a = c
    · rw [if_pos e]
    · rw [if_neg e] at h ⊢
      cases hD : D a c with
      | true => rw [hD] at h; simp at h
      | false => rw [hD] at h; simpa using free_left D c u v (by simpa using h)
theorem free_behind (D : Nat → Nat → Bool) (c : Nat) (v : List Nat) (hv : freeB D v c = true) : ∀ u : List Nat, depL D u c = false → freeB D (u ++ v) c = true
  | [], _ => hv
  | a :: u, h => by
    have h' : (D a c || depL D u c) = false := h
    rw [Bool.or_eq_false_iff] at h'
    show freeB D (a :: (u ++ v)) c = true
    rw [free_cons]
    by_cases e : a = c
    · rw [if_pos e]
    · rw [if_neg e, h'.1]
      simpa using free_behind D c v hv u h'.2
theorem dep_mem {D : Nat → Nat → Bool} {u : List Nat} {c : Nat} (hc : D c c = true) (h : depL D u c = false) : c ∉ u := fun hm => by rw [(depL_no D u c).1 h c hm] at hc; cases hc
/-- A letter on which none of a word depends passes it. -/
theorem pass (D : Nat → Nat → Bool) (hsym : ∀ a b, D a b = D b a) (a : Nat) (ha : D a a = true) (f v : List Nat) (h : depL D f a = false) : Eqv D (f ++ a :: v) (a :: (f ++ v)) := by
  have hf : freeB D (f ++ a :: v) a = true := free_behind D a _ (by rw [free_cons, if_pos rfl]) f h
  have he := free_front D hsym a _ hf
  rw [List.erase_append_right _ (dep_mem ha h), List.erase_cons_head] at he
  exact he.symm
/-- p is taken from the fronts of u and v, a and b are left, and they have no first letter in common. -/
structure Meets (D : Nat → Nat → Bool) (u v p a b : List Nat) : Prop where
  fst : Eqv D (p ++ a) u
  snd : Eqv D (p ++ b) v
  apart : ∀ c, freeB D a c = true → freeB D b c = false
theorem cmp_meets (D : Nat → Nat → Bool) (n : Nat) (hsym : ∀ a b, D a b = D b a) (href : ∀ a, a < n → D a a = true) : ∀ u p f s u0 v0 : List Nat, (∀ x, x ∈ u → x < n) → (∀ x, x ∈ s → x < n) → Eqv D (p ++ (f ++ u)) u0 → Eqv D (p ++ s) v0 → (∀ c, freeB D f c = true → freeB D s c = false) →
    Meets D u0 v0 (cmpGo D u p f s).1 (cmpGo D u p f s).2.1 (cmpGo D u p f s).2.2
  | [], p, f, s, u0, v0, _, _, h1, h2, h3 => ⟨by rw [List.append_nil] at h1; exact h1, h2, h3⟩
  | a :: u, p, f, s, u0, v0, hu, hs, h1, h2, h3 => by
    have han := href a (hu a List.mem_cons_self)
    have hu' : ∀ x, x ∈ u → x < n := fun x hx => hu x (List.mem_cons_of_mem _ hx)
    cases hd : depL D f a with
    | true =>
      rw [cmp_dep D a u p f s hd]
      refine cmp_meets D n hsym href u p (f ++ [a]) s u0 v0 hu' hs (by rw [List.append_assoc]; exact h1) h2 fun c hc => ?_
      rcases free_append D c f [a] hc with h | ⟨h, h'⟩
      · exact h3 c h
      · have := free_mem D c _ h'
        simp at this; subst this
        rw [hd] at h; cases h
    | false =>
      cases hf : freeB D s a with
      | false =>
        rw [cmp_out D a u p f s hf]
        refine cmp_meets D n hsym href u p (f ++ [a]) s u0 v0 hu' hs (by rw [List.append_assoc]; exact h1) h2 fun c hc => ?_
        rcases free_append D c f [a] hc with h | ⟨h, h'⟩
        · exact h3 c h
        · have := free_mem D c _ h'
          simp at this; subst this
          exact hf
      | true =>
        rw [cmp_in D a u p f s hf hd]
        refine cmp_meets D n hsym href u (p ++ [a]) f (s.erase a) u0 v0 hu' (fun x hx => hs x (List.mem_of_mem_erase hx)) ?_ ?_ fun c hc => ?_
        · refine Eqv.trans ?_ h1
          rw [List.append_assoc]
          exact (Eqv.refl D p).append (pass D hsym a han f u hd).symm
        · refine Eqv.trans ?_ h2
          rw [List.append_assoc]
          exact (Eqv.refl D p).append (free_front D hsym a s hf)
        · cases hcs : freeB D (s.erase a) c with
          | false => rfl
          | true =>
            exfalso
            have hcf := free_mem D c f hc
            have hDac : D a c = false := by rw [hsym]; exact (depL_no D f a).1 hd c hcf
            have hcn : c < n := hs c (List.mem_of_mem_erase (free_mem D c _ hcs))
            have : freeB D (a :: s.erase a) c = true := by
              rw [free_cons]
              by_cases e : a = c
              · rw [if_pos e]
              · rw [if_neg e, hDac]; simpa using hcs
            rw [(free_front D hsym a s hf).free (href c hcn), h3 c hc] at this
            cases this
theorem meets_same (D : Nat → Nat → Bool) (n : Nat) (hsym : ∀ a b, D a b = D b a) (href : ∀ a, a < n → D a a = true) : ∀ p a b p' a' b' : List Nat, (∀ x, x ∈ p → x < n) → (∀ x, x ∈ p' → x < n) → Eqv D (p ++ a) (p' ++ a') → Eqv D (p ++ b) (p' ++ b') → (∀ c, freeB D a c = true → freeB D b c = false) → (∀ c, freeB D a' c = true → freeB D b' c = false) → Eqv D p p'
  | [], a, b, p', a', b', hp, hp', h1, h2, h3, h4 => by
    cases p' with
    | nil => exact Eqv.refl _ _
    | cons c t =>
      exfalso
      have hc := href c (hp' c List.mem_cons_self)
      have e1 : freeB D a c = true := by
        have := h1.free hc
        rw [List.nil_append] at this
        rw [this, List.cons_append, free_cons, if_pos rfl]
      have e2 : freeB D b c = true := by
        have := h2.free hc
        rw [List.nil_append] at this
        rw [this, List.cons_append, free_cons, if_pos rfl]
      rw [h3 c e1] at e2; cases e2
  | c :: p, a, b, p', a', b', hp, hp', h1, h2, h3, h4 => by
    have hc := href c (hp c List.mem_cons_self)
    have e1 : freeB D (p' ++ a') c = true := by rw [← h1.free hc, List.cons_append, free_cons, if_pos rfl]
    have e2 : freeB D (p' ++ b') c = true := by rw [← h2.free hc, List.cons_append, free_cons, if_pos rfl]
    cases hf : freeB D p' c with
    | false =>
      exfalso
      rcases free_append D c p' a' e1 with h | ⟨_, g1⟩
      · rw [hf] at h; cases h
      rcases free_append D c p' b' e2 with h | ⟨_, g2⟩
      · rw [hf] at h; cases h
      rw [h4 c g1] at g2; cases g2
    | true =>
      have hfr := free_front D hsym c p' hf
      have k1 : Eqv D (p ++ a) (p'.erase c ++ a') := Eqv.tail (a := c) (h1.trans (hfr.symm.append (Eqv.refl D a')))
      have k2 : Eqv D (p ++ b) (p'.erase c ++ b') := Eqv.tail (a := c) (h2.trans (hfr.symm.append (Eqv.refl D b')))
      have ih := meets_same D n hsym href p a b (p'.erase c) a' b' (fun x hx => hp x (List.mem_cons_of_mem _ hx)) (fun x hx => hp' x (List.mem_of_mem_erase hx)) k1 k2 h3 h4
      exact (ih.cons c).trans hfr
/-- There is one meet, and what is left of both is the same. -/
theorem Meets.unique {D : Nat → Nat → Bool} {n : Nat} (hsym : ∀ a b, D a b = D b a) (href : ∀ a, a < n → D a a = true) {u v p a b p' a' b' : List Nat} (h : Meets D u v p a b) (h' : Meets D u v p' a' b') (hp : ∀ x, x ∈ p → x < n) (hp' : ∀ x, x ∈ p' → x < n) : Eqv D p p' ∧ Eqv D a a' ∧ Eqv D b b' := by
  have h1 := h.fst.trans h'.fst.symm
  have h2 := h.snd.trans h'.snd.symm
  have e := meets_same D n hsym href p a b p' a' b' hp hp' h1 h2 h.apart h'.apart
  exact ⟨e, h1.cancel e, h2.cancel e⟩
theorem cut_eqv (D : Nat → Nat → Bool) (hsym : ∀ a b, D a b = D b a) : ∀ p v r : List Nat, cutM D p v = some r → Eqv D (p ++ r) v
  | [], v, r, h => by injection h with h; subst h; exact Eqv.refl _ _
  | a :: p, v, r, h => by
    have h' : (if freeB D v a = true then cutM D p (v.erase a) else none) = some r := h
    cases hf : freeB D v a with
    | false => rw [hf] at h'; cases h'
    | true =>
      rw [hf, if_pos rfl] at h'
      exact ((cut_eqv D hsym p _ _ h').cons a).trans (free_front D hsym a v hf)
theorem cut_some (D : Nat → Nat → Bool) (n : Nat) (hsym : ∀ a b, D a b = D b a) (href : ∀ a, a < n → D a a = true) : ∀ p z v : List Nat, (∀ x, x ∈ p → x < n) → Eqv D (p ++ z) v → ∃ r, cutM D p v = some r ∧ Eqv D z r
  | [], z, v, _, h => ⟨v, rfl, h⟩
  | a :: p, z, v, hp, h => by
    obtain ⟨hf, he⟩ := h.step hsym (href a (hp a List.mem_cons_self))
    obtain ⟨r, h1, h2⟩ := cut_some D n hsym href p z (v.erase a) (fun x hx => hp x (List.mem_cons_of_mem _ hx)) he
    refine ⟨r, ?_, h2⟩
    show (if freeB D v a = true then cutM D p (v.erase a) else none) = some r
    rw [hf, if_pos rfl]; exact h1
/-- Two factorisations: what the second has more than the first is a prefix of what follows the first. -/
theorem levi_eqv (D : Nat → Nat → Bool) (n : Nat) (hsym : ∀ a b, D a b = D b a) (href : ∀ a, a < n → D a a = true) : ∀ r q v z : List Nat, (∀ x, x ∈ r → x < n) → (∀ x, x ∈ q → x < n) → Eqv D (q ++ v) (r ++ z) → (∀ c, freeB D q c = true → freeB D r c = false) → ∃ s, Eqv D (r ++ s) v
  | [], q, v, z, _, _, _, _ => ⟨v, Eqv.refl _ _⟩
  | c :: r, q, v, z, hr, hq, h, hap => by
    have hc := href c (hr c List.mem_cons_self)
    have hcf : freeB D (c :: r) c = true := by rw [free_cons, if_pos rfl]
    have e1 : freeB D (q ++ v) c = true := by rw [h.free hc, List.cons_append, free_cons, if_pos rfl]
    rcases free_append D c q v e1 with g | ⟨g1, g2⟩
    · have := hap c g; rw [hcf] at this; cases this
    · have hfr := free_front D hsym c v g2
      have k : Eqv D (c :: (q ++ v.erase c)) (c :: (r ++ z)) := (((pass D hsym c hc q (v.erase c) g1).symm).trans ((Eqv.refl D q).append hfr)).trans h
      have hap' : ∀ d, freeB D q d = true → freeB D r d = false := fun d hd => by
        cases hrd : freeB D r d with
        | false => rfl
        | true =>
          exfalso
          have hdq := free_mem D d q hd
          have h0 : D c d = false := by rw [hsym]; exact (depL_no D q c).1 g1 d hdq
          have : freeB D (c :: r) d = true := by
            rw [free_cons]
            by_cases e : c = d
            · rw [if_pos e]
            · rw [if_neg e, h0]; simpa using hrd
          rw [hap d hd] at this; cases this
      obtain ⟨s, hs⟩ := levi_eqv D n hsym href r q (v.erase c) z (fun x hx => hr x (List.mem_cons_of_mem _ hx)) hq k.tail hap'
      exact ⟨s, (hs.cons c).trans hfr⟩
theorem indM_iff (D : Nat → Nat → Bool) (u v : List Nat) : indM D u v = true ↔ ∀ x, x ∈ u → ∀ y, y ∈ v → D x y = false := by
  unfold indM
  rw [Bool.not_eq_true', List.any_eq_false]
  constructor
  · intro h x hx y hy
    have := h y hy
    rw [Bool.not_eq_true] at this
    exact (depL_no D u y).1 this x hx
  · intro h y hy
    rw [Bool.not_eq_true]
    exact (depL_no D u y).2 fun x hx => h x hx y hy
theorem indM_eqv {D : Nat → Nat → Bool} {n : Nat} (href : ∀ a, a < n → D a a = true) {u v u' v' : List Nat} (hu : ∀ x, x ∈ u → x < n) (hv : ∀ x, x ∈ v → x < n) (hu' : ∀ x, x ∈ u' → x < n) (hv' : ∀ x, x ∈ v' → x < n) (h1 : Eqv D u u') (h2 : Eqv D v v') : indM D u v = indM D u' v' := by
  rw [Bool.eq_iff_iff, indM_iff, indM_iff]
  exact ⟨fun h x hx y hy => h x ((h1.mem (href x (hu' x hx))).2 hx) y ((h2.mem (href y (hv' y hy))).2 hy), fun h x hx y hy => h x ((h1.mem (href x (hu x hx))).1 hx) y ((h2.mem (href y (hv y hy))).1 hy)⟩
/-- The letters of a set that stand in front: the program's comparison with the projection finds them letter by letter. -/
def inGo (D : Nat → Nat → Bool) (P : Nat → Bool) : List Nat → List Nat → List Nat → List Nat × List Nat
  | [], p, f => (p, f)
  | a :: u, p, f => if (P a && !depL D f a) = true then inGo D P u (p ++ [a]) f else inGo D P u p (f ++ [a])
theorem free_in (D : Nat → Nat → Bool) (a : Nat) (ha : D a a = true) (k r : List Nat) (h : depL D k a = false) : freeB D (k ++ a :: r) a = true ∧ (k ++ a :: r).erase a = k ++ r :=
  ⟨free_behind D a _ (by rw [free_cons, if_pos rfl]) k h, by rw [List.erase_append_right _ (dep_mem ha h), List.erase_cons_head]⟩
theorem in_cmp (D : Nat → Nat → Bool) (P : Nat → Bool) (n : Nat) (href : ∀ a, a < n → D a a = true) : ∀ u p f : List Nat, (∀ x, x ∈ u → x < n) →
    ((cmpGo D u p f (f.filter P ++ u.filter P)).1 = (inGo D P u p f).1)
  | [], p, f, _ => rfl
  | a :: u, p, f, hu => by
    have hu' : ∀ x, x ∈ u → x < n := fun x hx => hu x (List.mem_cons_of_mem _ hx)
    have han := href a (hu a List.mem_cons_self)
    cases hP : P a with
    | false =>
      have e : inGo D P (a :: u) p f = inGo D P u p (f ++ [a]) := by
        show (if (P a && !depL D f a) = true then _ else _) = _
        rw [hP, if_neg (by simp)]
      have hnf : freeB D (f.filter P ++ (a :: u).filter P) a = false := by
        cases h : freeB D (f.filter P ++ (a :: u).filter P) a with
        | false => rfl
        | true =>
          have hm := free_mem D a _ h
          rw [← List.filter_append] at hm
          have := (List.mem_filter.1 hm).2
          rw [hP] at this; cases this
      rw [e, cmp_out D a u p f _ hnf, ← in_cmp D P n href u p (f ++ [a]) hu']
      have e2 : f.filter P ++ (a :: u).filter P = (f ++ [a]).filter P ++ u.filter P := by
        rw [← List.filter_append, ← List.filter_append, List.append_assoc]; rfl
      rw [e2]
    | true =>
      have e3 : f.filter P ++ (a :: u).filter P = f.filter P ++ a :: u.filter P := by rw [List.filter_cons, if_pos hP]
      cases hd : depL D f a with
      | true =>
        have e : inGo D P (a :: u) p f = inGo D P u p (f ++ [a]) := by
          show (if (P a && !depL D f a) = true then _ else _) = _
          rw [hd, if_neg (by simp)]
        rw [e, cmp_dep D a u p f _ hd, ← in_cmp D P n href u p (f ++ [a]) hu']
        have e2 : f.filter P ++ (a :: u).filter P = (f ++ [a]).filter P ++ u.filter P := by
          rw [← List.filter_append, ← List.filter_append, List.append_assoc]; rfl
        rw [e2]
      | false =>
        have e : inGo D P (a :: u) p f = inGo D P u (p ++ [a]) f := by
          show (if (P a && !depL D f a) = true then _ else _) = _
          rw [hd, hP]; rfl
        have hd2 : depL D (f.filter P) a = false := (depL_no _ _ _).2 fun b hb => (depL_no _ _ _).1 hd b (List.mem_filter.1 hb).1
        obtain ⟨g1, g2⟩ := free_in D a han (f.filter P) (u.filter P) hd2
        rw [e, e3, cmp_in D a u p f _ g1 hd, g2]
        exact in_cmp D P n href u (p ++ [a]) f hu'
end Go.Proofs.YtmooanfcedgfnaaDoor
