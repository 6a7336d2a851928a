/-
  Plain mathematics of division: what is cut from the front of a word, what two words have in common at their fronts. Division: the program's letters that depend on a word, and what is left of a word without its first letter, by contracts. Division: the program's comparison of two words, by a contract; quotients. Division: the model's cutting and its test of independence, by contracts. Division: the program's quotient, by a contract. Division: the model's meet, by a contract.
-/
import Derived.Test.YtdafdffmkjhhcaaDoorM1
import Derived.Test.YtdafdffmkjhhcaaDoorM3
import Derived.Laws.CopyOwn
import Derived.Conc.MuLone
import Derived.Deep.AppendLies
namespace Go.Proofs.YtdafdffmkjhhcaaDoor
open Go.RowKit
set_option linter.unusedVariables false
set_option maxRecDepth 100000

/-- What is left of a word when the letters of another one are taken from its front, if they can be. -/
def cutM (D : Nat → Nat → Bool) : List Nat → List Nat → Option (List Nat)
  | [], v => some v
  | a :: u, v => if freeB D v a = true then cutM D u (v.erase a) else none
/-- Whether a letter depends on one of a word. -/
def depL (D : Nat → Nat → Bool) (f : List Nat) (a : Nat) : Bool := f.any fun b => D b a
def indM (D : Nat → Nat → Bool) (u v : List Nat) : Bool := !(v.any fun y => depL D u y)
/-- The comparison: what is taken from both, what is passed over of the first, what is left of the second. -/
def cmpGo (D : Nat → Nat → Bool) : List Nat → List Nat → List Nat → List Nat → List Nat × List Nat × List Nat
  | [], p, f, s => (p, f, s)
  | a :: u, p, f, s => if (freeB D s a && !depL D f a) = true then cmpGo D u (p ++ [a]) f (s.erase a) else cmpGo D u p (f ++ [a]) s
def cmpM (D : Nat → Nat → Bool) (u v : List Nat) : List Nat × List Nat × List Nat := cmpGo D u [] [] v

theorem depL_nil (D : Nat → Nat → Bool) (a : Nat) : depL D [] a = false := rfl
theorem depL_no (D : Nat → Nat → Bool) (f : List Nat) (a : Nat) : depL D f a = false ↔ ∀ b, b ∈ f → D b a = false := by
  unfold depL
  rw [List.any_eq_false]
  exact ⟨fun h b hb => by simpa using h b hb, fun h b hb => by rw [h b hb]; decide⟩
theorem cmp_in (D : Nat → Nat → Bool) (a : Nat) (u p f s : List Nat) (h : freeB D s a = true) (h2 : depL D f a = false) : cmpGo D (a :: u) p f s = cmpGo D u (p ++ [a]) f (s.erase a) := by
  show (if (freeB D s a && !depL D f a) = true then _ else _) = _
  rw [if_pos (by rw [h, h2]; rfl)]
theorem cmp_out (D : Nat → Nat → Bool) (a : Nat) (u p f s : List Nat) (h : freeB D s a = false) : cmpGo D (a :: u) p f s = cmpGo D u p (f ++ [a]) s := by
  show (if (freeB D s a && !depL D f a) = true then _ else _) = _
  rw [if_neg (by rw [h]; simp)]
theorem cmp_dep (D : Nat → Nat → Bool) (a : Nat) (u p f s : List Nat) (h : depL D f a = true) : cmpGo D (a :: u) p f s = cmpGo D u p (f ++ [a]) s := by
  show (if (freeB D s a && !depL D f a) = true then _ else _) = _
  rw [if_neg (by rw [h]; simp)]
theorem cmp_more (D : Nat → Nat → Bool) : ∀ u p f s : List Nat, f ≠ [] → (cmpGo D u p f s).2.1 ≠ []
  | [], _, _, _, h => h
  | a :: u, p, f, s, h => by
    show (if (freeB D s a && !depL D f a) = true then _ else _ : List Nat × List Nat × List Nat).2.1 ≠ []
    split
    · exact cmp_more D u _ _ _ h
    · exact cmp_more D u _ _ _ (by simp)
theorem cmp_cut (D : Nat → Nat → Bool) : ∀ u p v r : List Nat, cutM D u v = some r → cmpGo D u p [] v = (p ++ u, [], r)
  | [], p, v, r, h => by
    injection h with h
    rw [List.append_nil, ← h]; rfl
  | a :: u, p, v, r, h => by
    have h' : (if freeB D v a = true then cutM D u (v.erase a) else none) = some r := h
    cases hf : freeB D v a with
    | false => rw [hf] at h'; cases h'
    | true =>
      rw [hf, if_pos rfl] at h'
      rw [cmp_in D a u p [] v hf rfl, cmp_cut D u _ _ _ h', List.append_assoc]; rfl
theorem cmp_uncut (D : Nat → Nat → Bool) : ∀ u p v : List Nat, cutM D u v = none → (cmpGo D u p [] v).2.1 ≠ []
  | [], p, v, h => by cases h
  | a :: u, p, v, h => by
    have h' : (if freeB D v a = true then cutM D u (v.erase a) else none) = none := h
    cases hf : freeB D v a with
    | false => rw [cmp_out D a u p [] v hf]; exact cmp_more D _ _ _ _ (by simp)
    | true =>
      rw [hf, if_pos rfl] at h'
      rw [cmp_in D a u p [] v hf rfl]
      exact cmp_uncut D u _ _ h'
theorem cut_len (D : Nat → Nat → Bool) : ∀ u v r : List Nat, cutM D u v = some r → r.length ≤ v.length ∧ ∀ x, x ∈ r → x ∈ v
  | [], v, r, h => by injection h with h; subst h; exact ⟨Nat.le_refl _, fun x hx => hx⟩
  | a :: u, v, r, h => by
    have h' : (if freeB D v a = true then cutM D u (v.erase a) else none) = some r := h
    cases hf : freeB D v a with
    | false => rw [hf] at h'; cases h'
    | true =>
      rw [hf, if_pos rfl] at h'
      have ih := cut_len D u _ _ h'
      exact ⟨Nat.le_trans ih.1 List.length_erase_le, fun x hx => List.mem_of_mem_erase (ih.2 x hx)⟩
/-- Each part of a comparison has letters of its words only, and not more than they. -/
theorem cmp_parts (D : Nat → Nat → Bool) : ∀ u p f s : List Nat, (cmpGo D u p f s).1.length + (cmpGo D u p f s).2.1.length = p.length + f.length + u.length ∧ (cmpGo D u p f s).2.2.length ≤ s.length ∧ (∀ x, x ∈ (cmpGo D u p f s).1 → x ∈ p ∨ x ∈ u) ∧ (∀ x, x ∈ (cmpGo D u p f s).2.1 → x ∈ f ∨ x ∈ u) ∧ (∀ x, x ∈ (cmpGo D u p f s).2.2 → x ∈ s)
  | [], p, f, s => ⟨by simp [cmpGo], Nat.le_refl _, fun x hx => .inl hx, fun x hx => .inl hx, fun x hx => hx⟩
  | a :: u, p, f, s => by
    by_cases h : (freeB D s a && !depL D f a) = true
    · have e : cmpGo D (a :: u) p f s = cmpGo D u (p ++ [a]) f (s.erase a) := if_pos h
      rw [e]
      obtain ⟨h1, h2, h3, h4, h5⟩ := cmp_parts D u (p ++ [a]) f (s.erase a)
      refine ⟨by rw [h1]; simp; omega, Nat.le_trans h2 List.length_erase_le, fun x hx => ?_, fun x hx => ?_, fun x hx => List.mem_of_mem_erase (h5 x hx)⟩
      · rcases h3 x hx with h | h
        · rcases List.mem_append.1 h with h | h
          · exact .inl h
          · simp at h; subst h; exact .inr List.mem_cons_self
        · exact .inr (List.mem_cons_of_mem _ h)
      · rcases h4 x hx with h | h
        · exact .inl h
        · exact .inr (List.mem_cons_of_mem _ h)
    · have e : cmpGo D (a :: u) p f s = cmpGo D u p (f ++ [a]) s := if_neg h
      rw [e]
      obtain ⟨h1, h2, h3, h4, h5⟩ := cmp_parts D u p (f ++ [a]) s
      refine ⟨by rw [h1]; simp; omega, h2, fun x hx => ?_, fun x hx => ?_, h5⟩
      · rcases h3 x hx with h | h
        · exact .inl h
        · exact .inr (List.mem_cons_of_mem _ h)
      · rcases h4 x hx with h | h
        · rcases List.mem_append.1 h with h | h
          · exact .inl h
          · simp at h; subst h; exact .inr List.mem_cons_self
        · exact .inr (List.mem_cons_of_mem _ h)

/-! Traces by projections. -/
theorem prj_append (u v : List Nat) (x y : Nat) : prj (u ++ v) x y = prj u x y ++ prj v x y := by unfold prj; rw [List.filter_append]
theorem Eqv.append {D : Nat → Nat → Bool} {u u' v v' : List Nat} (h : Eqv D u u') (h2 : Eqv D v v') : Eqv D (u ++ v) (u' ++ v') := fun x y d => by rw [prj_append, prj_append, h x y d, h2 x y d]
theorem Eqv.cancel {D : Nat → Nat → Bool} {u u' v v' : List Nat} (h : Eqv D (u ++ v) (u' ++ v')) (h2 : Eqv D u u') : Eqv D v v' := fun x y d => by
  have := h x y d
  rw [prj_append, prj_append, h2 x y d] at this
  exact List.append_cancel_left this
theorem Eqv.of_eq {D : Nat → Nat → Bool} {u v : List Nat} (h : u = v) : Eqv D u v := by rw [h]; exact Eqv.refl _ _
theorem free_append (D : Nat → Nat → Bool) (c : Nat) : ∀ u v : List Nat, freeB D (u ++ v) c = true → freeB D u c = true ∨ (depL D u c = false ∧ freeB D v c = true)
  | [], v, h => .inr ⟨rfl, h⟩
  | a :: u, v, h => by
    have h' : freeB D (a :: (u ++ v)) c = true := h
    rw [free_cons] at h' ⊢
    by_cases e : a = c
    · rw [if_pos e]; exact .inl rfl
    · rw [if_neg e] at h' ⊢
      cases hD : D a c with
      | true => rw [hD] at h'; simp at h'
      | false =>
        rw [hD] at h'
        rcases free_append D c u v (by simpa using h') with h | ⟨h1, h2⟩
        · exact .inl (by simpa using h)
        · refine .inr ⟨?_, h2⟩
          show (D a c || depL D u c) = false
          rw [hD, h1]; rfl
theorem free_left (D : Nat → Nat → Bool) (c : Nat) : ∀ u v : List Nat, freeB D u c = true → freeB D (u ++ v) c = true
  | [], v, h => by simp [freeB] at h
  | a :: u, v, h => by
    show freeB D (a :: (u ++ v)) c = true
    rw [free_cons] at h ⊢
    by_cases e : a = c
    · rw [if_pos e]
    · rw [if_neg e] at h ⊢
      cases hD : D a c with
      | true => rw [hD] at h; simp at h
      | false => rw [hD] at h; simpa using free_left D c u v (by simpa using h)
theorem free_behind (D : Nat → Nat → Bool) (c : Nat) (v : List Nat) (hv : freeB D v c = true) : ∀ u : List Nat, depL D u c = false → freeB D (u ++ v) c = true
  | [], _ => hv
  | a :: u, h => by
    have h' : (D a c || depL D u c) = false := h
    rw [Bool.or_eq_false_iff] at h'
    show freeB D (a :: (u ++ v)) c = true
    rw [free_cons]
    by_cases e : a = c
    · rw [if_pos e]
    · rw [if_neg e, h'.1]
      simpa using free_behind D c v hv u h'.2
theorem dep_mem {D : Nat → Nat → Bool} {u : List Nat} {c : Nat} (hc : D c c = true) (h : depL D u c = false) : c ∉ u := fun hm => by rw [(depL_no D u c).1 h c hm] at hc; cases hc
/-- A letter on which none of a word depends passes it. -/
theorem pass (D : Nat → Nat → Bool) (hsym : ∀ a b, D a b = D b a) (a : Nat) (ha : D a a = true) (f v : List Nat) (h : depL D f a = false) : Eqv D (f ++ a :: v) (a :: (f ++ v)) := by
  have hf : freeB D (f ++ a :: v) a = true := free_behind D a _ (by rw [free_cons, if_pos rfl]) f h
  have he := free_front D hsym a _ hf
  rw [List.erase_append_right _ (dep_mem ha h), List.erase_cons_head] at he
  exact he.symm
/-- p is taken from the fronts of u and v, a and b are left, and they have no first letter in common. -/
structure Meets (D : Nat → Nat → Bool) (u v p a b : List Nat) : Prop where
  fst : Eqv D (p ++ a) u
  snd : Eqv D (p ++ b) v
  apart : ∀ c, freeB D a c = true → freeB D b c = false
theorem cmp_meets (D : Nat → Nat → Bool) (n : Nat) (hsym : ∀ a b, D a b = D b a) (href : ∀ a, a < n → D a a = true) : ∀ u p f s u0 v0 : List Nat, (∀ x, x ∈ u → x < n) → (∀ x, x ∈ s → x < n) → Eqv D (p ++ (f ++ u)) u0 → Eqv D (p ++ s) v0 → (∀ c, freeB D f c = true → freeB D s c = false) →
    Meets D u0 v0 (cmpGo D u p f s).1 (cmpGo D u p f s).2.1 (cmpGo D u p f s).2.2
  | [], p, f, s, u0, v0, _, _, h1, h2, h3 => ⟨by rw [List.append_nil] at h1; exact h1, h2, h3⟩
  | a :: u, p, f, s, u0, v0, hu, hs, h1, h2, h3 => by
    have han := href a (hu a List.mem_cons_self)
    have hu' : ∀ x, x ∈ u → x < n := fun x hx => hu x (List.mem_cons_of_mem _ hx)
    cases hd : depL D f a with
    | true =>
      rw [cmp_dep D a u p f s hd]
      refine cmp_meets D n hsym href u p (f ++ [a]) s u0 v0 hu' hs (by rw [List.append_assoc]; exact h1) h2 fun c hc => ?_
      rcases free_append D c f [a] hc with h | ⟨h, h'⟩
      · exact h3 c h
      · have := free_mem D c _ h'
        simp at this; subst this
        rw [hd] at h; cases h
    | false =>
      cases hf : freeB D s a with
      | false =>
        rw [cmp_out D a u p f s hf]
        refine cmp_meets D n hsym href u p (f ++ [a]) s u0 v0 hu' hs (by rw [List.append_assoc]; exact h1) h2 fun c hc => ?_
        rcases free_append D c f [a] hc with h | ⟨h, h'⟩
        · exact h3 c h
        · have := free_mem D c _ h'
          simp at this; subst this
          exact hf
      | true =>
        rw [cmp_in D a u p f s hf hd]
        refine cmp_meets D n hsym href u (p ++ [a]) f (s.erase a) u0 v0 hu' (fun x hx => hs x (List.mem_of_mem_erase hx)) ?_ ?_ fun c hc => ?_
        · refine Eqv.trans ?_ h1
          rw [List.append_assoc]
          exact (Eqv.refl D p).append (pass D hsym a han f u hd).symm
        · refine Eqv.trans ?_ h2
          rw [List.append_assoc]
          exact (Eqv.refl D p).append (free_front D hsym a s hf)
        · cases hcs : freeB D (s.erase a) c with
          | false => rfl
          | true =>
            exfalso
            have hcf := free_mem D c f hc
            have hDac : D a c = false := by rw [hsym]; exact (depL_no D f a).1 hd c hcf
            have hcn : c < n := hs c (List.mem_of_mem_erase (free_mem D c _ hcs))
            have : freeB D (a :: s.erase a) c = true := by
              rw [free_cons]
              by_cases e : a = c
              · rw [if_pos e]
              · rw [if_neg e, hDac]; simpa using hcs
            rw [(free_front D hsym a s hf).free (href c hcn), h3 c hc] at this
            cases this
theorem meets_same (D : Nat → Nat → Bool) (n : Nat) (hsym : ∀ a b, D a b = D b a) (href : ∀ a, a < n → D a a = true) : ∀ p a b p' a' b' : List Nat, (∀ x, x ∈ p → x < n) → (∀ x, x ∈ p' → x < n) → Eqv D (p ++ a) (p' ++ a') → Eqv D (p ++ b) (p' ++ b') → (∀ c, freeB D a c = true → freeB D b c = false) → (∀ c, freeB D a' c = true → freeB D b' c = false) → Eqv D p p'
  | [], a, b, p', a', b', hp, hp', h1, h2, h3, h4 => by
    cases p' with
    | nil => exact Eqv.refl _ _
    | cons c t =>
      exfalso
      have hc := href c (hp' c List.mem_cons_self)
      have e1 : freeB D a c = true := by
        have := h1.free hc
        rw [List.nil_append] at this
        rw [this, List.cons_append, free_cons, if_pos rfl]
      have e2 : freeB D b c = true := by
        have := h2.free hc
        rw [List.nil_append] at this
        rw [this, List.cons_append, free_cons, if_pos rfl]
      rw [h3 c e1] at e2; cases e2
  | c :: p, a, b, p', a', b', hp, hp', h1, h2, h3, h4 => by
    have hc := href c (hp c List.mem_cons_self)
    have e1 : freeB D (p' ++ a') c = true := by rw [← h1.free hc, List.cons_append, free_cons, if_pos rfl]
    have e2 : freeB D (p' ++ b') c = true := by rw [← h2.free hc, List.cons_append, free_cons, if_pos rfl]
    cases hf : freeB D p' c with
    | false =>
      exfalso
      rcases free_append D c p' a' e1 with h | ⟨_, g1⟩
      · rw [hf] at h; cases h
      rcases free_append D c p' b' e2 with h | ⟨_, g2⟩
      · rw [hf] at h; cases h
      rw [h4 c g1] at g2; cases g2
    | true =>
      have hfr := free_front D hsym c p' hf
      have k1 : Eqv D (p ++ a) (p'.erase c ++ a') := Eqv.tail (a := c) (h1.trans (hfr.symm.append (Eqv.refl D a')))
      have k2 : Eqv D (p ++ b) (p'.erase c ++ b') := Eqv.tail (a := c) (h2.trans (hfr.symm.append (Eqv.refl D b')))
      have ih := meets_same D n hsym href p a b (p'.erase c) a' b' (fun x hx => hp x (List.mem_cons_of_mem _ hx)) (fun x hx => hp' x (List.mem_of_mem_erase hx)) k1 k2 h3 h4
      exact (ih.cons c).trans hfr
/-- There is one meet, and what is left of both is the same. -/
theorem Meets.unique {D : Nat → Nat → Bool} {n : Nat} (hsym : ∀ a b, D a b = D b a) (href : ∀ a, a < n → D a a = true) {u v p a b p' a' b' : List Nat} (h : Meets D u v p a b) (h' : Meets D u v p' a' b') (hp : ∀ x, x ∈ p → x < n) (hp' : ∀ x, x ∈ p' → x < n) : Eqv D p p' ∧ Eqv D a a' ∧ Eqv D b b' := by
  have h1 := h.fst.trans h'.fst.symm
  have h2 := h.snd.trans h'.snd.symm
  have e := meets_same D n hsym href p a b p' a' b' hp hp' h1 h2 h.apart h'.apart
  exact ⟨e, h1.cancel e, h2.cancel e⟩
theorem cut_eqv (D : Nat → Nat → Bool) (hsym : ∀ a b, D a b = D b a) : ∀ p v r : List Nat, cutM D p v = some r → Eqv D (p ++ r) v
  | [], v, r, h => by injection h with h; subst h; exact Eqv.refl _ _
  | a :: p, v, r, h => by
    have h' : (if freeB D v a = true then cutM D p (v.erase a) else none) = some r := h
    cases hf : freeB D v a with
    | false => rw [hf] at h'; cases h'
    | true =>
      rw [hf, if_pos rfl] at h'
      exact ((cut_eqv D hsym p _ _ h').cons a).trans (free_front D hsym a v hf)
theorem cut_some (D : Nat → Nat → Bool) (n : Nat) (hsym : ∀ a b, D a b = D b a) (href : ∀ a, a < n → D a a = true) : ∀ p z v : List Nat, (∀ x, x ∈ p → x < n) → Eqv D (p ++ z) v → ∃ r, cutM D p v = some r ∧ Eqv D z r
  | [], z, v, _, h => ⟨v, rfl, h⟩
  | a :: p, z, v, hp, h => by
    obtain ⟨hf, he⟩ := h.step hsym (href a (hp a List.mem_cons_self))
    obtain ⟨r, h1, h2⟩ := cut_some D n hsym href p z (v.erase a) (fun x hx => hp x (List.mem_cons_of_mem _ hx)) he
    refine ⟨r, ?_, h2⟩
    show (if freeB D v a = true then cutM D p (v.erase a) else none) = some r
    rw [hf, if_pos rfl]; exact h1
/-- Two factorisations: what the second has more than the first is a prefix of what follows the first. -/
theorem levi_eqv (D : Nat → Nat → Bool) (n : Nat) (hsym : ∀ a b, D a b = D b a) (href : ∀ a, a < n → D a a = true) : ∀ r q v z : List Nat, (∀ x, x ∈ r → x < n) → (∀ x, x ∈ q → x < n) → Eqv D (q ++ v) (r ++ z) → (∀ c, freeB D q c = true → freeB D r c = false) → ∃ s, Eqv D (r ++ s) v
  | [], q, v, z, _, _, _, _ => ⟨v, Eqv.refl _ _⟩
  | c :: r, q, v, z, hr, hq, h, hap => by
    have hc := href c (hr c List.mem_cons_self)
    have hcf : freeB D (c :: r) c = true := by rw [free_cons, if_pos rfl]
    have e1 : freeB D (q ++ v) c = true := by rw [h.free hc, List.cons_append, free_cons, if_pos rfl]
    rcases free_append D c q v e1 with g | ⟨g1, g2⟩
    · have := hap c g; rw [hcf] at this; cases this
    · have hfr := free_front D hsym c v g2
      have k : Eqv D (c :: (q ++ v.erase c)) (c :: (r ++ z)) := (((pass D hsym c hc q (v.erase c) g1).symm).trans ((Eqv.refl D q).append hfr)).trans h
      have hap' : ∀ d, freeB D q d = true → freeB D r d = false := fun d hd => by
        cases hrd : freeB D r d with
        | false => rfl
        | true =>
          exfalso
          have hdq := free_mem D d q hd
          have h0 : D c d = false := by rw [hsym]; exact (depL_no D q c).1 g1 d hdq
          have : freeB D (c :: r) d = true := by
            rw [free_cons]
            by_cases e : c = d
            · rw [if_pos e]
            · rw [if_neg e, h0]; simpa using hrd
          rw [hap d hd] at this; cases this
      obtain ⟨s, hs⟩ := levi_eqv D n hsym href r q (v.erase c) z (fun x hx => hr x (List.mem_cons_of_mem _ hx)) hq k.tail hap'
      exact ⟨s, (hs.cons c).trans hfr⟩
theorem indM_iff (D : Nat → Nat → Bool) (u v : List Nat) : indM D u v = true ↔ ∀ x, x ∈ u → ∀ y, y ∈ v → D x y = false := by
  unfold indM
  rw [Bool.not_eq_true', List.any_eq_false]
  constructor
  · intro h x hx y hy
    have := h y hy
    rw [Bool.not_eq_true] at this
    exact (depL_no D u y).1 this x hx
  · intro h y hy
    rw [Bool.not_eq_true]
    exact (depL_no D u y).2 fun x hx => h x hx y hy
theorem indM_eqv {D : Nat → Nat → Bool} {n : Nat} (href : ∀ a, a < n → D a a = true) {u v u' v' : List Nat} (hu : ∀ x, x ∈ u → x < n) (hv : ∀ x, x ∈ v → x < n) (hu' : ∀ x, x ∈ u' → x < n) (hv' : ∀ x, x ∈ v' → x < n) (h1 : Eqv D u u') (h2 : Eqv D v v') : indM D u v = indM D u' v' := by
  rw [Bool.eq_iff_iff, indM_iff, indM_iff]
  exact ⟨fun h x hx y hy => h x ((h1.mem (href x (hu' x hx))).2 hx) y ((h2.mem (href y (hv' y hy))).2 hy), fun h x hx y hy => h x ((h1.mem (href x (hu x hx))).1 hx) y ((h2.mem (href y (hv y hy))).1 hy)⟩
/-- The letters of a set that stand in front: the program's comparison with the projection finds them letter by letter. -/
def inGo (D : Nat → Nat → Bool) (P : Nat → Bool) : List Nat → List Nat → List Nat → List Nat × List Nat
  | [], p, f => (p, f)
  | a :: u, p, f => if (P a && !depL D f a) = true then inGo D P u (p ++ [a]) f else inGo D P u p (f ++ [a])
theorem free_in (D : Nat → Nat → Bool) (a : Nat) (ha : D a a = true) (k r : List Nat) (h : depL D k a = false) : freeB D (k ++ a :: r) a = true ∧ (k ++ a :: r).erase a = k ++ r :=
  ⟨free_behind D a _ (by rw [free_cons, if_pos rfl]) k h, by rw [List.erase_append_right _ (dep_mem ha h), List.erase_cons_head]⟩
theorem in_cmp (D : Nat → Nat → Bool) (P : Nat → Bool) (n : Nat) (href : ∀ a, a < n → D a a = true) : ∀ u p f : List Nat, (∀ x, x ∈ u → x < n) →
    ((cmpGo D u p f (f.filter P ++ u.filter P)).1 = (inGo D P u p f).1)
  | [], p, f, _ => rfl
  | a :: u, p, f, hu => by
    have hu' : ∀ x, x ∈ u → x < n := fun x hx => hu x (List.mem_cons_of_mem _ hx)
    have han := href a (hu a List.mem_cons_self)
    cases hP : P a with
    | false =>
      have e : inGo D P (a :: u) p f = inGo D P u p (f ++ [a]) := by
        show (if (P a && !depL D f a) = true then _ else _) = _
        rw [hP, if_neg (by simp)]
      have hnf : freeB D (f.filter P ++ (a :: u).filter P) a = false := by
        cases h : freeB D (f.filter P ++ (a :: u).filter P) a with
        | false => rfl
        | true =>
          have hm := free_mem D a _ h
          rw [← List.filter_append] at hm
          have := (List.mem_filter.1 hm).2
          rw [hP] at this; cases this
      rw [e, cmp_out D a u p f _ hnf, ← in_cmp D P n href u p (f ++ [a]) hu']
      have e2 : f.filter P ++ (a :: u).filter P = (f ++ [a]).filter P ++ u.filter P := by
        rw [← List.filter_append, ← List.filter_append, List.append_assoc]; rfl
      rw [e2]
    | true =>
      have e3 : f.filter P ++ (a :: u).filter P = f.filter P ++ a :: u.filter P := by rw [List.filter_cons, if_pos hP]
      cases hd : depL D f a with
      | true =>
        have e : inGo D P (a :: u) p f = inGo D P u p (f ++ [a]) := by
          show (if (P a && !depL D f a) = true then _ else _) = _
          rw [hd, if_neg (by simp)]
        rw [e, cmp_dep D a u p f _ hd, ← in_cmp D P n href u p (f ++ [a]) hu']
        have e2 : f.filter P ++ (a :: u).filter P = (f ++ [a]).filter P ++ u.filter P := by
          rw [← List.filter_append, ← List.filter_append, List.append_assoc]; rfl
        rw [e2]
      | false =>
        have e : inGo D P (a :: u) p f = inGo D P u (p ++ [a]) f := by
          show (if (P a && !depL D f a) = true then _ else _) = _
          rw [hd, hP]; rfl
        have hd2 : depL D (f.filter P) a = false := (depL_no _ _ _).2 fun b hb => (depL_no _ _ _).1 hd b (List.mem_filter.1 hb).1
        obtain ⟨g1, g2⟩ := free_in D a han (f.filter P) (u.filter P) hd2
        rw [e, e3, cmp_in D a u p f _ g1 hd, g2]
        exact in_cmp D P n href u (p ++ [a]) f hu'
end Go.Proofs.YtdafdffmkjhhcaaDoor
namespace Go.Proofs.YtdafdffmkjhhcaaDoor
open Go Go.RowKit
set_option linter.unusedVariables false
set_option maxRecDepth 100000

set_option maxHeartbeats 800000 in
theorem indexFuncM_any (p : Int → Bool) (f : FuncId) (M : Int) (A : Option Addr) (n c : Nat) (xs : List Int) (w : World) (h : Rd w A n xs) (hn : n ≤ 1048576)
    (eg : ∀ args w, (callFunc f args).run Tryd.prog w = .ok (.enter f args) w)
    (hp : ∀ x, x ∈ xs → ∀ ww : World, Calls Tryd.prog f #[.int .i64 M, .int .i64 x] ww fun e w' => e = .returned (.bool (p x)) ∧ ww = w') :
    Calls Tryd.prog 145 #[.slice A n c, .func (.func f) #[.int .i64 M] #[]] w fun e w' => e = .returned (.int .i64 (idxB p xs)) ∧ w = w' := by
  have HP := Lib.hid hp
  have HL := Lib.hid h.1
  clear hp
  go_enter Tryd.func145, Tryd.ntmps145
  go_wp2
  go_loop [8] (fun q => ∃ k : Nat, k ≤ n ∧ q = .int .i64 k ∧ ∀ j y, j < k → xs[j]? = some y → p y = false) (fun q => n - (intOf q).toNat)
  case atStart => exact ⟨0, Nat.zero_le _, rfl, fun j y hj => absurd hj (Nat.not_lt_zero _)⟩
  case round =>
    obtain ⟨k, hk, rfl, hall⟩ := hrel
    have HA := Lib.hid hall
    clear hall
    by_cases hlt : k < n
    · obtain ⟨b, off, x, rfl, hbs, hx, hcx⟩ := h.at_ hlt
      have HC := Lib.hid (HP.out x (List.mem_of_getElem? hx))
      have HX := Lib.hid hx
      clear hx
      cases hpx : p x
      · have HF := Lib.hid hpx
        clear hpx
        go_wp2_with fail
        refine (HC.out _).mono ?_
        rintro e w' ⟨rfl, rfl⟩
        rw [HF.out]
        go_wp2
        go_round
        case rel => exact ⟨k + 1, by omega, by go_num, fun j y hj hy => by
          by_cases e : j = k
          · subst e
            have := HX.out
            rw [hy] at this
            injection this with this
            rw [this]; exact HF.out
          · exact HA.out j y (by omega) hy⟩
        case measure => simp [intOf]; omega
      · have HF := Lib.hid hpx
        clear hpx
        go_wp2_with fail
        refine (HC.out _).mono ?_
        rintro e w' ⟨rfl, rfl⟩
        rw [HF.out]
        go_wp2
        go_ret
        exact ⟨ret_i _ _ (idxB_some p xs k x HX.out HF.out HA.out).symm, rfl⟩
    · obtain rfl : k = n := by omega
      go_wp2
      go_ret
      refine ⟨ret_i _ _ (idxB_none p xs fun j x hx => HA.out j x ?_ hx).symm, rfl⟩
      rcases Nat.lt_or_ge j k with h9 | h9
      · exact h9
      · rw [List.getElem?_eq_none (by rw [HL.out]; exact h9)] at hx; cases hx
theorem containsFuncM_any (p : Int → Bool) (f : FuncId) (M : Int) (A : Option Addr) (n c : Nat) (xs : List Int) (w : World) (h : Rd w A n xs) (hn : n ≤ 1048576)
    (eg : ∀ args w, (callFunc f args).run Tryd.prog w = .ok (.enter f args) w)
    (hp : ∀ x, x ∈ xs → ∀ ww : World, Calls Tryd.prog f #[.int .i64 M, .int .i64 x] ww fun e w' => e = .returned (.bool (p x)) ∧ ww = w') :
    Calls Tryd.prog 99 #[.slice A n c, .func (.func f) #[.int .i64 M] #[]] w fun e w' => e = .returned (.bool (xs.any p)) ∧ w = w' := by
  have HI := Lib.hid (indexFuncM_any p f M A n c xs w h hn eg hp)
  have HE := Lib.hid (idxB_any p xs)
  obtain ⟨I, hI⟩ : ∃ I, I = idxB p xs := ⟨_, rfl⟩
  rw [← hI] at HI HE
  clear hp hI
  go_enter Tryd.func99, Tryd.ntmps99
  go_wp2_with fail
  refine HI.out.mono ?_
  rintro e w' ⟨rfl, rfl⟩
  go_wp2
  go_ret
  exact ⟨ret_b _ _ HE.out, rfl⟩

theorem at_some (us : List Nat) (k : Nat) (h : k < us.length) : us[k]? = some (us.getD k 0) := by rw [List.getD_eq_getElem?_getD, List.getElem?_eq_getElem h]; rfl
/-- The letters that depend on one of a word, as a set. -/
def depM (rs us : List Nat) : Nat := us.foldl (fun s a => s ||| rs.getD a 0) 0
theorem depM_snoc (rs us : List Nat) (a : Nat) : depM rs (us ++ [a]) = depM rs us ||| rs.getD a 0 := by unfold depM; rw [List.foldl_append]; rfl
theorem depM_lt (rs : List Nat) (n : Nat) (hr : ∀ i, rs.getD i 0 < 2 ^ n) : ∀ us : List Nat, depM rs us < 2 ^ n := by
  intro us
  suffices h : ∀ (us : List Nat) (s : Nat), s < 2 ^ n → us.foldl (fun s a => s ||| rs.getD a 0) s < 2 ^ n from h us 0 (Nat.pos_of_ne_zero (by simp))
  intro us
  induction us with
  | nil => intro s hs; exact hs
  | cons a us ih => intro s hs; exact ih _ (Nat.or_lt_two_pow hs (hr a))
theorem depM_bit (rs us : List Nat) (b : Nat) : (depM rs us).testBit b = depL (RDep rs) us b := by
  suffices h : ∀ (us : List Nat) (s : Nat), (us.foldl (fun s a => s ||| rs.getD a 0) s).testBit b = (s.testBit b || depL (RDep rs) us b) by
    have := h us 0
    rw [Nat.zero_testBit, Bool.false_or] at this
    exact this
  intro us
  induction us with
  | nil => intro s; simp [depL]
  | cons a us ih =>
    intro s
    show (us.foldl _ (s ||| rs.getD a 0)).testBit b = (s.testBit b || (RDep rs a b || depL (RDep rs) us b))
    rw [ih, Nat.testBit_or, Bool.or_assoc]; rfl
set_option maxHeartbeats 800000 in
theorem dependents_any (R A : Option Addr) (n c m d : Nat) (rs us : List Nat) (w : World) (h : Rd w R n (ints rs)) (hn : n ≤ 24) (hr : ∀ i, rs.getD i 0 < 2 ^ n) (h2 : Rd w A m (ints us)) (hm : m ≤ 1048576) (hus : ∀ x, x ∈ us → x < n) :
    Calls Tryd.prog 172 #[.slice R n c, .slice A m d] w fun e w' => e = .returned (.int .i64 (depM rs us : Nat)) ∧ w = w' := by
  have HLU : Hid (us.length = m) := Lib.hid (by have := h2.1; rw [ints_len] at this; exact this)
  have HLR : Hid (rs.length = n) := Lib.hid (by have := h.1; rw [ints_len] at this; exact this)
  have HR := Lib.hid hr
  have HUS := Lib.hid hus
  have h24 : 2 ^ n ≤ 2 ^ 24 := Nat.pow_le_pow_right (by decide) hn
  have HDL := Lib.hid (fun vs => Nat.lt_of_lt_of_le (depM_lt rs n hr vs) h24)
  have HRL : Hid (∀ i, rs.getD i 0 < 2 ^ 24) := Lib.hid fun i => Nat.lt_of_lt_of_le (hr i) h24
  clear hr hus h24
  go_enter Tryd.func172, Tryd.ntmps172
  go_wp2_with fail
  go_loop [5, 10] (fun s q => ∃ k : Nat, k ≤ m ∧ q = .int .i64 k ∧ s = .int .i64 (depM rs (us.take k) : Nat)) (fun _ q => m - (intOf q).toNat)
  case atStart => exact ⟨0, Nat.zero_le _, rfl, rfl⟩
  case round =>
    obtain ⟨k, hk, rfl, rfl⟩ := hrel
    by_cases hlt : k < m
    · obtain ⟨b, off, x, rfl, hbs, hx, hcx⟩ := h2.at_ hlt
      rw [ints_getD us k (by rw [HLU.out]; exact hlt)] at hx
      injection hx with hx
      have hun : us.getD k 0 < n := HUS.out _ (by rw [List.getD_eq_getElem?_getD, List.getElem?_eq_getElem (by rw [HLU.out]; exact hlt)]; exact List.getElem_mem _)
      have HSN : Hid (depM rs (us.take (k + 1)) = depM rs (us.take k) ||| rs.getD (us.getD k 0) 0) := Lib.hid (by
        rw [take_snoc us k _ (at_some us k (by rw [HLU.out]; exact hlt))]
        exact depM_snoc _ _ _)
      obtain ⟨X, hX⟩ : ∃ X, X = us.getD k 0 := ⟨_, rfl⟩
      rw [← hX] at hx hun HSN
      subst hx
      obtain ⟨b2, off2, y, e2, hbs2, hy, hcy⟩ := h.at_ hun
      rw [ints_getD rs X (by rw [HLR.out]; exact hun)] at hy
      injection hy with hy
      have hD := HDL.out (us.take k)
      have hV := HRL.out X
      obtain ⟨V, hV'⟩ : ∃ V, V = rs.getD X 0 := ⟨_, rfl⟩
      obtain ⟨S, hS⟩ : ∃ S, S = depM rs (us.take k) := ⟨_, rfl⟩
      rw [← hV'] at hy hV HSN
      rw [← hS] at hD HSN
      rw [← hS]
      subst hy e2
      have hor := i64_or_nat S V (by omega) (by omega)
      clear hX hV' hS
      go_wp2_with fail
      go_round
      case rel => exact ⟨k + 1, hlt, by go_num, by rw [HSN.out, ← hor]⟩
      case measure => simp [intOf]; omega
    · have hkm : k = m := by omega
      subst hkm
      have HE : Hid (us.take k = us) := Lib.hid (List.take_of_length_le (by rw [HLU.out]; exact Nat.le_refl _))
      go_wp2_with fail
      go_ret
      refine ⟨ret_i _ _ (by rw [HE.out]), rfl⟩
set_option maxHeartbeats 800000 in
theorem areIndependent_any (R A B : Option Addr) (n c m d q f : Nat) (rs us vs : List Nat) (w : World) (h : Rd w R n (ints rs)) (hn : n ≤ 24) (hr : ∀ i, rs.getD i 0 < 2 ^ n) (h2 : Rd w A m (ints us)) (hm : m ≤ 1048576) (hus : ∀ x, x ∈ us → x < n) (h3 : Rd w B q (ints vs)) (hq : q ≤ 1048576) (hvs : ∀ x, x ∈ vs → x < n) :
    Calls Tryd.prog 149 #[.slice R n c, .slice A m d, .slice B q f] w fun e w' => e = .returned (.bool (indM (RDep rs) us vs)) ∧ w = w' := by
  have HD := Lib.hid (dependents_any R A n c m d rs us w h hn hr h2 hm hus)
  have h24 : 2 ^ n ≤ 2 ^ 24 := Nat.pow_le_pow_right (by decide) hn
  have hlt := Nat.lt_of_lt_of_le (depM_lt rs n hr us) h24
  have eg : ∀ args w, (callFunc 116 args).run Tryd.prog w = .ok (.enter 116 args) w := fun args w => Go.MuLone.run_callFunc_enter (P := Tryd.prog) Tryd.func116 (by kernel_rfl) rfl args w
  have HC := Lib.hid (containsFuncM_any (fun x => (depM rs us).testBit x.toNat) 116 (depM rs us : Nat) B q f (ints vs) w h3 hq eg (fun x hx ww => by
    unfold ints at hx
    obtain ⟨y, hy, rfl⟩ := List.mem_map.1 hx
    have := hvs y hy
    exact has_any (depM rs us) y (by omega) (by omega) ww))
  have HV : Hid ((ints vs).any (fun x => (depM rs us).testBit x.toNat) = !indM (RDep rs) us vs) := Lib.hid (by
    unfold indM ints
    rw [List.any_map, Bool.not_not]
    congr 1
    funext y
    exact depM_bit rs us y)
  rw [HV.out] at HC
  obtain ⟨I, hI⟩ : ∃ I, I = indM (RDep rs) us vs := ⟨_, rfl⟩
  rw [← hI] at HC ⊢
  obtain ⟨S, hS⟩ : ∃ S, S = depM rs us := ⟨_, rfl⟩
  rw [← hS] at HC HD
  clear hI hS HV eg hlt h24 hr hus hvs
  go_enter Tryd.func149, Tryd.ntmps149
  go_wp2_with fail
  refine HD.out.mono ?_
  rintro e w' ⟨rfl, rfl⟩
  go_wp2_with fail
  refine HC.out.mono ?_
  rintro e w' ⟨rfl, rfl⟩
  go_wp2_with fail
  go_ret
  refine ⟨ret_b _ _ (by simp), rfl⟩

/-- Where the first letter that depends on a stands: at the first a exactly if a is a first letter. -/
theorem free_idx (D : Nat → Nat → Bool) (hsym : ∀ a b, D a b = D b a) (a : Nat) (ha : D a a = true) : ∀ us : List Nat, (freeB D us a = true → us.findIdx? (fun y => D a y) = some (us.idxOf a)) ∧ (freeB D us a = false → us.findIdx? (fun y => D a y) = none ∨ ∃ k, us.findIdx? (fun y => D a y) = some k ∧ k < us.length ∧ us.getD k 0 ≠ a)
  | [] => ⟨fun h => by simp [freeB] at h, fun _ => .inl rfl⟩
  | c :: t => by
    obtain ⟨ih1, ih2⟩ := free_idx D hsym a ha t
    rw [free_cons, List.findIdx?_cons]
    by_cases e : c = a
    · subst e
      rw [if_pos rfl]
      refine ⟨fun _ => ?_, fun h => by cases h⟩
      rw [ha, if_pos rfl, List.idxOf_cons_self]
    · rw [if_neg e]
      cases hD : D c a with
      | true =>
        rw [if_pos rfl]
        refine ⟨fun h => (by cases h), fun _ => .inr ⟨0, ?_, by simp, e⟩⟩
        rw [hsym, hD, if_pos rfl]
      | false =>
        rw [if_neg (by decide), hsym, hD, if_neg (by decide)]
        refine ⟨fun h => ?_, fun h => ?_⟩
        · rw [ih1 h]
          show some (t.idxOf a + 1) = _
          rw [List.idxOf_cons, show (c == a) = false from by simpa using e]; rfl
        · rcases ih2 h with h1 | ⟨k, h1, h2, h3⟩
          · exact .inl (by rw [h1]; rfl)
          · exact .inr ⟨k + 1, by rw [h1]; rfl, by rw [List.length_cons]; omega, by simpa using h3⟩
theorem idxB_ints (p : Nat → Bool) (q : Int → Bool) (hpq : ∀ y : Nat, q (y : Int) = p y) (us : List Nat) : idxB q (ints us) = match us.findIdx? p with | some k => (k : Int) | none => -1 := by
  unfold idxB ints
  rw [List.findIdx?_map]
  have : (q ∘ fun n : Nat => (n : Int)) = p := by funext y; exact hpq y
  rw [this]
  cases us.findIdx? p <;> rfl
theorem splice2 {α : Type} (Z X1 X2 : List α) (k : Nat) (hk : X1.length = k) (hZ : Z.length = k + X2.length) : splice (splice Z 0 X1) k X2 = X1 ++ X2 := by
  subst hk
  unfold splice
  have e1 : Z.take 0 ++ (X1 ++ Z.drop (0 + X1.length)) = X1 ++ Z.drop X1.length := by simp
  rw [e1]
  have e2 : (X1 ++ Z.drop X1.length).take X1.length = X1 := by simp
  have e3 : (X1 ++ Z.drop X1.length).drop (X1.length + X2.length) = [] := by
    apply List.drop_eq_nil_of_le; simp; omega
  rw [e2, e3]; simp
theorem made_row {E : TypeId} {w1 : World} {g n : Nat} {Z : List Value} (h : w1.ownsRow g E 1 (.slice (some ⟨g, 0, none⟩) n n) n Z) : w1.heap[g]? = some (.cells Z.toArray E (0, 0)) ∧ Z.length = n := by
  obtain ⟨hl, h⟩ := h
  have hl1 : Z.length = n := by omega
  rcases h with ⟨h, _⟩ | ⟨g', cap, cur, e, _, hc, _, _, hs, ht⟩
  · cases h
  · injection e with e1 e2 e3
    injection e1 with e1
    injection e1 with e1
    subst e1 e3
    rw [Nat.mul_one] at ht hs
    have : cur.toList = Z := by rw [← ht]; exact (List.take_of_length_le (by rw [Array.length_toList]; omega)).symm
    rw [hc, ← this]
    exact ⟨by simp, by rw [this]; exact hl1⟩
theorem own_of_row {E : TypeId} {w : World} {B g n : Nat} {xs : List Int} (hB : B ≤ g) (hm : n ≤ maxLen) (hl : xs.length = n) (h : w.heap[g]? = some (.cells (xs.map (Value.int .i64)).toArray E (0, 0))) : Own E w B (some ⟨g, 0, none⟩) n n xs :=
  ⟨by simp [hl], .inr ⟨g, n, _, rfl, hB, h, Nat.le_refl _, hm, by simp [hl], List.take_of_length_le (by simp [hl])⟩⟩
set_option maxHeartbeats 1600000 in
theorem without_any (R A : Option Addr) (n c m d a : Nat) (rs us : List Nat) (w : World) (h : Rd w R n (ints rs)) (hn : n ≤ 24) (hr : ∀ i, rs.getD i 0 < 2 ^ n) (hsym : ∀ a b, RDep rs a b = RDep rs b a) (href : ∀ a, a < n → RDep rs a a = true)
    (h2 : Rd w A m (ints us)) (hm : m ≤ 1048576) (hmd : m ≤ d) (hus : ∀ x, x ∈ us → x < n) (ha : a < n) :
    Calls Tryd.prog 160 #[.slice R n c, .int .i64 (a : Int), .slice A m d] w fun e w' =>
      (freeB (RDep rs) us a = true ∧ 0 < m ∧ ∃ A' c', e = .returned (.tuple #[.slice A' (m - 1) c', .bool true]) ∧ Own 2 w' w.heap.size A' (m - 1) c' (ints (us.erase a)) ∧ Below w.heap.size w w') ∨
      (freeB (RDep rs) us a = false ∧ e = .returned (.tuple #[.slice none 0 0, .bool false]) ∧ w = w') := by
  obtain ⟨i0, hi, hz0, hz1, hz2⟩ := info_parts info_int
  have HLU : Hid (us.length = m) := Lib.hid (by have := h2.1; rw [ints_len] at this; exact this)
  have HLR : Hid (rs.length = n) := Lib.hid (by have := h.1; rw [ints_len] at this; exact this)
  have h24 : 2 ^ n ≤ 2 ^ 24 := Nat.pow_le_pow_right (by decide) hn
  have hV := Nat.lt_of_lt_of_le (hr a) h24
  have eg : ∀ args w, (callFunc 116 args).run Tryd.prog w = .ok (.enter 116 args) w := fun args w => Go.MuLone.run_callFunc_enter (P := Tryd.prog) Tryd.func116 (by kernel_rfl) rfl args w
  obtain ⟨b2, off2, y, e2, hbs2, hy, hcy⟩ := h.at_ ha
  rw [ints_getD rs a (by rw [HLR.out]; exact ha)] at hy
  injection hy with hy
  have HI := Lib.hid (indexFuncM_any (fun x => (rs.getD a 0).testBit x.toNat) 116 (rs.getD a 0 : Nat) A m d (ints us) w h2 hm eg (fun x hx ww => by
    unfold ints at hx
    obtain ⟨z, hz, rfl⟩ := List.mem_map.1 hx
    have := hus z hz
    exact has_any (rs.getD a 0) z (by omega) (by omega) ww))
  have HX := Lib.hid (idxB_ints (fun z => RDep rs a z) (fun x => (rs.getD a 0).testBit x.toNat) (fun z => rfl) us)
  have HF := Lib.hid (free_idx (RDep rs) hsym a (href a ha) us)
  rw [HX.out] at HI
  obtain ⟨V, hV'⟩ : ∃ V, V = rs.getD a 0 := ⟨_, rfl⟩
  rw [← hV'] at hy HI hV
  subst hy e2
  clear hV' h24 eg HX hr hsym href
  cases hfr : freeB (RDep rs) us a
  · rcases HF.out.2 hfr with h9 | ⟨k, h9, hk, hne⟩
    · rw [h9] at HI
      clear h9
      go_enter Tryd.func160, Tryd.ntmps160
      go_wp2_with fail
      refine HI.out.mono ?_
      rintro e w' ⟨rfl, rfl⟩
      go_wp2_with fail
      go_ret2
      exact .inr ⟨trivial, rfl, rfl⟩
    · rw [h9] at HI
      rw [HLU.out] at hk
      obtain ⟨b, off, x, rfl, hbs, hx, hcx⟩ := h2.at_ hk
      rw [ints_getD us k (by rw [HLU.out]; exact hk)] at hx
      injection hx with hx
      have hne' : (((us.getD k 0 : Nat) : Int) != (a : Int)) = true := by
        simp only [bne_iff_ne, ne_eq]
        intro h; exact hne (by exact_mod_cast h)
      obtain ⟨X, hX⟩ : ∃ X, X = us.getD k 0 := ⟨_, rfl⟩
      rw [← hX] at hx hne'
      subst hx
      clear h9 hX hne
      go_enter Tryd.func160, Tryd.ntmps160
      go_wp2_with fail
      refine HI.out.mono ?_
      rintro e w' ⟨rfl, rfl⟩
      go_wp2_with fail
      go_ret2
      exact .inr ⟨trivial, rfl, rfl⟩
  · have h9 := HF.out.1 hfr
    have hmem := free_mem (RDep rs) a us hfr
    have hk := List.idxOf_lt_length_of_mem hmem
    have hat : us.getD (us.idxOf a) 0 = a := by
      rw [List.getD_eq_getElem?_getD, List.getElem?_eq_getElem hk]
      exact List.getElem_idxOf hk
    have HER := Lib.hid (erase_idx us a hmem)
    rw [h9] at HI
    obtain ⟨k, hk'⟩ : ∃ k, k = us.idxOf a := ⟨_, rfl⟩
    rw [← hk'] at HI hk hat HER
    rw [HLU.out] at hk
    have HER2 : Hid (ints (us.take k) ++ ints (us.drop (k + 1)) = ints (us.erase a)) := Lib.hid (by
      rw [← HER.out, List.eraseIdx_eq_take_drop_succ]; unfold ints; rw [List.map_append])
    have hlE : (ints (us.erase a)).length = m - 1 := by rw [ints_len, List.length_erase_of_mem hmem, HLU.out]
    obtain ⟨b, off, x, rfl, hbs, hx, hcx⟩ := h2.at_ hk
    rw [ints_getD us k (by rw [HLU.out]; exact hk), hat] at hx
    injection hx with hx
    subst hx
    have hT := h2.take_ k (by omega)
    have hD := h2.drop_ (k + 1)
    obtain ⟨X1, hX1⟩ : ∃ X1, X1 = (ints (us.take k)).map (Value.int .i64) := ⟨_, rfl⟩
    obtain ⟨X2, hX2⟩ : ∃ X2, X2 = (ints (us.drop (k + 1))).map (Value.int .i64) := ⟨_, rfl⟩
    have HX1 : Hid (X1.length = k) := Lib.hid (by rw [hX1, List.length_map, ints_len, List.length_take, HLU.out]; omega)
    have HX2 : Hid (X2.length = m - (k + 1)) := Lib.hid (by rw [hX2, List.length_map, ints_len, List.length_drop, HLU.out])
    have HS1 : Hid (∀ wx : World, Below w.heap.size w wx → ∀ j u, X1[j]? = some u → wx.cell? ((⟨b, off, none⟩ : Addr).add j) = some u) := Lib.hid (by rw [hX1]; exact fun wx hwx => rd_news2 hT (fun p hp => hwx.cell hp) hwx.size)
    have HS2 : Hid (∀ wx : World, Below w.heap.size w wx → ∀ j u, X2[j]? = some u → wx.cell? ((⟨b, off + (k + 1), none⟩ : Addr).add j) = some u) := Lib.hid (by rw [hX2]; exact fun wx hwx => rd_news2 hD (fun p hp => hwx.cell hp) hwx.size)
    have HO1 : Hid (∀ v ∈ X1, v.oneCell' = true) := Lib.hid (by rw [hX1]; exact ints_oneCell .i64 _)
    have HO2 : Hid (∀ v ∈ X2, v.oneCell' = true) := Lib.hid (by rw [hX2]; exact ints_oneCell .i64 _)
    have HXX : Hid (X1 ++ X2 = (ints (us.erase a)).map (Value.int .i64)) := Lib.hid (by rw [hX1, hX2, ← List.map_append, HER2.out])
    have HLE := Lib.hid hlE
    clear h9 hk' hat hX1 hX2 hmem hT hD hlE HER HER2
    have hml : m - 1 ≤ maxLen := by unfold maxLen; omega
    have hby : i0.bytes * (m - 1) ≤ 281474976710656 := by rw [hz2]; omega
    have hmI : (m : Int) - 1 = ((m - 1 : Nat) : Int) := by omega
    have hw0 : IntKind.i64.wrap ((m : Int) - 1) = ((m - 1 : Nat) : Int) := by rw [IntWalk.i64_left]; unfold wrap64; omega
    have hw1 : IntKind.i64.wrap ((k : Int) + 1) = (k : Int) + 1 := by rw [IntWalk.i64_left]; unfold wrap64; omega
    have hkd : k ≤ d := by omega
    go_enter Tryd.func160, Tryd.ntmps160
    go_wp2_with fail
    refine HI.out.mono ?_
    rintro e w' ⟨rfl, rfl⟩
    have hsz : (Tryd.prog.info? 2).map (·.size) = some 1 := by rw [hi]; simp [hz1]
    have HN1 : Hid (X1.length = Nat.min k (m - 1)) := Lib.hid (by rw [HX1.out]; exact (Nat.min_eq_left (by omega)).symm)
    have hkm : (k : Int) ≤ ((m - 1 : Nat) : Int) := by omega
    have hI2 : (0 : Int) ≤ (k : Int) + 1 := by omega
    have hI3 : (k : Int) + 1 ≤ (m : Int) := by omega
    have hkm1 : k + 1 ≤ m := by omega
    have hkm2 : k ≤ m - 1 := by omega
    have hkd1 : k + 1 ≤ d := by omega
    have HN2 : Hid (X2.length = Nat.min (m - (k + 1)) (m - 1 - k)) := Lib.hid (by rw [HX2.out]; exact (Nat.min_eq_left (by omega)).symm)
    have HZZ : Hid (∀ w1 : World, ∀ Z : List Value, Z.length = m - 1 → 0 + X1.length ≤ Z.length ∧ k + X2.length ≤ (splice Z 0 X1).length ∧ ∀ w3 : World, w3.heap[w.heap.size]? = some (.cells (splice (splice Z 0 X1) k X2).toArray 2 (0, 0)) → Own 2 w3 w.heap.size (some ⟨w.heap.size, 0, none⟩) (m - 1) (m - 1) (ints (us.erase a))) := Lib.hid (by
      intro w1 Z hZ
      have f1 : 0 + X1.length ≤ Z.length := by rw [HX1.out, hZ]; omega
      refine ⟨f1, by rw [length_splice _ _ _ f1, hZ, HX2.out]; omega, fun w3 hg => own_of_row (Nat.le_refl _) hml HLE.out ?_⟩
      rw [← HXX.out, ← splice2 Z X1 X2 k HX1.out (by rw [hZ, HX2.out]; omega)]; exact hg)
    have HMK : Hid (∀ w1 : World, w1.ownsRow w.heap.size 2 1 (.slice (some ⟨w.heap.size, 0, none⟩) (m - 1) (m - 1)) (m - 1) (madeCells (Value.int .i64 0).cells ((m - 1) * 1)).toList → w.grownBy w1 none → ∃ Z : List Value, w1.heap[w.heap.size]? = some (.cells Z.toArray 2 (0, 0)) ∧ Z.length = m - 1 ∧ Below w.heap.size w w1) := Lib.hid (fun w1 ho hg => ⟨_, (made_row ho).1, (made_row ho).2, (Below.refl _ _).grown hg (Nat.le_refl _) (by simp)⟩)
    clear hmI
    have HPOS : Hid (0 < X2.length → m - 1 ≠ k ∧ d ≠ k + 1) := Lib.hid (by rw [HX2.out]; omega)
    go_wp2_with (first | (at_make; refine wpList_make_full _ rfl _ _ _ rfl w.heap.size 2 i0 (.int .i64 0) 1 Tryd.underlying22 hi hz0 hz1 _ _ ((m - 1 : Nat) : Int) ((m - 1 : Nat) : Int) (m - 1) rfl rfl rfl rfl hby hml (Nat.le_refl _) ?_; intro w1 hown0 hg1; obtain ⟨Z, hrow, hZ, hb1⟩ := HMK.out w1 hown0 hg1; have HZ := Lib.hid (HZZ.out w1 Z hZ); clear hown0 hg1 hZ) | (refine wpList_copy_splice (by rfl) _ _ _ _ (by rfl) 2 Tryd.underlying22 hsz _ _ _ _ _ _ (by rfl) (by rfl) w.heap.size 0 Z 2 hrow X1 HN1.out (fun _ => ⟨rfl, ⟨b, off, none⟩, rfl, HS1.out w1 hb1⟩) HZ.out.1 HO1.out w.heap.size w hb1 (Nat.le_refl _) ?_; intro w2 HG2 hb2))
    have hb2d := hb2.drew
    obtain ⟨DP, hDP⟩ : ∃ DP, (if m - 1 = k then some (⟨w.heap.size, 0, none⟩ : Addr) else some ⟨w.heap.size, k, none⟩) = DP := ⟨_, rfl⟩
    obtain ⟨SP, hSP⟩ : ∃ SP, (if d = k + 1 then some (⟨b, off, none⟩ : Addr) else some ⟨b, off + (k + 1), none⟩) = SP := ⟨_, rfl⟩
    have HP2 : Hid (0 < X2.length → DP = some ⟨w.heap.size, k, none⟩ ∧ ∃ ad, SP = some ad ∧ ∀ j v, X2[j]? = some v → w2.drew.cell? (ad.add j) = some v) := Lib.hid (fun h9 => ⟨by rw [← hDP]; exact if_neg (HPOS.out h9).1, ⟨b, off + (k + 1), none⟩, by rw [← hSP]; exact if_neg (HPOS.out h9).2, HS2.out _ hb2d⟩)
    go_simp
    go_region_law (first | (refine step_copy_splice rfl (.tmp 38) (.tmp 42) 22 22 rfl 2 Tryd.underlying22 hsz DP SP (m - 1 - k) (m - 1 - k) (m - (k + 1)) (d - (k + 1)) (by go_simp) (by go_simp) w.heap.size k (splice Z 0 X1) 2 HG2.out X2 HN2.out HP2.out HZ.out.2.1 HO2.out w.heap.size w hb2d (Nat.le_refl _) ?_; intro w3 HG3 hb3))
    all_goals (
      go_wp2_with fail
      go_ret2
      exact .inl ⟨trivial, by omega, _, _, rfl, HZ.out.2.2 _ HG3.out, hb3⟩)
end Go.Proofs.YtdafdffmkjhhcaaDoor
namespace Go.Proofs.YtdafdffmkjhhcaaDoor
open Go Go.RowKit
set_option linter.unusedVariables false
set_option maxRecDepth 100000

/-- A variable that holds a comparison: three slices. -/
def CBox (w : World) (g : Nat) (A0 : Option Addr) (n0 c0 : Nat) (A1 : Option Addr) (n1 c1 : Nat) (A2 : Option Addr) (n2 c2 : Nat) : Prop := w.heap[g]? = some (.cells #[.slice A0 n0 c0, .slice A1 n1 c1, .slice A2 n2 c2] 152 (0, 0))
section
variable {w w' : World} {g n0 k0 n1 k1 n2 k2 : Nat} {A0 A1 A2 : Option Addr}
theorem CBox.lt (h : CBox w g A0 n0 k0 A1 n1 k1 A2 n2 k2) : g < w.heap.size := (Array.getElem?_eq_some_iff.1 h).1
theorem CBox.c0 (h : CBox w g A0 n0 k0 A1 n1 k1 A2 n2 k2) : w.cell? ⟨g, 0, none⟩ = some (.slice A0 n0 k0) := by unfold CBox at h; unfold World.cell?; rw [h]; rfl
theorem CBox.c1 (h : CBox w g A0 n0 k0 A1 n1 k1 A2 n2 k2) : w.cell? ⟨g, 1, none⟩ = some (.slice A1 n1 k1) := by unfold CBox at h; unfold World.cell?; rw [h]; rfl
theorem CBox.c2 (h : CBox w g A0 n0 k0 A1 n1 k1 A2 n2 k2) : w.cell? ⟨g, 2, none⟩ = some (.slice A2 n2 k2) := by unfold CBox at h; unfold World.cell?; rw [h]; rfl
theorem CBox.fr (h : CBox w g A0 n0 k0 A1 n1 k1 A2 n2 k2) (k : Nat) : w.frozen? ⟨g, k, none⟩ = false := by unfold CBox at h; simp [World.frozen?, h]
theorem CBox.next (h : CBox w g A0 n0 k0 A1 n1 k1 A2 n2 k2) (hb : Below w.heap.size w w') : CBox w' g A0 n0 k0 A1 n1 k1 A2 n2 k2 := (hb.block g h.lt).trans h
theorem CBox.under {B : Nat} (h : CBox w g A0 n0 k0 A1 n1 k1 A2 n2 k2) (hb : Below B w w') (hg : g < B) : CBox w' g A0 n0 k0 A1 n1 k1 A2 n2 k2 := (hb.block g hg).trans h
theorem CBox.apart {row : Option Nat} (h : CBox w g A0 n0 k0 A1 n1 k1 A2 n2 k2) (hg : w.grownBy w' row) (hne : row ≠ some g) : CBox w' g A0 n0 k0 A1 n1 k1 A2 n2 k2 := (hg.block g h.lt (fun e => hne e.symm)).trans h
theorem CBox.set0 (h : CBox w g A0 n0 k0 A1 n1 k1 A2 n2 k2) (A' : Option Addr) (k k' : Nat) : CBox (w.setCell ⟨g, 0, none⟩ (.slice A' k k')) g A' k k' A1 n1 k1 A2 n2 k2 := by unfold CBox at h ⊢; rw [heap_put h]; rfl
theorem CBox.set1 (h : CBox w g A0 n0 k0 A1 n1 k1 A2 n2 k2) (A' : Option Addr) (k k' : Nat) : CBox (w.setCell ⟨g, 1, none⟩ (.slice A' k k')) g A0 n0 k0 A' k k' A2 n2 k2 := by unfold CBox at h ⊢; rw [heap_put h]; rfl
theorem CBox.set2 (h : CBox w g A0 n0 k0 A1 n1 k1 A2 n2 k2) (A' : Option Addr) (k k' : Nat) : CBox (w.setCell ⟨g, 2, none⟩ (.slice A' k k')) g A0 n0 k0 A1 n1 k1 A' k k' := by unfold CBox at h ⊢; rw [heap_put h]; rfl
end
theorem cbox_new (w : World) (A0 : Option Addr) (n0 c0 : Nat) (A1 : Option Addr) (n1 c1 : Nat) (A2 : Option Addr) (n2 c2 : Nat) : CBox (w.alloc (.cells #[.slice A0 n0 c0, .slice A1 n1 c1, .slice A2 n2 c2] 152)) w.heap.size A0 n0 c0 A1 n1 c1 A2 n2 c2 := World.alloc_heap_new w _
theorem Rd.apart {w w' : World} {A : Option Addr} {n : Nat} {xs : List Int} {row : Option Nat} (h : Rd w A n xs) (hg : w.grownBy w' row) (hne : 0 < n → ∀ b, A.map (·.block) = some b → row ≠ some b) : Rd w' A n xs :=
  ⟨h.1, fun hn => by
    obtain ⟨b, off, rfl, hb, hc⟩ := h.2 hn
    refine ⟨b, off, rfl, Nat.lt_of_lt_of_le hb hg.size, fun j x hx => ?_⟩
    rw [World.cell?_of_block (hg.block b hb (fun e => hne hn b rfl e.symm))]
    exact hc j x hx⟩
theorem Rd.other {w : World} {A : Option Addr} {n : Nat} {xs : List Int} (h : Rd w A n xs) (g k : Nat) (v : Value) (hne : 0 < n → ∀ b, A.map (·.block) = some b → b ≠ g) : Rd (w.setCell ⟨g, k, none⟩ v) A n xs :=
  ⟨h.1, fun hn => by
    obtain ⟨b, off, rfl, hb, hc⟩ := h.2 hn
    refine ⟨b, off, rfl, by rw [World.size_setCell]; exact hb, fun j x hx => ?_⟩
    rw [← hc j x hx]
    exact World.cell?_of_block (Below.heap_setCell w ⟨g, k, none⟩ v b (hne hn b rfl))⟩
/-- The state of the comparison: what is taken, what is passed over, what is left. -/
structure CSt (w : World) (tb : Nat) (A0 A1 A2 : Option Addr) (n0 c0 n1 c1 n2 c2 : Nat) (p f s : List Nat) : Prop where
  x : CBox w tb A0 n0 c0 A1 n1 c1 A2 n2 c2
  o0 : Own 2 w (tb + 1) A0 n0 c0 (ints p)
  o1 : Own 2 w (tb + 1) A1 n1 c1 (ints f)
  r2 : Rd w A2 n2 (ints s)
  le : n2 ≤ c2
  s01 : ∀ b, A0.map (·.block) = some b → A1.map (·.block) ≠ some b
  off : 0 < n2 → ∀ b, A2.map (·.block) = some b → b < w.heap.size ∧ A0.map (·.block) ≠ some b ∧ A1.map (·.block) ≠ some b ∧ (b + 1 < tb ∨ tb < b)
theorem CSt.below {w w' : World} {tb : Nat} {A0 A1 A2 : Option Addr} {n0 c0 n1 c1 n2 c2 : Nat} {p f s : List Nat} (h : CSt w tb A0 A1 A2 n0 c0 n1 c1 n2 c2 p f s) (hb : Below w.heap.size w w') : CSt w' tb A0 A1 A2 n0 c0 n1 c1 n2 c2 p f s :=
  ⟨h.x.next hb, h.o0.below hb, h.o1.below hb, h.r2.below hb, h.le, h.s01, fun hn b hA => ⟨Nat.lt_of_lt_of_le (h.off hn b hA).1 hb.size, (h.off hn b hA).2⟩⟩
theorem ownBlock_of {A : Option Addr} {n c q : Nat} (h : A.map (·.block) = some q) : (Value.slice A n c).ownBlock = some q := by
  cases A with
  | none => cases h
  | some a => exact h
/-- One letter more is passed over. -/
theorem CSt.pass {w w4 : World} {o : Obj} {tb g cap a : Nat} {A0 A1 A2 : Option Addr} {n0 c0 n1 c1 n2 c2 : Nat} {p f s : List Nat} (h : CSt w tb A0 A1 A2 n0 c0 n1 c1 n2 c2 p f s)
    (hown : w4.ownsRow (tb + 1) 2 1 (.slice (some ⟨g, 0, none⟩) (n1 + 1) cap) (n1 + 1) ((ints f).map (Value.int .i64) ++ [.int .i64 (a : Int)]))
    (hg : (w.alloc o).grownBy w4 (Value.slice A1 n1 c1).ownBlock) (hat : (Value.slice A1 n1 c1).ownBlock = some g ∨ g = w.heap.size + 1) (hlt : g < w4.heap.size) :
    CSt (w4.setCell ⟨tb, 1, none⟩ (.slice (some ⟨g, 0, none⟩) (n1 + 1) cap)) tb A0 (some ⟨g, 0, none⟩) A2 n0 c0 (n1 + 1) cap n2 c2 p (f ++ [a]) s ∧ Below tb w (w4.setCell ⟨tb, 1, none⟩ (.slice (some ⟨g, 0, none⟩) (n1 + 1) cap)) := by
  have ha : Below w.heap.size w (w.alloc o) := below1 w o
  have h' := h.below ha
  have htb := h.x.lt
  have hgt : tb < g := by
    rcases hat with e | e
    · have := (h.o1.lt g (ownBlock_map' e)).1; omega
    · omega
  have hrow : ∀ r, (Value.slice A1 n1 c1).ownBlock = some r → tb + 1 ≤ r ∧ A1.map (·.block) = some r := fun r e => ⟨(h.o1.lt r (ownBlock_map' e)).1, ownBlock_map' e⟩
  have x4 := h'.x.apart hg (fun e => by have := (hrow tb e).1; omega)
  have o0 : Own 2 w4 (tb + 1) A0 n0 c0 (ints p) := h'.o0.apart hg (fun k hk e => h.s01 k hk (hrow k e).2)
  have r2 : Rd w4 A2 n2 (ints s) := h'.r2.apart hg (fun hn b hb e => (h.off hn b hb).2.2.1 (hrow b e).2)
  rw [ints_snoc_map] at hown
  have o1 : Own 2 w4 (tb + 1) (some ⟨g, 0, none⟩) (n1 + 1) cap (ints (f ++ [a])) := hown
  have hgn : ∀ b, A0.map (·.block) = some b → b ≠ g := fun b hb e => by
    rcases hat with e1 | e1
    · exact h.s01 b hb (by rw [e]; exact ownBlock_map' e1)
    · have := (h.o0.lt b hb).2; omega
  refine ⟨⟨x4.set1 _ _ _, own_other o0 _ _ _ (fun q hq => by have := (h.o0.lt q hq).1; omega), own_other o1 _ _ _ (fun q hq => by cases hq; show g ≠ tb; omega), r2.other _ _ _ (fun hn b hb => by have := (h.off hn b hb).2.2.2; omega), h.le, fun b hb e => hgn b hb (by injection e with e; exact e.symm), fun hn b hb => ?_⟩, ?_⟩
  · obtain ⟨g1, g2, g3, g4⟩ := h.off hn b hb
    refine ⟨by rw [World.size_setCell]; have := hg.size; simp at this; omega, g2, fun e => ?_, g4⟩
    injection e with e
    have e' : g = b := e
    rcases hat with e1 | e1
    · exact g3 (by rw [← e']; exact ownBlock_map' e1)
    · omega
  · exact (((ha.mono (Nat.le_of_lt htb)).grown hg (by have := ha.size; omega) (fun r e => by have := (hrow r e).1; omega))).setCell (p := ⟨tb, 1, none⟩) (Nat.le_refl _) _
/-- One letter more is taken from both. -/
theorem CSt.take {w0 w w4 : World} {o : Obj} {tb g cap a n3 c3 : Nat} {A0 A1 A2 A3 : Option Addr} {n0 c0 n1 c1 n2 c2 : Nat} {p f s s3 : List Nat} (h0 : CSt w0 tb A0 A1 A2 n0 c0 n1 c1 n2 c2 p f s)
    (hb0 : Below w0.heap.size w0 w) (o3 : Own 2 w w0.heap.size A3 n3 c3 (ints s3))
    (hown : w4.ownsRow (tb + 1) 2 1 (.slice (some ⟨g, 0, none⟩) (n0 + 1) cap) (n0 + 1) ((ints p).map (Value.int .i64) ++ [.int .i64 (a : Int)]))
    (hg : (w.alloc o).grownBy w4 (Value.slice A0 n0 c0).ownBlock) (hat : (Value.slice A0 n0 c0).ownBlock = some g ∨ g = w.heap.size + 1) (hlt : g < w4.heap.size) :
    CSt ((w4.setCell ⟨tb, 0, none⟩ (.slice (some ⟨g, 0, none⟩) (n0 + 1) cap)).setCell ⟨tb, 2, none⟩ (.slice A3 n3 c3)) tb (some ⟨g, 0, none⟩) A1 A3 (n0 + 1) cap n1 c1 n3 c3 (p ++ [a]) f s3 ∧ Below tb w0 ((w4.setCell ⟨tb, 0, none⟩ (.slice (some ⟨g, 0, none⟩) (n0 + 1) cap)).setCell ⟨tb, 2, none⟩ (.slice A3 n3 c3)) := by
  have h := h0.below hb0
  have ha : Below w.heap.size w (w.alloc o) := below1 w o
  have h' := h.below ha
  have htb := h0.x.lt
  have hsz := hb0.size
  have hgt : tb < g := by
    rcases hat with e | e
    · have := (h.o0.lt g (ownBlock_map' e)).1; omega
    · omega
  have hrow : ∀ r, (Value.slice A0 n0 c0).ownBlock = some r → tb + 1 ≤ r ∧ r < w0.heap.size ∧ A0.map (·.block) = some r := fun r e => ⟨(h.o0.lt r (ownBlock_map' e)).1, (h0.o0.lt r (ownBlock_map' e)).2, ownBlock_map' e⟩
  have x4 := h'.x.apart hg (fun e => by have := (hrow tb e).1; omega)
  have o1 : Own 2 w4 (tb + 1) A1 n1 c1 (ints f) := h'.o1.apart hg (fun k hk e => h.s01 k (hrow k e).2.2 hk)
  have o3' : Own 2 w4 w0.heap.size A3 n3 c3 (ints s3) := (o3.below ha).apart hg (fun k hk e => by have := (hrow k e).2.1; have := (o3.lt k hk).1; omega)
  rw [ints_snoc_map] at hown
  have o0 : Own 2 w4 (tb + 1) (some ⟨g, 0, none⟩) (n0 + 1) cap (ints (p ++ [a])) := hown
  have hgn : ∀ b, A1.map (·.block) = some b → b ≠ g := fun b hb e => by
    rcases hat with e1 | e1
    · exact h.s01 b (by rw [e]; exact ownBlock_map' e1) hb
    · have := (h.o1.lt b hb).2; omega
  have hg3 : ∀ b, A3.map (·.block) = some b → b ≠ g := fun b hb e => by
    rcases hat with e1 | e1
    · have := (hrow g e1).2.1; have := (o3.lt b hb).1; omega
    · have := (o3.lt b hb).2; omega
  have hn1 : ∀ q, A1.map (·.block) = some q → q ≠ tb := fun q hq => by have := (h.o1.lt q hq).1; omega
  have hn3 : ∀ q, A3.map (·.block) = some q → q ≠ tb := fun q hq => by have := (o3.lt q hq).1; omega
  have hn0 : ∀ q, (some (⟨g, 0, none⟩ : Addr)).map (·.block) = some q → q ≠ tb := fun q hq => by cases hq; show g ≠ tb; omega
  refine ⟨⟨(x4.set0 _ _ _).set2 _ _ _, own_other (own_other o0 _ _ _ hn0) _ _ _ hn0, own_other (own_other o1 _ _ _ hn1) _ _ _ hn1, (own_other (own_other o3' _ _ _ hn3) _ _ _ hn3).rd, own_cap o3, fun b hb e => hgn b e (by injection hb with hb; exact hb.symm), fun hn b hb => ?_⟩, ?_⟩
  · refine ⟨by rw [World.size_setCell, World.size_setCell]; exact (o3'.lt b hb).2, fun e => ?_, fun e => ?_, .inr (by have := (o3.lt b hb).1; omega)⟩
    · injection e with e
      exact hg3 b hb e.symm
    · have := (o3.lt b hb).1; have := (h0.o1.lt b e).2; omega
  · exact ((((hb0.trans (ha.mono hsz)).mono (Nat.le_of_lt htb)).grown hg (by have := ha.size; omega) (fun r e => by have := (hrow r e).1; omega)).setCell (p := ⟨tb, 0, none⟩) (Nat.le_refl _) _).setCell (p := ⟨tb, 2, none⟩) (Nat.le_refl _) _
theorem CSt.mid {w w4 : World} {o : Obj} {tb : Nat} {A0 A1 A2 : Option Addr} {n0 c0 n1 c1 n2 c2 : Nat} {p f s : List Nat} (h : CSt w tb A0 A1 A2 n0 c0 n1 c1 n2 c2 p f s) {A : Option Addr} {n' c' : Nat} (hA : A = A0 ∨ A = A1) (hg : (w.alloc o).grownBy w4 (Value.slice A n' c').ownBlock) : CBox w4 tb A0 n0 c0 A1 n1 c1 A2 n2 c2 :=
  (h.x.next (below1 w o)).apart hg (fun e => by
    have e1 := ownBlock_map' e
    rcases hA with rfl | rfl
    · have := (h.o0.lt tb e1).1; omega
    · have := (h.o1.lt tb e1).1; omega)
def CmpPost (D : Nat → Nat → Bool) (us vs : List Nat) (w : World) (e : Ending) (w' : World) : Prop :=
  ∃ A0 c0 A1 c1 A2 c2, e = .returned (.agg #[.slice A0 (cmpM D us vs).1.length c0, .slice A1 (cmpM D us vs).2.1.length c1, .slice A2 (cmpM D us vs).2.2.length c2]) ∧ Rd w' A0 (cmpM D us vs).1.length (ints (cmpM D us vs).1) ∧ Rd w' A1 (cmpM D us vs).2.1.length (ints (cmpM D us vs).2.1) ∧ Rd w' A2 (cmpM D us vs).2.2.length (ints (cmpM D us vs).2.2) ∧ (cmpM D us vs).2.2.length ≤ c2 ∧ Below w.heap.size w w'
set_option maxHeartbeats 6400000 in
theorem cmpare_any (R A B : Option Addr) (n c m d q e0 : Nat) (rs us vs : List Nat) (w : World) (h : Rd w R n (ints rs)) (hn : n ≤ 24) (hr : ∀ i, rs.getD i 0 < 2 ^ n) (hsym : ∀ a b, RDep rs a b = RDep rs b a) (href : ∀ a, a < n → RDep rs a a = true)
    (h2 : Rd w A m (ints us)) (hm : m ≤ 1048576) (hus : ∀ x, x ∈ us → x < n) (h3 : Rd w B q (ints vs)) (hq : q ≤ 1048576) (hqe : q ≤ e0) (hvs : ∀ x, x ∈ vs → x < n) :
    Calls Tryd.prog 148 #[.slice R n c, .slice A m d, .slice B q e0] w (CmpPost (RDep rs) us vs w) := by
  obtain ⟨i0, hi, hz0, hz1, hz2⟩ := info_parts info_int
  have HLU : Hid (us.length = m) := Lib.hid (by have := h2.1; rw [ints_len] at this; exact this)
  have HLV : Hid (vs.length = q) := Lib.hid (by have := h3.1; rw [ints_len] at this; exact this)
  have HR := Lib.hid hr
  have HSY := Lib.hid hsym
  have HRE := Lib.hid href
  have HUS := Lib.hid hus
  have HVS := Lib.hid hvs
  have h24 : 2 ^ n ≤ 2 ^ 24 := Nat.pow_le_pow_right (by decide) hn
  have HDL := Lib.hid (fun ws => Nat.lt_of_lt_of_le (depM_lt rs n hr ws) h24)
  obtain ⟨C, hC⟩ : ∃ C, C = cmpM (RDep rs) us vs := ⟨_, rfl⟩
  have HC : Hid (C = cmpGo (RDep rs) (us.drop 0) [] [] vs) := Lib.hid hC
  have HPOST : Hid (∀ e w', (∃ A0 c0 A1 c1 A2 c2, e = .returned (.agg #[.slice A0 C.1.length c0, .slice A1 C.2.1.length c1, .slice A2 C.2.2.length c2]) ∧ Rd w' A0 C.1.length (ints C.1) ∧ Rd w' A1 C.2.1.length (ints C.2.1) ∧ Rd w' A2 C.2.2.length (ints C.2.2) ∧ C.2.2.length ≤ c2 ∧ Below w.heap.size w w') → CmpPost (RDep rs) us vs w e w') := Lib.hid (by unfold CmpPost; rw [← hC]; exact fun _ _ h => h)
  clear hC hr hsym href hus hvs h24
  obtain ⟨W1, hW1⟩ : ∃ W1, (w.alloc (.cells #[.slice none 0 0, .slice none 0 0, .slice none 0 0] 152)).alloc (.cells #[.slice none 0 0, .slice none 0 0, .slice B q e0] 152) = W1 := ⟨_, rfl⟩
  have hb1 : Below w.heap.size w W1 := by rw [← hW1]; exact below2 w _ _
  have hs1 : W1.heap.size = w.heap.size + 1 + 1 := by rw [← hW1]; simp
  have x1 : CBox W1 (w.heap.size + 1) none 0 0 none 0 0 B q e0 := by rw [← hW1]; have := cbox_new (w.alloc (.cells #[.slice none 0 0, .slice none 0 0, .slice none 0 0] 152)) none 0 0 none 0 0 B q e0; rwa [World.size_alloc] at this
  have r1 : CBox W1 w.heap.size none 0 0 none 0 0 none 0 0 := by rw [← hW1]; exact (cbox_new w none 0 0 none 0 0 none 0 0).next (below1 _ _)
  have S1 : CSt W1 (w.heap.size + 1) none none B 0 0 0 0 q e0 [] [] vs := ⟨x1, Own.nil _ _ _, Own.nil _ _ _, h3.below hb1, hqe, fun b hb => (by cases hb), fun h0 b hb => by
    obtain ⟨b', off, e, hb', _⟩ := h3.2 h0
    rw [e] at hb
    injection hb with hb
    have hb9 : b' = b := hb
    subst hb9
    exact ⟨by omega, fun e => (by cases e), fun e => (by cases e), .inl (by omega)⟩⟩
  have HS1 := Lib.hid hs1
  clear hs1 x1
  obtain ⟨tb, htb⟩ : ∃ tb, tb = w.heap.size + 1 := ⟨_, rfl⟩
  rw [← htb] at S1
  have HTB := Lib.hid htb
  go_enter Tryd.func148, Tryd.ntmps148
  go_wp2_with fail
  rw [← htb]
  have hs1' : W1.heap.size = tb + 1 := by rw [HS1.out, HTB.out]
  have hb1' : Below tb W1 W1 := Below.refl _ _
  have HS1' := Lib.hid hs1'
  clear hs1' htb hW1
  go_loopw [16] (fun i wr => ∃ (k n0 c0 n1 c1 n2 c2 : Nat) (A0 A1 A2 : Option Addr) (p f s : List Nat), k ≤ m ∧ i = .int .i64 (k : Int) ∧ CSt wr tb A0 A1 A2 n0 c0 n1 c1 n2 c2 p f s ∧ C = cmpGo (RDep rs) (us.drop k) p f s ∧ n0 + n1 = k ∧ n2 ≤ q ∧ (∀ x, x ∈ f → x < n) ∧ (∀ x, x ∈ s → x < n) ∧ Below tb W1 wr) (fun i _ => m - (intOf i).toNat)
  case atStart => exact ⟨0, 0, 0, 0, 0, q, e0, none, none, B, [], [], vs, Nat.zero_le _, rfl, S1, HC.out, rfl, Nat.le_refl _, (fun x hx => by cases hx), HVS.out, hb1'⟩
  case round =>
    clear S1 hb1'
    obtain ⟨k, n0, c0, n1, c1, n2, c2, A0, A1, A2, p, f, s, hk, rfl, st, hCk, hnk, hn2, hfn, hsn, hb⟩ := hrel
    have HCK := Lib.hid hCk
    have HFN0 := Lib.hid hfn
    have HSN := Lib.hid hsn
    have HNK := Lib.hid hnk
    clear hCk hfn hsn hnk
    have hbw : Below w.heap.size w wr := hb1.trans (hb.mono (by rw [HTB.out]; omega))
    have hR := h.below hbw
    have hU := h2.below hbw
    have y0 := st.x.c0
    have y1 := st.x.c1
    have y2 := st.x.c2
    by_cases hlt : k < m
    · obtain ⟨gu, ou, x, eU, hgu, hxu, hcx⟩ := hU.at_ hlt
      rw [ints_getD us k (by rw [HLU.out]; exact hlt)] at hxu
      injection hxu with hxu
      have hun : us.getD k 0 < n := HUS.out _ (by rw [List.getD_eq_getElem?_getD, List.getElem?_eq_getElem (by rw [HLU.out]; exact hlt)]; exact List.getElem_mem _)
      have HDR := Lib.hid (drop_at us k (by rw [HLU.out]; exact hlt))
      obtain ⟨u, hu⟩ : ∃ u, u = us.getD k 0 := ⟨_, rfl⟩
      rw [← hu] at hxu hun HDR
      subst hxu eU
      clear hu
      have hnk := HNK.out
      have hml0 : n0 + 1 ≤ maxLen := by unfold maxLen; omega
      have hml1 : n1 + 1 ≤ maxLen := by unfold maxLen; omega
      have hby0 : (n0 + 1) * 8 ≤ 140737488355328 := by omega
      have hby1 : (n1 + 1) * 8 ≤ 140737488355328 := by omega
      have HN0 : Hid (n0 + 1 + n1 = k + 1) := Lib.hid (by omega)
      clear hnk
      have HFN : Hid (∀ x, x ∈ f ++ [u] → x < n) := Lib.hid (fun x hx => by
        rcases List.mem_append.1 hx with h | h
        · exact HFN0.out x h
        · simp at h; subst h; exact hun)
      have HWO := Lib.hid (without_any R A2 n c n2 c2 u rs s wr hR hn HR.out HSY.out HRE.out st.r2 (by omega) st.le HSN.out hun)
      cases hfree : freeB (RDep rs) s u
      · rw [hfree] at HWO
        have HCN : Hid (C = cmpGo (RDep rs) (us.drop (k + 1)) p (f ++ [u]) s) := Lib.hid (by rw [HCK.out, HDR.out]; exact cmp_out _ _ _ _ _ _ hfree)
        have hbase : tb + 1 ≤ (wr.alloc (.cells #[.int .i64 (u : Int)] 2)).heap.size := by have := st.x.lt; simp; omega
        have hnk := HNK.out
        have o1 := st.o1
        clear hfree
        go_wp2_with fail
        refine HWO.out.mono ?_
        rintro e w3 (⟨h9, _⟩ | ⟨_, rfl, rfl⟩)
        · cases h9
        go_wp2_with (at_builtin; refine wpList_append_lies _ rfl _ _ 22 rfl (tb + 1) 2 i0 (.int .i64 0) 1 8 Tryd.underlying22 hi hz0 hz1 hz2 rfl (by decide) (.slice A1 n1 c1) n1 ((ints f).map (Value.int .i64)) rfl (World.ownsRow.alloc o1 _) ⟨wr.heap.size, 0, none⟩ 1 1 [.int .i64 (u : Int)] rfl rfl (cell_one_new _ _ _) (by intro v hv; simp at hv; subst hv; rfl) (by decide) hml1 hby1 hbase (wr.heap.size + 1) (by simp) ?_; intro g cap w4 hown hg hat hlt4; have HP := Lib.hid (st.pass hown hg hat hlt4); have x4 := st.mid (.inr rfl) hg; have z1 := x4.c1; have zf := x4.fr 1; clear hown hg hat x4)
        go_roundw
        case rel => exact ⟨k + 1, n0, c0, n1 + 1, cap, n2, c2, A0, some ⟨g, 0, none⟩, A2, p, f ++ [u], s, hlt, by go_num, HP.out.1, HCN.out, by have := HNK.out; omega, hn2, HFN.out, HSN.out, hb.trans HP.out.2⟩
        case measure => simp [intOf]; omega
      · rw [hfree] at HWO
        go_wp2_with fail
        refine HWO.out.mono ?_
        rintro e w3 (⟨_, hn2p, A3, c3, rfl, o3, hb3⟩ | ⟨h9, _⟩)
        rotate_left
        · cases h9
        have st3 := st.below hb3
        have v0 := st3.x.c0
        have v1 := st3.x.c1
        have v2 := st3.x.c2
        have o1 := st3.o1
        have o0 := st3.o0
        have hbase : tb + 1 ≤ (w3.alloc (.cells #[.int .i64 (u : Int)] 2)).heap.size := by have := st3.x.lt; simp; omega
        have HB3 : Hid (Below tb W1 w3) := Lib.hid (hb.trans (hb3.mono (by have := st.x.lt; omega)))
        have HDE := Lib.hid (dependents_any R A1 n c n1 c1 rs f w3 (hR.below hb3) hn HR.out o1.rd (by have := HNK.out; omega) HFN0.out)
        have hD24 := HDL.out f
        have HBI := Lib.hid (depM_bit rs f u)
        obtain ⟨M, hM⟩ : ∃ M, M = depM rs f := ⟨_, rfl⟩
        rw [← hM] at HDE hD24 HBI
        have HHAS : Hid (∀ ww : World, Calls Tryd.prog 116 #[.int .i64 (M : Int), .int .i64 (u : Int)] ww fun e w'' => e = .returned (.bool (M.testBit u)) ∧ ww = w'') := Lib.hid fun ww => has_any M u (by omega) (by omega) ww
        rw [HBI.out] at HHAS
        clear hM hD24 HBI y0 y1 y2
        cases hdep : depL (RDep rs) f u
        · rw [hdep] at HHAS
          have HCN : Hid (C = cmpGo (RDep rs) (us.drop (k + 1)) (p ++ [u]) f (s.erase u)) := Lib.hid (by rw [HCK.out, HDR.out]; exact cmp_in _ _ _ _ _ _ hfree hdep)
          have HSE : Hid (∀ x, x ∈ s.erase u → x < n) := Lib.hid fun x hx => HSN.out x (List.mem_of_mem_erase hx)
          clear hfree hdep
          go_wp2_with fail
          refine HDE.out.mono ?_
          rintro e w' ⟨rfl, rfl⟩
          go_wp2_with fail
          refine (HHAS.out _).mono ?_
          rintro e w' ⟨rfl, rfl⟩
          go_wp2_with (at_builtin; refine wpList_append_lies _ rfl _ _ 22 rfl (tb + 1) 2 i0 (.int .i64 0) 1 8 Tryd.underlying22 hi hz0 hz1 hz2 rfl (by decide) (.slice A0 n0 c0) n0 ((ints p).map (Value.int .i64)) rfl (World.ownsRow.alloc o0 _) ⟨w3.heap.size, 0, none⟩ 1 1 [.int .i64 (u : Int)] rfl rfl (cell_one_new _ _ _) (by intro v hv; simp at hv; subst hv; rfl) (by decide) hml0 hby0 hbase (w3.heap.size + 1) (by simp) ?_; intro g cap w4 hown hg hat hlt4; have HP := Lib.hid (st.take hb3 o3 hown hg hat hlt4); have x4 := st3.mid (.inl rfl) hg; have z1 := x4.c0; have zf := x4.fr 0; have z2 := (x4.set0 (some ⟨g, 0, none⟩) (n0 + 1) cap).c2; have zf2 := (x4.set0 (some ⟨g, 0, none⟩) (n0 + 1) cap).fr 2; clear hown hg hat x4)
          go_roundw
          case rel => exact ⟨k + 1, n0 + 1, cap, n1, c1, n2 - 1, c3, some ⟨g, 0, none⟩, A1, A3, p ++ [u], f, s.erase u, hlt, by go_num, HP.out.1, HCN.out, HN0.out, by omega, HFN0.out, HSE.out, hb.trans HP.out.2⟩
          case measure => simp [intOf]; omega
        · rw [hdep] at HHAS
          have HCN : Hid (C = cmpGo (RDep rs) (us.drop (k + 1)) p (f ++ [u]) s) := Lib.hid (by rw [HCK.out, HDR.out]; exact cmp_dep _ _ _ _ _ _ hdep)
          clear hfree hdep
          go_wp2_with fail
          refine HDE.out.mono ?_
          rintro e w' ⟨rfl, rfl⟩
          go_wp2_with fail
          refine (HHAS.out _).mono ?_
          rintro e w' ⟨rfl, rfl⟩
          go_wp2_with (at_builtin; refine wpList_append_lies _ rfl _ _ 22 rfl (tb + 1) 2 i0 (.int .i64 0) 1 8 Tryd.underlying22 hi hz0 hz1 hz2 rfl (by decide) (.slice A1 n1 c1) n1 ((ints f).map (Value.int .i64)) rfl (World.ownsRow.alloc o1 _) ⟨w3.heap.size, 0, none⟩ 1 1 [.int .i64 (u : Int)] rfl rfl (cell_one_new _ _ _) (by intro v hv; simp at hv; subst hv; rfl) (by decide) hml1 hby1 hbase (w3.heap.size + 1) (by simp) ?_; intro g cap w4 hown hg hat hlt4; have HP := Lib.hid (st3.pass hown hg hat hlt4); have x4 := st3.mid (.inr rfl) hg; have z1 := x4.c1; have zf := x4.fr 1; clear hown hg hat x4)
          go_roundw
          case rel => exact ⟨k + 1, n0, c0, n1 + 1, cap, n2, c2, A0, some ⟨g, 0, none⟩, A2, p, f ++ [u], s, hlt, by go_num, HP.out.1, HCN.out, by have := HNK.out; omega, hn2, HFN.out, HSN.out, HB3.out.trans HP.out.2⟩
          case measure => simp [intOf]; omega
    · have hkm : k = m := by omega
      subst hkm
      have HE : Hid (C = (p, f, s)) := Lib.hid (by rw [HCK.out, List.drop_of_length_le (by rw [HLU.out]; exact Nat.le_refl _)]; rfl)
      have rr : CBox wr w.heap.size none 0 0 none 0 0 none 0 0 := r1.under hb (by rw [HTB.out]; omega)
      have rc0 := rr.c0
      have rc1 := rr.c1
      have rc2 := rr.c2
      have rf0 := rr.fr 0
      have rf1 := rr.fr 1
      have rf2 := rr.fr 2
      have HNP : Hid (p.length = n0) := Lib.hid (by have := st.o0.len; rw [ints_len] at this; exact this)
      have HNF : Hid (f.length = n1) := Lib.hid (by have := st.o1.len; rw [ints_len] at this; exact this)
      have HNS : Hid (s.length = n2) := Lib.hid (by have := st.r2.1; rw [ints_len] at this; exact this)
      have HFIN : Hid (CBox (((wr.setCell ⟨w.heap.size, 0, none⟩ (.slice A0 n0 c0)).setCell ⟨w.heap.size, 1, none⟩ (.slice A1 n1 c1)).setCell ⟨w.heap.size, 2, none⟩ (.slice A2 n2 c2)) w.heap.size A0 n0 c0 A1 n1 c1 A2 n2 c2 ∧ Rd (((wr.setCell ⟨w.heap.size, 0, none⟩ (.slice A0 n0 c0)).setCell ⟨w.heap.size, 1, none⟩ (.slice A1 n1 c1)).setCell ⟨w.heap.size, 2, none⟩ (.slice A2 n2 c2)) A0 n0 (ints p) ∧ Rd (((wr.setCell ⟨w.heap.size, 0, none⟩ (.slice A0 n0 c0)).setCell ⟨w.heap.size, 1, none⟩ (.slice A1 n1 c1)).setCell ⟨w.heap.size, 2, none⟩ (.slice A2 n2 c2)) A1 n1 (ints f) ∧ Rd (((wr.setCell ⟨w.heap.size, 0, none⟩ (.slice A0 n0 c0)).setCell ⟨w.heap.size, 1, none⟩ (.slice A1 n1 c1)).setCell ⟨w.heap.size, 2, none⟩ (.slice A2 n2 c2)) A2 n2 (ints s) ∧ Below w.heap.size w (((wr.setCell ⟨w.heap.size, 0, none⟩ (.slice A0 n0 c0)).setCell ⟨w.heap.size, 1, none⟩ (.slice A1 n1 c1)).setCell ⟨w.heap.size, 2, none⟩ (.slice A2 n2 c2))) := Lib.hid (by
        have htb9 := HTB.out
        have q0 : ∀ q, A0.map (·.block) = some q → q ≠ w.heap.size := fun q hq => by have := (st.o0.lt q hq).1; omega
        have q1 : ∀ q, A1.map (·.block) = some q → q ≠ w.heap.size := fun q hq => by have := (st.o1.lt q hq).1; omega
        have q2 : 0 < n2 → ∀ q, A2.map (·.block) = some q → q ≠ w.heap.size := fun hn q hq => by have := (st.off hn q hq).2.2.2; omega
        exact ⟨((rr.set0 _ _ _).set1 _ _ _).set2 _ _ _, (own_other (own_other (own_other st.o0 _ 0 _ q0) _ 1 _ q0) _ 2 _ q0).rd, (own_other (own_other (own_other st.o1 _ 0 _ q1) _ 1 _ q1) _ 2 _ q1).rd, ((st.r2.other _ 0 _ q2).other _ 1 _ q2).other _ 2 _ q2, ((hbw.setCell (p := ⟨w.heap.size, 0, none⟩) (Nat.le_refl _) _).setCell (p := ⟨w.heap.size, 1, none⟩) (Nat.le_refl _) _).setCell (p := ⟨w.heap.size, 2, none⟩) (Nat.le_refl _) _⟩)
      have HLE := Lib.hid st.le
      clear hbw st
      go_wp2_with fail
      refine ret_gen (fun W => CBox W w.heap.size A0 n0 c0 A1 n1 c1 A2 n2 c2 ∧ Rd W A0 n0 (ints p) ∧ Rd W A1 n1 (ints f) ∧ Rd W A2 n2 (ints s) ∧ Below w.heap.size w W) HFIN.out fun W ⟨h1, h2, h3, h4, h5⟩ => ?_
      have e0 := h1.c0
      have e1 := h1.c1
      have e2 := h1.c2
      refine bodyPost_ret (v := .agg #[.slice A0 n0 c0, .slice A1 n1 c1, .slice A2 n2 c2]) (by simp [results, Tryd.results148, go_sem, e0, e1, e2]) rfl ?_
      refine HPOST.out _ _ ?_
      rw [HE.out]
      show ∃ A0 c0 A1 c1 A2 c2, _ = _ ∧ Rd W A0 p.length (ints p) ∧ Rd W A1 f.length (ints f) ∧ Rd W A2 s.length (ints s) ∧ s.length ≤ c2 ∧ _
      rw [HNP.out, HNF.out, HNS.out]
      exact ⟨A0, c0, A1, c1, A2, c2, (by first | rfl | simp), h2, h3, h4, HLE.out, h5⟩
end Go.Proofs.YtdafdffmkjhhcaaDoor
namespace Go.Proofs.YtdafdffmkjhhcaaDoor
open Go Go.RowKit
set_option linter.unusedVariables false
set_option maxRecDepth 100000

theorem cut_no (D : Nat → Nat → Bool) (a : Nat) (u v : List Nat) (h : freeB D v a = false) : cutM D (a :: u) v = none := by
  show (if freeB D v a = true then _ else none) = none
  rw [h]; rfl
theorem cut_yes (D : Nat → Nat → Bool) (a : Nat) (u v : List Nat) (h : freeB D v a = true) : cutM D (a :: u) v = cutM D u (v.erase a) := by
  show (if freeB D v a = true then cutM D u (v.erase a) else none) = _
  rw [h, if_pos rfl]
def DCutP (V : Option (List Nat)) (w : World) (e : Ending) (w' : World) : Prop :=
  ∃ A N c, e = .returned (.tuple #[.slice A N c, .bool V.isSome]) ∧ Rd w' A N (ints (V.getD [])) ∧ N = (V.getD []).length ∧ N ≤ c ∧ Below w.heap.size w w'
def DCutPost (D : Nat → Nat → Bool) (us vs : List Nat) (w : World) (e : Ending) (w' : World) : Prop := DCutP (cutM D us vs) w e w'
set_option maxHeartbeats 3200000 in
theorem l05Cut_any (A B C : Option Addr) (n c m d q f : Nat) (rs us vs : List Nat) (w : World) (h : Rd w A n (ints rs)) (hn : n ≤ 24) (hr : ∀ i, rs.getD i 0 < 2 ^ n) (h2 : Rd w B m (ints us)) (hm : m ≤ 1048576) (h3 : Rd w C q (ints vs)) (hq : q ≤ 24) (hus : ∀ x, x ∈ us → x < n) (hvs : ∀ x, x ∈ vs → x < n) :
    Calls Tryd.prog 108 #[.agg #[.int .i64 (n : Int), .slice A n c], .slice B m d, .slice C q f] w (DCutPost (RDep rs) us vs w) := by
  have mixed : Tryd.prog.follows .mixedOrders = true := by kernel_rfl
  have HLU : Hid (us.length = m) := Lib.hid (by have := h2.1; rw [ints_len] at this; exact this)
  have HLV : Hid (vs.length = q) := Lib.hid (by have := h3.1; rw [ints_len] at this; exact this)
  have HR := Lib.hid hr
  have HUS := Lib.hid hus
  have HVS := Lib.hid hvs
  clear hr hus hvs
  have x0 := box_new 29 w (n : Int) A n c
  have hb0 : Below w.heap.size w (w.alloc (.cells #[.int .i64 (n : Int), .slice A n c] 29)) := below1 w _
  obtain ⟨W1, hW1⟩ : ∃ W1, w.alloc (.cells #[.int .i64 (n : Int), .slice A n c] 29) = W1 := ⟨_, rfl⟩
  rw [hW1] at x0 hb0
  have HOWN := Lib.hid (own_any C q f (ints vs) W1 (h3.below hb0) (by omega))
  obtain ⟨V, hV⟩ : ∃ V, V = cutM (RDep rs) us vs := ⟨_, rfl⟩
  have HV := Lib.hid hV
  have HPOST : Hid (∀ e w', DCutP V w e w' → DCutPost (RDep rs) us vs w e w') := Lib.hid (by unfold DCutPost; rw [← hV]; exact fun _ _ h => h)
  clear hV h3
  go_enter Tryd.func108, Tryd.ntmps108
  go_wp2_with fail
  refine HOWN.out.mono ?_
  rintro e w3 ⟨A3, c3, rfl, ho3, hb3⟩
  go_wp2_with fail
  go_loopw [8, 9] (fun p i wr => ∃ (k kr : Nat) (ts : List Nat) (Ar : Option Addr) (cr : Nat), k ≤ m ∧ kr ≤ 24 ∧ p = .slice Ar kr cr ∧ i = .int .i64 (k : Int) ∧ Own 2 wr W1.heap.size Ar kr cr (ints ts) ∧ V = cutM (RDep rs) (us.drop k) ts ∧ (∀ x, x ∈ ts → x < n) ∧ Below W1.heap.size W1 wr) (fun _ i _ => m - (intOf i).toNat)
  case atStart => exact ⟨0, q, vs, A3, c3, Nat.zero_le _, hq, rfl, rfl, ho3, HV.out, HVS.out, hb3⟩
  case round =>
    clear ho3 hb3
    obtain ⟨k, kr, ts, Ar, cr, hk, hkr, rfl, rfl, ho, hv, hts, hb⟩ := hrel
    have HVK := Lib.hid hv
    have HTS := Lib.hid hts
    have HLT : Hid (ts.length = kr) := Lib.hid (by have := ho.len; rw [ints_len] at this; exact this)
    clear hv hts
    have hx := x0.next hb
    have y0 := hx.c0
    have y1 := hx.c1
    have HB := Lib.hid (hb0.trans (hb.mono hb0.size))
    by_cases hlt : k < m
    · obtain ⟨gu, ou, x, eU, hgu, hxu, hcx⟩ := ((h2.below hb0).below hb).at_ hlt
      rw [ints_getD us k (by rw [HLU.out]; exact hlt)] at hxu
      injection hxu with hxu
      have hun : us.getD k 0 < n := HUS.out _ (by rw [List.getD_eq_getElem?_getD, List.getElem?_eq_getElem (by rw [HLU.out]; exact hlt)]; exact List.getElem_mem _)
      have hdrop := drop_at us k (by rw [HLU.out]; exact hlt)
      obtain ⟨u, hu⟩ : ∃ u, u = us.getD k 0 := ⟨_, rfl⟩
      rw [← hu] at hxu hun hdrop
      have HDR := Lib.hid hdrop
      subst hxu eU
      clear hu hdrop
      have hdw : Below wr.heap.size wr wr.drew := (Below.refl _ _).drew
      have hFI := l03First_any (n : Int) A Ar n c kr cr u rs ts wr.drew (((h.below hb0).below hb).below hdw) hn HR.out (ho.rd.below hdw) hkr (fun p hp => HTS.out _ (by rw [List.getD_eq_getElem?_getD, List.getElem?_eq_getElem (by rw [HLT.out]; exact hp)]; exact List.getElem_mem _)) hun
      cases hfree : freeB (RDep rs) ts u
      · have hfi : firstI (RDep rs) ts u = -1 := by unfold firstI; rw [hfree]; rfl
        rw [hfi] at hFI
        have HFI := Lib.hid hFI
        have HF : Hid (V = none) := Lib.hid (by rw [HVK.out, HDR.out]; exact cut_no _ _ _ _ hfree)
        clear hFI hfi hfree
        go_wp2_with fail
        go_still_tail 6, mixed
        change wpList _ _ _ _ _ wr.drew
        go_wp2_with fail
        refine HFI.out.mono ?_
        rintro e w4 ⟨rfl, hb4⟩
        go_wp2_with fail
        go_ret2
        exact HPOST.out _ _ (by rw [HF.out]; exact ⟨none, 0, 0, rfl, Rd.nil _ _, rfl, Nat.le_refl _, HB.out.trans ((hdw.trans (hb4.mono hdw.size)).mono HB.out.size)⟩)
      · have hmem := free_mem (RDep rs) u ts hfree
        have hidx : ts.idxOf u < kr := by rw [← HLT.out]; exact List.idxOf_lt_length_of_mem hmem
        have hfi : firstI (RDep rs) ts u = ((ts.idxOf u : Nat) : Int) := by unfold firstI; rw [hfree]; rfl
        rw [hfi] at hFI
        have HER := Lib.hid (erase_idx ts u hmem)
        have HVN : Hid (V = cutM (RDep rs) (us.drop (k + 1)) (ts.erase u)) := Lib.hid (by rw [HVK.out, HDR.out]; exact cut_yes _ _ _ _ hfree)
        obtain ⟨qi, hqi⟩ : ∃ qi, qi = ts.idxOf u := ⟨_, rfl⟩
        rw [← hqi] at hidx hFI HER
        have HFI := Lib.hid hFI
        obtain ⟨gr, rfl, _⟩ := ho.form (by omega)
        have HCAP := Lib.hid (own_cap ho)
        clear hFI hfi hfree hmem hqi
        go_wp2_with fail
        go_still_tail 6, mixed
        change wpList _ _ _ _ _ wr.drew
        go_wp2_with fail
        refine HFI.out.mono ?_
        rintro e w4 ⟨rfl, hb4⟩
        have hb04 : Below wr.heap.size wr w4 := hdw.trans (hb4.mono hdw.size)
        have HWI := Lib.hid (l03Without_any gr 0 kr cr qi ts w4 (ho.rd.below hb04) hkr hidx HCAP.out)
        go_wp2_with fail
        refine HWI.out.mono ?_
        rintro e w6 ⟨A6, c6, rfl, ho6, hb6⟩
        rw [HER.out] at ho6
        have hb06 := hb04.trans (hb6.mono hb04.size)
        have ho6' := ho6.mono (show W1.heap.size ≤ w4.heap.size by have := hb.size; have := hb04.size; omega)
        go_wp2_with fail
        go_roundw
        case rel => exact ⟨k + 1, kr - 1, ts.erase u, A6, c6, hlt, by omega, rfl, by go_num, ho6', HVN.out, fun x hx => HTS.out x (List.mem_of_mem_erase hx), hb.trans (hb06.mono hb.size)⟩
        case measure => simp [intOf]; omega
    · have hkm : k = m := by omega
      subst hkm
      have HE : Hid (V = some ts) := Lib.hid (by
        rw [HVK.out, List.drop_of_length_le (by rw [HLU.out]; exact Nat.le_refl _)]; rfl)
      have HRD := Lib.hid ho.rd
      have HCP := Lib.hid (own_cap ho)
      go_wp2_with fail
      go_ret2
      exact HPOST.out _ _ (by rw [HE.out]; exact ⟨Ar, kr, cr, rfl, HRD.out, HLT.out.symm, HCP.out, HB.out⟩)
set_option maxHeartbeats 1600000 in
theorem l05Independent_any (A B C : Option Addr) (n c m d q f : Nat) (rs us vs : List Nat) (w : World) (h : Rd w A n (ints rs)) (hn : n ≤ 24) (hr : ∀ i, rs.getD i 0 < 2 ^ n) (h2 : Rd w B m (ints us)) (hm : m ≤ 1048576) (h3 : Rd w C q (ints vs)) (hq : q ≤ 1048576) (hus : ∀ x, x ∈ us → x < n) (hvs : ∀ x, x ∈ vs → x < n) :
    Calls Tryd.prog 109 #[.agg #[.int .i64 (n : Int), .slice A n c], .slice B m d, .slice C q f] w fun e w' => e = .returned (.bool (indM (RDep rs) us vs)) ∧ Below w.heap.size w w' := by
  have mixed : Tryd.prog.follows .mixedOrders = true := by kernel_rfl
  have HLU : Hid (us.length = m) := Lib.hid (by have := h2.1; rw [ints_len] at this; exact this)
  have HLV : Hid (vs.length = q) := Lib.hid (by have := h3.1; rw [ints_len] at this; exact this)
  have HR := Lib.hid hr
  have HUS := Lib.hid hus
  have HVS := Lib.hid hvs
  clear hr hus hvs
  have x0 := box_new 29 w (n : Int) A n c
  have hb0 : Below w.heap.size w (w.alloc (.cells #[.int .i64 (n : Int), .slice A n c] 29)) := below1 w _
  obtain ⟨W1, hW1⟩ : ∃ W1, w.alloc (.cells #[.int .i64 (n : Int), .slice A n c] 29) = W1 := ⟨_, rfl⟩
  rw [hW1] at x0 hb0
  obtain ⟨V, hV⟩ : ∃ V, V = indM (RDep rs) us vs := ⟨_, rfl⟩
  have HV := Lib.hid hV
  rw [← hV]
  clear hV
  go_enter Tryd.func109, Tryd.ntmps109
  go_wp2_with fail
  go_loopw [7] (fun i wr => ∃ k : Nat, k ≤ m ∧ i = .int .i64 (k : Int) ∧ (∀ j, j < k → ∀ t, t < q → RDep rs (us.getD j 0) (vs.getD t 0) = false) ∧ Below W1.heap.size W1 wr) (fun i _ => m - (intOf i).toNat)
  case atStart => exact ⟨0, Nat.zero_le _, rfl, fun j hj => absurd hj (Nat.not_lt_zero _), Below.refl _ _⟩
  case round =>
    obtain ⟨k, hk, rfl, hall, hb⟩ := hrel
    have HAL := Lib.hid hall
    clear hall
    by_cases hlt : k < m
    · go_wp2_with fail
      go_loopw [8] (fun i wr => ∃ t : Nat, t ≤ q ∧ i = .int .i64 (t : Int) ∧ (∀ t', t' < t → RDep rs (us.getD k 0) (vs.getD t' 0) = false) ∧ Below W1.heap.size W1 wr) (fun i _ => q - (intOf i).toNat)
      case atStart => exact ⟨0, Nat.zero_le _, rfl, fun j hj => absurd hj (Nat.not_lt_zero _), hb⟩
      case round =>
        clear hb
        obtain ⟨t, ht, rfl, hall, hb⟩ := hrel
        have HAT := Lib.hid hall
        clear hall
        have hx := x0.next hb
        have y0 := hx.c0
        have y1 := hx.c1
        have HB := Lib.hid (hb0.trans (hb.mono hb0.size))
        by_cases htq : t < q
        · obtain ⟨gu, ou, x, eU, hgu, hxu, hcx⟩ := ((h2.below hb0).below hb).at_ hlt
          rw [ints_getD us k (by rw [HLU.out]; exact hlt)] at hxu
          injection hxu with hxu
          obtain ⟨gv, ov, y, eV, hgv, hxv, hcv⟩ := ((h3.below hb0).below hb).at_ htq
          rw [ints_getD vs t (by rw [HLV.out]; exact htq)] at hxv
          injection hxv with hxv
          have hun : us.getD k 0 < n := HUS.out _ (by rw [List.getD_eq_getElem?_getD, List.getElem?_eq_getElem (by rw [HLU.out]; exact hlt)]; exact List.getElem_mem _)
          have hvn : vs.getD t 0 < n := HVS.out _ (by rw [List.getD_eq_getElem?_getD, List.getElem?_eq_getElem (by rw [HLV.out]; exact htq)]; exact List.getElem_mem _)
          obtain ⟨T, hT⟩ : ∃ T, T = RDep rs (us.getD k 0) (vs.getD t 0) := ⟨_, rfl⟩
          have HT := Lib.hid hT
          have hdw : Below wr.heap.size wr wr.drew := (Below.refl _ _).drew
          have HD : Hid (Calls Tryd.prog 103 #[.agg #[.int .i64 (n : Int), .slice A n c], .int .i64 ((us.getD k 0 : Nat) : Int), .int .i64 ((vs.getD t 0 : Nat) : Int)] wr.drew fun e w' => e = .returned (.bool T) ∧ Below wr.drew.heap.size wr.drew w') := Lib.hid (by rw [hT]; exact dep_any (n : Int) A n c _ _ rs wr.drew (((h.below hb0).below hb).below hdw) hn HR.out hun hvn)
          obtain ⟨X, hX⟩ : ∃ X, X = us.getD k 0 := ⟨_, rfl⟩
          obtain ⟨Y, hY⟩ : ∃ Y, Y = vs.getD t 0 := ⟨_, rfl⟩
          have HX := Lib.hid hX
          have HY := Lib.hid hY
          rw [← hX] at hxu HD
          rw [← hY] at hxv HD
          subst hxu hxv eU eV
          clear hX hY hT hun hvn
          cases T
          · go_wp2_with fail
            go_still_tail 9, mixed
            change wpList _ _ _ _ _ wr.drew
            go_wp2_with fail
            refine HD.out.mono ?_
            rintro e w4 ⟨rfl, hb4⟩
            go_wp2_with fail
            go_roundw
            case rel => exact ⟨t + 1, htq, by go_num, fun t' h9 => (by
              rcases Nat.lt_or_ge t' t with h8 | h8
              · exact HAT.out t' h8
              · have e9 : t' = t := by omega
                rw [e9]; exact HT.out.symm), hb.trans ((hdw.trans (hb4.mono hdw.size)).mono hb.size)⟩
            case measure => simp [intOf]; omega
          · have HF : Hid (V = false) := Lib.hid (by
              rw [HV.out]
              cases e : indM (RDep rs) us vs with
              | false => rfl
              | true =>
                have := (indM_iff _ _ _).1 e (us.getD k 0) (by rw [List.getD_eq_getElem?_getD, List.getElem?_eq_getElem (by rw [HLU.out]; exact hlt)]; exact List.getElem_mem _) (vs.getD t 0) (by rw [List.getD_eq_getElem?_getD, List.getElem?_eq_getElem (by rw [HLV.out]; exact htq)]; exact List.getElem_mem _)
                rw [← HT.out] at this; cases this)
            go_wp2_with fail
            go_still_tail 9, mixed
            change wpList _ _ _ _ _ wr.drew
            go_wp2_with fail
            refine HD.out.mono ?_
            rintro e w4 ⟨rfl, hb4⟩
            go_wp2_with fail
            go_ret
            exact ⟨ret_b _ _ HF.out.symm, HB.out.trans ((hdw.trans (hb4.mono hdw.size)).mono HB.out.size)⟩
        · have htq' : t = q := by omega
          subst htq'
          go_wp2_with fail
          go_roundw
          case rel => exact ⟨k + 1, hlt, by go_num, fun j h9 t' ht' => (by
            rcases Nat.lt_or_ge j k with h8 | h8
            · exact HAL.out j h8 t' ht'
            · have e9 : j = k := by omega
              rw [e9]; exact HAT.out t' ht'), hb⟩
          case measure => simp [intOf]; omega
    · have hkm : k = m := by omega
      subst hkm
      have HE : Hid (V = true) := Lib.hid (by
        rw [HV.out, indM_iff]
        intro x hx y hy
        obtain ⟨j, hj, rfl⟩ := List.getElem_of_mem hx
        obtain ⟨t, ht, rfl⟩ := List.getElem_of_mem hy
        have := HAL.out j (by rw [← HLU.out]; exact hj) t (by rw [← HLV.out]; exact ht)
        rw [List.getD_eq_getElem?_getD, List.getElem?_eq_getElem hj, List.getD_eq_getElem?_getD, List.getElem?_eq_getElem ht] at this
        exact this)
      have HB := Lib.hid (hb0.trans (hb.mono hb0.size))
      go_wp2_with fail
      go_ret
      exact ⟨ret_b _ _ HE.out.symm, HB.out⟩
end Go.Proofs.YtdafdffmkjhhcaaDoor
namespace Go.Proofs.YtdafdffmkjhhcaaDoor
open Go Go.RowKit
set_option linter.unusedVariables false
set_option maxRecDepth 100000

/-- The quotient: what is left of the second word, and whether the first one is a prefix. -/
def QuoPost (D : Nat → Nat → Bool) (us vs : List Nat) (w : World) (e : Ending) (w' : World) : Prop :=
  ∃ A c, e = .returned (.tuple #[.slice A (cmpM D us vs).2.2.length c, .bool (cutM D us vs).isSome]) ∧ Rd w' A (cmpM D us vs).2.2.length (ints (cmpM D us vs).2.2) ∧ (cmpM D us vs).2.2.length ≤ c ∧ Below w.heap.size w w'
theorem cmp_some (D : Nat → Nat → Bool) (us vs : List Nat) : decide ((cmpM D us vs).2.1.length = 0) = (cutM D us vs).isSome := by
  unfold cmpM
  cases h : cutM D us vs with
  | none =>
    have := cmp_uncut D us [] vs h
    show _ = false
    rw [decide_eq_false_iff_not]
    intro h9
    exact this (List.eq_nil_of_length_eq_zero h9)
  | some r => rw [cmp_cut D us [] vs r h]; rfl
set_option maxHeartbeats 1600000 in
theorem quotient_any (R A B : Option Addr) (n c m d q e0 : Nat) (rs us vs : List Nat) (w : World) (h : Rd w R n (ints rs)) (hn : n ≤ 24) (hr : ∀ i, rs.getD i 0 < 2 ^ n) (hsym : ∀ a b, RDep rs a b = RDep rs b a) (href : ∀ a, a < n → RDep rs a a = true)
    (h2 : Rd w A m (ints us)) (hm : m ≤ 1048576) (hus : ∀ x, x ∈ us → x < n) (h3 : Rd w B q (ints vs)) (hq : q ≤ 1048576) (hqe : q ≤ e0) (hvs : ∀ x, x ∈ vs → x < n) :
    Calls Tryd.prog 170 #[.slice R n c, .slice A m d, .slice B q e0] w (QuoPost (RDep rs) us vs w) := by
  have HC := Lib.hid (cmpare_any R A B n c m d q e0 rs us vs w h hn hr hsym href h2 hm hus h3 hq hqe hvs)
  have HS := Lib.hid (cmp_some (RDep rs) us vs)
  have HP := Lib.hid (cmp_parts (RDep rs) us [] [] vs)
  unfold CmpPost at HC
  unfold QuoPost
  unfold cmpM at HC HS ⊢
  obtain ⟨I, hI⟩ : ∃ I, I = (cutM (RDep rs) us vs).isSome := ⟨_, rfl⟩
  rw [← hI] at HS ⊢
  obtain ⟨C, hC⟩ : ∃ C, C = cmpGo (RDep rs) us [] [] vs := ⟨_, rfl⟩
  rw [← hC] at HC HS HP ⊢
  obtain ⟨p, f, s⟩ := C
  have HS' : Hid (decide (f.length = 0) = I) := HS
  have HC' : Hid (Calls Tryd.prog 148 #[.slice R n c, .slice A m d, .slice B q e0] w fun e w' => ∃ A0 c0 A1 c1 A2 c2, e = .returned (.agg #[.slice A0 p.length c0, .slice A1 f.length c1, .slice A2 s.length c2]) ∧ Rd w' A0 p.length (ints p) ∧ Rd w' A1 f.length (ints f) ∧ Rd w' A2 s.length (ints s) ∧ s.length ≤ c2 ∧ Below w.heap.size w w') := HC
  show Calls Tryd.prog 170 #[.slice R n c, .slice A m d, .slice B q e0] w fun e w' => ∃ A c, e = .returned (.tuple #[.slice A s.length c, .bool I]) ∧ Rd w' A s.length (ints s) ∧ s.length ≤ c ∧ Below w.heap.size w w'
  obtain ⟨F, hF⟩ : ∃ F, F = f.length := ⟨_, rfl⟩
  obtain ⟨S, hS⟩ : ∃ S, S = s.length := ⟨_, rfl⟩
  rw [← hF] at HS' HC'
  rw [← hS] at HC' ⊢
  have HE : Hid ((((F : Nat) : Int) == 0) = I) := Lib.hid (by rw [← HS'.out]; by_cases h0 : F = 0 <;> simp [h0])
  clear HC HS HP hI hC hF hS HS'
  go_enter Tryd.func170, Tryd.ntmps170
  go_wp2_with fail
  refine HC'.out.mono ?_
  rintro e w1 ⟨A0, c0, A1, c1, A2, c2, rfl, r0, r1, r2, hle, hb⟩
  have x1 := cbox_new w1 A0 p.length c0 A1 F c1 A2 S c2
  have y1 := x1.c1
  have y2 := x1.c2
  have HB := Lib.hid (hb.alloc hb.size (.cells #[.slice A0 p.length c0, .slice A1 F c1, .slice A2 S c2] 152))
  have HR2 := Lib.hid (r2.below (below1 w1 (.cells #[.slice A0 p.length c0, .slice A1 F c1, .slice A2 S c2] 152)))
  go_wp2_with fail
  go_quiet (fail)
  go_wp2_with fail
  go_ret2
  rw [HE.out]
  exact ⟨A2, c2, rfl, HR2.out, hle, below_drewN HB.out _⟩
end Go.Proofs.YtdafdffmkjhhcaaDoor
namespace Go.Proofs.YtdafdffmkjhhcaaDoor
open Go Go.RowKit
set_option linter.unusedVariables false
set_option maxRecDepth 100000

def MeetPost (D : Nat → Nat → Bool) (n m : Nat) (us vs : List Nat) (w : World) (e : Ending) (w' : World) : Prop :=
  ∃ (p a b : List Nat) (A : Option Addr) (N c : Nat), e = .returned (.slice A N c) ∧ p.length = N ∧ N ≤ m ∧ Own 2 w' w.heap.size A N c (ints p) ∧ Meets D us vs p a b ∧ (∀ x, x ∈ p → x < n) ∧ (∀ x, x ∈ a → x < n) ∧ (∀ x, x ∈ b → x < n) ∧ Below w.heap.size w w'
def boolN : Value → Nat
  | .bool true => 1
  | _ => 0
/-- The model's search for the meet: what is taken, what is left. -/
structure MSt (D : Nat → Nat → Bool) (n m : Nat) (us vs : List Nat) (w : World) (B : Nat) (A0 Aa Ab : Option Addr) (no co na ca nb cb : Nat) (p ta tb : List Nat) : Prop where
  o : Own 2 w B A0 no co (ints p)
  a : Own 2 w B Aa na ca (ints ta)
  b : Own 2 w B Ab nb cb (ints tb)
  sa : ∀ k, A0.map (·.block) = some k → Aa.map (·.block) ≠ some k
  sb : ∀ k, A0.map (·.block) = some k → Ab.map (·.block) ≠ some k
  e1 : Eqv D (p ++ ta) us
  e2 : Eqv D (p ++ tb) vs
  lp : ∀ x, x ∈ p → x < n
  la : ∀ x, x ∈ ta → x < n
  lb : ∀ x, x ∈ tb → x < n
  sum : no + na = m
  nb24 : nb ≤ 24
theorem MSt.below {D : Nat → Nat → Bool} {n m : Nat} {us vs : List Nat} {w w' : World} {B : Nat} {A0 Aa Ab : Option Addr} {no co na ca nb cb : Nat} {p ta tb : List Nat} (h : MSt D n m us vs w B A0 Aa Ab no co na ca nb cb p ta tb) (hb : Below w.heap.size w w') : MSt D n m us vs w' B A0 Aa Ab no co na ca nb cb p ta tb :=
  ⟨h.o.below hb, h.a.below hb, h.b.below hb, h.sa, h.sb, h.e1, h.e2, h.lp, h.la, h.lb, h.sum, h.nb24⟩
/-- One letter more is taken. -/
theorem MSt.take {D : Nat → Nat → Bool} {n m : Nat} (hsym : ∀ a b, D a b = D b a) {us vs : List Nat} {w w6 w7 w8 : World} {B g cap cc : Nat} {A0 Aa Ab A7 A8 : Option Addr} {no co na ca nb cb c7 c8 : Nat} {p ta tb : List Nat} (h : MSt D n m us vs w B A0 Aa Ab no co na ca nb cb p ta tb) (hcn : cc < n) (fa : freeB D ta cc = true) (fb : freeB D tb cc = true) (hna : 0 < na)
    (hown : Own 2 w6 B (some ⟨g, 0, none⟩) (no + 1) cap (ints (p ++ [cc]))) (hlt : g < w6.heap.size) (hb6 : w.heap.size ≤ w6.heap.size) 
    (o7 : Own 2 w7 w6.heap.size A7 (na - 1) c7 (ints (ta.erase cc))) (hb7 : Below w6.heap.size w6 w7) (o8 : Own 2 w8 w7.heap.size A8 (nb - 1) c8 (ints (tb.erase cc))) (hb8 : Below w7.heap.size w7 w8) (hB : B ≤ w.heap.size) :
    MSt D n m us vs w8 B (some ⟨g, 0, none⟩) A7 A8 (no + 1) cap (na - 1) c7 (nb - 1) c8 (p ++ [cc]) (ta.erase cc) (tb.erase cc) := by
  have s7 := hb7.size
  have s8 := hb8.size
  refine ⟨(hown.below hb7).below hb8, (o7.mono (by omega)).below hb8, o8.mono (by omega), fun k hk e => ?_, fun k hk e => ?_, ?_, ?_, fun x hx => ?_, fun x hx => h.la x (List.mem_of_mem_erase hx), fun x hx => h.lb x (List.mem_of_mem_erase hx), by have := h.sum; omega, by have := h.nb24; omega⟩
  · injection hk with hk
    have h9 : g = k := hk
    have := (o7.lt k e).1; omega
  · injection hk with hk
    have h9 : g = k := hk
    have := (o8.lt k e).1; omega
  · refine Eqv.trans ?_ h.e1
    rw [List.append_assoc]
    exact (Eqv.refl D p).append (free_front D hsym cc ta fa)
  · refine Eqv.trans ?_ h.e2
    rw [List.append_assoc]
    exact (Eqv.refl D p).append (free_front D hsym cc tb fb)
  · rcases List.mem_append.1 hx with h1 | h1
    · exact h.lp x h1
    · simp at h1; subst h1; exact hcn
set_option maxHeartbeats 12800000 in
theorem l05Meet_any (A B C : Option Addr) (n c m d q f : Nat) (rs us vs : List Nat) (w : World) (h : Rd w A n (ints rs)) (hn : n ≤ 24) (hr : ∀ i, rs.getD i 0 < 2 ^ n) (hsym : ∀ a b, RDep rs a b = RDep rs b a) (h2 : Rd w B m (ints us)) (hm : m ≤ 24) (h3 : Rd w C q (ints vs)) (hq : q ≤ 24) (hus : ∀ x, x ∈ us → x < n) (hvs : ∀ x, x ∈ vs → x < n) :
    Calls Tryd.prog 107 #[.agg #[.int .i64 (n : Int), .slice A n c], .slice B m d, .slice C q f] w (MeetPost (RDep rs) n m us vs w) := by
  obtain ⟨i0, hi, hz0, hz1, hz2⟩ := info_parts info_int
  have HR := Lib.hid hr
  have HSY := Lib.hid hsym
  have HUS := Lib.hid hus
  have HVS := Lib.hid hvs
  clear hr hsym hus hvs
  have x0 := (box_new 29 w (n : Int) A n c)
  have hb0 : Below w.heap.size w (w.alloc (.cells #[.int .i64 (n : Int), .slice A n c] 29)) := below1 w _
  obtain ⟨W0, hW0⟩ : ∃ W0, w.alloc (.cells #[.int .i64 (n : Int), .slice A n c] 29) = W0 := ⟨_, rfl⟩
  rw [hW0] at x0 hb0
  have hl1 : Below W0.heap.size W0 (W0.alloc (.cells #[] 2)) := below1 W0 _
  have ol1 : Own 2 (W0.alloc (.cells #[] 2)) W0.heap.size (some ⟨W0.heap.size, 0, none⟩) 0 0 (ints []) := World.ownsRow_lit W0 #[] 0 (Nat.le_refl _) (by unfold maxLen; omega) rfl
  have hzl : W0.heap.size < (W0.alloc (.cells #[] 2)).heap.size := by simp
  obtain ⟨W1, hW1⟩ : ∃ W1, W0.alloc (.cells #[] 2) = W1 := ⟨_, rfl⟩
  rw [hW1] at hl1 ol1 hzl
  have HO1 := Lib.hid (own_any B m d (ints us) W1 ((h2.below hb0).below hl1) (by omega))
  have HO2 : Hid (∀ ww, Below W1.heap.size W1 ww → Calls Tryd.prog 80 #[.slice C q f] ww (MakesE 2 ww q (ints vs))) := Lib.hid fun ww hw => own_any C q f (ints vs) ww (((h3.below hb0).below hl1).below hw) (by omega)
  have HH := Lib.hid h
  clear h h2 h3
  go_enter Tryd.func107, Tryd.ntmps107
  go_wp2_with fail
  refine HO1.out.mono ?_
  rintro e w2 ⟨Aa0, ca0, rfl, oa0, hb2⟩
  have HO2' := Lib.hid (HO2.out w2 hb2)
  go_wp2_with fail
  refine HO2'.out.mono ?_
  rintro e w3 ⟨Ab0, cb0, rfl, ob0, hb3⟩
  have S0 : MSt (RDep rs) n m us vs w3 W0.heap.size (some ⟨W0.heap.size, 0, none⟩) Aa0 Ab0 0 0 m ca0 q cb0 [] us vs := ⟨(ol1.below hb2).below hb3, (oa0.mono (by omega)).below hb3, ob0.mono (by have := hb2.size; omega), fun k hk e => (by
    injection hk with hk
    have h9 : W0.heap.size = k := hk
    have := (oa0.lt k e).1; omega), fun k hk e => (by
    injection hk with hk
    have h9 : W0.heap.size = k := hk
    have := (ob0.lt k e).1; have := hb2.size; omega), Eqv.refl _ _, Eqv.refl _ _, (fun x hx => by cases hx), HUS.out, HVS.out, by omega, hq⟩
  have HB3 : Hid (Below W0.heap.size W0 w3) := Lib.hid (hl1.trans ((hb2.trans (hb3.mono hb2.size)).mono hl1.size))
  clear oa0 ob0 ol1 hl1 hzl hb2 hb3 HO1 HO2 HO2' hW1 hW0
  obtain ⟨bz, hbz⟩ : ∃ bz, bz = W0.heap.size := ⟨_, rfl⟩
  rw [← hbz] at S0 ⊢
  have HBZ := Lib.hid hbz
  clear hbz
  go_wp2_with fail
  go_loopw [7, 8, 9, 10] (fun ov av bv mv wr => ∃ (A0 Aa Ab : Option Addr) (no co na ca nb cb : Nat) (p ta tb : List Nat) (mo : Bool), ov = .slice A0 no co ∧ av = .slice Aa na ca ∧ bv = .slice Ab nb cb ∧ mv = .bool mo ∧ MSt (RDep rs) n m us vs wr bz A0 Aa Ab no co na ca nb cb p ta tb ∧ (mo = false → ∀ x, x < n → freeB (RDep rs) ta x = true → freeB (RDep rs) tb x = false) ∧ Below bz W0 wr) (fun _ av _ mv _ => 2 * sliceLen av + boolN mv)
  case atStart => exact ⟨_, Aa0, Ab0, 0, 0, m, ca0, q, cb0, [], us, vs, true, rfl, rfl, rfl, rfl, S0, fun h => (by cases h), by rw [HBZ.out]; exact HB3.out⟩
  case round =>
    clear S0
    obtain ⟨A0, Aa, Ab, no, co, na, ca, nb, cb, p, ta, tb, mo, rfl, rfl, rfl, rfl, st, hmo, hb⟩ := hrel
    cases mo
    · have HAP : Hid (∀ x, freeB (RDep rs) ta x = true → freeB (RDep rs) tb x = false) := Lib.hid fun x hx => hmo rfl x (st.la x (free_mem _ _ _ hx)) hx
      have HST := Lib.hid st
      have HLN : Hid (p.length = no) := Lib.hid (by have := st.o.len; rw [ints_len] at this; exact this)
      have HB := Lib.hid (hb0.trans (hb.mono (by rw [HBZ.out]; exact hb0.size)))
      clear st hmo hb
      go_wp2_with fail
      go_ret
      exact ⟨p, ta, tb, A0, no, co, rfl, HLN.out, by have := HST.out.sum; omega, HST.out.o.mono (by rw [HBZ.out]; exact hb0.size), ⟨HST.out.e1, HST.out.e2, HAP.out⟩, HST.out.lp, HST.out.la, HST.out.lb, HB.out⟩
    · clear hmo
      go_wp2_with fail
      go_loopw [7, 8, 9, 10, 11] (fun ov av bv mv cv wr => ∃ (A0 Aa Ab : Option Addr) (no co na' ca nb cb : Nat) (p ta tb : List Nat) (mo : Bool) (cc : Nat), cc ≤ n ∧ ov = .slice A0 no co ∧ av = .slice Aa na' ca ∧ bv = .slice Ab nb cb ∧ mv = .bool mo ∧ cv = .int .i64 (cc : Int) ∧ MSt (RDep rs) n m us vs wr bz A0 Aa Ab no co na' ca nb cb p ta tb ∧ (mo = false → na' = na ∧ ∀ x, x < cc → freeB (RDep rs) ta x = true → freeB (RDep rs) tb x = false) ∧ (mo = true → na' < na) ∧ na' ≤ na ∧ Below bz W0 wr) (fun _ _ _ _ cv _ => n - (intOf cv).toNat)
      case atStart => exact ⟨A0, Aa, Ab, no, co, na, ca, nb, cb, p, ta, tb, false, 0, Nat.zero_le _, rfl, rfl, rfl, rfl, rfl, st, fun _ => ⟨rfl, fun x hx => absurd hx (Nat.not_lt_zero _)⟩, fun h => (by cases h), Nat.le_refl _, hb⟩
      case round =>
        clear st hb
        obtain ⟨A0, Aa, Ab, no, co, na', ca, nb, cb, p, ta, tb, mo, cc, hcc, rfl, rfl, rfl, rfl, rfl, st, hmo, hmt, hna, hb⟩ := hrel
        have HMO := Lib.hid hmo
        have HMT := Lib.hid hmt
        have HST := Lib.hid st
        have hbw : Below w.heap.size w wr := hb0.trans (hb.mono (by rw [HBZ.out]; exact hb0.size))
        have hx := x0.next (hb.mono (by rw [HBZ.out]; exact Nat.le_refl _))
        have y0 := hx.c0
        have y1 := hx.c1
        clear hmo hmt
        by_cases hlt : cc < n
        · have hna24 : na' ≤ 24 := by have := st.sum; omega
          have hnb24 := st.nb24
          have hla : ta.length = na' := by have := st.a.len; rw [ints_len] at this; exact this
          have hlb : tb.length = nb := by have := st.b.len; rw [ints_len] at this; exact this
          have hta : ∀ p, p < na' → ta.getD p 0 < n := fun p hp => in_getD st.la p (by rw [hla]; exact hp)
          have htb : ∀ p, p < nb → tb.getD p 0 < n := fun p hp => in_getD st.lb p (by rw [hlb]; exact hp)
          have hdw : Below wr.heap.size wr wr.drew := (Below.refl _ _).drew
          have hR := HH.out.below hbw
          have HF1 : Hid (Calls Tryd.prog 96 #[.agg #[.int .i64 (n : Int), .slice A n c], .slice Aa na' ca, .int .i64 (cc : Int)] wr.drew (fun e w' => e = .returned (.int .i64 (firstI (RDep rs) ta cc)) ∧ Below wr.drew.heap.size wr.drew w')) := Lib.hid (l03First_any (n : Int) A Aa n c na' ca cc rs ta wr.drew (hR.below hdw) hn HR.out (st.a.rd.below hdw) hna24 hta hlt)
          have HF2 : Hid (∀ ww, Below wr.heap.size wr ww → Calls Tryd.prog 96 #[.agg #[.int .i64 (n : Int), .slice A n c], .slice Ab nb cb, .int .i64 (cc : Int)] ww (fun e w' => e = .returned (.int .i64 (firstI (RDep rs) tb cc)) ∧ Below ww.heap.size ww w')) := Lib.hid fun ww hw => l03First_any (n : Int) A Ab n c nb cb cc rs tb ww (hR.below hw) hn HR.out (st.b.rd.below hw) hnb24 htb hlt
          have HLA := Lib.hid hla
          have HLB := Lib.hid hlb
          clear hta htb hla hlb hR
          cases hfa : freeB (RDep rs) ta cc
          · have hfi : firstI (RDep rs) ta cc = -1 := by unfold firstI; rw [hfa]; rfl
            rw [hfi] at HF1
            obtain ⟨F2, hF2⟩ : ∃ F2, F2 = firstI (RDep rs) tb cc := ⟨_, rfl⟩
            rw [← hF2] at HF2
            have HNX : Hid (mo = false → ∀ x, x < cc + 1 → freeB (RDep rs) ta x = true → freeB (RDep rs) tb x = false) := Lib.hid (fun hm x hx h9 => by
              rcases Nat.lt_or_ge x cc with h8 | h8
              · exact (HMO.out hm).2 x h8 h9
              · have e9 : x = cc := by omega
                rw [e9, hfa] at h9; cases h9)
            clear hfi hfa hF2 st
            go_wp2_with fail
            go_region_with (first
              | (go_at_call 96; (with_reducible refine (HF1.out).mono ?_); rintro e w4 ⟨rfl, hb4⟩; have hb04 : Below wr.heap.size wr w4 := hdw.trans (hb4.mono hdw.size); have v0 := (hx.next hb04).c0; have v1 := (hx.next hb04).c1)
              | (go_at_call 96; (with_reducible refine (HF2.out _ hb04).mono ?_); rintro e w5 ⟨rfl, hb5⟩; have hb05 := hb04.trans (hb5.mono hb04.size); have z0 := (hx.next hb05).c0; have z1 := (hx.next hb05).c1))
            all_goals (
              clear v0 v1 z0 z1 y0 y1
              go_wp2_with fail
              go_roundw
              case rel => exact ⟨A0, Aa, Ab, no, co, na', ca, nb, cb, p, ta, tb, mo, cc + 1, hlt, rfl, rfl, rfl, rfl, by go_num, HST.out.below hb05, fun h => ⟨(HMO.out h).1, HNX.out h⟩, HMT.out, hna, hb.trans (hb05.mono (by have := hb.size; rw [HBZ.out]; exact this))⟩
              case measure => simp [intOf]; omega)
          · cases hfb : freeB (RDep rs) tb cc
            · have hfi : firstI (RDep rs) tb cc = -1 := by unfold firstI; rw [hfb]; rfl
              rw [hfi] at HF2
              have hfj : firstI (RDep rs) ta cc = ((ta.idxOf cc : Nat) : Int) := by unfold firstI; rw [hfa]; rfl
              rw [hfj] at HF1
              obtain ⟨qa, hqa⟩ : ∃ qa, qa = ta.idxOf cc := ⟨_, rfl⟩
              rw [← hqa] at HF1
              have HNX : Hid (mo = false → ∀ x, x < cc + 1 → freeB (RDep rs) ta x = true → freeB (RDep rs) tb x = false) := Lib.hid (fun hm x hx h9 => by
                rcases Nat.lt_or_ge x cc with h8 | h8
                · exact (HMO.out hm).2 x h8 h9
                · have e9 : x = cc := by omega
                  rw [e9]; exact hfb)
              clear hfi hfj hfa hfb hqa st
              go_wp2_with fail
              go_region_with (first
                | (go_at_call 96; (with_reducible refine (HF1.out).mono ?_); rintro e w4 ⟨rfl, hb4⟩; have hb04 : Below wr.heap.size wr w4 := hdw.trans (hb4.mono hdw.size); have v0 := (hx.next hb04).c0; have v1 := (hx.next hb04).c1)
                | (go_at_call 96; (with_reducible refine (HF2.out _ hb04).mono ?_); rintro e w5 ⟨rfl, hb5⟩; have hb05 := hb04.trans (hb5.mono hb04.size); have z0 := (hx.next hb05).c0; have z1 := (hx.next hb05).c1))
              all_goals (
                clear v0 v1 z0 z1 y0 y1
                go_wp2_with fail
                go_roundw
                case rel => exact ⟨A0, Aa, Ab, no, co, na', ca, nb, cb, p, ta, tb, mo, cc + 1, hlt, rfl, rfl, rfl, rfl, by go_num, HST.out.below hb05, fun h => ⟨(HMO.out h).1, HNX.out h⟩, HMT.out, hna, hb.trans (hb05.mono (by have := hb.size; rw [HBZ.out]; exact this))⟩
                case measure => simp [intOf]; omega)
            · have hfi : firstI (RDep rs) tb cc = ((tb.idxOf cc : Nat) : Int) := by unfold firstI; rw [hfb]; rfl
              rw [hfi] at HF2
              have hfj : firstI (RDep rs) ta cc = ((ta.idxOf cc : Nat) : Int) := by unfold firstI; rw [hfa]; rfl
              rw [hfj] at HF1
              have hma := free_mem (RDep rs) cc ta hfa
              have hmb := free_mem (RDep rs) cc tb hfb
              have HEA := Lib.hid (erase_idx ta cc hma)
              have HEB := Lib.hid (erase_idx tb cc hmb)
              have hia : ta.idxOf cc < na' := by rw [← HLA.out]; exact List.idxOf_lt_length_of_mem hma
              have hib : tb.idxOf cc < nb := by rw [← HLB.out]; exact List.idxOf_lt_length_of_mem hmb
              obtain ⟨qa, hqa⟩ : ∃ qa, qa = ta.idxOf cc := ⟨_, rfl⟩
              obtain ⟨qb, hqb⟩ : ∃ qb, qb = tb.idxOf cc := ⟨_, rfl⟩
              rw [← hqa] at HF1 hia HEA
              rw [← hqb] at HF2 hib HEB
              obtain ⟨ga, rfl, _⟩ := st.a.form (by omega)
              obtain ⟨gb, rfl, _⟩ := st.b.form (by omega)
              have HCA := Lib.hid (own_cap st.a)
              have HCB := Lib.hid (own_cap st.b)
              have HFA := Lib.hid hfa
              have HFB := Lib.hid hfb
              have hml : no + 1 ≤ maxLen := by have := st.sum; unfold maxLen; omega
              have hby : (no + 1) * 8 ≤ 140737488355328 := by have := st.sum; omega
              clear hfi hfj hfa hfb hqa hqb hma hmb st
              go_wp2_with fail
              go_region_with (first
                | (go_at_call 96; (with_reducible refine (HF1.out).mono ?_); rintro e w4 ⟨rfl, hb4⟩; have hb04 : Below wr.heap.size wr w4 := hdw.trans (hb4.mono hdw.size); have v0 := (hx.next hb04).c0; have v1 := (hx.next hb04).c1)
                | (go_at_call 96; (with_reducible refine (HF2.out _ hb04).mono ?_); rintro e w5 ⟨rfl, hb5⟩; have hb05 := hb04.trans (hb5.mono hb04.size); have z0 := (hx.next hb05).c0; have z1 := (hx.next hb05).c1))
              all_goals (
                have st5 := HST.out.below hb05
                have ow0 := st5.o
                have hbz5 : bz ≤ w5.heap.size := by have := hb.size; have := hb05.size; rw [HBZ.out]; omega
                have hbase : bz ≤ (w5.alloc (.cells #[.int .i64 (cc : Int)] 2)).heap.size := by simp; omega
                clear v0 v1 z0 z1 y0 y1
                go_wp2_with (at_builtin; refine wpList_append_lies _ rfl _ _ 22 rfl bz 2 i0 (.int .i64 0) 1 8 Tryd.underlying22 hi hz0 hz1 hz2 rfl (by decide) (.slice A0 no co) no ((ints p).map (Value.int .i64)) rfl (World.ownsRow.alloc ow0 _) ⟨w5.heap.size, 0, none⟩ 1 1 [.int .i64 (cc : Int)] rfl rfl (cell_one_new _ _ _) (by intro v hv; simp at hv; subst hv; rfl) (by decide) hml hby hbase (w5.heap.size + 1) (by simp) ?_; intro g cap w6 hown hg hat hlt4; rw [ints_snoc_map] at hown; have HO6 : Hid (Own 2 w6 bz (some ⟨g, 0, none⟩) (no + 1) cap (ints (p ++ [cc]))) := Lib.hid hown; have HA6 := Lib.hid ((st5.a.below (below1 w5 _)).apart hg (fun k hk e => st5.sa k (ownBlock_map' e) hk)); have HB6 := Lib.hid ((st5.b.below (below1 w5 _)).apart hg (fun k hk e => st5.sb k (ownBlock_map' e) hk)); have HL6 := Lib.hid hlt4; have HZ6 : Hid (w5.heap.size ≤ w6.heap.size) := Lib.hid (Nat.le_trans (by simp) hg.size); have HW6 : Hid (Below bz W0 w6) := Lib.hid ((((hb.trans (hb05.mono (by have := hb.size; rw [HBZ.out]; exact this))).alloc hbz5 _).grown hg hbase (fun r e => (ow0.lt r (ownBlock_map' e)).1))); clear hown hg hat)
                have HWA := Lib.hid (l03Without_any ga 0 na' ca qa ta w6 HA6.out.rd hna24 hia HCA.out)
                go_wp2_with fail
                refine HWA.out.mono ?_
                rintro e w7 ⟨A7, c7, rfl, o7, hb7⟩
                rw [HEA.out] at o7
                have HWB := Lib.hid (l03Without_any gb 0 nb cb qb tb w7 ((HB6.out.below hb7).rd) hnb24 hib HCB.out)
                go_wp2_with fail
                refine HWB.out.mono ?_
                rintro e w8 ⟨A8, c8, rfl, o8, hb8⟩
                rw [HEB.out] at o8
                have HS8 := Lib.hid (st5.take HSY.out hlt HFA.out HFB.out (by omega) HO6.out HL6.out HZ6.out o7 hb7 o8 hb8 hbz5)
                have HW8 : Hid (Below bz W0 w8) := Lib.hid (HW6.out.trans ((hb7.trans (hb8.mono hb7.size)).mono (by have := HZ6.out; omega)))
                clear o7 hb7 o8 hb8
                go_wp2_with fail
                go_roundw
                case rel => exact ⟨some ⟨g, 0, none⟩, A7, A8, no + 1, cap, na' - 1, c7, nb - 1, c8, p ++ [cc], ta.erase cc, tb.erase cc, true, cc + 1, hlt, rfl, rfl, rfl, rfl, by go_num, HS8.out, fun h => (by cases h), fun _ => by omega, by omega, HW8.out⟩
                case measure => simp [intOf]; omega)
        · have hce : cc = n := by omega
          subst hce
          go_wp2_with fail
          go_roundw
          case rel => exact ⟨A0, Aa, Ab, no, co, na', ca, nb, cb, p, ta, tb, mo, rfl, rfl, rfl, rfl, st, fun h => (HMO.out h).2, hb⟩
          case measure => cases mo <;> simp [sliceLen, boolN] <;> (first | (have := (HMO.out rfl).1; omega) | (have := HMT.out rfl; omega))
end Go.Proofs.YtdafdffmkjhhcaaDoor
