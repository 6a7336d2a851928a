/-
  Plain mathematics of division: what is cut from the front of a word, what two words have in common at their fronts. Division: the program's letters that depend on a word, and what is left of a word without its first letter, by contracts. Division: the program's comparison of two words, by a contract; quotients. Division: the model's cutting and its test of independence, by contracts. Division: the program's quotient, by a contract. Division: the model's meet, by a contract.
-/
import Derived.Test.YtbleimcajpelhaaDoorM1
import Derived.Test.YtbleimcajpelhaaDoorM3
import Derived.Laws.CopyOwn
import Derived.Conc.MuLone
import Derived.Deep.AppendLies
namespace Go.Proofs.YtbleimcajpelhaaDoor
open Go.RowKit
set_option linter.unusedVariables false
set_option maxRecDepth 100000

/-- What is left of a word when the letters of another one are taken from its front, if they can be. -/
def cutM (D : Nat → Nat → Bool) : List Nat → List Nat → Option (List Nat)
  | [], v => some v
  | a :: u, v => if freeB D v a = true then cutM D u (v.erase a) else none
/-- Whether a letter depends on one of a word. -/
def depL (D : Nat → Nat → Bool) (f : List Nat) (a : Nat) : Bool := f.any fun b => D b a
def indM (D : Nat → Nat → Bool) (u v : List Nat) : Bool := !(v.any fun y => depL D u y)
/-- The comparison: what is taken from both, what is passed over of the first, what is left of the second. -/
def cmpGo (D : Nat → Nat → Bool) : List Nat → List Nat → List Nat → List Nat → List Nat × List Nat × List Nat
  | [], p, f, s => (p, f, s)
  | a :: u, p, f, s => if (freeB D s a && !depL D f a) = true then cmpGo D u (p ++ [a]) f (s.erase a) else cmpGo D u p (f ++ [a]) s
def cmpM (D : Nat → Nat → Bool) (u v : List Nat) : List Nat × List Nat × List Nat := cmpGo D u [] [] v

theorem depL_nil (D : Nat → Nat → Bool) (a : Nat) : depL D [] a = false := rfl
theorem depL_no (D : Nat → Nat → Bool) (f : List Nat) (a : Nat) : depL D f a = false ↔ ∀ b, b ∈ f → D b a = false := by
  unfold depL
  rw [List.any_eq_false]
  exact ⟨fun h b hb => by simpa using h b hb, fun h b hb => by rw [h b hb]; decide⟩
theorem cmp_in (D : Nat → Nat → Bool) (a : Nat) (u p f s : List Nat) (h : freeB D s a = true) (h2 : depL D f a = false) : cmpGo D (a :: u) p f s = cmpGo D u (p ++ [a]) f (s.erase a) := by
  show (if (freeB D s a && !depL D f a) = true then _ else _) = _
  rw [if_pos (by rw [h, h2]; rfl)]
theorem cmp_out (D : Nat → Nat → Bool) (a : Nat) (u p f s : List Nat) (h : freeB D s a = false) : cmpGo D (a :: u) p f s = cmpGo D u p (f ++ [a]) s := by
  show (if (freeB D s a && !depL D f a) = true then _ else _) = _
  rw [if_neg (by rw [h]; simp)]
theorem cmp_dep (D : Nat → Nat → Bool) (a : Nat) (u p f s : List Nat) (h : depL D f a = true) : cmpGo D (a :: u) p f s = cmpGo D u p (f ++ [a]) s := by
  show (if (freeB D s a && !depL D f a) = true then _ else _) = _
  rw [if_neg (by rw [h]; simp)]
theorem cmp_more (D : Nat → Nat → Bool) : ∀ u p f s : List Nat, f ≠ [] → (cmpGo D u p f s).2.1 ≠ []
  | [], _, _, _, h => h
  | a :: u, p, f, s, h => by
    show (if (freeB D s a && !depL D f a) = true then _ else _ : List Nat × List Nat × List Nat).2.1 ≠ []
    split
    · exact cmp_more D u _ _ _ h
    · exact cmp_more D u _ _ _ (by simp)
theorem cmp_cut (D : Nat → Nat → Bool) : ∀ u p v r : List Nat, cutM D u v = some r → cmpGo D u p [] v = (p ++ u, [], r)
  | [], p, v, r, h => by
    injection h with h
    rw [List.append_nil, ← h]; rfl
  | a :: u, p, v, r, h => by
    have h' : (if freeB D v a = true then cutM D u (v.erase a) else none) = some r := h
    cases hf : freeB D v a with
    | false => rw [hf] at h'; cases h'
    | true =>
      rw [hf, if_pos rfl] at h'
      rw [cmp_in D a u p [] v hf rfl, cmp_cut D u _ _ _ h', List.append_assoc]; rfl
theorem cmp_uncut (D : Nat → Nat → Bool) : ∀ u p v : List Nat, cutM D u v = none → (cmpGo D u p [] v).2.1 ≠ []
  | [], p, v, h => by cases h
  | a :: u, p, v, h => by
    have h' : (if freeB D v a = true then cutM D u (v.erase a) else none) = none := h
    cases hf : freeB D v a with
    | false => rw [cmp_out D a u p [] v hf]; exact cmp_more D _ _ _ _ (by simp)
    | true =>
      rw [hf, if_pos rfl] at h'
      rw [cmp_in D a u p [] v hf rfl]
      exact cmp_uncut D u _ _ h'
theorem cut_len (D : Nat → Nat → Bool) : ∀ u v r : List Nat, cutM D u v = some r → r.length ≤ v.length ∧ ∀ x, x ∈ r → x ∈ v
  | [], v, r, h => by injection h with h; subst h; exact ⟨Nat.le_refl _, fun x hx => hx⟩
  | a :: u, v, r, h => by
    have h' : (if freeB D v a = true then cutM D u (v.erase a) else none) = some r := h
    cases hf : freeB D v a with
    | false => rw [hf] at h'; cases h'
    | true =>
      rw [hf, if_pos rfl] at h'
      have ih := cut_len D u _ _ h'
      exact ⟨Nat.le_trans ih.1 List.length_erase_le, fun x hx => List.mem_of_mem_erase (ih.2 x hx)⟩
/-- Each part of a comparison has letters of its words only, and not more than they. -/
theorem cmp_parts (D : Nat → Nat → Bool) : ∀ u p f s : List Nat, (cmpGo D u p f s).1.length + (cmpGo D u p f s).2.1.length = p.length + f.length + u.length ∧ (cmpGo D u p f s).2.2.length ≤ s.length ∧ (∀ x, x ∈ (cmpGo D u p f s).1 → x ∈ p ∨ x ∈ u) ∧ (∀ x, x ∈ (cmpGo D u p f s).2.1 → x ∈ f ∨ x ∈ u) ∧ (∀ x, x ∈ (cmpGo D u p f s).2.2 → x ∈ s)
  | [], p, f, s => ⟨by simp [cmpGo], Nat.le_refl _, fun x hx => .inl hx, fun x hx => .inl hx, fun x hx => hx⟩
  | a :: u, p, f, s => by
    by_cases h : (freeB D s a && !depL D f a) = true
    · have e : cmpGo D (a :: u) p f s = cmpGo D u (p ++ [a]) f (s.erase a) := if_pos h
      rw [e]
      obtain ⟨h1, h2, h3, h4, h5⟩ := cmp_parts D u (p ++ [a]) f (s.erase a)
      refine ⟨by rw [h1]; simp; omega, Nat.le_trans h2 List.length_erase_le, fun x hx => ?_, fun x hx => ?_, fun x hx => List.mem_of_mem_erase (h5 x hx)⟩
      · rcases h3 x hx with h | h
        · rcases List.mem_append.1 h with h | h
          · exact .inl h
          · simp at h; subst h; exact .inr List.mem_cons_self
        · exact .inr (List.mem_cons_of_mem _ h)
      · rcases h4 x hx with h | h
        · exact .inl h
        · exact .inr (List.mem_cons_of_mem _ h)
    · have e : cmpGo D (a :: u) p f s = cmpGo D u p (f ++ [a]) s := if_neg h
      rw [e]
      obtain ⟨h1, h2, h3, h4, h5⟩ := cmp_parts D u p (f ++ [a]) s
      refine ⟨by rw [h1]; simp; omega, h2, fun x hx => ?_, fun x hx => ?_, h5⟩
      · rcases h3 x hx with h | h
        · exact .inl h
        · exact .inr (List.mem_cons_of_mem _ h)
      · rcases h4 x hx with h | h
        · rcases List.mem_append.1 h with h | h
          · exact .inl h
          · simp at h; subst h; exact .inr List.mem_cons_self
        · exact .inr (List.mem_cons_of_mem _ h)

/-! Traces by projections. -/
theorem prj_append (u v : List Nat) (x y : Nat) : prj (u ++ v) x y = prj u x y ++ prj v x y := by unfold prj; rw [List.filter_append]
theorem Eqv.append {D : Nat → Nat → Bool} {u u' v v' : List Nat} (h : Eqv D u u') (h2 : Eqv D v v') : Eqv D (u ++ v) (u' ++ v') := fun x y d => by rw [prj_append, prj_append, h x y d, h2 x y d]
theorem Eqv.cancel {D : Nat → Nat → Bool} {u u' v v' : List Nat} (h : Eqv D (u ++ v) (u' ++ v')) (h2 : Eqv D u u') : Eqv D v v' := fun x y d => by
  have := h x y d
  rw [prj_append, prj_append, h2 x y d] at this
  exact List.append_cancel_left this
theorem Eqv.of_eq {D : Nat → Nat → Bool} {u v : List Nat} (h : u = v) : Eqv D u v := by rw [h]; exact Eqv.refl _ _
theorem free_append (D : Nat → Nat → Bool) (c : Nat) : ∀ u v : List Nat, freeB D (u ++ v) c = true → freeB D u c = true ∨ (depL D u c = false ∧ freeB D v c = true)
  | [], v, h => .inr ⟨rfl, h⟩
  | a :: u, v, h => by
    have h' : freeB D (a :: (u ++ v)) c = true := h
    rw [free_cons] at h' ⊢
    by_cases e : a = c
    · rw [if_pos e]; exact .inl rfl
    · rw [if_neg e] at h' ⊢
      cases hD : D a c with
      | true => rw [hD] at h'; simp at h'
      | false =>
        rw [hD] at h'
        rcases free_append D c u v (by simpa using h') with h | ⟨h1, h2⟩
        · exact .inl (by simpa using h)
        · refine .inr ⟨?_, h2⟩
          show (D a c || depL D u c) = false
          rw [hD, h1]; rfl
theorem free_left (D : Nat → Nat → Bool) (c : Nat) : ∀ u v : List Nat, freeB D u c = true → freeB D (u ++ v) c = true
  | [], v, h => by simp [freeB] at h
  | a :: u, v, h => by
    show freeB D (a :: (u ++ v)) c = true
    rw [free_cons] at h ⊢
    by_cases e : a = c
    · rw [if_pos e]
    · rw [if_neg e] at h ⊢
      cases hD : D a c with
      | true => rw [hD] at h; simp at h
      | false => rw [hD] at h; simpa using free_left D c u v (by simpa using h)
theorem free_behind (D : Nat → Nat → Bool) (c : Nat) (v : List Nat) (hv : freeB D v c = true) : ∀ u : List Nat, depL D u c = false → freeB D (u ++ v) c = true
  | [], _ => hv
  | a :: u, h => by
    have h' : (D a c || depL D u c) = false := h
    rw [Bool.or_eq_false_iff] at h'
    show freeB D (a :: (u ++ v)) c = true
    rw [free_cons]
    by_cases e : a = c
    · rw [if_pos e]
    · rw [if_neg e, h'.1]
      simpa using free_behind D c v hv u h'.2
theorem dep_mem {D : Nat → Nat → Bool} {u : List Nat} {c : Nat} (hc : D c c = true) (h : depL D u c = false) : c ∉ u := fun hm => by rw [(depL_no D u c).1 h c hm] at hc; cases hc
/-- A letter on which none of a word depends passes it. -/
theorem pass (D : Nat → Nat → Bool) (hsym : ∀ a b, D a b = D b a) (a : Nat) (ha : D a a = true) (f v : List Nat) (h : depL D f a = false) : Eqv D (f ++ a :: v) (a :: (f ++ v)) := by
  have hf : freeB D (f ++ a :: v) a = true := free_behind D a _ (by rw [free_cons, if_pos rfl]) f h
  have he := free_front D hsym a _ hf
  rw [List.erase_append_right _ (dep_mem ha h), List.erase_cons_head] at he
  exact he.symm
/-- p is taken from the fronts of u and v, a and b are left, and they have no first letter in common. -/
structure Meets (D : Nat → Nat → Bool) (u v p a b : List Nat) : Prop where
  fst : Eqv D (p ++ a) u
  snd : Eqv D (p ++ b) v
  apart : ∀ c, freeB D a c = true → freeB D b c = false
theorem cmp_meets (D : Nat → Nat → Bool) (n : Nat) (hsym : ∀ a b, D a b = D b a) (href : ∀ a, a < n → D a a = true) : ∀ u p f s u0 v0 : List Nat, (∀ x, x ∈ u → x < n) → (∀ x, x ∈ s → x < n) → Eqv D (p ++ (f ++ u)) u0 → Eqv D (p ++ s) v0 → (∀ c, freeB D f c = true → freeB D s c = false) →
    Meets D u0 v0 (cmpGo D u p f s).1 (cmpGo D u p f s).2.1 (cmpGo D u p f s).2.2
  | [], p, f, s, u0, v0, _, _, h1, h2, h3 => ⟨by rw [List.append_nil] at h1; exact h1, h2, h3⟩
  | a :: u, p, f, s, u0, v0, hu, hs, h1, h2, h3 => by
    have han := href a (hu a List.mem_cons_self)
    have hu' : ∀ x, x ∈ u → x < n := fun x hx => hu x (List.mem_cons_of_mem _ hx)
    cases hd : depL D f a with
    | true =>
      rw [cmp_dep D a u p f s hd]
      refine cmp_meets D n hsym href u p (f ++ [a]) s u0 v0 hu' hs (by rw [List.append_assoc]; exact h1) h2 fun c hc => ?_
      rcases free_append D c f [a] hc with h | ⟨h, h'⟩
      · exact h3 c h
      · have := free_mem D c _ h'
        simp at this; subst this
        rw [hd] at h; cases h
    | false =>
      cases hf : freeB D s a with
      | false =>
        rw [cmp_out D a u p f s hf]
        refine cmp_meets D n hsym href u p (f ++ [a]) s u0 v0 hu' hs (by rw [List.append_assoc]; exact h1) h2 fun c hc => ?_
        rcases free_append D c f [a] hc with h | ⟨h, h'⟩
        · exact h3 c h
        · have := free_mem D c _ h'
          simp at this; subst this
          exact hf
      | true =>
        rw [cmp_in D a u p f s hf hd]
        refine cmp_meets D n hsym href u (p ++ [a]) f (s.erase a) u0 v0 hu' (fun x hx => hs x (List.mem_of_mem_erase hx)) ?_ ?_ fun c hc => ?_
        · refine Eqv.trans ?_ h1
          rw [List.append_assoc]
          exact (Eqv.refl D p).append (pass D hsym a han f u hd).symm
        · refine Eqv.trans ?_ h2
          rw [List.append_assoc]
          exact (Eqv.refl D p).append (free_front D hsym a s hf)
        · cases hcs : freeB D (s.erase a) c with
          | false => rfl
          | true =>
            exfalso
            have hcf := free_mem D c f hc
            have hDac : D a c = false := by rw [hsym]; exact (depL_no D f a).1 hd c hcf
            have hcn : c < n := hs c (List.mem_of_mem_erase (free_mem D c _ hcs))
            have : freeB D (a :: s.erase a) c = true := by
              rw [free_cons]
              by_cases e : a = c
              · rw [if_pos e]
              · rw [if_neg e, hDac]; simpa using hcs
            rw [(free_front D hsym a s hf).free (href c hcn), h3 c hc] at this
            cases this
theorem meets_same (D : Nat → Nat → Bool) (n : Nat) (hsym : ∀ a b, D a b = D b a) (href : ∀ a, a < n → D a a = true) : ∀ p a b p' a' b' : List Nat, (∀ x, x ∈ p → x < n) → (∀ x, x ∈ p' → x < n) → Eqv D (p ++ a) (p' ++ a') → Eqv D (p ++ b) (p' ++ b') → (∀ c, freeB D a c = true → freeB D b c = false) → (∀ c, freeB D a' c = true → freeB D b' c = false) → Eqv D p p'
  | [], a, b, p', a', b', hp, hp', h1, h2, h3, h4 => by
    cases p' with
    | nil => exact Eqv.refl _ _
    | cons c t =>
      exfalso
      have hc := href c (hp' c List.mem_cons_self)
      have e1 : freeB D a c = true := by
        have := h1.free hc
        rw [List.nil_append] at this
        rw [this, List.cons_append, free_cons, if_pos rfl]
      have e2 : freeB D b c = true := by
        have := h2.free hc
        rw [List.nil_append] at this
        rw [this, List.cons_append, free_cons, if_pos rfl]
      rw [h3 c e1] at e2; cases e2
  | c :: p, a, b, p', a', b', hp, hp', h1, h2, h3, h4 => by
    have hc := href c (hp c List.mem_cons_self)
    have e1 : freeB D (p' ++ a') c = true := by rw [← h1.free hc, List.cons_append, free_cons, if_pos rfl]
    have e2 : freeB D (p' ++ b') c = true := by rw [← h2.free hc, List.cons_append, free_cons, if_pos rfl]
    cases hf : freeB D p' c with
    | false =>
      exfalso
      rcases free_append D c p' a' e1 with h | ⟨_, g1⟩
      · rw [hf] at h; cases h
      rcases free_append D c p' b' e2 with h | ⟨_, g2⟩
      · rw [hf] at h; cases h
      rw [h4 c g1] at g2; cases g2
    | true =>
      have hfr := free_front D hsym c p' hf
      have k1 : Eqv D (p ++ a) (p'.erase c ++ a') := Eqv.tail (a := c) (h1.trans (hfr.symm.append (Eqv.refl D a')))
      have k2 : Eqv D (p ++ b) (p'.erase c ++ b') := Eqv.tail (a := c) (h2.trans (hfr.symm.append (Eqv.refl D b')))
      have ih := meets_same D n hsym href p a b (p'.erase c) a' b' (fun x hx => hp x (List.mem_cons_of_mem _ hx)) (fun x hx => hp' x (List.mem_of_mem_erase hx)) k1 k2 h3 h4
      exact (ih.cons c).trans hfr
/-- There is one meet, and what is left of both is the same. -/
theorem Meets.unique {D : Nat → Nat → Bool} {n : Nat} (hsym : ∀ a b, D a b = D b a) (href : ∀ a, a < n → D a a = true) {u v p a b p' a' b' : List Nat} (h : Meets D u v p a b) (h' : Meets D u v p' a' b') (hp : ∀ x, x ∈ p → x < n) (hp' : ∀ x, x ∈ p' → x < n) : Eqv D p p' ∧ Eqv D a a' ∧ Eqv D b b' := by
  have h1 := h.fst.trans h'.fst.symm
  have h2 := h.snd.trans h'.snd.symm
  have e := meets_same D n hsym href p a b p' a' b' hp hp' h1 h2 h.apart h'.apart
  exact ⟨e, h1.cancel e, h2.cancel e⟩
theorem cut_eqv (D : Nat → Nat → Bool) (hsym : ∀ a b, D a b = D b a) : ∀ p v r : List Nat, cutM D p v = some r → Eqv D (p ++ r) v
  | [], v, r, h => by injection h with h; subst h; exact Eqv.refl _ _
  | a :: p, v, r, h => by
    have h' : (if freeB D v a = true then cutM D p (v.erase a) else none) = some r := h
    cases hf : freeB D v a with
    | false => rw [hf] at h'; cases h'
    | true =>
      rw [hf, if_pos rfl] at h'
      exact ((cut_eqv D hsym p _ _ h').cons a).trans (free_front D hsym a v hf)
theorem cut_some (D : Nat → Nat → Bool) (n : Nat) (hsym : ∀ a b, D a b = D b a) (href : ∀ a, a < n → D a a = true) : ∀ p z v : List Nat, (∀ x, x ∈ p → x < n) → Eqv D (p ++ z) v → ∃ r, cutM D p v = some r ∧ Eqv D z r
  | [], z, v, _, h => ⟨v, rfl, h⟩
  | a :: p, z, v, hp, h => by
    obtain ⟨hf, he⟩ := h.step hsym (href a (hp a List.mem_cons_self))
    obtain ⟨r, h1, h2⟩ := cut_some D n hsym href p z (v.erase a) (fun x hx => hp x (List.mem_cons_of_mem _ hx)) he
    refine ⟨r, ?_, h2⟩
    show (if freeB D v a = true then cutM D p (v.erase a) else none) = some r
    rw [hf, if_pos rfl]; exact h1
/-- Two factorisations: what the second has more than the first is a prefix of what follows the first. -/
theorem levi_eqv (D : Nat → Nat → Bool) (n : Nat) (hsym : ∀ a b, D a b = D b a) (href : ∀ a, a < n → D a a = true) : ∀ r q v z : List Nat, (∀ x, x ∈ r → x < n) → (∀ x, x ∈ q → x < n) → Eqv D (q ++ v) (r ++ z) → (∀ c, freeB D q c = true → freeB D r c = false) → ∃ s, Eqv D (r ++ s) v
  | [], q, v, z, _, _, _, _ => ⟨v, Eqv.refl _ _⟩
  | c :: r, q, v, z, hr, hq, h, hap => by
    have hc := href c (hr c List.mem_cons_self)
    have hcf : freeB D (c :: r) c = true := by rw [free_cons, if_pos rfl]
    have e1 : freeB D (q ++ v) c = true := by rw [h.free hc, List.cons_append, free_cons, if_pos rfl]
    rcases free_append D c q v e1 with g | ⟨g1, g2⟩
    · have := hap c g; rw [hcf] at this; cases this
    · have hfr := free_front D hsym c v g2
      have k : Eqv D (c :: (q ++ v.erase c)) (c :: (r ++ z)) := (((pass D hsym c hc q (v.erase c) g1).symm).trans ((Eqv.refl D q).append hfr)).trans h
      have hap' : ∀ d, freeB D q d = true → freeB D r d = false := fun d hd => by
        cases hrd : freeB D r d with
        | false => rfl
        | true =>
          exfalso
          have hdq := free_mem D d q hd
          have h0 : D c d = false := by rw [hsym]; exact (depL_no D q c).1 g1 d hdq
          have : freeB D (c :: r) d = true := by
            rw [free_cons]
            by_cases e : c = d
            · rw [if_pos e]
            · rw [if_neg e, h0]; simpa using hrd
          rw [hap d hd] at this; cases this
      obtain ⟨s, hs⟩ := levi_eqv D n hsym href r q (v.erase c) z (fun x hx => hr x (List.mem_cons_of_mem _ hx)) hq k.tail hap'
      exact ⟨s, (hs.cons c).trans hfr⟩
theorem indM_iff (D : Nat → Nat → Bool) (u v : List Nat) : indM D u v = true ↔ ∀ x, x ∈ u → ∀ y, y ∈ v → D x y = false := by
  unfold indM
  rw [Bool.not_eq_true', List.any_eq_false]
  constructor
  · intro h x hx y hy
    have := h y hy
    rw [Bool.not_eq_true] at this
    exact (depL_no D u y).1 this x hx
  · intro h y hy
    rw [Bool.not_eq_true]
    exact (depL_no D u y).2 fun x hx => h x hx y hy
theorem indM_eqv {D : Nat → Nat → Bool} {n : Nat} (href : ∀ a, a < n → D a a = true) {u v u' v' : List Nat} (hu : ∀ x, x ∈ u → x < n) (hv : ∀ x, x ∈ v → x < n) (hu' : ∀ x, x ∈ u' → x < n) (hv' : ∀ x, x ∈ v' → x < n) (h1 : Eqv D u u') (h2 : Eqv D v v') : indM D u v = indM D u' v' := by
  rw [Bool.eq_iff_iff, indM_iff, indM_iff]
  exact ⟨fun h x hx y hy => h x ((h1.mem (href x (hu' x hx))).2 hx) y ((h2.mem (href y (hv' y hy))).2 hy), fun h x hx y hy => h x ((h1.mem (href x (hu x hx))).1 hx) y ((h2.mem (href y (hv y hy))).1 hy)⟩
/-- The letters of a set that stand in front: the program's comparison with the projection finds them letter by letter. -/
def inGo (D : Nat → Nat → Bool) (P : Nat → Bool) : List Nat → List Nat → List Nat → List Nat × List Nat
  | [], p, f => (p, f)
  | a :: u, p, f => if (P a && !depL D f a) = true then inGo D P u (p ++ [a]) f else inGo D P u p (f ++ [a])
theorem free_in (D : Nat → Nat → Bool) (a : Nat) (ha : D a a = true) (k r : List Nat) (h : depL D k a = false) : freeB D (k ++ a :: r) a = true ∧ (k ++ a :: r).erase a = k ++ r :=
  ⟨free_behind D a _ (by rw [free_cons, if_pos rfl]) k h, by rw [List.erase_append_right _ (dep_mem ha h), List.erase_cons_head]⟩
theorem in_cmp (D : Nat → Nat → Bool) (P : Nat → Bool) (n : Nat) (href : ∀ a, a < n → D a a = true) : ∀ u p f : List Nat, (∀ x, x ∈ u → x < n) →
    ((cmpGo D u p f (f.filter P ++ u.filter P)).1 = (inGo D P u p f).1)
  | [], p, f, _ => rfl
  | a :: u, p, f, hu => by
    have hu' : ∀ x, x ∈ u → x < n := fun x hx => hu x (List.mem_cons_of_mem _ hx)
    have han := href a (hu a List.mem_cons_self)
    cases hP : P a with
    | false =>
      have e : inGo D P (a :: u) p f = inGo D P u p (f ++ [a]) := by
        show (if (P a && !depL D f a) = true then _ else _) = _
        rw [hP, if_neg (by simp)]
      have hnf : freeB D (f.filter P ++ (a :: u).filter P) a = false := by
        cases h : freeB D (f.filter P ++ (a :: u).filter P) a with
        | false => rfl
        | true =>
          have hm := free_mem D a _ h
          rw [← List.filter_append] at hm
          have := (List.mem_filter.1 hm).2
          rw [hP] at this; cases this
      rw [e, cmp_out D a u p f _ hnf, ← in_cmp D P n href u p (f ++ [a]) hu']
      have e2 : f.filter P ++ (a :: u).filter P = (f ++ [a]).filter P ++ u.filter P := by
        rw [← List.filter_append, ← List.filter_append, List.append_assoc]; rfl
      rw [e2]
    | true =>
      have e3 : f.filter P ++ (a :: u).filter P = f.filter P ++ a :: u.filter P := by rw [List.filter_cons, if_pos hP]
      cases hd : depL D f a with
      | true =>
        have e : inGo D P (a :: u) p f = inGo D P u p (f ++ [a]) := by
          show (if (P a && !depL D f a) = true then _ else _) = _
          rw [hd, if_neg (by simp)]
        rw [e, cmp_dep D a u p f _ hd, ← in_cmp D P n href u p (f ++ [a]) hu']
        have e2 : f.filter P ++ (a :: u).filter P = (f ++ [a]).filter P ++ u.filter P := by
          rw [← List.filter_append, ← List.filter_append, List.append_assoc]; rfl
        rw [e2]
      | false =>
        have e : inGo D P (a :: u) p f = inGo D P u (p ++ [a]) f := by
          show (if (P a && !depL D f a) = true then _ else _) = _
          rw [hd, hP]; rfl
        have hd2 : depL D (f.filter P) a = false := (depL_no _ _ _).2 fun b hb => (depL_no _ _ _).1 hd b (List.mem_filter.1 hb).1
        obtain ⟨g1, g2⟩ := free_in D a han (f.filter P) (u.filter P) hd2
        rw [e, e3, cmp_in D a u p f _ g1 hd, g2]
        exact in_cmp D P n href u (p ++ [a]) f hu'
end Go.Proofs.YtbleimcajpelhaaDoor
namespace Go.Proofs.YtbleimcajpelhaaDoor
open Go Go.RowKit
set_option linter.unusedVariables false
set_option maxRecDepth 100000

set_option maxHeartbeats 800000 in
theorem indexFuncM_any (p : Int → Bool) (f : FuncId) (M : Int) (A : Option Addr) (n c : Nat) (xs : List Int) (w : World) (h : Rd w A n xs) (hn : n ≤ 1048576)
    (eg : ∀ args w, (callFunc f args).run Tryd.prog w = .ok (.enter f args) w)
    (hp : ∀ x, x ∈ xs → ∀ ww : World, Calls Tryd.prog f #[.int .i64 M, .int .i64 x] ww fun e w' => e = .returned (.bool (p x)) ∧ ww = w') :
    Calls Tryd.prog 97 #[.slice A n c, .func (.func f) #[.int .i64 M] #[]] w fun e w' => e = .returned (.int .i64 (idxB p xs)) ∧ w = w' := by
  have HP := Lib.hid hp
  have HL := Lib.hid h.1
  clear hp
  go_enter Tryd.func97, Tryd.ntmps97
  go_wp2
  go_loop [8] (fun q => ∃ k : Nat, k ≤ n ∧ q = .int .i64 k ∧ ∀ j y, j < k → xs[j]? = some y → p y = false) (fun q => n - (intOf q).toNat)
  case atStart => exact ⟨0, Nat.zero_le _, rfl, fun j y hj => absurd hj (Nat.not_lt_zero _)⟩
  case round =>
    obtain ⟨k, hk, rfl, hall⟩ := hrel
    have HA := Lib.hid hall
    clear hall
    by_cases hlt : k < n
    · obtain ⟨b, off, x, rfl, hbs, hx, hcx⟩ := h.at_ hlt
      have HC := Lib.hid (HP.out x (List.mem_of_getElem? hx))
      have HX := Lib.hid hx
      clear hx
      cases hpx : p x
      · have HF := Lib.hid hpx
        clear hpx
        go_wp2_with fail
        refine (HC.out _).mono ?_
        rintro e w' ⟨rfl, rfl⟩
        rw [HF.out]
        go_wp2
        go_round
        case rel => exact ⟨k + 1, by omega, by go_num, fun j y hj hy => by
          by_cases e : j = k
          · subst e
            have := HX.out
            rw [hy] at this
            injection this with this
            rw [this]; exact HF.out
          · exact HA.out j y (by omega) hy⟩
        case measure => simp [intOf]; omega
      · have HF := Lib.hid hpx
        clear hpx
        go_wp2_with fail
        refine (HC.out _).mono ?_
        rintro e w' ⟨rfl, rfl⟩
        rw [HF.out]
        go_wp2
        go_ret
        exact ⟨ret_i _ _ (idxB_some p xs k x HX.out HF.out HA.out).symm, rfl⟩
    · obtain rfl : k = n := by omega
      go_wp2
      go_ret
      refine ⟨ret_i _ _ (idxB_none p xs fun j x hx => HA.out j x ?_ hx).symm, rfl⟩
      rcases Nat.lt_or_ge j k with h9 | h9
      · exact h9
      · rw [List.getElem?_eq_none (by rw [HL.out]; exact h9)] at hx; cases hx
theorem containsFuncM_any (p : Int → Bool) (f : FuncId) (M : Int) (A : Option Addr) (n c : Nat) (xs : List Int) (w : World) (h : Rd w A n xs) (hn : n ≤ 1048576)
    (eg : ∀ args w, (callFunc f args).run Tryd.prog w = .ok (.enter f args) w)
    (hp : ∀ x, x ∈ xs → ∀ ww : World, Calls Tryd.prog f #[.int .i64 M, .int .i64 x] ww fun e w' => e = .returned (.bool (p x)) ∧ ww = w') :
    Calls Tryd.prog 63 #[.slice A n c, .func (.func f) #[.int .i64 M] #[]] w fun e w' => e = .returned (.bool (xs.any p)) ∧ w = w' := by
  have HI := Lib.hid (indexFuncM_any p f M A n c xs w h hn eg hp)
  have HE := Lib.hid (idxB_any p xs)
  obtain ⟨I, hI⟩ : ∃ I, I = idxB p xs := ⟨_, rfl⟩
  rw [← hI] at HI HE
  clear hp hI
  go_enter Tryd.func63, Tryd.ntmps63
  go_wp2_with fail
  refine HI.out.mono ?_
  rintro e w' ⟨rfl, rfl⟩
  go_wp2
  go_ret
  exact ⟨ret_b _ _ HE.out, rfl⟩

theorem at_some (us : List Nat) (k : Nat) (h : k < us.length) : us[k]? = some (us.getD k 0) := by rw [List.getD_eq_getElem?_getD, List.getElem?_eq_getElem h]; rfl
/-- The letters that depend on one of a word, as a set. -/
def depM (rs us : List Nat) : Nat := us.foldl (fun s a => s ||| rs.getD a 0) 0
theorem depM_snoc (rs us : List Nat) (a : Nat) : depM rs (us ++ [a]) = depM rs us ||| rs.getD a 0 := by unfold depM; rw [List.foldl_append]; rfl
theorem depM_lt (rs : List Nat) (n : Nat) (hr : ∀ i, rs.getD i 0 < 2 ^ n) : ∀ us : List Nat, depM rs us < 2 ^ n := by
  intro us
  suffices h : ∀ (us : List Nat) (s : Nat), s < 2 ^ n → us.foldl (fun s a => s ||| rs.getD a 0) s < 2 ^ n from h us 0 (Nat.pos_of_ne_zero (by simp))
  intro us
  induction us with
  | nil => intro s hs; exact hs
  | cons a us ih => intro s hs; exact ih _ (Nat.or_lt_two_pow hs (hr a))
theorem depM_bit (rs us : List Nat) (b : Nat) : (depM rs us).testBit b = depL (RDep rs) us b := by
  suffices h : ∀ (us : List Nat) (s : Nat), (us.foldl (fun s a => s ||| rs.getD a 0) s).testBit b = (s.testBit b || depL (RDep rs) us b) by
    have := h us 0
    rw [Nat.zero_testBit, Bool.false_or] at this
    exact this
  intro us
  induction us with
  | nil => intro s; simp [depL]
  | cons a us ih =>
    intro s
    show (us.foldl _ (s ||| rs.getD a 0)).testBit b = (s.testBit b || (RDep rs a b || depL (RDep rs) us b))
    rw [ih, Nat.testBit_or, Bool.or_assoc]; rfl

/-- Where the first letter that depends on a stands: at the first a exactly if a is a first letter. -/
theorem free_idx (D : Nat → Nat → Bool) (hsym : ∀ a b, D a b = D b a) (a : Nat) (ha : D a a = true) : ∀ us : List Nat, (freeB D us a = true → us.findIdx? (fun y => D a y) = some (us.idxOf a)) ∧ (freeB D us a = false → us.findIdx? (fun y => D a y) = none ∨ ∃ k, us.findIdx? (fun y => D a y) = some k ∧ k < us.length ∧ us.getD k 0 ≠ a)
  | [] => ⟨fun h => by simp [freeB] at h, fun _ => .inl rfl⟩
  | c :: t => by
    obtain ⟨ih1, ih2⟩ := free_idx D hsym a ha t
    rw [free_cons, List.findIdx?_cons]
    by_cases e : c = a
    · subst e
      rw [if_pos rfl]
      refine ⟨fun _ => ?_, fun h => by cases h⟩
      rw [ha, if_pos rfl, List.idxOf_cons_self]
    · rw [if_neg e]
      cases hD : D c a with
      | true =>
        rw [if_pos rfl]
        refine ⟨fun h => (by cases h), fun _ => .inr ⟨0, ?_, by simp, e⟩⟩
        rw [hsym, hD, if_pos rfl]
      | false =>
        rw [if_neg (by decide), hsym, hD, if_neg (by decide)]
        refine ⟨fun h => ?_, fun h => ?_⟩
        · rw [ih1 h]
          show some (t.idxOf a + 1) = _
          rw [List.idxOf_cons, show (c == a) = false from by simpa using e]; rfl
        · rcases ih2 h with h1 | ⟨k, h1, h2, h3⟩
          · exact .inl (by rw [h1]; rfl)
          · exact .inr ⟨k + 1, by rw [h1]; rfl, by rw [List.length_cons]; omega, by simpa using h3⟩
theorem idxB_ints (p : Nat → Bool) (q : Int → Bool) (hpq : ∀ y : Nat, q (y : Int) = p y) (us : List Nat) : idxB q (ints us) = match us.findIdx? p with | some k => (k : Int) | none => -1 := by
  unfold idxB ints
  rw [List.findIdx?_map]
  have : (q ∘ fun n : Nat => (n : Int)) = p := by funext y; exact hpq y
  rw [this]
  cases us.findIdx? p <;> rfl
theorem splice2 {α : Type} (Z X1 X2 : List α) (k : Nat) (hk : X1.length = k) (hZ : Z.length = k + X2.length) : splice (splice Z 0 X1) k X2 = X1 ++ X2 := by
  subst hk
  unfold splice
  have e1 : Z.take 0 ++ (X1 ++ Z.drop (0 + X1.length)) = X1 ++ Z.drop X1.length := by simp
  rw [e1]
  have e2 : (X1 ++ Z.drop X1.length).take X1.length = X1 := by simp
  have e3 : (X1 ++ Z.drop X1.length).drop (X1.length + X2.length) = [] := by
    apply List.drop_eq_nil_of_le; simp; omega
  rw [e2, e3]; simp
theorem made_row {E : TypeId} {w1 : World} {g n : Nat} {Z : List Value} (h : w1.ownsRow g E 1 (.slice (some ⟨g, 0, none⟩) n n) n Z) : w1.heap[g]? = some (.cells Z.toArray E (0, 0)) ∧ Z.length = n := by
  obtain ⟨hl, h⟩ := h
  have hl1 : Z.length = n := by omega
  rcases h with ⟨h, _⟩ | ⟨g', cap, cur, e, _, hc, _, _, hs, ht⟩
  · cases h
  · injection e with e1 e2 e3
    injection e1 with e1
    injection e1 with e1
    subst e1 e3
    rw [Nat.mul_one] at ht hs
    have : cur.toList = Z := by rw [← ht]; exact (List.take_of_length_le (by rw [Array.length_toList]; omega)).symm
    rw [hc, ← this]
    exact ⟨by simp, by rw [this]; exact hl1⟩
theorem own_of_row {E : TypeId} {w : World} {B g n : Nat} {xs : List Int} (hB : B ≤ g) (hm : n ≤ maxLen) (hl : xs.length = n) (h : w.heap[g]? = some (.cells (xs.map (Value.int .i64)).toArray E (0, 0))) : Own E w B (some ⟨g, 0, none⟩) n n xs :=
  ⟨by simp [hl], .inr ⟨g, n, _, rfl, hB, h, Nat.le_refl _, hm, by simp [hl], List.take_of_length_le (by simp [hl])⟩⟩
set_option maxHeartbeats 1600000 in
theorem without_any (R A : Option Addr) (n c m d a : Nat) (rs us : List Nat) (w : World) (h : Rd w R n (ints rs)) (hn : n ≤ 24) (hr : ∀ i, rs.getD i 0 < 2 ^ n) (hsym : ∀ a b, RDep rs a b = RDep rs b a) (href : ∀ a, a < n → RDep rs a a = true)
    (h2 : Rd w A m (ints us)) (hm : m ≤ 1048576) (hmd : m ≤ d) (hus : ∀ x, x ∈ us → x < n) (ha : a < n) :
    Calls Tryd.prog 88 #[.slice R n c, .int .i64 (a : Int), .slice A m d] w fun e w' =>
      (freeB (RDep rs) us a = true ∧ 0 < m ∧ ∃ A' c', e = .returned (.tuple #[.slice A' (m - 1) c', .bool true]) ∧ Own 2 w' w.heap.size A' (m - 1) c' (ints (us.erase a)) ∧ Below w.heap.size w w') ∨
      (freeB (RDep rs) us a = false ∧ e = .returned (.tuple #[.slice none 0 0, .bool false]) ∧ w = w') := by
  obtain ⟨i0, hi, hz0, hz1, hz2⟩ := info_parts info_int
  have HLU : Hid (us.length = m) := Lib.hid (by have := h2.1; rw [ints_len] at this; exact this)
  have HLR : Hid (rs.length = n) := Lib.hid (by have := h.1; rw [ints_len] at this; exact this)
  have h24 : 2 ^ n ≤ 2 ^ 24 := Nat.pow_le_pow_right (by decide) hn
  have hV := Nat.lt_of_lt_of_le (hr a) h24
  have eg : ∀ args w, (callFunc 94 args).run Tryd.prog w = .ok (.enter 94 args) w := fun args w => Go.MuLone.run_callFunc_enter (P := Tryd.prog) Tryd.func94 (by kernel_rfl) rfl args w
  obtain ⟨b2, off2, y, e2, hbs2, hy, hcy⟩ := h.at_ ha
  rw [ints_getD rs a (by rw [HLR.out]; exact ha)] at hy
  injection hy with hy
  have HI := Lib.hid (indexFuncM_any (fun x => (rs.getD a 0).testBit x.toNat) 94 (rs.getD a 0 : Nat) A m d (ints us) w h2 hm eg (fun x hx ww => by
    unfold ints at hx
    obtain ⟨z, hz, rfl⟩ := List.mem_map.1 hx
    have := hus z hz
    exact has_any (rs.getD a 0) z (by omega) (by omega) ww))
  have HX := Lib.hid (idxB_ints (fun z => RDep rs a z) (fun x => (rs.getD a 0).testBit x.toNat) (fun z => rfl) us)
  have HF := Lib.hid (free_idx (RDep rs) hsym a (href a ha) us)
  rw [HX.out] at HI
  obtain ⟨V, hV'⟩ : ∃ V, V = rs.getD a 0 := ⟨_, rfl⟩
  rw [← hV'] at hy HI hV
  subst hy e2
  clear hV' h24 eg HX hr hsym href
  cases hfr : freeB (RDep rs) us a
  · rcases HF.out.2 hfr with h9 | ⟨k, h9, hk, hne⟩
    · rw [h9] at HI
      clear h9
      go_enter Tryd.func88, Tryd.ntmps88
      go_wp2_with fail
      refine HI.out.mono ?_
      rintro e w' ⟨rfl, rfl⟩
      go_wp2_with fail
      go_ret2
      exact .inr ⟨trivial, rfl, rfl⟩
    · rw [h9] at HI
      rw [HLU.out] at hk
      obtain ⟨b, off, x, rfl, hbs, hx, hcx⟩ := h2.at_ hk
      rw [ints_getD us k (by rw [HLU.out]; exact hk)] at hx
      injection hx with hx
      have hne' : (((us.getD k 0 : Nat) : Int) != (a : Int)) = true := by
        simp only [bne_iff_ne, ne_eq]
        intro h; exact hne (by exact_mod_cast h)
      obtain ⟨X, hX⟩ : ∃ X, X = us.getD k 0 := ⟨_, rfl⟩
      rw [← hX] at hx hne'
      subst hx
      clear h9 hX hne
      go_enter Tryd.func88, Tryd.ntmps88
      go_wp2_with fail
      refine HI.out.mono ?_
      rintro e w' ⟨rfl, rfl⟩
      go_wp2_with fail
      go_ret2
      exact .inr ⟨trivial, rfl, rfl⟩
  · have h9 := HF.out.1 hfr
    have hmem := free_mem (RDep rs) a us hfr
    have hk := List.idxOf_lt_length_of_mem hmem
    have hat : us.getD (us.idxOf a) 0 = a := by
      rw [List.getD_eq_getElem?_getD, List.getElem?_eq_getElem hk]
      exact List.getElem_idxOf hk
    have HER := Lib.hid (erase_idx us a hmem)
    rw [h9] at HI
    obtain ⟨k, hk'⟩ : ∃ k, k = us.idxOf a := ⟨_, rfl⟩
    rw [← hk'] at HI hk hat HER
    rw [HLU.out] at hk
    have HER2 : Hid (ints (us.take k) ++ ints (us.drop (k + 1)) = ints (us.erase a)) := Lib.hid (by
      rw [← HER.out, List.eraseIdx_eq_take_drop_succ]; unfold ints; rw [List.map_append])
    have hlE : (ints (us.erase a)).length = m - 1 := by rw [ints_len, List.length_erase_of_mem hmem, HLU.out]
    obtain ⟨b, off, x, rfl, hbs, hx, hcx⟩ := h2.at_ hk
    rw [ints_getD us k (by rw [HLU.out]; exact hk), hat] at hx
    injection hx with hx
    subst hx
    have hT := h2.take_ k (by omega)
    have hD := h2.drop_ (k + 1)
    obtain ⟨X1, hX1⟩ : ∃ X1, X1 = (ints (us.take k)).map (Value.int .i64) := ⟨_, rfl⟩
    obtain ⟨X2, hX2⟩ : ∃ X2, X2 = (ints (us.drop (k + 1))).map (Value.int .i64) := ⟨_, rfl⟩
    have HX1 : Hid (X1.length = k) := Lib.hid (by rw [hX1, List.length_map, ints_len, List.length_take, HLU.out]; omega)
    have HX2 : Hid (X2.length = m - (k + 1)) := Lib.hid (by rw [hX2, List.length_map, ints_len, List.length_drop, HLU.out])
    have HS1 : Hid (∀ wx : World, Below w.heap.size w wx → ∀ j u, X1[j]? = some u → wx.cell? ((⟨b, off, none⟩ : Addr).add j) = some u) := Lib.hid (by rw [hX1]; exact fun wx hwx => rd_news2 hT (fun p hp => hwx.cell hp) hwx.size)
    have HS2 : Hid (∀ wx : World, Below w.heap.size w wx → ∀ j u, X2[j]? = some u → wx.cell? ((⟨b, off + (k + 1), none⟩ : Addr).add j) = some u) := Lib.hid (by rw [hX2]; exact fun wx hwx => rd_news2 hD (fun p hp => hwx.cell hp) hwx.size)
    have HO1 : Hid (∀ v ∈ X1, v.oneCell' = true) := Lib.hid (by rw [hX1]; exact ints_oneCell .i64 _)
    have HO2 : Hid (∀ v ∈ X2, v.oneCell' = true) := Lib.hid (by rw [hX2]; exact ints_oneCell .i64 _)
    have HXX : Hid (X1 ++ X2 = (ints (us.erase a)).map (Value.int .i64)) := Lib.hid (by rw [hX1, hX2, ← List.map_append, HER2.out])
    have HLE := Lib.hid hlE
    clear h9 hk' hat hX1 hX2 hmem hT hD hlE HER HER2
    have hml : m - 1 ≤ maxLen := by unfold maxLen; omega
    have hby : i0.bytes * (m - 1) ≤ 281474976710656 := by rw [hz2]; omega
    have hmI : (m : Int) - 1 = ((m - 1 : Nat) : Int) := by omega
    have hw0 : IntKind.i64.wrap ((m : Int) - 1) = ((m - 1 : Nat) : Int) := by rw [IntWalk.i64_left]; unfold wrap64; omega
    have hw1 : IntKind.i64.wrap ((k : Int) + 1) = (k : Int) + 1 := by rw [IntWalk.i64_left]; unfold wrap64; omega
    have hkd : k ≤ d := by omega
    go_enter Tryd.func88, Tryd.ntmps88
    go_wp2_with fail
    refine HI.out.mono ?_
    rintro e w' ⟨rfl, rfl⟩
    have hsz : (Tryd.prog.info? 2).map (·.size) = some 1 := by rw [hi]; simp [hz1]
    have HN1 : Hid (X1.length = Nat.min k (m - 1)) := Lib.hid (by rw [HX1.out]; exact (Nat.min_eq_left (by omega)).symm)
    have hkm : (k : Int) ≤ ((m - 1 : Nat) : Int) := by omega
    have hI2 : (0 : Int) ≤ (k : Int) + 1 := by omega
    have hI3 : (k : Int) + 1 ≤ (m : Int) := by omega
    have hkm1 : k + 1 ≤ m := by omega
    have hkm2 : k ≤ m - 1 := by omega
    have hkd1 : k + 1 ≤ d := by omega
    have HN2 : Hid (X2.length = Nat.min (m - (k + 1)) (m - 1 - k)) := Lib.hid (by rw [HX2.out]; exact (Nat.min_eq_left (by omega)).symm)
    have HZZ : Hid (∀ w1 : World, ∀ Z : List Value, Z.length = m - 1 → 0 + X1.length ≤ Z.length ∧ k + X2.length ≤ (splice Z 0 X1).length ∧ ∀ w3 : World, w3.heap[w.heap.size]? = some (.cells (splice (splice Z 0 X1) k X2).toArray 2 (0, 0)) → Own 2 w3 w.heap.size (some ⟨w.heap.size, 0, none⟩) (m - 1) (m - 1) (ints (us.erase a))) := Lib.hid (by
      intro w1 Z hZ
      have f1 : 0 + X1.length ≤ Z.length := by rw [HX1.out, hZ]; omega
      refine ⟨f1, by rw [length_splice _ _ _ f1, hZ, HX2.out]; omega, fun w3 hg => own_of_row (Nat.le_refl _) hml HLE.out ?_⟩
      rw [← HXX.out, ← splice2 Z X1 X2 k HX1.out (by rw [hZ, HX2.out]; omega)]; exact hg)
    have HMK : Hid (∀ w1 : World, w1.ownsRow w.heap.size 2 1 (.slice (some ⟨w.heap.size, 0, none⟩) (m - 1) (m - 1)) (m - 1) (madeCells (Value.int .i64 0).cells ((m - 1) * 1)).toList → w.grownBy w1 none → ∃ Z : List Value, w1.heap[w.heap.size]? = some (.cells Z.toArray 2 (0, 0)) ∧ Z.length = m - 1 ∧ Below w.heap.size w w1) := Lib.hid (fun w1 ho hg => ⟨_, (made_row ho).1, (made_row ho).2, (Below.refl _ _).grown hg (Nat.le_refl _) (by simp)⟩)
    clear hmI
    have HPOS : Hid (0 < X2.length → m - 1 ≠ k ∧ d ≠ k + 1) := Lib.hid (by rw [HX2.out]; omega)
    go_wp2_with (first | (at_make; refine wpList_make_full _ rfl _ _ _ rfl w.heap.size 2 i0 (.int .i64 0) 1 Tryd.underlying22 hi hz0 hz1 _ _ ((m - 1 : Nat) : Int) ((m - 1 : Nat) : Int) (m - 1) rfl rfl rfl rfl hby hml (Nat.le_refl _) ?_; intro w1 hown0 hg1; obtain ⟨Z, hrow, hZ, hb1⟩ := HMK.out w1 hown0 hg1; have HZ := Lib.hid (HZZ.out w1 Z hZ); clear hown0 hg1 hZ) | (refine wpList_copy_splice (by rfl) _ _ _ _ (by rfl) 2 Tryd.underlying22 hsz _ _ _ _ _ _ (by rfl) (by rfl) w.heap.size 0 Z 2 hrow X1 HN1.out (fun _ => ⟨rfl, ⟨b, off, none⟩, rfl, HS1.out w1 hb1⟩) HZ.out.1 HO1.out w.heap.size w hb1 (Nat.le_refl _) ?_; intro w2 HG2 hb2))
    have hb2d := hb2.drew
    obtain ⟨DP, hDP⟩ : ∃ DP, (if m - 1 = k then some (⟨w.heap.size, 0, none⟩ : Addr) else some ⟨w.heap.size, k, none⟩) = DP := ⟨_, rfl⟩
    obtain ⟨SP, hSP⟩ : ∃ SP, (if d = k + 1 then some (⟨b, off, none⟩ : Addr) else some ⟨b, off + (k + 1), none⟩) = SP := ⟨_, rfl⟩
    have HP2 : Hid (0 < X2.length → DP = some ⟨w.heap.size, k, none⟩ ∧ ∃ ad, SP = some ad ∧ ∀ j v, X2[j]? = some v → w2.drew.cell? (ad.add j) = some v) := Lib.hid (fun h9 => ⟨by rw [← hDP]; exact if_neg (HPOS.out h9).1, ⟨b, off + (k + 1), none⟩, by rw [← hSP]; exact if_neg (HPOS.out h9).2, HS2.out _ hb2d⟩)
    go_simp
    go_region_law (first | (refine step_copy_splice rfl (.tmp 38) (.tmp 42) 22 22 rfl 2 Tryd.underlying22 hsz DP SP (m - 1 - k) (m - 1 - k) (m - (k + 1)) (d - (k + 1)) (by go_simp) (by go_simp) w.heap.size k (splice Z 0 X1) 2 HG2.out X2 HN2.out HP2.out HZ.out.2.1 HO2.out w.heap.size w hb2d (Nat.le_refl _) ?_; intro w3 HG3 hb3))
    all_goals (
      go_wp2_with fail
      go_ret2
      exact .inl ⟨trivial, by omega, _, _, rfl, HZ.out.2.2 _ HG3.out, hb3⟩)
end Go.Proofs.YtbleimcajpelhaaDoor
namespace Go.Proofs.YtbleimcajpelhaaDoor
open Go Go.RowKit
set_option linter.unusedVariables false
set_option maxRecDepth 100000

end Go.Proofs.YtbleimcajpelhaaDoor
namespace Go.Proofs.YtbleimcajpelhaaDoor
open Go Go.RowKit
set_option linter.unusedVariables false
set_option maxRecDepth 100000

theorem cut_no (D : Nat → Nat → Bool) (a : Nat) (u v : List Nat) (h : freeB D v a = false) : cutM D (a :: u) v = none := by
  show (if freeB D v a = true then _ else none) = none
  rw [h]; rfl
theorem cut_yes (D : Nat → Nat → Bool) (a : Nat) (u v : List Nat) (h : freeB D v a = true) : cutM D (a :: u) v = cutM D u (v.erase a) := by
  show (if freeB D v a = true then cutM D u (v.erase a) else none) = _
  rw [h, if_pos rfl]
def DCutP (V : Option (List Nat)) (w : World) (e : Ending) (w' : World) : Prop :=
  ∃ A N c, e = .returned (.tuple #[.slice A N c, .bool V.isSome]) ∧ Rd w' A N (ints (V.getD [])) ∧ N = (V.getD []).length ∧ N ≤ c ∧ Below w.heap.size w w'
def DCutPost (D : Nat → Nat → Bool) (us vs : List Nat) (w : World) (e : Ending) (w' : World) : Prop := DCutP (cutM D us vs) w e w'
end Go.Proofs.YtbleimcajpelhaaDoor
namespace Go.Proofs.YtbleimcajpelhaaDoor
open Go Go.RowKit
set_option linter.unusedVariables false
set_option maxRecDepth 100000

end Go.Proofs.YtbleimcajpelhaaDoor
namespace Go.Proofs.YtbleimcajpelhaaDoor
open Go Go.RowKit
set_option linter.unusedVariables false
set_option maxRecDepth 100000

end Go.Proofs.YtbleimcajpelhaaDoor
