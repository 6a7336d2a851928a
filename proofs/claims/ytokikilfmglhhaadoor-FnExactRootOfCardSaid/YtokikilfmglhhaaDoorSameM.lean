/-
  When two words are words of one trace: taking letters away from the front, projections on pairs, normal forms: plain mathematics.
-/
import Derived.Test.YtokikilfmglhhaaDoorNfM
namespace Go.Proofs.YtokikilfmglhhaaDoor
open Go.RowKit
set_option linter.unusedVariables false
set_option maxRecDepth 100000

/-- The letters x and y of a word. -/
def prj (u : List Nat) (x y : Nat) : List Nat := u.filter fun z => decide (z = x) || decide (z = y)
theorem prj_in (c : Nat) (u : List Nat) (x y : Nat) (h : c = x ∨ c = y) : prj (c :: u) x y = c :: prj u x y := by
  unfold prj
  rw [List.filter_cons_of_pos]
  rcases h with h | h <;> simp [h]
theorem prj_out (c : Nat) (u : List Nat) (x y : Nat) (h1 : c ≠ x) (h2 : c ≠ y) : prj (c :: u) x y = prj u x y := by
  unfold prj
  rw [List.filter_cons_of_neg]
  simp [h1, h2]
def Eqv (D : Nat → Nat → Bool) (u v : List Nat) : Prop := ∀ x y, D x y = true → prj u x y = prj v x y
theorem Eqv.refl (D : Nat → Nat → Bool) (u : List Nat) : Eqv D u u := fun _ _ _ => rfl
theorem Eqv.symm {D : Nat → Nat → Bool} {u v : List Nat} (h : Eqv D u v) : Eqv D v u := fun x y d => (h x y d).symm
theorem Eqv.trans {D : Nat → Nat → Bool} {u v t : List Nat} (h : Eqv D u v) (h2 : Eqv D v t) : Eqv D u t := fun x y d => (h x y d).trans (h2 x y d)
theorem Eqv.cons {D : Nat → Nat → Bool} {u v : List Nat} (h : Eqv D u v) (a : Nat) : Eqv D (a :: u) (a :: v) := fun x y d => by
  by_cases e : a = x ∨ a = y
  · rw [prj_in _ _ _ _ e, prj_in _ _ _ _ e, h x y d]
  · rw [prj_out _ _ _ _ (fun h => e (.inl h)) (fun h => e (.inr h)), prj_out _ _ _ _ (fun h => e (.inl h)) (fun h => e (.inr h)), h x y d]
theorem Eqv.tail {D : Nat → Nat → Bool} {u v : List Nat} {a : Nat} (h : Eqv D (a :: u) (a :: v)) : Eqv D u v := fun x y d => by
  have := h x y d
  by_cases e : a = x ∨ a = y
  · rw [prj_in _ _ _ _ e, prj_in _ _ _ _ e] at this
    injection this
  · rwa [prj_out _ _ _ _ (fun h => e (.inl h)) (fun h => e (.inr h)), prj_out _ _ _ _ (fun h => e (.inl h)) (fun h => e (.inr h))] at this
theorem mem_prj (D : Nat → Nat → Bool) (u : List Nat) (a : Nat) : a ∈ u ↔ a ∈ prj u a a := by
  unfold prj
  rw [List.mem_filter]; simp
theorem free_cons (D : Nat → Nat → Bool) (c : Nat) (us : List Nat) (a : Nat) : freeB D (c :: us) a = if c = a then true else if D c a then false else freeB D us a := rfl
theorem free_prj (D : Nat → Nat → Bool) (a : Nat) : ∀ u : List Nat, freeB D u a = true ↔ a ∈ u ∧ ∀ b, D b a = true → (prj u b a).head? = some a
  | [] => ⟨fun h => (by simp [freeB] at h), fun h => (by cases h.1)⟩
  | c :: us => by
    have ih := free_prj D a us
    rw [free_cons]
    by_cases e : c = a
    · rw [if_pos e]
      refine ⟨fun _ => ⟨by rw [e]; exact List.mem_cons_self, fun b _ => ?_⟩, fun _ => rfl⟩
      rw [prj_in _ _ _ _ (.inr e), e]; rfl
    · rw [if_neg e]
      cases hD : D c a with
      | true =>
        rw [if_pos rfl]
        refine ⟨fun h => (by cases h), fun ⟨_, h⟩ => ?_⟩
        have := h c hD
        rw [prj_in _ _ _ _ (.inl rfl)] at this
        injection this with this
        exact absurd this e
      | false =>
        rw [if_neg (by decide), ih]
        have hne : ∀ b, D b a = true → c ≠ b := fun b hb h => by rw [← h, hD] at hb; cases hb
        constructor
        · rintro ⟨h1, h2⟩
          exact ⟨List.mem_cons_of_mem _ h1, fun b hb => by rw [prj_out _ _ _ _ (hne b hb) e]; exact h2 b hb⟩
        · rintro ⟨h1, h2⟩
          refine ⟨?_, fun b hb => by have := h2 b hb; rwa [prj_out _ _ _ _ (hne b hb) e] at this⟩
          rcases List.mem_cons.1 h1 with h | h
          · exact absurd h.symm e
          · exact h
theorem Eqv.mem {D : Nat → Nat → Bool} {u v : List Nat} (h : Eqv D u v) {a : Nat} (ha : D a a = true) : a ∈ u ↔ a ∈ v := by
  rw [mem_prj D u a, mem_prj D v a, h a a ha]
theorem Eqv.free {D : Nat → Nat → Bool} {u v : List Nat} (h : Eqv D u v) {a : Nat} (ha : D a a = true) : freeB D u a = freeB D v a := by
  have : freeB D u a = true ↔ freeB D v a = true := by
    rw [free_prj, free_prj, h.mem ha]
    exact ⟨fun ⟨h1, h2⟩ => ⟨h1, fun b hb => by rw [← h b a hb]; exact h2 b hb⟩, fun ⟨h1, h2⟩ => ⟨h1, fun b hb => by rw [h b a hb]; exact h2 b hb⟩⟩
  cases h1 : freeB D u a <;> cases h2 : freeB D v a
  · rfl
  · exact absurd (this.2 h2) (by rw [h1]; decide)
  · exact absurd (this.1 h1) (by rw [h2]; decide)
  · rfl
/-- A letter that may come first can be put there. -/
theorem free_front (D : Nat → Nat → Bool) (hsym : ∀ a b, D a b = D b a) (a : Nat) : ∀ v : List Nat, freeB D v a = true → Eqv D (a :: v.erase a) v
  | [], h => by simp [freeB] at h
  | c :: us, h => by
    rw [free_cons] at h
    by_cases e : c = a
    · subst e
      rw [List.erase_cons_head]; exact Eqv.refl _ _
    · rw [if_neg e] at h
      cases hD : D c a with
      | true => rw [hD] at h; simp at h
      | false =>
        rw [hD] at h
        have ih := free_front D hsym a us (by simpa using h)
        intro x y d
        rw [List.erase_cons_tail (by simpa using e)]
        have ihx := ih x y d
        by_cases hc : c = x ∨ c = y
        · by_cases ha : a = x ∨ a = y
          · exfalso
            have : D c a = true := by
              rcases hc with hc | hc <;> rcases ha with ha | ha
              · exact absurd (hc.trans ha.symm) e
              · rw [hc, ha]; exact d
              · rw [hc, ha, hsym]; exact d
              · exact absurd (hc.trans ha.symm) e
            rw [hD] at this; cases this
          · rw [prj_out a _ _ _ (fun h => ha (.inl h)) (fun h => ha (.inr h))] at ihx ⊢
            rw [prj_in _ _ _ _ hc, prj_in _ _ _ _ hc, ihx]
        · have h1 : c ≠ x := fun h => hc (.inl h)
          have h2 : c ≠ y := fun h => hc (.inr h)
          rw [prj_out c us _ _ h1 h2, ← ihx]
          by_cases ha : a = x ∨ a = y
          · rw [prj_in _ _ _ _ ha, prj_in _ _ _ _ ha, prj_out c _ _ _ h1 h2]
          · have h3 : a ≠ x := fun h => ha (.inl h)
            have h4 : a ≠ y := fun h => ha (.inr h)
            rw [prj_out _ _ _ _ h3 h4, prj_out _ _ _ _ h3 h4, prj_out c _ _ _ h1 h2]
theorem Eqv.nil {D : Nat → Nat → Bool} {n : Nat} {v : List Nat} (href : ∀ a, a < n → D a a = true) (hv : ∀ x, x ∈ v → x < n) (h : Eqv D [] v) : v = [] := by
  cases v with
  | nil => rfl
  | cons c us =>
    have := (h.mem (href c (hv c List.mem_cons_self))).2 List.mem_cons_self
    cases this
theorem Eqv.step {D : Nat → Nat → Bool} {u v : List Nat} {a : Nat} (hsym : ∀ a b, D a b = D b a) (ha : D a a = true) (h : Eqv D (a :: u) v) : freeB D v a = true ∧ Eqv D u (v.erase a) := by
  have hf : freeB D v a = true := by rw [← h.free ha, free_cons, if_pos rfl]
  exact ⟨hf, Eqv.tail (h.trans (free_front D hsym a v hf).symm)⟩
theorem Eqv.len {D : Nat → Nat → Bool} {n : Nat} (hsym : ∀ a b, D a b = D b a) (href : ∀ a, a < n → D a a = true) : ∀ (u v : List Nat), (∀ x, x ∈ u → x < n) → (∀ x, x ∈ v → x < n) → Eqv D u v → u.length = v.length
  | [], v, _, hv, h => by rw [Eqv.nil href hv h]
  | a :: u, v, hu, hv, h => by
    obtain ⟨hf, he⟩ := h.step hsym (href a (hu a List.mem_cons_self))
    have hm := free_mem D a v hf
    have ih := Eqv.len hsym href u (v.erase a) (fun x hx => hu x (List.mem_cons_of_mem _ hx)) (fun x hx => hv x (List.mem_of_mem_erase hx)) he
    rw [List.length_erase_of_mem hm] at ih
    have := List.length_pos_of_mem hm
    rw [List.length_cons]; omega
theorem Eqv.erase {D : Nat → Nat → Bool} {u v : List Nat} {a : Nat} (hsym : ∀ a b, D a b = D b a) (ha : D a a = true) (h : Eqv D u v) (hf : freeB D u a = true) : Eqv D (u.erase a) (v.erase a) :=
  Eqv.tail ((free_front D hsym a u hf).trans (h.trans (free_front D hsym a v (by rw [← h.free ha]; exact hf)).symm))
theorem Eqv.least {D : Nat → Nat → Bool} {n : Nat} {u v : List Nat} (href : ∀ a, a < n → D a a = true) (h : Eqv D u v) : leastFree D n u = leastFree D n v := by
  have key : ∀ a, a < n → freeB D u a = freeB D v a := fun a ha => h.free (href a ha)
  cases h1 : leastFree D n u with
  | some a =>
    obtain ⟨h2, h3, h4⟩ := (leastFree_iff D n u a).1 h1
    exact ((leastFree_iff D n v a).2 ⟨h2, by rw [← key a h2]; exact h3, fun b hb => by rw [← key b (by omega)]; exact h4 b hb⟩).symm
  | none =>
    cases h2 : leastFree D n v with
    | none => rfl
    | some a =>
      obtain ⟨h3, h4, h5⟩ := (leastFree_iff D n v a).1 h2
      have := (leastFree_iff D n u a).2 ⟨h3, by rw [key a h3]; exact h4, fun b hb => by rw [key b (by omega)]; exact h5 b hb⟩
      rw [h1] at this; cases this
theorem Eqv.nfGo_ {D : Nat → Nat → Bool} {n : Nat} (hsym : ∀ a b, D a b = D b a) (href : ∀ a, a < n → D a a = true) : ∀ (k : Nat) (u v : List Nat), Eqv D u v → nfGo D n k u = nfGo D n k v
  | 0, _, _, _ => rfl
  | k + 1, u, v, h => by
    show (match leastFree D n u with | none => [] | some a => a :: nfGo D n k (u.erase a)) = (match leastFree D n v with | none => [] | some a => a :: nfGo D n k (v.erase a))
    rw [h.least href]
    cases h1 : leastFree D n v with
    | none => rfl
    | some a =>
      obtain ⟨h2, h3, _⟩ := (leastFree_iff D n v a).1 h1
      show a :: _ = a :: _
      rw [Eqv.nfGo_ hsym href k (u.erase a) (v.erase a) (h.erase hsym (href a h2) (by rw [h.free (href a h2)]; exact h3))]
theorem least_some {D : Nat → Nat → Bool} {n : Nat} {u : List Nat} (hu : ∀ x, x ∈ u → x < n) (hne : u ≠ []) : ∃ a, leastFree D n u = some a := by
  cases h : leastFree D n u with
  | some a => exact ⟨a, rfl⟩
  | none =>
    cases u with
    | nil => exact absurd rfl hne
    | cons c us =>
      unfold leastFree at h
      rw [List.find?_eq_none] at h
      have := h c (List.mem_range.2 (hu c List.mem_cons_self))
      rw [free_cons, if_pos rfl] at this
      exact absurd rfl this
theorem nfGo_eqv {D : Nat → Nat → Bool} {n : Nat} (hsym : ∀ a b, D a b = D b a) (href : ∀ a, a < n → D a a = true) : ∀ (k : Nat) (u : List Nat), u.length = k → (∀ x, x ∈ u → x < n) → Eqv D (nfGo D n k u) u
  | 0, u, hk, _ => by
    have : u = [] := List.eq_nil_of_length_eq_zero hk
    subst this; exact Eqv.refl _ _
  | k + 1, u, hk, hu => by
    obtain ⟨a, ha⟩ := least_some (D := D) hu (fun e => by rw [e] at hk; simp at hk)
    obtain ⟨h2, h3, _⟩ := (leastFree_iff D n u a).1 ha
    show Eqv D (match leastFree D n u with | none => [] | some a => a :: nfGo D n k (u.erase a)) u
    rw [ha]
    have hm := free_mem D a u h3
    exact ((nfGo_eqv hsym href k (u.erase a) (by rw [List.length_erase_of_mem hm]; omega) (fun x hx => hu x (List.mem_of_mem_erase hx))).cons a).trans (free_front D hsym a u h3)
theorem eqv_iff_nf {D : Nat → Nat → Bool} {n : Nat} (hsym : ∀ a b, D a b = D b a) (href : ∀ a, a < n → D a a = true) (u v : List Nat) (hu : ∀ x, x ∈ u → x < n) (hv : ∀ x, x ∈ v → x < n) : Eqv D u v ↔ nfM D n u = nfM D n v := by
  constructor
  · intro h
    unfold nfM
    rw [Eqv.len hsym href u v hu hv h]
    exact Eqv.nfGo_ hsym href _ u v h
  · intro h
    have h1 := nfGo_eqv hsym href u.length u rfl hu
    have h2 := nfGo_eqv hsym href v.length v rfl hv
    unfold nfM at h
    rw [h] at h1
    exact h1.symm.trans h2
/-- The model's way: each letter of a word is taken away from the front of the other one. -/
def takeB (D : Nat → Nat → Bool) : List Nat → List Nat → Bool
  | [], v => v.isEmpty
  | a :: u, v => freeB D v a && takeB D u (v.erase a)
theorem same_iff {D : Nat → Nat → Bool} {n : Nat} (hsym : ∀ a b, D a b = D b a) (href : ∀ a, a < n → D a a = true) : ∀ (u v : List Nat), (∀ x, x ∈ u → x < n) → (∀ x, x ∈ v → x < n) → (takeB D u v = true ↔ Eqv D u v)
  | [], v, _, hv => by
    constructor
    · intro h
      have : v = [] := List.isEmpty_iff.1 h
      rw [this]; exact Eqv.refl _ _
    · intro h
      exact List.isEmpty_iff.2 (Eqv.nil href hv h)
  | a :: u, v, hu, hv => by
    show (freeB D v a && takeB D u (v.erase a)) = true ↔ _
    rw [Bool.and_eq_true, same_iff hsym href u (v.erase a) (fun x hx => hu x (List.mem_cons_of_mem _ hx)) (fun x hx => hv x (List.mem_of_mem_erase hx))]
    constructor
    · rintro ⟨h1, h2⟩
      exact (h2.cons a).trans (free_front D hsym a v h1)
    · intro h
      exact h.step hsym (href a (hu a List.mem_cons_self))
theorem same_nf {D : Nat → Nat → Bool} {n : Nat} (hsym : ∀ a b, D a b = D b a) (href : ∀ a, a < n → D a a = true) (u v : List Nat) (hu : ∀ x, x ∈ u → x < n) (hv : ∀ x, x ∈ v → x < n) : takeB D u v = decide (nfM D n u = nfM D n v) := by
  have h1 := same_iff hsym href u v hu hv
  have h2 := eqv_iff_nf hsym href u v hu hv
  cases h : takeB D u v
  · symm; rw [decide_eq_false_iff_not, ← h2, ← h1, h]; decide
  · symm; rw [decide_eq_true_eq, ← h2, ← h1]; exact h
end Go.Proofs.YtokikilfmglhhaaDoor
