/-
  Plain mathematics of alphabets that are made by joining letters: parts and products.
-/
import Derived.Test.YtcojodkcpemfdaaDoorAlMath
namespace Go.Proofs.YtcojodkcpemfdaaDoor
open Go.RowKit
set_option linter.unusedVariables false
set_option maxRecDepth 100000

def mkM (p : Nat → Bool) : Nat → Nat
  | 0 => 0
  | t + 1 => if p t = true then mkM p t ||| 2 ^ t else mkM p t
theorem mkM_bit (p : Nat → Bool) (t b : Nat) : (mkM p t).testBit b = true ↔ b < t ∧ p b = true := by
  induction t with
  | zero => simp [mkM]
  | succ t ih =>
    unfold mkM
    split
    · rename_i h
      rw [Nat.testBit_or, Bool.or_eq_true, ih, p2_bit]
      constructor
      · rintro (⟨h1, h2⟩ | rfl)
        · exact ⟨by omega, h2⟩
        · exact ⟨by omega, h⟩
      · rintro ⟨h1, h2⟩
        by_cases e : t = b
        · exact .inr e
        · exact .inl ⟨by omega, h2⟩
    · rename_i h
      rw [ih]
      constructor
      · rintro ⟨h1, h2⟩; exact ⟨by omega, h2⟩
      · rintro ⟨h1, h2⟩
        refine ⟨?_, h2⟩
        by_cases e : t = b
        · subst e; exact absurd h2 h
        · omega
theorem mkM_lt (p : Nat → Bool) (t m : Nat) (h : t ≤ m) : mkM p t < 2 ^ m := by
  induction t with
  | zero => exact p2_pos m
  | succ t ih =>
    unfold mkM
    split
    · exact Nat.or_lt_two_pow (ih (by omega)) (Nat.pow_lt_pow_right (by decide) (by omega))
    · exact ih (by omega)
def relM (N : Nat) (p : Nat → Nat → Bool) : List Nat := (List.range N).map fun i => mkM (p i) N
theorem relM_len (N : Nat) (p : Nat → Nat → Bool) : (relM N p).length = N := by simp [relM]
theorem relM_at (N : Nat) (p : Nat → Nat → Bool) (i : Nat) (h : i < N) : (relM N p).getD i 0 = mkM (p i) N := getD_range_map _ _ _ h
theorem relM_lt (N : Nat) (p : Nat → Nat → Bool) (i : Nat) : (relM N p).getD i 0 < 2 ^ N := by
  rcases Nat.lt_or_ge i N with h | h
  · rw [relM_at N p i h]; exact mkM_lt _ _ _ (Nat.le_refl _)
  · rw [getD_past _ N i (relM_len N p) h]; exact p2_pos N
theorem relM_R (N : Nat) (p : Nat → Nat → Bool) (i b : Nat) (hi : i < N) : R (relM N p) i b ↔ b < N ∧ p i b = true := by
  unfold R; rw [relM_at N p i hi, mkM_bit]
/-- A list of masks with the bits of p is relM. -/
theorem relM_eq (cs : List Nat) (N : Nat) (p : Nat → Nat → Bool) (hl : cs.length = N) (hc : ∀ i, cs.getD i 0 < 2 ^ N) (h : ∀ i b, i < N → b < N → (R cs i b ↔ p i b = true)) : cs = relM N p :=
  masks_eq cs (relM N p) N hl (relM_len N p) hc (relM_lt N p) fun i b hi hb => by
    show R cs i b ↔ R (relM N p) i b
    rw [h i b hi hb, relM_R N p i b hi]
    exact ⟨fun e => ⟨hb, e⟩, fun e => e.2⟩

/-- Letters alone. -/
def freeM (N : Nat) : List Nat := (List.range N).map fun i => 2 ^ i
theorem freeM_len (N : Nat) : (freeM N).length = N := by simp [freeM]
theorem freeM_at (N i : Nat) (h : i < N) : (freeM N).getD i 0 = 2 ^ i := getD_range_map _ _ _ h
theorem freeM_lt (N i : Nat) : (freeM N).getD i 0 < 2 ^ N := by
  rcases Nat.lt_or_ge i N with h | h
  · rw [freeM_at N i h]; exact Nat.pow_lt_pow_right (by decide) h
  · rw [getD_past _ N i (freeM_len N) h]; exact p2_pos N
theorem freeM_next (k : Nat) : freeM (k + 1) = freeM k ++ [2 ^ k] := by unfold freeM; rw [List.range_succ]; simp

def Before (a b i k : Nat) : Prop := i < a ∨ (i = a ∧ k < b)
/-- The letters so far: those alone, and the pairs that came before (a, b). -/
def Joined (zs : List Nat) (N : Nat) (D : Nat → Nat → Bool) (a b : Nat) : Prop :=
  zs.length = N ∧ (∀ i, zs.getD i 0 < 2 ^ N) ∧ ∀ i k, i < N → k < N → (R zs i k ↔ i = k ∨ (Before a b i k ∧ D i k = true) ∨ (Before a b k i ∧ D k i = true))
theorem joined_start (N : Nat) (D : Nat → Nat → Bool) : Joined (freeM N) N D 0 0 := by
  refine ⟨freeM_len N, freeM_lt N, fun i k hi hk => ?_⟩
  unfold R
  rw [freeM_at N i hi, p2_bit]
  constructor
  · exact fun h => .inl h
  · rintro (h | ⟨h, _⟩ | ⟨h, _⟩)
    · exact h
    · unfold Before at h; omega
    · unfold Before at h; omega
theorem joined_row {zs : List Nat} {N : Nat} {D : Nat → Nat → Bool} {a : Nat} (h : Joined zs N D a N) : Joined zs N D (a + 1) 0 := by
  refine ⟨h.1, h.2.1, fun i k hi hk => ?_⟩
  rw [h.2.2 i k hi hk]
  have e : ∀ i k, i < N → k < N → (Before a N i k ↔ Before (a + 1) 0 i k) := by intro i k hi hk; unfold Before; omega
  rw [e i k hi hk, e k i hk hi]
theorem joined_no {zs : List Nat} {N : Nat} {D : Nat → Nat → Bool} {a b : Nat} (h : Joined zs N D a b) (hd : D a b = false) : Joined zs N D a (b + 1) := by
  refine ⟨h.1, h.2.1, fun i k hi hk => ?_⟩
  rw [h.2.2 i k hi hk]
  have e : ∀ i k, (Before a (b + 1) i k ∧ D i k = true) ↔ (Before a b i k ∧ D i k = true) := by
    intro i k
    constructor
    · rintro ⟨h1, h2⟩
      refine ⟨?_, h2⟩
      unfold Before at h1 ⊢
      rcases h1 with h1 | ⟨rfl, h1⟩
      · exact .inl h1
      · by_cases e : k = b
        · subst e; rw [hd] at h2; cases h2
        · exact .inr ⟨rfl, by omega⟩
    · rintro ⟨h1, h2⟩
      refine ⟨?_, h2⟩
      unfold Before at h1 ⊢; omega
  rw [e i k, e k i]
def joinM (zs : List Nat) (a b : Nat) : List Nat :=
  let ys := zs.set a (zs.getD a 0 ||| 2 ^ b)
  ys.set b (ys.getD b 0 ||| 2 ^ a)
theorem joinM_at (zs : List Nat) (a b i : Nat) (ha : a < zs.length) (hb : b < zs.length) (k : Nat) :
    ((joinM zs a b).getD i 0).testBit k = true ↔ (zs.getD i 0).testBit k = true ∨ (i = a ∧ k = b) ∨ (i = b ∧ k = a) := by
  unfold joinM
  rw [getD_set _ _ _ _ (by rw [List.length_set]; exact hb), getD_set _ _ _ _ ha, getD_set _ _ _ _ ha]
  by_cases h1 : i = b
  · subst h1
    rw [if_pos rfl, Nat.testBit_or, Bool.or_eq_true, p2_bit]
    by_cases h2 : i = a
    · subst h2
      rw [if_pos rfl, Nat.testBit_or, Bool.or_eq_true, p2_bit]
      constructor
      · rintro ((h | h) | h)
        · exact .inl h
        · exact .inr (.inl ⟨rfl, h.symm⟩)
        · exact .inr (.inl ⟨rfl, h.symm⟩)
      · rintro (h | ⟨_, h⟩ | ⟨_, h⟩)
        · exact .inl (.inl h)
        · exact .inr h.symm
        · exact .inr h.symm
    · rw [if_neg h2]
      constructor
      · rintro (h | h)
        · exact .inl h
        · exact .inr (.inr ⟨rfl, h.symm⟩)
      · rintro (h | ⟨h, _⟩ | ⟨_, h⟩)
        · exact .inl h
        · exact absurd h h2
        · exact .inr h.symm
  · rw [if_neg h1]
    by_cases h2 : i = a
    · subst h2
      rw [if_pos rfl, Nat.testBit_or, Bool.or_eq_true, p2_bit]
      constructor
      · rintro (h | h)
        · exact .inl h
        · exact .inr (.inl ⟨rfl, h.symm⟩)
      · rintro (h | ⟨_, h⟩ | ⟨h, _⟩)
        · exact .inl h
        · exact .inr h.symm
        · exact absurd h h1
    · rw [if_neg h2]
      constructor
      · exact fun h => .inl h
      · rintro (h | ⟨h, _⟩ | ⟨h, _⟩)
        · exact h
        · exact absurd h h2
        · exact absurd h h1
theorem joinM_len (zs : List Nat) (a b : Nat) : (joinM zs a b).length = zs.length := by simp [joinM]
theorem joined_yes {zs : List Nat} {N : Nat} {D : Nat → Nat → Bool} {a b : Nat} (h : Joined zs N D a b) (hd : D a b = true) (ha : a < N) (hb : b < N) : Joined (joinM zs a b) N D a (b + 1) := by
  refine ⟨by rw [joinM_len, h.1], fun i => ?_, fun i k hi hk => ?_⟩
  · refine Nat.lt_pow_two_of_testBit _ fun k hk => ?_
    cases e : ((joinM zs a b).getD i 0).testBit k with
    | false => rfl
    | true =>
      exfalso
      rcases (joinM_at zs a b i (by have := h.1; omega) (by have := h.1; omega) k).1 e with h1 | ⟨_, h1⟩ | ⟨_, h1⟩
      · have := bit_lt (h.2.1 i) h1; omega
      · omega
      · omega
  · show ((joinM zs a b).getD i 0).testBit k = true ↔ _
    rw [joinM_at zs a b i (by have := h.1; omega) (by have := h.1; omega) k]
    have := h.2.2 i k hi hk
    unfold R at this
    rw [this]
    have e : ∀ i k, (Before a (b + 1) i k ∧ D i k = true) ↔ (Before a b i k ∧ D i k = true) ∨ (i = a ∧ k = b) := by
      intro i k
      constructor
      · rintro ⟨h1, h2⟩
        unfold Before at h1 ⊢
        rcases h1 with h1 | ⟨rfl, h1⟩
        · exact .inl ⟨.inl h1, h2⟩
        · by_cases e : k = b
          · exact .inr ⟨rfl, e⟩
          · exact .inl ⟨.inr ⟨rfl, by omega⟩, h2⟩
      · rintro (⟨h1, h2⟩ | ⟨rfl, rfl⟩)
        · refine ⟨?_, h2⟩
          unfold Before at h1 ⊢; omega
        · exact ⟨.inr ⟨rfl, by omega⟩, hd⟩
    rw [e i k, e k i]
    constructor
    · rintro ((h1 | h1 | h1) | ⟨h1, h2⟩ | ⟨h1, h2⟩)
      · exact .inl h1
      · exact .inr (.inl (.inl h1))
      · exact .inr (.inr (.inl h1))
      · exact .inr (.inl (.inr ⟨h1, h2⟩))
      · exact .inr (.inr (.inr ⟨h2, h1⟩))
    · rintro (h1 | (h1 | ⟨h1, h2⟩) | (h1 | ⟨h1, h2⟩))
      · exact .inl (.inl h1)
      · exact .inl (.inr (.inl h1))
      · exact .inr (.inl ⟨h1, h2⟩)
      · exact .inl (.inr (.inr h1))
      · exact .inr (.inr ⟨h2, h1⟩)
/-- Behind all pairs of a symmetric and reflexive D. -/
theorem joined_end {zs : List Nat} {N : Nat} {D : Nat → Nat → Bool} (h : Joined zs N D N 0) (hr : ∀ i, i < N → D i i = true) (hs : ∀ i k, i < N → k < N → D i k = D k i) : zs = relM N D := by
  refine relM_eq zs N D h.1 h.2.1 fun i b hi hb => ?_
  rw [h.2.2 i b hi hb, hs b i hb hi]
  have e : ∀ i k, i < N → k < N → Before N 0 i k := by intro i k hi hk; exact .inl hi
  constructor
  · rintro (rfl | ⟨_, h⟩ | ⟨_, h⟩)
    · exact hr i hi
    · exact h
    · exact h
  · exact fun h => .inr (.inl ⟨e i b hi hb, h⟩)
end Go.Proofs.YtcojodkcpemfdaaDoor
