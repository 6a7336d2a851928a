/-
  Plain mathematics of the order of a word's places: what is reached, by rows and by columns; first and last letters. A word with the order of its places: the program's block, by a contract. The order of a word's places, the model's side: l04Order, l04Code. The positions of a word's trace: positionsIn, positionsWith, order, all, concurrent; l04Code: by contracts. The letters at the places that are alone in their rows: lettersAlone, by a contract. Answers of an alphabet and a word: a number and a code. OrderOf: both sides. FirstLetters, LastLetters: both sides. Plain mathematics for the named laws: the greatest prefix with letters of a set, and what follows it.
-/
import Derived.Test.YtcojodkcpemfdaaDoorM3
import Derived.Test.YtcojodkcpemfdaaDoorM1
import Derived.Deep.CutRange
import Derived.Test.YtcojodkcpemfdaaDoorM2
import Derived.Deep.MidRow
import Derived.Deep.RegionWith
import Derived.Test.YtcojodkcpemfdaaDoorM4
namespace Go.Proofs.YtcojodkcpemfdaaDoor
open Go.RowKit
set_option linter.unusedVariables false
set_option maxRecDepth 100000

/-- The places reached from i, of those below n. -/
def upGo (D : Nat → Nat → Bool) (us : List Nat) (i : Nat) : Nat → Nat
  | 0 => 0
  | k + 1 => if k = i then 2 ^ i else if (List.range k).any (fun j => (upGo D us i k).testBit j && D (us.getD j 0) (us.getD k 0)) = true then upGo D us i k ||| 2 ^ k else upGo D us i k
def lqB (D : Nat → Nat → Bool) (us : List Nat) (i k : Nat) : Bool := (upGo D us i (k + 1)).testBit k
theorem upGo_low (D : Nat → Nat → Bool) (us : List Nat) (i : Nat) : ∀ n, n ≤ i → upGo D us i n = 0
  | 0, _ => rfl
  | k + 1, h => by
    have ih := upGo_low D us i k (by omega)
    show (if k = i then 2 ^ i else if (List.range k).any (fun j => (upGo D us i k).testBit j && D (us.getD j 0) (us.getD k 0)) = true then upGo D us i k ||| 2 ^ k else upGo D us i k) = 0
    rw [if_neg (by omega), ih, if_neg]
    simp
theorem upGo_self (D : Nat → Nat → Bool) (us : List Nat) (i : Nat) : upGo D us i (i + 1) = 2 ^ i := by
  show (if i = i then 2 ^ i else _) = _
  rw [if_pos rfl]
theorem upGo_bit (D : Nat → Nat → Bool) (us : List Nat) (i : Nat) : ∀ n k, (upGo D us i n).testBit k = true ↔ k < n ∧ lqB D us i k = true
  | 0, k => by
    show (0 : Nat).testBit k = true ↔ _
    rw [Nat.zero_testBit]
    exact ⟨fun h => (by cases h), fun h => absurd h.1 (by omega)⟩
  | n + 1, k => by
    have ih := upGo_bit D us i n k
    rcases Nat.lt_trichotomy k n with h | h | h
    · have e : (upGo D us i (n + 1)).testBit k = (upGo D us i n).testBit k := by
        show (if n = i then 2 ^ i else if (List.range n).any (fun j => (upGo D us i n).testBit j && D (us.getD j 0) (us.getD n 0)) = true then upGo D us i n ||| 2 ^ n else upGo D us i n).testBit k = _
        split
        · rename_i h9
          rw [upGo_low D us i n (by omega), Nat.zero_testBit, Nat.testBit_two_pow]
          exact decide_eq_false (by omega)
        · split
          · rw [Nat.testBit_or, Nat.testBit_two_pow, decide_eq_false (by omega), Bool.or_false]
          · rfl
      rw [e, ih]
      exact ⟨fun h2 => ⟨by omega, h2.2⟩, fun h2 => ⟨h, h2.2⟩⟩
    · subst h
      exact ⟨fun h2 => ⟨by omega, h2⟩, fun h2 => h2.2⟩
    · constructor
      · intro h2
        exfalso
        have e : (upGo D us i (n + 1)).testBit k = (upGo D us i n).testBit k := by
          show (if n = i then 2 ^ i else if (List.range n).any (fun j => (upGo D us i n).testBit j && D (us.getD j 0) (us.getD n 0)) = true then upGo D us i n ||| 2 ^ n else upGo D us i n).testBit k = _
          split
          · rename_i h9
            rw [upGo_low D us i n (by omega), Nat.zero_testBit, Nat.testBit_two_pow]
            exact decide_eq_false (by omega)
          · split
            · rw [Nat.testBit_or, Nat.testBit_two_pow, decide_eq_false (by omega), Bool.or_false]
            · rfl
        rw [e] at h2
        have := (ih.1 h2).1
        omega
      · intro h2; omega
theorem lq_rec (D : Nat → Nat → Bool) (us : List Nat) (i k : Nat) : lqB D us i k = true ↔ k = i ∨ ∃ j, j < k ∧ lqB D us i j = true ∧ D (us.getD j 0) (us.getD k 0) = true := by
  unfold lqB
  by_cases h : k = i
  · subst h
    rw [upGo_self, p2_bit]
    exact ⟨fun _ => .inl rfl, fun _ => rfl⟩
  · have e : upGo D us i (k + 1) = if (List.range k).any (fun j => (upGo D us i k).testBit j && D (us.getD j 0) (us.getD k 0)) = true then upGo D us i k ||| 2 ^ k else upGo D us i k := by
      show (if k = i then 2 ^ i else _) = _
      rw [if_neg h]
    have hk : (upGo D us i k).testBit k = false := by
      rw [Bool.eq_false_iff]; intro h2
      have := ((upGo_bit D us i k k).1 h2).1
      omega
    have ha : (List.range k).any (fun j => (upGo D us i k).testBit j && D (us.getD j 0) (us.getD k 0)) = true ↔ ∃ j, j < k ∧ lqB D us i j = true ∧ D (us.getD j 0) (us.getD k 0) = true := by
      rw [List.any_eq_true]
      constructor
      · rintro ⟨j, hj, h2⟩
        rw [Bool.and_eq_true, upGo_bit] at h2
        exact ⟨j, h2.1.1, h2.1.2, h2.2⟩
      · rintro ⟨j, hj, h2, h3⟩
        exact ⟨j, List.mem_range.2 hj, by rw [Bool.and_eq_true, upGo_bit]; exact ⟨⟨hj, h2⟩, h3⟩⟩
    rw [e]
    split
    · rename_i h9
      rw [Nat.testBit_or, hk, Bool.false_or, p2_bit]
      exact ⟨fun _ => .inr (ha.1 h9), fun _ => rfl⟩
    · rename_i h9
      rw [hk]
      constructor
      · intro h2; cases h2
      · rintro (h2 | h2)
        · exact absurd h2 h
        · exact absurd (ha.2 h2) h9
theorem lq_refl (D : Nat → Nat → Bool) (us : List Nat) (i : Nat) : lqB D us i i = true := (lq_rec D us i i).2 (.inl rfl)
theorem lq_le (D : Nat → Nat → Bool) (us : List Nat) (i : Nat) : ∀ k, lqB D us i k = true → i ≤ k := by
  intro k
  induction k using Nat.strongRecOn with
  | ind k ih =>
    intro h
    rcases (lq_rec D us i k).1 h with rfl | ⟨j, hj, h2, _⟩
    · exact Nat.le_refl _
    · have := ih j hj h2; omega
theorem lq_trans (D : Nat → Nat → Bool) (us : List Nat) (i j : Nat) (h : lqB D us i j = true) : ∀ k, lqB D us j k = true → lqB D us i k = true := by
  intro k
  induction k using Nat.strongRecOn with
  | ind k ih =>
    intro h2
    rcases (lq_rec D us j k).1 h2 with rfl | ⟨q, hq, h3, h4⟩
    · exact h
    · exact (lq_rec D us i k).2 (.inr ⟨q, hq, ih q hq h3, h4⟩)

/-- Row i of the order of m places; the rows of the order; the places below k; those below k by way of the places below i. -/
def upW (D : Nat → Nat → Bool) (us : List Nat) (m i : Nat) : Nat := mkM (lqB D us i) m
def ordM (D : Nat → Nat → Bool) (us : List Nat) (m : Nat) : List Nat := (List.range m).map fun i => upW D us m i
def dnW (D : Nat → Nat → Bool) (us : List Nat) (k : Nat) : Nat := mkM (fun a => lqB D us a k) 24
def dnP (D : Nat → Nat → Bool) (us : List Nat) (k i : Nat) : Nat := mkM (fun a => (List.range i).any fun j => D (us.getD k 0) (us.getD j 0) && lqB D us a j) 24
theorem ordM_len (D : Nat → Nat → Bool) (us : List Nat) (m : Nat) : (ordM D us m).length = m := by simp [ordM]
theorem ordM_at (D : Nat → Nat → Bool) (us : List Nat) (m i : Nat) (h : i < m) : (ordM D us m).getD i 0 = upW D us m i := getD_range_map _ _ _ h
theorem upW_lt (D : Nat → Nat → Bool) (us : List Nat) (m i : Nat) : upW D us m i < 2 ^ m := mkM_lt _ _ _ (Nat.le_refl _)
theorem ordM_lt (D : Nat → Nat → Bool) (us : List Nat) (m i : Nat) : (ordM D us m).getD i 0 < 2 ^ m := by
  rcases Nat.lt_or_ge i m with h | h
  · rw [ordM_at _ _ _ _ h]; exact upW_lt _ _ _ _
  · rw [getD_past _ m i (ordM_len _ _ _) h]; exact p2_pos m
theorem upW_bit (D : Nat → Nat → Bool) (us : List Nat) (m i k : Nat) : (upW D us m i).testBit k = true ↔ k < m ∧ lqB D us i k = true := mkM_bit _ _ _
theorem dnW_bit (D : Nat → Nat → Bool) (us : List Nat) (k a : Nat) : (dnW D us k).testBit a = true ↔ a < 24 ∧ lqB D us a k = true := mkM_bit _ _ _
theorem dnW_lt24 (D : Nat → Nat → Bool) (us : List Nat) (k : Nat) : dnW D us k < 2 ^ 24 := mkM_lt _ _ _ (Nat.le_refl _)
theorem dnP_lt24 (D : Nat → Nat → Bool) (us : List Nat) (k i : Nat) : dnP D us k i < 2 ^ 24 := mkM_lt _ _ _ (Nat.le_refl _)
theorem dnW_lt (D : Nat → Nat → Bool) (us : List Nat) (m k : Nat) (hk : k < m) : dnW D us k < 2 ^ m := by
  apply Nat.lt_pow_two_of_testBit
  intro a ha
  rw [Bool.eq_false_iff]; intro h
  have := lq_le D us a k ((dnW_bit _ _ _ _).1 h).2
  omega
theorem dnP_zero (D : Nat → Nat → Bool) (us : List Nat) (k : Nat) : dnP D us k 0 = 0 := by
  apply Nat.eq_of_testBit_eq
  intro a
  rw [Nat.zero_testBit, Bool.eq_false_iff]; intro h
  have := (mkM_bit _ _ _).1 h
  simp at this
theorem dnP_bit (D : Nat → Nat → Bool) (us : List Nat) (k i a : Nat) : (dnP D us k i).testBit a = true ↔ a < 24 ∧ ∃ j, j < i ∧ D (us.getD k 0) (us.getD j 0) = true ∧ lqB D us a j = true := by
  unfold dnP
  rw [mkM_bit, List.any_eq_true]
  constructor
  · rintro ⟨h, j, hj, h2⟩
    rw [Bool.and_eq_true] at h2
    exact ⟨h, j, List.mem_range.1 hj, h2.1, h2.2⟩
  · rintro ⟨h, j, hj, h2, h3⟩
    exact ⟨h, j, List.mem_range.2 hj, by rw [Bool.and_eq_true]; exact ⟨h2, h3⟩⟩
theorem dnP_yes (D : Nat → Nat → Bool) (us : List Nat) (k i : Nat) (h : D (us.getD k 0) (us.getD i 0) = true) : dnP D us k i ||| dnW D us i = dnP D us k (i + 1) := by
  refine nat_ext (n := 24) (Nat.or_lt_two_pow (dnP_lt24 _ _ _ _) (dnW_lt24 _ _ _)) (dnP_lt24 _ _ _ _) fun a ha => ?_
  rw [Nat.testBit_or, Bool.or_eq_true, dnP_bit, dnW_bit, dnP_bit]
  constructor
  · rintro (⟨h1, j, hj, h2⟩ | ⟨h1, h2⟩)
    · exact ⟨h1, j, by omega, h2⟩
    · exact ⟨h1, i, by omega, h, h2⟩
  · rintro ⟨h1, j, hj, h2, h3⟩
    rcases Nat.lt_or_ge j i with h4 | h4
    · exact .inl ⟨h1, j, h4, h2, h3⟩
    · have : j = i := by omega
      subst this
      exact .inr ⟨h1, h3⟩
theorem dnP_no (D : Nat → Nat → Bool) (us : List Nat) (k i : Nat) (h : D (us.getD k 0) (us.getD i 0) = false) : dnP D us k i = dnP D us k (i + 1) := by
  refine nat_ext (n := 24) (dnP_lt24 _ _ _ _) (dnP_lt24 _ _ _ _) fun a ha => ?_
  rw [dnP_bit, dnP_bit]
  constructor
  · rintro ⟨h1, j, hj, h2⟩
    exact ⟨h1, j, by omega, h2⟩
  · rintro ⟨h1, j, hj, h2, h3⟩
    rcases Nat.lt_or_ge j i with h4 | h4
    · exact ⟨h1, j, h4, h2, h3⟩
    · have : j = i := by omega
      subst this
      rw [h] at h2; cases h2
theorem dnP_end (D : Nat → Nat → Bool) (hsym : ∀ a b, D a b = D b a) (us : List Nat) (k : Nat) (hk : k < 24) : dnP D us k k ||| 2 ^ k = dnW D us k := by
  refine nat_ext (n := 24) (Nat.or_lt_two_pow (dnP_lt24 _ _ _ _) (Nat.pow_lt_pow_right (by decide) hk)) (dnW_lt24 _ _ _) fun a ha => ?_
  rw [Nat.testBit_or, Bool.or_eq_true, dnP_bit, p2_bit, dnW_bit, lq_rec D us a k]
  constructor
  · rintro (⟨h1, j, hj, h2, h3⟩ | rfl)
    · exact ⟨h1, .inr ⟨j, hj, h3, by rw [hsym]; exact h2⟩⟩
    · exact ⟨ha, .inl rfl⟩
  · rintro ⟨h1, rfl | ⟨j, hj, h2, h3⟩⟩
    · exact .inr rfl
    · exact .inl ⟨h1, j, hj, by rw [hsym]; exact h3, h2⟩
/-- One more place above i. -/
theorem upW_next (D : Nat → Nat → Bool) (us : List Nat) (k i : Nat) : upW D us (k + 1) i = if lqB D us i k = true then upW D us k i ||| 2 ^ k else upW D us k i := rfl
theorem upW_upGo (D : Nat → Nat → Bool) (us : List Nat) (m i : Nat) : upW D us m i = upGo D us i m := by
  apply Nat.eq_of_testBit_eq
  intro k
  rw [Bool.eq_iff_iff, upW_bit, upGo_bit]
theorem upW_zero (D : Nat → Nat → Bool) (us : List Nat) (i : Nat) : upW D us 0 i = 0 := rfl
/-- The model's inner rounds: row i before place k, and what the places before j say of k. -/
def upJ (D : Nat → Nat → Bool) (us : List Nat) (i k j : Nat) : Nat := if (List.range j).any (fun q => (upGo D us i k).testBit q && D (us.getD q 0) (us.getD k 0)) = true then upGo D us i k ||| 2 ^ k else upGo D us i k
theorem upJ_start (D : Nat → Nat → Bool) (us : List Nat) (i k : Nat) : upJ D us i k i = upGo D us i k := by
  unfold upJ
  rw [if_neg]
  rw [Bool.not_eq_true, List.any_eq_false]
  intro q hq
  have hq' := List.mem_range.1 hq
  rw [Bool.and_eq_true, upGo_bit]
  rintro ⟨⟨_, h⟩, _⟩
  have := lq_le D us i q h
  omega
theorem upJ_end (D : Nat → Nat → Bool) (us : List Nat) (i k : Nat) (h : i < k) : upJ D us i k k = upGo D us i (k + 1) := by
  show _ = (if k = i then 2 ^ i else if (List.range k).any (fun j => (upGo D us i k).testBit j && D (us.getD j 0) (us.getD k 0)) = true then upGo D us i k ||| 2 ^ k else upGo D us i k)
  rw [if_neg (by omega)]; rfl
theorem upJ_bit (D : Nat → Nat → Bool) (us : List Nat) (i k j q : Nat) (h : q < k) : (upJ D us i k j).testBit q = (upGo D us i k).testBit q := by
  unfold upJ
  split
  · rw [Nat.testBit_or, Nat.testBit_two_pow, decide_eq_false (by omega), Bool.or_false]
  · rfl
theorem upJ_no (D : Nat → Nat → Bool) (us : List Nat) (i k j : Nat) (h : ((upGo D us i k).testBit j && D (us.getD j 0) (us.getD k 0)) = false) : upJ D us i k (j + 1) = upJ D us i k j := by
  unfold upJ
  rw [List.range_succ, List.any_append, List.any_cons, List.any_nil, h, Bool.or_false, Bool.or_false]
theorem upJ_yes (D : Nat → Nat → Bool) (us : List Nat) (i k j : Nat) (h : ((upGo D us i k).testBit j && D (us.getD j 0) (us.getD k 0)) = true) : upJ D us i k (j + 1) = upJ D us i k j ||| 2 ^ k := by
  unfold upJ
  rw [List.range_succ, List.any_append, List.any_cons, List.any_nil, h, Bool.or_false, Bool.or_true, if_pos rfl]
  split
  · rw [Nat.or_assoc, Nat.or_self]
  · rfl
theorem upGo_lt (D : Nat → Nat → Bool) (us : List Nat) (i m : Nat) : upGo D us i m < 2 ^ m := by rw [← upW_upGo]; exact upW_lt _ _ _ _
theorem upJ_lt (D : Nat → Nat → Bool) (us : List Nat) (i k j m : Nat) (h : k < m) : upJ D us i k j < 2 ^ m := by
  have h1 : upGo D us i k < 2 ^ m := Nat.lt_of_lt_of_le (upGo_lt _ _ _ _) (Nat.pow_le_pow_right (by decide) (by omega))
  unfold upJ
  split
  · exact Nat.or_lt_two_pow h1 (Nat.pow_lt_pow_right (by decide) h)
  · exact h1
theorem ordM_snoc (D : Nat → Nat → Bool) (us : List Nat) (m i : Nat) : (List.range (i + 1)).map (fun i => upGo D us i m) = (List.range i).map (fun i => upGo D us i m) ++ [upGo D us i m] := by
  rw [List.range_succ, List.map_append]; rfl
theorem ordM_upGo (D : Nat → Nat → Bool) (us : List Nat) (m : Nat) : ordM D us m = (List.range m).map (fun i => upGo D us i m) := by
  unfold ordM
  exact List.map_congr_left fun i _ => upW_upGo _ _ _ _

/-! ### alone in a row or in a column -/
theorem dn_alone (D : Nat → Nat → Bool) (us : List Nat) (k : Nat) (hk : k < 24) : dnW D us k = 2 ^ k ↔ ∀ j, j < k → D (us.getD j 0) (us.getD k 0) = false := by
  constructor
  · intro h j hj
    cases hD : D (us.getD j 0) (us.getD k 0)
    · rfl
    · have h2 : (dnW D us k).testBit j = true := (dnW_bit _ _ _ _).2 ⟨by omega, (lq_rec D us j k).2 (.inr ⟨j, hj, lq_refl _ _ _, hD⟩)⟩
      rw [h, p2_bit] at h2
      omega
  · intro h
    refine nat_ext (n := 24) (dnW_lt24 _ _ _) (Nat.pow_lt_pow_right (by decide) hk) fun a ha => ?_
    rw [dnW_bit, p2_bit, lq_rec]
    constructor
    · rintro ⟨_, rfl | ⟨j, hj, _, h3⟩⟩
      · rfl
      · rw [h j hj] at h3; cases h3
    · rintro rfl; exact ⟨ha, .inl rfl⟩
theorem lq_first (D : Nat → Nat → Bool) (us : List Nat) (i k : Nat) (h : lqB D us i k = true) (hne : i ≠ k) : ∃ j, i < j ∧ j ≤ k ∧ D (us.getD i 0) (us.getD j 0) = true := by
  revert hne h
  induction k using Nat.strongRecOn with
  | ind k ih =>
    intro h hne
    rcases (lq_rec D us i k).1 h with rfl | ⟨j, hj, h2, h3⟩
    · exact absurd rfl hne
    · by_cases e : i = j
      · subst e; exact ⟨k, hj, Nat.le_refl _, h3⟩
      · obtain ⟨q, h4, h5, h6⟩ := ih j hj h2 e
        exact ⟨q, h4, by omega, h6⟩
theorem up_alone (D : Nat → Nat → Bool) (us : List Nat) (m i : Nat) (hi : i < m) : upW D us m i = 2 ^ i ↔ ∀ k, i < k → k < m → D (us.getD i 0) (us.getD k 0) = false := by
  constructor
  · intro h k hk hm
    cases hD : D (us.getD i 0) (us.getD k 0)
    · rfl
    · have h2 : (upW D us m i).testBit k = true := (upW_bit _ _ _ _ _).2 ⟨hm, (lq_rec D us i k).2 (.inr ⟨i, hk, lq_refl _ _ _, hD⟩)⟩
      rw [h, p2_bit] at h2
      omega
  · intro h
    refine nat_ext (n := m) (upW_lt _ _ _ _) (Nat.pow_lt_pow_right (by decide) hi) fun k hk => ?_
    rw [upW_bit, p2_bit]
    constructor
    · rintro ⟨_, h2⟩
      apply Classical.byContradiction
      intro hne
      obtain ⟨j, h3, h4, h5⟩ := lq_first D us i k h2 hne
      rw [h j h3 (by omega)] at h5; cases h5
    · rintro rfl; exact ⟨hk, lq_refl _ _ _⟩
/-- The letters at the places that meet a test, of the first k. -/
def aloneM (us : List Nat) (p : Nat → Bool) : Nat → Nat
  | 0 => 0
  | k + 1 => if p k = true then aloneM us p k ||| 2 ^ us.getD k 0 else aloneM us p k
theorem aloneM_bit (us : List Nat) (p : Nat → Bool) (a : Nat) : ∀ k, (aloneM us p k).testBit a = true ↔ ∃ i, i < k ∧ p i = true ∧ us.getD i 0 = a
  | 0 => by
    show (0 : Nat).testBit a = true ↔ _
    rw [Nat.zero_testBit]
    exact ⟨fun h => (by cases h), fun ⟨i, h, _⟩ => absurd h (by omega)⟩
  | k + 1 => by
    have ih := aloneM_bit us p a k
    show (if p k = true then aloneM us p k ||| 2 ^ us.getD k 0 else aloneM us p k).testBit a = true ↔ _
    split
    · rename_i h
      rw [Nat.testBit_or, Bool.or_eq_true, ih, p2_bit]
      constructor
      · rintro (⟨i, h1, h2⟩ | h1)
        · exact ⟨i, by omega, h2⟩
        · exact ⟨k, by omega, h, h1⟩
      · rintro ⟨i, h1, h2, h3⟩
        rcases Nat.lt_or_ge i k with h4 | h4
        · exact .inl ⟨i, h4, h2, h3⟩
        · have : i = k := by omega
          subst this
          exact .inr h3
    · rename_i h
      rw [ih]
      constructor
      · rintro ⟨i, h1, h2⟩; exact ⟨i, by omega, h2⟩
      · rintro ⟨i, h1, h2, h3⟩
        rcases Nat.lt_or_ge i k with h4 | h4
        · exact ⟨i, h4, h2, h3⟩
        · have : i = k := by omega
          subst this
          exact absurd h2 h
theorem aloneM_lt (us : List Nat) (p : Nat → Bool) (n k : Nat) (h : ∀ i, i < k → us.getD i 0 < n) : aloneM us p k < 2 ^ n := by
  apply Nat.lt_pow_two_of_testBit
  intro a ha
  rw [Bool.eq_false_iff]; intro h2
  obtain ⟨i, h3, _, h4⟩ := (aloneM_bit us p a k).1 h2
  have := h i h3
  omega
theorem map_getD_range (us : List Nat) : (List.range us.length).map (fun p => us.getD p 0) = us :=
  list_eq_getD _ _ us.length (by simp) rfl fun p hp => getD_range_map _ _ _ hp
theorem free_places (D : Nat → Nat → Bool) (us : List Nat) (m a : Nat) (hm : us.length = m) : freeB D us a = true ↔ ∃ p, p < m ∧ us.getD p 0 = a ∧ ∀ q, q < p → D (us.getD q 0) a = false := by
  have h := free_iff D (fun p => us.getD p 0) a (List.range m) List.pairwise_lt_range
  have e : (List.range m).map (fun p => us.getD p 0) = us := by subst hm; exact map_getD_range us
  rw [e] at h
  rw [h]
  constructor
  · rintro ⟨p, hp, h1, h2⟩
    have hp' := List.mem_range.1 hp
    exact ⟨p, hp', h1, fun q hq => h2 q (List.mem_range.2 (by omega)) hq⟩
  · rintro ⟨p, hp, h1, h2⟩
    exact ⟨p, List.mem_range.2 hp, h1, fun q _ hq => h2 q hq⟩
/-- The first letters of a word's trace. -/
def firstM (D : Nat → Nat → Bool) (n : Nat) (us : List Nat) : Nat := mkM (freeB D us) n
theorem firstM_lt (D : Nat → Nat → Bool) (n : Nat) (us : List Nat) : firstM D n us < 2 ^ n := mkM_lt _ _ _ (Nat.le_refl _)
theorem dn_first (D : Nat → Nat → Bool) (n m : Nat) (us : List Nat) (hm : us.length = m) (h24 : m ≤ 24) (hn : ∀ p, p < m → us.getD p 0 < n) :
    aloneM us (fun i => dnW D us i == 2 ^ i) m = firstM D n us := by
  refine nat_ext (n := n) (aloneM_lt us _ n m hn) (firstM_lt _ _ _) fun a ha => ?_
  unfold firstM
  rw [aloneM_bit, mkM_bit, free_places D us m a hm]
  constructor
  · rintro ⟨i, h1, h2, h3⟩
    rw [beq_iff_eq, dn_alone D us i (by omega)] at h2
    exact ⟨ha, i, h1, h3, fun q hq => by rw [← h3]; exact h2 q hq⟩
  · rintro ⟨_, i, h1, h3, h2⟩
    refine ⟨i, h1, ?_, h3⟩
    rw [beq_iff_eq, dn_alone D us i (by omega)]
    intro j hj
    rw [h3]; exact h2 j hj
theorem getD_rev (us : List Nat) (m p : Nat) (hm : us.length = m) (hp : p < m) : us.reverse.getD p 0 = us.getD (m - 1 - p) 0 := by
  subst hm
  rw [List.getD_eq_getElem?_getD, List.getD_eq_getElem?_getD, List.getElem?_reverse hp]
theorem up_last (D : Nat → Nat → Bool) (hsym : ∀ a b, D a b = D b a) (n m : Nat) (us : List Nat) (hm : us.length = m) (hn : ∀ p, p < m → us.getD p 0 < n) :
    aloneM us (fun i => upW D us m i == 2 ^ i) m = firstM D n us.reverse := by
  refine nat_ext (n := n) (aloneM_lt us _ n m hn) (firstM_lt _ _ _) fun a ha => ?_
  unfold firstM
  rw [aloneM_bit, mkM_bit, free_places D us.reverse m a (by rw [List.length_reverse]; exact hm)]
  constructor
  · rintro ⟨i, h1, h2, h3⟩
    rw [beq_iff_eq, up_alone D us m i h1] at h2
    refine ⟨ha, m - 1 - i, by omega, ?_, fun q hq => ?_⟩
    · rw [getD_rev us m _ hm (by omega), show m - 1 - (m - 1 - i) = i by omega]; exact h3
    · rw [getD_rev us m _ hm (by omega), hsym, ← h3]
      exact h2 _ (by omega) (by omega)
  · rintro ⟨_, p, h1, h3, h2⟩
    rw [getD_rev us m _ hm h1] at h3
    refine ⟨m - 1 - p, by omega, ?_, h3⟩
    rw [beq_iff_eq, up_alone D us m _ (by omega)]
    intro k hk hkm
    have h4 := h2 (m - 1 - k) (by omega)
    rw [getD_rev us m _ hm (by omega), show m - 1 - (m - 1 - k) = k by omega] at h4
    rw [h3, hsym]; exact h4
theorem Eqv.firstM_ {D : Nat → Nat → Bool} {n : Nat} {u v : List Nat} (href : ∀ a, a < n → D a a = true) (h : Eqv D u v) : firstM D n u = firstM D n v := by
  refine nat_ext (n := n) (firstM_lt _ _ _) (firstM_lt _ _ _) fun a ha => ?_
  unfold firstM
  rw [mkM_bit, mkM_bit, h.free (href a ha)]
theorem Eqv.reverse_ {D : Nat → Nat → Bool} {u v : List Nat} (h : Eqv D u v) : Eqv D u.reverse v.reverse := fun x y d => by
  have := h x y d
  unfold prj at this ⊢
  rw [List.filter_reverse, List.filter_reverse, this]
theorem nfM_eqv {D : Nat → Nat → Bool} {n : Nat} (hsym : ∀ a b, D a b = D b a) (href : ∀ a, a < n → D a a = true) (u : List Nat) (hu : ∀ x, x ∈ u → x < n) : Eqv D (nfM D n u) u := nfGo_eqv hsym href u.length u rfl hu
/-- The places that are neither below nor above. -/
def concM (D : Nat → Nat → Bool) (us : List Nat) (m i : Nat) : Nat := dif (2 ^ m - 1) (dnW D us i ||| upW D us m i)
theorem dif_full (m y : Nat) (hm : m ≤ 24) (hy : y < 2 ^ m) : dif (2 ^ m - 1) y = 2 ^ m - 1 - y := by
  have h24 := p24 m hm
  have hp := p2_pos m
  apply Nat.eq_of_testBit_eq
  intro i
  rw [dif_bit _ _ i (by omega) (by omega), Nat.testBit_two_pow_sub_one, show 2 ^ m - 1 - y = 2 ^ m - (y + 1) by omega, Nat.testBit_two_pow_sub_succ hy]
theorem conc_full (D : Nat → Nat → Bool) (us : List Nat) (m i : Nat) (hm : m ≤ 24) (hi : i < m) : concM D us m i = 2 ^ m - 1 - (dnW D us i ||| upW D us m i) :=
  dif_full m _ hm (Nat.or_lt_two_pow (dnW_lt _ _ _ _ hi) (upW_lt _ _ _ _))
theorem col_ord (D : Nat → Nat → Bool) (us : List Nat) (m i : Nat) (hm : m ≤ 24) (hi : i < m) : colM (ordM D us m) i m = dnW D us i := by
  refine nat_ext (n := m) (colM_lt _ _ _ _ (Nat.le_refl _)) (dnW_lt _ _ _ _ hi) fun a ha => ?_
  rw [colM_bit, dnW_bit]
  unfold R
  rw [ordM_at _ _ _ _ ha, upW_bit]
  exact ⟨fun h => ⟨by omega, h.2.2⟩, fun h => ⟨ha, hi, h.2⟩⟩
end Go.Proofs.YtcojodkcpemfdaaDoor
namespace Go.Proofs.YtcojodkcpemfdaaDoor
open Go Go.RowKit
set_option linter.unusedVariables false
set_option maxRecDepth 100000

def updF (f : Nat → Nat) (i v : Nat) : Nat → Nat := fun j => if j = i then v else f j
def rowV (f : Nat → Nat) : List Value := (List.range 24).map fun i => Value.int .i64 ((f i : Nat) : Int)
theorem rowV_len (f : Nat → Nat) : (rowV f).length = 24 := by simp [rowV]
theorem rowV_at (f : Nat → Nat) (i : Nat) (h : i < 24) : (rowV f)[i]? = some (.int .i64 ((f i : Nat) : Int)) := by
  unfold rowV
  rw [List.getElem?_map, List.getElem?_range h]; rfl
theorem rowV_set (f : Nat → Nat) (i v : Nat) : (rowV f).set i (.int .i64 ((v : Nat) : Int)) = rowV (updF f i v) := by
  apply List.ext_getElem?
  intro j
  rcases Nat.lt_or_ge j 24 with h | h
  · rw [rowV_at _ _ h]
    by_cases e : i = j
    · subst e
      rw [List.getElem?_set_self (by rw [rowV_len]; exact h)]
      unfold updF; rw [if_pos rfl]
    · rw [List.getElem?_set_ne e, rowV_at _ _ h]
      unfold updF; rw [if_neg (fun h => e h.symm)]
  · rw [List.getElem?_eq_none (by rw [List.length_set, rowV_len]; exact h), List.getElem?_eq_none (by rw [rowV_len]; exact h)]
theorem rowV_congr (f f' : Nat → Nat) (h : ∀ i, i < 24 → f i = f' i) : rowV f = rowV f' := by
  unfold rowV
  refine List.map_congr_left fun i hi => ?_
  rw [h i (List.mem_range.1 hi)]
def oCells (A : Option Addr) (m c : Nat) (f h : Nat → Nat) : Array Value := (Value.slice A m c :: (rowV f ++ rowV h)).toArray
/-- A block that holds a word and two rows of sets. -/
def OBox (w : World) (g : Nat) (A : Option Addr) (m c : Nat) (f h : Nat → Nat) : Prop := w.heap[g]? = some (.cells (oCells A m c f h) 141 (0, 0))
section
variable {w w' : World} {g m c : Nat} {A : Option Addr} {f h : Nat → Nat}
theorem OBox.lt (x : OBox w g A m c f h) : g < w.heap.size := (Array.getElem?_eq_some_iff.1 x).1
theorem OBox.c0 (x : OBox w g A m c f h) : w.cell? ⟨g, 0, none⟩ = some (.slice A m c) := by unfold OBox at x; unfold World.cell?; rw [x]; rfl
theorem OBox.cf (x : OBox w g A m c f h) (i : Nat) (hi : i < 24) : w.cell? ⟨g, 1 + i, none⟩ = some (.int .i64 ((f i : Nat) : Int)) := by
  unfold OBox at x; unfold World.cell?; rw [x]
  show (oCells A m c f h)[1 + i]? = _
  unfold oCells
  rw [List.getElem?_toArray, Nat.add_comm, List.getElem?_cons_succ, List.getElem?_append_left (by rw [rowV_len]; exact hi)]
  exact rowV_at f i hi
theorem OBox.ch (x : OBox w g A m c f h) (i : Nat) (hi : i < 24) : w.cell? ⟨g, 25 + i, none⟩ = some (.int .i64 ((h i : Nat) : Int)) := by
  unfold OBox at x; unfold World.cell?; rw [x]
  show (oCells A m c f h)[25 + i]? = _
  unfold oCells
  rw [List.getElem?_toArray, show 25 + i = (24 + i) + 1 by omega, List.getElem?_cons_succ, List.getElem?_append_right (by rw [rowV_len]; omega), rowV_len, show 24 + i - 24 = i by omega]
  exact rowV_at h i hi
theorem OBox.fr (x : OBox w g A m c f h) (k : Nat) : w.frozen? ⟨g, k, none⟩ = false := by unfold OBox at x; simp [World.frozen?, x]
theorem OBox.next (x : OBox w g A m c f h) (hb : Below w.heap.size w w') : OBox w' g A m c f h := (hb.block g x.lt).trans x
theorem OBox.congr (x : OBox w g A m c f h) {f' h' : Nat → Nat} (e1 : ∀ i, i < 24 → f i = f' i) (e2 : ∀ i, i < 24 → h i = h' i) : OBox w g A m c f' h' := by
  unfold OBox oCells at x ⊢
  rw [x, rowV_congr f f' e1, rowV_congr h h' e2]
theorem OBox.setf (x : OBox w g A m c f h) (i v : Nat) (hi : i < 24) : OBox (w.setCell ⟨g, 1 + i, none⟩ (.int .i64 ((v : Nat) : Int))) g A m c (updF f i v) h := by
  unfold OBox at x ⊢
  rw [heap_put x]
  congr 2
  unfold oCells
  rw [List.setIfInBounds_toArray, Nat.add_comm, List.set_cons_succ, List.set_append_left _ _ (by rw [rowV_len]; exact hi), rowV_set]
theorem OBox.seth (x : OBox w g A m c f h) (i v : Nat) (hi : i < 24) : OBox (w.setCell ⟨g, 25 + i, none⟩ (.int .i64 ((v : Nat) : Int))) g A m c f (updF h i v) := by
  unfold OBox at x ⊢
  rw [heap_put x]
  congr 2
  unfold oCells
  rw [List.setIfInBounds_toArray, show 25 + i = (24 + i) + 1 by omega, List.set_cons_succ, List.set_append_right _ _ (by rw [rowV_len]; omega), rowV_len, show 24 + i - 24 = i by omega, rowV_set]
end
theorem Own.le {E : TypeId} {w : World} {B n c : Nat} {A : Option Addr} {xs : List Int} (h : Own E w B A n c xs) : n ≤ c := by
  rcases h.2 with ⟨h0, rfl⟩ | ⟨g, cap, cur, e1, _, _, h4, _⟩
  · exact Nat.zero_le _
  · injection e1 with _ _ e1; omega

/-- The rows below while place k is under way, by the places before i; the rows above, k's own laid for the first t of those below it. -/
def oF (D : Nat → Nat → Bool) (us : List Nat) (k i : Nat) : Nat → Nat := fun q => if q < k then dnW D us q else if q = k then dnP D us k i else 0
def oH (D : Nat → Nat → Bool) (us : List Nat) (k t : Nat) : Nat → Nat := fun q => if q ∈ (bitsOf (dnW D us k)).take t then upW D us (k + 1) q else upW D us k q
theorem oF_cur (D : Nat → Nat → Bool) (us : List Nat) (k i : Nat) : oF D us k i k = dnP D us k i := by unfold oF; rw [if_neg (by omega), if_pos rfl]
theorem oF_old (D : Nat → Nat → Bool) (us : List Nat) (k i q : Nat) (h : q < k) : oF D us k i q = dnW D us q := by unfold oF; rw [if_pos h]
theorem oF_yes (D : Nat → Nat → Bool) (us : List Nat) (k i : Nat) (h : D (us.getD k 0) (us.getD i 0) = true) : updF (oF D us k i) k (dnP D us k i ||| dnW D us i) = oF D us k (i + 1) := by
  funext q
  unfold updF oF
  rw [dnP_yes D us k i h]
  by_cases e : q = k
  · subst e; rw [if_pos rfl, if_neg (by omega), if_pos rfl]
  · rw [if_neg e, if_neg e, if_neg e]
theorem oF_no (D : Nat → Nat → Bool) (us : List Nat) (k i : Nat) (h : D (us.getD k 0) (us.getD i 0) = false) : oF D us k i = oF D us k (i + 1) := by
  funext q
  unfold oF
  rw [dnP_no D us k i h]
theorem oF_end (D : Nat → Nat → Bool) (hsym : ∀ a b, D a b = D b a) (us : List Nat) (k : Nat) (hk : k < 24) : updF (oF D us k k) k (dnP D us k k ||| 2 ^ k) = oF D us (k + 1) 0 := by
  funext q
  unfold updF oF
  rw [dnP_end D hsym us k hk, dnP_zero]
  by_cases e : q = k
  · subst e; rw [if_pos rfl, if_pos (by omega)]
  · rw [if_neg e, if_neg e]
    by_cases h2 : q < k
    · rw [if_pos h2, if_pos (by omega)]
    · rw [if_neg h2, if_neg (by omega)]
      split <;> rfl
theorem oF_new (D : Nat → Nat → Bool) (us : List Nat) (k : Nat) : oF D us (k + 1) 0 k = dnW D us k := oF_old _ _ _ _ _ (by omega)
theorem oH_start (D : Nat → Nat → Bool) (us : List Nat) (k : Nat) : oH D us k 0 = upW D us k := by
  funext q
  unfold oH
  rw [List.take_zero, if_neg (by simp)]
theorem bitsOf_nodup (x : Nat) : (bitsOf x).Nodup := List.Nodup.sublist List.filter_sublist List.nodup_range
theorem oH_cur (D : Nat → Nat → Bool) (us : List Nat) (k t i : Nat) (h : (bitsOf (dnW D us k))[t]? = some i) : oH D us k t i = upW D us k i := by
  unfold oH
  rw [if_neg]
  intro h2
  obtain ⟨j, hj, e⟩ := List.mem_take_iff_getElem.1 h2
  have hnd := bitsOf_nodup (dnW D us k)
  have hj1 : j < (bitsOf (dnW D us k)).length := by omega
  have h3 : (bitsOf (dnW D us k))[j]? = (bitsOf (dnW D us k))[t]? := by rw [h, List.getElem?_eq_getElem hj1, e]
  have := (List.getElem?_inj hj1 hnd).1 h3
  omega
theorem oH_step (D : Nat → Nat → Bool) (us : List Nat) (k t i : Nat) (h : (bitsOf (dnW D us k))[t]? = some i) : updF (oH D us k t) i (upW D us k i ||| 2 ^ k) = oH D us k (t + 1) := by
  have hm : i ∈ bitsOf (dnW D us k) := List.mem_of_getElem? h
  have hl : lqB D us i k = true := ((dnW_bit _ _ _ _).1 ((bitsOf_mem _ _).1 hm).2).2
  funext q
  unfold updF oH
  rw [List.take_add_one, h]
  by_cases e : q = i
  · subst e
    rw [if_pos rfl, if_pos (by simp), upW_next, if_pos hl]
  · rw [if_neg e]
    have : q ∈ (bitsOf (dnW D us k)).take t ++ (some i).toList ↔ q ∈ (bitsOf (dnW D us k)).take t := by simp [e]
    by_cases h2 : q ∈ (bitsOf (dnW D us k)).take t
    · rw [if_pos h2, if_pos (this.2 h2)]
    · rw [if_neg h2, if_neg (fun h3 => h2 (this.1 h3))]
theorem oH_end (D : Nat → Nat → Bool) (us : List Nat) (k q : Nat) (hq : q < 24) : oH D us k (bitsOf (dnW D us k)).length q = upW D us (k + 1) q := by
  unfold oH
  rw [List.take_length, upW_next]
  by_cases h : lqB D us q k = true
  · rw [if_pos ((bitsOf_mem _ _).2 ⟨hq, (dnW_bit _ _ _ _).2 ⟨hq, h⟩⟩)]
  · rw [if_neg (fun h2 => h ((dnW_bit _ _ _ _).1 ((bitsOf_mem _ _).1 h2).2).2), if_neg h]
/-- The rows below, of m places. -/
def dnF (D : Nat → Nat → Bool) (us : List Nat) (m : Nat) : Nat → Nat := fun q => if q < m then dnW D us q else 0
theorem dnF_at (D : Nat → Nat → Bool) (us : List Nat) (m q : Nat) (h : q < m) : dnF D us m q = dnW D us q := by unfold dnF; rw [if_pos h]
theorem oF_fin (D : Nat → Nat → Bool) (us : List Nat) (m : Nat) : oF D us m 0 = dnF D us m := by
  funext q
  unfold oF dnF
  rw [dnP_zero]
  split
  · rfl
  · split <;> rfl
def OrdPost (D : Nat → Nat → Bool) (us : List Nat) (A : Option Addr) (m cu : Nat) (w : World) (e : Ending) (w' : World) : Prop :=
  ∃ g, e = .returned (.pointer (some ⟨g, 0, none⟩)) ∧ w.heap.size ≤ g ∧ OBox w' g A m cu (dnF D us m) (upW D us m) ∧ Below w.heap.size w w'
set_option maxHeartbeats 4000000 in
theorem ordered_any (R A : Option Addr) (n m cr cu : Nat) (rows us : List Nat) (w : World) (hR : Rd w R n (ints rows)) (hU : Rd w A m (ints us)) (hm : m ≤ 24) (hcu : m ≤ cu) (hn : n ≤ 24) (hus : ∀ p, p < m → us.getD p 0 < n) (hrs : ∀ i, rows.getD i 0 < 9223372036854775808) (hsym : ∀ a b, RDep rows a b = RDep rows b a) (hT : Tab w) :
    Calls Tryd.prog 181 #[.slice R n cr, .slice A m cu] w (OrdPost (RDep rows) us A m cu w) := by
  have HUS := Lib.hid hus
  have HRS := Lib.hid hrs
  have HSYM := Lib.hid hsym
  have hlenU : us.length = m := by have := hU.1; rw [ints_len] at this; exact this
  have hlenR : rows.length = n := by have := hR.1; rw [ints_len] at this; exact this
  have HLU := Lib.hid hlenU
  have HLR := Lib.hid hlenR
  clear hus hrs hsym hlenU hlenR
  have mixed : Tryd.prog.follows .mixedOrders = true := by kernel_rfl
  obtain ⟨D, hD⟩ : ∃ D, D = RDep rows := ⟨_, rfl⟩
  have HD := Lib.hid hD
  rw [← hD] at HSYM ⊢
  clear hD
  obtain ⟨W1, hW1⟩ : ∃ W1, w.alloc (.cells (oCells A m cu (fun _ => 0) (fun _ => 0)) 141) = W1 := ⟨_, rfl⟩
  have hb1 : Below w.heap.size w W1 := by rw [← hW1]; exact (Below.refl _ w).alloc (Nat.le_refl _) _
  have x1 : OBox W1 w.heap.size A m cu (fun _ => 0) (fun _ => 0) := by rw [← hW1]; exact heap_alloc_new w _
  go_enter Tryd.func181, Tryd.ntmps181
  go_wp2_with fail
  change Code.wp _ _ _ _ (w.alloc (.cells (oCells A m cu (fun _ => 0) (fun _ => 0)) 141))
  rw [hW1]
  obtain ⟨g, hg⟩ : ∃ g, g = w.heap.size := ⟨_, rfl⟩
  rw [← hg] at x1 ⊢
  have HG := Lib.hid hg
  clear hg hW1
  go_loopw [17] (fun q wr => ∃ k, k ≤ m ∧ q = .int .i64 ((k : Nat) : Int) ∧ OBox wr g A m cu (oF D us k 0) (upW D us k) ∧ Below w.heap.size w wr) (fun q _ => m - (intOf q).toNat)
  case atStart => exact ⟨0, Nat.zero_le _, rfl, x1.congr (fun i _ => by unfold oF; rw [if_neg (by omega), dnP_zero]; split <;> rfl) (fun i _ => (upW_zero D us i).symm), hb1⟩
  case round =>
    clear x1 hb1
    obtain ⟨k, hk, rfl, x, hb⟩ := hrel
    have hUr := hU.below hb
    by_cases hkm : k < m
    · obtain ⟨gu, ou, xU, eU, hgu, hxU, hcU⟩ := hUr.at_ hkm
      rw [ints_getD us k (by rw [HLU.out]; exact hkm)] at hxU
      injection hxU with hxU
      obtain ⟨a, ha⟩ : ∃ a, a = us.getD k 0 := ⟨_, rfl⟩
      rw [← ha] at hxU
      have HA := Lib.hid ha
      have han : a < n := by rw [ha]; exact HUS.out k hkm
      subst hxU
      cases eU
      clear ha
      have hk0 : (0 : Int) ≤ (k : Int) := by omega
      have hkc : (k : Int) ≤ (cu : Int) := by omega
      go_wp2_with fail
      go_loopw [26] (fun q wy => ∃ i, i ≤ k ∧ q = .int .i64 ((i : Nat) : Int) ∧ OBox wy g (some ⟨gu, ou, none⟩) m cu (oF D us k i) (upW D us k) ∧ Below w.heap.size w wy) (fun q _ => k - (intOf q).toNat)
      case atStart => exact ⟨0, Nat.zero_le _, rfl, x, hb⟩
      case round =>
        clear x hb hUr hcU
        obtain ⟨i, hi, rfl, x, hb⟩ := hrel
        have hUr := hU.below hb
        have hRr := hR.below hb
        by_cases hik : i < k
        · have him : i < m := by omega
          obtain ⟨gv, ov, xV, eV, hgv, hxV, hcV⟩ := hUr.at_ him
          rw [ints_getD us i (by rw [HLU.out]; exact him)] at hxV
          injection hxV with hxV
          obtain ⟨b, hbb⟩ : ∃ b, b = us.getD i 0 := ⟨_, rfl⟩
          rw [← hbb] at hxV
          have HB := Lib.hid hbb
          have hbn : b < n := by rw [hbb]; exact HUS.out i him
          subst hxV
          cases eV
          clear hbb
          obtain ⟨gd, od, xD, eD, hgd, hxD, hcD⟩ := hRr.at_ han
          rw [ints_getD rows a (by rw [HLR.out]; exact han)] at hxD
          injection hxD with hxD
          obtain ⟨M, hM⟩ : ∃ M, M = rows.getD a 0 := ⟨_, rfl⟩
          rw [← hM] at hxD
          have hM63 : M < 9223372036854775808 := by rw [hM]; exact HRS.out a
          have HMB : Hid (D (us.getD k 0) (us.getD i 0) = M.testBit b) := Lib.hid (by rw [HD.out, ← HA.out, ← HB.out, hM]; rfl)
          subst hxD
          subst eD
          have HHAS : Hid (∀ ww : World, Calls Tryd.prog 169 #[.int .i64 (M : Int), .int .i64 (b : Int)] ww fun e w'' => e = .returned (.bool (M.testBit b)) ∧ ww = w'') := Lib.hid fun ww => has_any M b hM63 (by omega) ww
          obtain ⟨v, hv⟩ : ∃ v, v = M.testBit b := ⟨_, rfl⟩
          rw [← hv] at HHAS HMB
          have hn0 : 0 < n := by omega
          clear hM hM63 hv
          cases v
          · have HN : Hid (oF D us k i = oF D us k (i + 1)) := Lib.hid (oF_no D us k i HMB.out)
            go_wp2_with fail
            refine (HHAS.out _).mono ?_
            rintro e w' ⟨rfl, rfl⟩
            go_wp2_with fail
            go_roundw
            case rel => exact ⟨i + 1, by omega, by go_num, by rw [← HN.out]; exact x, hb⟩
            case measure => simp [intOf]; omega
          · obtain ⟨P, hP⟩ : ∃ P, P = dnP D us k i := ⟨_, rfl⟩
            obtain ⟨Q, hQ⟩ : ∃ Q, Q = dnW D us i := ⟨_, rfl⟩
            have HN : Hid (updF (oF D us k i) k (P ||| Q) = oF D us k (i + 1)) := Lib.hid (by rw [hP, hQ]; exact oF_yes D us k i HMB.out)
            have hck := x.cf k (by omega)
            have hci := x.cf i (by omega)
            rw [oF_cur, ← hP] at hck
            rw [oF_old _ _ _ _ _ hik, ← hQ] at hci
            have hf := x.fr (1 + k)
            have hP24 : P < 2 ^ 24 := by rw [hP]; exact dnP_lt24 _ _ _ _
            have hQ24 : Q < 2 ^ 24 := by rw [hQ]; exact dnW_lt24 _ _ _
            have hor := i64_or_nat P Q (by omega) (by omega)
            have HX := Lib.hid (x.setf k (P ||| Q) (by omega))
            rw [HN.out] at HX
            have HBX := Lib.hid (hb.setCell (p := ⟨g, 1 + k, none⟩) (by rw [HG.out]; exact Nat.le_refl _) (.int .i64 ((P ||| Q : Nat) : Int)))
            have hk24 : k < 24 := by omega
            have hi24 : i < 24 := by omega
            clear hP hQ hP24 hQ24
            go_wp2_with fail
            refine (HHAS.out _).mono ?_
            rintro e w' ⟨rfl, rfl⟩
            go_wp2_with fail
            go_region
            all_goals go_wp2
            all_goals (
              go_roundw
              case rel => exact ⟨i + 1, by omega, by go_num, by first | exact HX.out.next ((Below.refl _ _).drew) | (have h9 := HX.out.next ((Below.refl _ _).drew); rw [← hor] at h9; exact h9), by first | exact HBX.out.drew | (have h9 := HBX.out.drew; rw [← hor] at h9; exact h9)⟩
              case measure => simp [intOf]; omega)
        · have hie : i = k := by omega
          subst hie
          clear hi
          have hk24 : i < 24 := by omega
          obtain ⟨P, hP⟩ : ∃ P, P = dnP D us i i := ⟨_, rfl⟩
          obtain ⟨Q, hQ⟩ : ∃ Q, Q = P ||| 2 ^ i := ⟨_, rfl⟩
          have hdq : Q = dnW D us i := by rw [hQ, hP]; exact dnP_end D HSYM.out us i hk24
          have HN : Hid (updF (oF D us i i) i Q = oF D us (i + 1) 0) := Lib.hid (by rw [hQ, hP]; exact oF_end D HSYM.out us i hk24)
          have hck := x.cf i (by omega)
          rw [oF_cur, ← hP] at hck
          have hf := x.fr (1 + i)
          have hP24 : P < 2 ^ 24 := by rw [hP]; exact dnP_lt24 _ _ _ _
          have hQ24 : Q < 2 ^ 24 := by rw [hdq]; exact dnW_lt24 _ _ _
          have HWI : Hid (∀ ww : World, Calls Tryd.prog 77 #[.int .i64 (P : Int), .int .i64 (i : Int)] ww fun e w'' => e = .returned (.int .i64 (Q : Int)) ∧ w'' = ww) := Lib.hid fun ww => (with_any P i (by omega) (by omega) ww).mono fun _ _ h => ⟨by rw [hQ]; exact h.1, h.2.symm⟩
          obtain ⟨wd, hwd⟩ : ∃ wd, wd = (wr.setCell ⟨g, 1 + i, none⟩ (.int .i64 (Q : Int))).drew := ⟨_, rfl⟩
          have X2 : OBox wd g (some ⟨gu, ou, none⟩) m cu (oF D us (i + 1) 0) (upW D us i) := by
            rw [hwd, ← HN.out]; exact (x.setf i Q hk24).next ((Below.refl _ _).drew)
          have B2 : Below w.heap.size w wd := by
            rw [hwd]; exact (hb.setCell (p := ⟨g, 1 + i, none⟩) (by rw [HG.out]; exact Nat.le_refl _) _).drew
          have HX2 := Lib.hid X2
          have HB2 := Lib.hid B2
          obtain ⟨ms, hms⟩ : ∃ ms, ms = bitsOf Q := ⟨_, rfl⟩
          have HME : Hid (Calls Tryd.prog 157 #[.int .i64 (Q : Int)] wd fun e w' => ∃ g c, e = .returned (.slice (some ⟨g, 0, none⟩) ms.length c) ∧ Own 2 w' wd.heap.size (some ⟨g, 0, none⟩) ms.length c (ints ms) ∧ Below wd.heap.size wd w') := Lib.hid (by rw [hms]; exact members_some Q (by omega) wd (hT.below B2))
          have hmc := X2.cf i hk24
          rw [oF_new, ← hdq] at hmc
          have HMS : Hid (ms = bitsOf (dnW D us i)) := Lib.hid (by rw [hms, hdq])
          clear hP hQ hdq hP24 hQ24 X2 B2 hms
          have hi24z : (i : Int) < 24 := by omega
          go_wp2_with fail
          go_still_tail 13, mixed
          still_call (HWI.out _)
          repeat still_step
          refine wpStill_nil ?_
          change wpList _ _ _ _ _ wr.drew
          have hck' := (x.next (show Below wr.heap.size wr wr.drew from (Below.refl _ _).drew)).cf i hk24
          have hf' := (x.next (show Below wr.heap.size wr wr.drew from (Below.refl _ _).drew)).fr (1 + i)
          go_wp2_with fail
          rw [← hwd]
          have HMM := HME.out
          refine HMM.mono ?_
          rintro e w4 ⟨gm, cm, rfl, hom, hbm⟩
          have X4 := HX2.out.next hbm
          have B4 := HB2.out.trans (hbm.mono HB2.out.size)
          have hml : (ints ms).length = ms.length := ints_len ms
          have HLM : Hid (ms.length ≤ 24) := Lib.hid (by rw [HMS.out]; exact bitsOf_len _)
          have HGM : Hid (w.heap.size ≤ gm ∧ g ≠ gm) := Lib.hid (by have h1 := (hom.lt gm rfl).1; have h2 := HX2.out.lt; have h3 := HB2.out.size; omega)
          obtain ⟨ml, hmll⟩ : ∃ ml, ml = ms.length := ⟨_, rfl⟩
          rw [← hmll] at hom HLM ⊢
          have HML := Lib.hid hmll
          clear hml hmll HMM hwd HME HN hck hck' hf hf' hmc x hb hUr HWI hi24z
          go_wp2_with fail
          go_loopw [75] (fun q wy => ∃ t, t ≤ ml ∧ q = .int .i64 ((t : Nat) : Int) ∧ OBox wy g (some ⟨gu, ou, none⟩) m cu (oF D us (i + 1) 0) (oH D us i t) ∧ Own 2 wy wd.heap.size (some ⟨gm, 0, none⟩) ml cm (ints ms) ∧ Below w.heap.size w wy) (fun q _ => ml - (intOf q).toNat)
          case atStart => exact ⟨0, Nat.zero_le _, rfl, by rw [oH_start]; exact X4, hom, B4⟩
          case round =>
            clear X4 hom B4 hbm
            obtain ⟨t, ht, rfl, x, hom, hb⟩ := hrel
            have hl24 := HLM.out
            by_cases htl : t < ml
            · obtain ⟨q, hq⟩ : ∃ q, ms[t]? = some q := ⟨_, List.getElem?_eq_getElem (by rw [← HML.out]; exact htl)⟩
              have hcq := hom.cell (k := t) (x := (q : Int)) (ints_at hq)
              have HQ2 : Hid ((bitsOf (dnW D us i))[t]? = some q) := Lib.hid (by rw [← HMS.out]; exact hq)
              have hq24 : q < 24 := ((bitsOf_mem _ _).1 (List.mem_of_getElem? HQ2.out)).1
              clear hq
              obtain ⟨P, hP⟩ : ∃ P, P = upW D us i q := ⟨_, rfl⟩
              obtain ⟨Q2, hQ2⟩ : ∃ Q, Q = P ||| 2 ^ i := ⟨_, rfl⟩
              have HN : Hid (updF (oH D us i t) q Q2 = oH D us i (t + 1)) := Lib.hid (by rw [hQ2, hP]; exact oH_step D us i t q HQ2.out)
              have hck := x.ch q hq24
              rw [oH_cur D us i t q HQ2.out, ← hP] at hck
              have hf := x.fr (25 + q)
              have hP24 : P < 2 ^ 24 := by rw [hP]; exact Nat.lt_of_lt_of_le (upW_lt D us i q) (Nat.pow_le_pow_right (by decide) (by omega))
              have HWI : Hid (∀ ww : World, Calls Tryd.prog 77 #[.int .i64 (P : Int), .int .i64 (i : Int)] ww fun e w'' => e = .returned (.int .i64 (Q2 : Int)) ∧ w'' = ww) := Lib.hid fun ww => (with_any P i (by omega) (by omega) ww).mono fun _ _ h => ⟨by rw [hQ2]; exact h.1, h.2.symm⟩
              have hq24z : (q : Int) < 24 := by omega
              have hck' := (x.next (show Below wr.heap.size wr wr.drew from (Below.refl _ _).drew)).ch q hq24
              rw [oH_cur D us i t q HQ2.out, ← hP] at hck'
              have hf' := (x.next (show Below wr.heap.size wr wr.drew from (Below.refl _ _).drew)).fr (25 + q)
              have HX2 : Hid (OBox ((wr.setCell ⟨g, 25 + q, none⟩ (.int .i64 (Q2 : Int))).drew) g (some ⟨gu, ou, none⟩) m cu (oF D us (i + 1) 0) (oH D us i (t + 1))) := Lib.hid (by rw [← HN.out]; exact (x.seth q Q2 hq24).next ((Below.refl _ _).drew))
              have HB3 : Hid (Below w.heap.size w ((wr.setCell ⟨g, 25 + q, none⟩ (.int .i64 (Q2 : Int))).drew)) := Lib.hid ((hb.setCell (p := ⟨g, 25 + q, none⟩) (by rw [HG.out]; exact Nat.le_refl _) _).drew)
              have HO3 : Hid (Own 2 ((wr.setCell ⟨g, 25 + q, none⟩ (.int .i64 (Q2 : Int))).drew) wd.heap.size (some ⟨gm, 0, none⟩) ml cm (ints ms)) := Lib.hid ((own_other hom g (25 + q) (.int .i64 (Q2 : Int)) (fun k hk e => by cases hk; exact HGM.out.2 e.symm)).below ((Below.refl _ _).drew))
              clear hP hQ2 hP24
              go_wp2_with fail
              go_still_tail 13, mixed
              still_call (HWI.out _)
              repeat still_step
              refine wpStill_nil ?_
              change wpList _ _ _ _ _ wr.drew
              go_wp2_with fail
              go_roundw
              case rel => exact ⟨t + 1, htl, by go_num, HX2.out, HO3.out, HB3.out⟩
              case measure => simp [intOf]; omega
            · have hte : t = ml := by omega
              subst hte
              have X9 : OBox wr g (some ⟨gu, ou, none⟩) m cu (oF D us (i + 1) 0) (upW D us (i + 1)) := x.congr (fun _ _ => rfl) (fun q hq => by have h9 := oH_end D us i q hq; rw [← HMS.out, ← HML.out] at h9; exact h9)
              go_wp2_with fail
              go_roundw
              case rel => exact ⟨i + 1, by omega, by go_num, X9, hb⟩
              case measure => simp [intOf]; omega
    · have hke : k = m := by omega
      subst hke
      go_wp2_with fail
      go_ret
      exact ⟨g, rfl, by rw [HG.out]; exact Nat.le_refl _, by rw [← oF_fin]; exact x, hb⟩
end Go.Proofs.YtcojodkcpemfdaaDoor
namespace Go.Proofs.YtcojodkcpemfdaaDoor
open Go Go.RowKit
set_option linter.unusedVariables false
set_option maxRecDepth 100000

end Go.Proofs.YtcojodkcpemfdaaDoor
namespace Go.Proofs.YtcojodkcpemfdaaDoor
open Go Go.RowKit
set_option linter.unusedVariables false
set_option maxRecDepth 100000

theorem wCode_zero {L : Int} {xs us : List Int} (h : wCode L xs us = 0) : alphB L xs = true ∧ wordB L us = true := by
  unfold wCode at h
  split at h
  · rename_i h1
    split at h
    · rename_i h2; exact ⟨h1, h2⟩
    · cases h
  · cases h
theorem wCode_cases (L : Int) (xs us : List Int) : wCode L xs us = 0 ∨ wCode L xs us = 1 ∨ wCode L xs us = 2 := by
  unfold wCode
  split
  · split
    · exact .inl rfl
    · exact .inr (.inr rfl)
  · exact .inr (.inl rfl)
theorem nfGo_lt (D : Nat → Nat → Bool) (n : Nat) : ∀ (k : Nat) (us : List Nat) (x : Nat), x ∈ nfGo D n k us → x < n
  | 0, _, _, h => by cases h
  | k + 1, us, x, h => by
    have e : nfGo D n (k + 1) us = match leastFree D n us with | none => [] | some a => a :: nfGo D n k (us.erase a) := rfl
    rw [e] at h
    cases hl : leastFree D n us with
    | none => rw [hl] at h; cases h
    | some a =>
      rw [hl] at h
      rcases List.mem_cons.1 h with rfl | h
      · exact ((leastFree_iff D n us x).1 hl).1
      · exact nfGo_lt D n k _ x h
theorem nfR_lt (rs us : List Nat) (x : Nat) (h : x ∈ nfR rs us) : x < rs.length := nfGo_lt _ _ _ _ _ h
def PosPost (D : Nat → Nat → Bool) (nf : List Nat) (m : Nat) (w : World) (e : Ending) (w' : World) : Prop :=
  ∃ g A5 c5, e = .returned (.tuple #[.pointer (some ⟨g, 0, none⟩), .int .i64 0]) ∧ w.heap.size ≤ g ∧ OBox w' g A5 m c5 (dnF D nf m) (upW D nf m) ∧ Rd w' A5 m (ints nf) ∧ Below w.heap.size w w'
set_option maxHeartbeats 1600000 in
theorem positionsIn_no (L : Int) (A : Option Addr) (n c : Nat) (xs : List Int) (A1 : Option Addr) (m d : Nat) (us : List Int) (w : World) (h : Rd w A n xs) (hwf : Wf xs) (hL1 : -9223372036854775808 ≤ L) (hL2 : L ≤ 9223372036854775807) (hn : n ≤ maxLen) (h2 : Rd w A1 m us) (hwf2 : Wf us) (hm : m ≤ maxLen) (hT : Tab w) (hc : ¬ wCode L xs us = 0) :
    Calls Tryd.prog 128 #[.agg #[.int .i64 L, .slice A n c], .slice A1 m d] w (fun e w' => e = .returned (.tuple #[.pointer none, .int .i64 (wCode L xs us)]) ∧ Below w.heap.size w w') := by
  have hn2 : n ≤ 9223372036854775807 := by unfold maxLen at hn; omega
  have hn1 := h.1
  have HB := Lib.hid (below2 w (.cells #[.int .i64 L, .slice A n c] 29) (.cells #[.slice A1 m d] 22))
  have hh := h.below HB.out
  have ht := rdT_box w (.cells #[.int .i64 L, .slice A n c] 29) A1 m d us 22 h2 hm
  have hT1 := hT.below HB.out
  cases ha : alphB L xs
  · rw [wCode_no L xs us ha]
    have HA := Lib.hid ha
    clear ha ht hn1 hc
    go_enter Tryd.func128, Tryd.ntmps128
    go_wp2_with fail
    refine (dependenceWith_no L _ _ _ _ _ _ xs [] _ hh hwf hL1 hL2 hn2 HA.out hT1).mono ?_
    rintro e w1 ⟨rfl, hb⟩
    go_wp2_with fail
    go_ret2
    exact ⟨rfl, HB.out.trans (hb.mono HB.out.size)⟩
  · cases hu : wordB L us
    · rw [wCode_bad L xs us ha hu]
      obtain ⟨rs, rfl, rfl, h8, hr, hrel, hl, hd, _⟩ := alphB_nats L xs n hn1 ha
      have HU := Lib.hid hu
      clear ha hu hc
      go_enter Tryd.func128, Tryd.ntmps128
      go_wp2_with fail
      refine (dependenceWith_any _ _ _ _ _ _ rs _ _ hh hwf h8 hr hrel hd ht (by omega) hT1).mono ?_
      rw [okT_one, HU.out]
      rintro e w1 (⟨hok, _⟩ | ⟨hok, rfl, hb⟩)
      · cases hok
      go_wp2_with fail
      go_ret2
      exact ⟨rfl, HB.out.trans (hb.mono HB.out.size)⟩
    · exact absurd (wCode_yes L xs us ha hu) hc
set_option maxHeartbeats 1600000 in
theorem positionsIn_yes (A : Option Addr) (n c : Nat) (rs : List Nat) (A1 : Option Addr) (m d : Nat) (vs : List Nat) (w : World) (h : Rd w A n (ints rs)) (hwf : Wf (ints rs)) (h8 : n ≤ 8) (hr : ∀ i, rs.getD i 0 < 2 ^ n) (hrel : relB (ints rs) = true) (hl : rs.length = n) (hd : depB rs = true) (h2 : Rd w A1 m (ints vs)) (hm24 : m ≤ 24) (hvn : ∀ u, u ∈ vs → u < n) (hu : wordB (n : Int) (ints vs) = true) (hT : Tab w) :
    Calls Tryd.prog 128 #[.agg #[.int .i64 (n : Int), .slice A n c], .slice A1 m d] w (PosPost (RDep rs) (nfR rs vs) m w) := by
  have hm : m ≤ maxLen := by unfold maxLen; omega
  have hm1 : vs.length = m := by have := h2.1; rw [ints_len] at this; exact this
  have HB := Lib.hid (below2 w (.cells #[.int .i64 (n : Int), .slice A n c] 29) (.cells #[.slice A1 m d] 22))
  have hh := h.below HB.out
  have ht := rdT_box w (.cells #[.int .i64 (n : Int), .slice A n c] 29) A1 m d (ints vs) 22 h2 hm
  have hh2 := h2.below HB.out
  have hT1 := hT.below HB.out
  have HU := Lib.hid hu
  have hdep := (depB_iff rs n hl hr).1 hd
  have HSYM := Lib.hid (rdep_sym rs n hl hr hdep)
  have HDEP := Lib.hid hdep
  have HVR : Hid (∀ p, p < m → vs.getD p 0 < n) := Lib.hid fun p hp => in_getD hvn p (by omega)
  have HR63 : Hid (∀ i, rs.getD i 0 < 9223372036854775808) := Lib.hid fun i => lt63 (by omega) (hr i)
  have HNL : Hid (∀ x, x ∈ nfR rs vs → x < n) := Lib.hid fun x hx => by have := nfR_lt rs vs x hx; omega
  have HLR : Hid (rs.length = n) := Lib.hid hl
  have HLU : Hid (vs.length = m) := Lib.hid hm1
  clear hu hl hm1 hdep
  go_enter Tryd.func128, Tryd.ntmps128
  go_wp2_with fail
  refine (dependenceWith_any _ _ _ _ _ _ rs _ _ hh hwf h8 hr hrel hd ht (by omega) hT1).mono ?_
  rw [okT_one, HU.out]
  rintro e w1 (⟨hok, A2, c2, rfl, ho, hb⟩ | ⟨hok, _⟩)
  rotate_left
  · cases hok
  have HB1 := Lib.hid (HB.out.trans (hb.mono HB.out.size))
  have HRW := Lib.hid (hh2.below hb)
  have HRD := Lib.hid ho.rd
  have HTT := Lib.hid (hT1.below hb)
  clear ho hb hok ht hh hh2 hT1 hT h h2 hd hrel
  go_wp2_with fail
  refine (traceOf_any A2 A1 n m c2 d rs vs _ HRD.out HRW.out hm24 (by omega) HVR.out HR63.out HTT.out).mono ?_
  rintro e w5 ⟨A5, c5, B5, d5, es, rfl, hp, hs, h1, h2, -, -, hb5⟩
  have HNF := Lib.hid (nf_from A5 B5 c5 d5 m n rs vs es w5 HLR.out hr HDEP.out HLU.out HVR.out hm24 hp hs h1 h2 (HTT.out.below hb5))
  have HB5 := Lib.hid (HB1.out.trans (hb5.mono HB1.out.size))
  have HRD5 := Lib.hid (HRD.out.below hb5)
  have HT5 := Lib.hid (HTT.out.below hb5)
  clear hp hs h1 h2 hb5
  go_wp2_with fail
  refine HNF.out.mono ?_
  rintro e w6 ⟨A6, c6, rfl, ho6, hb6⟩
  have hnl : (nfR rs vs).length = m := by have := ho6.len; rw [ints_len] at this; exact this
  have HORD := Lib.hid (ordered_any A2 A6 n m c2 c6 rs (nfR rs vs) w6 (HRD5.out.below hb6) ho6.rd hm24 ho6.le (by omega) (fun p hp => in_getD HNL.out p (by omega)) HR63.out HSYM.out (HT5.out.below hb6))
  have HB6 := Lib.hid (HB5.out.trans (hb6.mono HB5.out.size))
  have HR6 := Lib.hid ho6.rd
  clear ho6 hb6 hnl
  go_wp2_with fail
  refine HORD.out.mono ?_
  rintro e w7 ⟨g, rfl, hg, x, hb7⟩
  go_wp2_with fail
  go_ret2
  exact ⟨g, A6, c6, rfl, Nat.le_trans HB6.out.size hg, x, HR6.out.below hb7, HB6.out.trans (hb7.mono HB6.out.size)⟩
section
variable {w : World} {g m c : Nat} {A : Option Addr} {f h : Nat → Nat}
theorem OBox.rdh (x : OBox w g A m c f h) (k : Nat) (hk : k ≤ 24) : Rd w (some ⟨g, 25, none⟩) k (ints ((List.range k).map h)) := by
  refine ⟨by rw [ints_len]; simp, fun _ => ⟨g, 25, rfl, x.lt, fun j y hy => ?_⟩⟩
  have hj : j < k := by
    rcases Nat.lt_or_ge j k with h1 | h1
    · exact h1
    · rw [List.getElem?_eq_none (by rw [ints_len]; simpa using h1)] at hy; cases hy
  rw [ints_getD _ j (by simpa using hj), getD_range_map _ _ _ hj] at hy
  injection hy with hy
  rw [← hy]
  exact x.ch j (by omega)
end
end Go.Proofs.YtcojodkcpemfdaaDoor
namespace Go.Proofs.YtcojodkcpemfdaaDoor
open Go Go.RowKit
set_option linter.unusedVariables false
set_option maxRecDepth 100000

theorem aloneM_congr (us : List Nat) (p q : Nat → Bool) : ∀ m, (∀ i, i < m → p i = q i) → aloneM us p m = aloneM us q m
  | 0, _ => rfl
  | k + 1, h => by
    show (if p k = true then aloneM us p k ||| 2 ^ us.getD k 0 else aloneM us p k) = (if q k = true then aloneM us q k ||| 2 ^ us.getD k 0 else aloneM us q k)
    rw [h k (by omega), aloneM_congr us p q k (fun i hi => h i (by omega))]
theorem row_cell {w : World} {b : Nat} {f : Nat → Nat} {T : TypeId} (h : w.heap[b]? = some (.cells (rowV f).toArray T (0, 0))) (i : Nat) (hi : i < 24) : w.cell? ⟨b, i, none⟩ = some (.int .i64 ((f i : Nat) : Int)) := by
  unfold World.cell?; rw [h]
  show ((rowV f).toArray)[i]? = _
  rw [List.getElem?_toArray]; exact rowV_at f i hi
theorem info_rows : (Tryd.prog.info? 139).map (·.size) = some 24 := by kernel_rfl
theorem row_range {w : World} (g k : Nat) (f : Nat → Nat) (h : ∀ i, i < 24 → w.cell? ⟨g, k + i, none⟩ = some (.int .i64 ((f i : Nat) : Int))) : w.rangeAt g k (rowV f) := fun j v hv => by
  have hj : j < 24 := by
    rcases Nat.lt_or_ge j 24 with h1 | h1
    · exact h1
    · rw [List.getElem?_eq_none (by rw [rowV_len]; exact h1)] at hv; cases hv
  rw [rowV_at f j hj] at hv
  injection hv with hv
  rw [h j hj, hv]
set_option maxHeartbeats 3200000 in
theorem lettersAlone_any (g m c : Nat) (A : Option Addr) (f f' h' : Nat → Nat) (us : List Nat) (w : World) (x : OBox w g A m c f' h') (hr : Rd w A m (ints us)) (hm : m ≤ 24) (hus : ∀ p, p < m → us.getD p 0 < 8) :
    Calls Tryd.prog 129 #[.pointer (some ⟨g, 0, none⟩), .agg #[.int .i64 ((f 0 : Nat) : Int), .int .i64 ((f 1 : Nat) : Int), .int .i64 ((f 2 : Nat) : Int), .int .i64 ((f 3 : Nat) : Int), .int .i64 ((f 4 : Nat) : Int), .int .i64 ((f 5 : Nat) : Int), .int .i64 ((f 6 : Nat) : Int), .int .i64 ((f 7 : Nat) : Int), .int .i64 ((f 8 : Nat) : Int), .int .i64 ((f 9 : Nat) : Int), .int .i64 ((f 10 : Nat) : Int), .int .i64 ((f 11 : Nat) : Int), .int .i64 ((f 12 : Nat) : Int), .int .i64 ((f 13 : Nat) : Int), .int .i64 ((f 14 : Nat) : Int), .int .i64 ((f 15 : Nat) : Int), .int .i64 ((f 16 : Nat) : Int), .int .i64 ((f 17 : Nat) : Int), .int .i64 ((f 18 : Nat) : Int), .int .i64 ((f 19 : Nat) : Int), .int .i64 ((f 20 : Nat) : Int), .int .i64 ((f 21 : Nat) : Int), .int .i64 ((f 22 : Nat) : Int), .int .i64 ((f 23 : Nat) : Int)]] w fun e w' => e = .returned (.int .i64 ((aloneM us (fun i => f i == 2 ^ i) m : Nat) : Int)) ∧ Below w.heap.size w w' := by
  have hlen : us.length = m := by have := hr.1; rw [ints_len] at this; exact this
  have HL := Lib.hid hlen
  have HUS := Lib.hid hus
  clear hlen hus
  obtain ⟨W1, hW1⟩ : ∃ W1, w.alloc (.cells #[.int .i64 ((f 0 : Nat) : Int), .int .i64 ((f 1 : Nat) : Int), .int .i64 ((f 2 : Nat) : Int), .int .i64 ((f 3 : Nat) : Int), .int .i64 ((f 4 : Nat) : Int), .int .i64 ((f 5 : Nat) : Int), .int .i64 ((f 6 : Nat) : Int), .int .i64 ((f 7 : Nat) : Int), .int .i64 ((f 8 : Nat) : Int), .int .i64 ((f 9 : Nat) : Int), .int .i64 ((f 10 : Nat) : Int), .int .i64 ((f 11 : Nat) : Int), .int .i64 ((f 12 : Nat) : Int), .int .i64 ((f 13 : Nat) : Int), .int .i64 ((f 14 : Nat) : Int), .int .i64 ((f 15 : Nat) : Int), .int .i64 ((f 16 : Nat) : Int), .int .i64 ((f 17 : Nat) : Int), .int .i64 ((f 18 : Nat) : Int), .int .i64 ((f 19 : Nat) : Int), .int .i64 ((f 20 : Nat) : Int), .int .i64 ((f 21 : Nat) : Int), .int .i64 ((f 22 : Nat) : Int), .int .i64 ((f 23 : Nat) : Int)] 139) = W1 := ⟨_, rfl⟩
  have hb1 : Below w.heap.size w W1 := by rw [← hW1]; exact (Below.refl _ w).alloc (Nat.le_refl _) _
  have r1 : W1.heap[w.heap.size]? = some (.cells (rowV f).toArray 139 (0, 0)) := by rw [← hW1]; exact heap_alloc_new w _
  obtain ⟨b, hbw⟩ : ∃ b, b = w.heap.size := ⟨_, rfl⟩
  rw [← hbw] at r1
  have x1 := x.next hb1
  have hr1 := hr.below hb1
  have z0 := x1.c0
  have HBL : Hid (b < W1.heap.size) := Lib.hid (Array.getElem?_eq_some_iff.1 r1).1
  have HAL : Hid (∀ k, aloneM us (fun i => f i == 2 ^ i) (k + 1) = if (f k == 2 ^ k) = true then aloneM us (fun i => f i == 2 ^ i) k ||| 2 ^ us.getD k 0 else aloneM us (fun i => f i == 2 ^ i) k) := Lib.hid fun k => rfl
  have HLT : Hid (∀ k, k ≤ m → aloneM us (fun i => f i == 2 ^ i) k < 2 ^ 8) := Lib.hid fun k hk => aloneM_lt us _ 8 k fun i hi => HUS.out i (by omega)
  obtain ⟨al, hal⟩ : ∃ al, al = aloneM us (fun i => f i == 2 ^ i) := ⟨_, rfl⟩
  have HZ : Hid (al 0 = 0) := Lib.hid (by rw [hal]; rfl)
  rw [← hal] at HAL HLT ⊢
  clear hal
  go_enter Tryd.func129, Tryd.ntmps129
  go_wp2_with fail
  rw [← hbw]
  have HB1 := Lib.hid hb1
  clear hW1 hb1 hbw hr x
  go_loopw [5, 13] (fun v q wr => ∃ k, k ≤ m ∧ q = .int .i64 ((k : Nat) : Int) ∧ v = .int .i64 ((al k : Nat) : Int) ∧ Below W1.heap.size W1 wr) (fun _ q _ => m - (intOf q).toNat)
  case atStart => exact ⟨0, Nat.zero_le _, rfl, by rw [HZ.out]; rfl, Below.refl _ _⟩
  case round =>
    obtain ⟨k, hk, rfl, rfl, hb⟩ := hrel
    by_cases hkm : k < m
    · obtain ⟨gu, ou, y, eU, hgu, hy, hcy⟩ := (hr1.below hb).at_ hkm
      rw [ints_getD us k (by rw [HL.out]; exact hkm)] at hy
      injection hy with hy
      obtain ⟨a, ha⟩ : ∃ a, a = us.getD k 0 := ⟨_, rfl⟩
      have ha8 : a < 8 := by rw [ha]; exact HUS.out k hkm
      rw [← ha] at hy
      have HA := Lib.hid ha
      subst hy eU
      have hcb := (hb.cell (p := ⟨b, k, none⟩) HBL.out).trans (row_cell r1 k (by omega))
      obtain ⟨M, hM⟩ : ∃ M, M = f k := ⟨_, rfl⟩
      rw [← hM] at hcb
      have HAK : Hid (al (k + 1) = if (M == 2 ^ k) = true then al k ||| 2 ^ a else al k) := Lib.hid (by rw [hM, ha]; exact HAL.out k)
      obtain ⟨S, hS⟩ : ∃ S, S = al k := ⟨_, rfl⟩
      have hS8 : S < 256 := by rw [hS]; exact HLT.out k hk
      rw [← hS] at HAK ⊢
      have hk24 : (k : Int) < 24 := by omega
      have hk62 : k ≤ 62 := by omega
      have hw64 := w64_p2 k hk62
      have hw2 : IntKind.i64.wrap (2 ^ k : Int) = wrap64 (2 ^ k : Int) := IntWalk.i64_left _
      clear ha hM hS
      by_cases hxy : M = 2 ^ k
      · have HN : Hid (al (k + 1) = S ||| 2 ^ a) := Lib.hid (by rw [HAK.out, if_pos (by rw [hxy]; simp)])
        have hq : ((M : Int) == wrap64 (2 ^ k : Int)) = true := by rw [hw64, hxy]; simp
        obtain ⟨T, hT⟩ : ∃ T, T = S ||| 2 ^ a := ⟨_, rfl⟩
        have HWI : Hid (∀ ww : World, Calls Tryd.prog 77 #[.int .i64 (S : Int), .int .i64 (a : Int)] ww fun e w' => e = .returned (.int .i64 (T : Int)) ∧ ww = w') := Lib.hid fun ww => by rw [hT]; exact with_any S a (by omega) (by omega) ww
        rw [← hT] at HN
        clear hw64 hxy hT
        go_wp2_with fail
        go_quiet (fail)
        go_wp2_with fail
        refine (HWI.out _).mono ?_
        rintro e w' ⟨rfl, rfl⟩
        go_wp2_with fail
        go_roundw
        case rel => exact ⟨k + 1, by omega, by go_num, by rw [HN.out], by first | exact below_drewN hb _ | exact hb.drew⟩
        case measure => simp [intOf]; omega
      · have hxi : ¬ ((M : Int) = ((2 ^ k : Nat) : Int)) := by omega
        have HN : Hid (al (k + 1) = S) := Lib.hid (by rw [HAK.out, if_neg (by simpa using hxy)])
        have hq : ((M : Int) == wrap64 (2 ^ k : Int)) = false := by rw [hw64]; simpa using hxi
        clear hw64 hxy hxi
        go_wp2_with fail
        go_quiet (fail)
        go_wp2_with fail
        go_roundw
        case rel => exact ⟨k + 1, by omega, by go_num, by rw [HN.out], by first | exact below_drewN hb _ | exact hb.drew⟩
        case measure => simp [intOf]; omega
    · have hke : k = m := by omega
      subst hke
      go_wp2_with fail
      go_ret
      exact ⟨rfl, HB1.out.trans (hb.mono HB1.out.size)⟩
end Go.Proofs.YtcojodkcpemfdaaDoor
namespace Go.Proofs.YtcojodkcpemfdaaDoor
open Go.RowKit
set_option linter.unusedVariables false
set_option maxRecDepth 100000

def wInt (f : List Nat → List Nat → Int) (L : Int) (xs us : List Int) : Int × Int := if wCode L xs us = 0 then (f (xs.map Int.toNat) (us.map Int.toNat), 0) else (0, wCode L xs us)
theorem wInt_no (f : List Nat → List Nat → Int) (L : Int) (xs us : List Int) (h : alphB L xs = false) : wInt f L xs us = (0, 1) := by
  have e : wCode L xs us = 1 := by unfold wCode; rw [if_neg (by rw [h]; decide)]
  unfold wInt; rw [e]; rfl
theorem wInt_bad (f : List Nat → List Nat → Int) (L : Int) (xs us : List Int) (h : alphB L xs = true) (h2 : wordB L us = false) : wInt f L xs us = (0, 2) := by
  have e : wCode L xs us = 2 := by unfold wCode; rw [if_pos h, if_neg (by rw [h2]; decide)]
  unfold wInt; rw [e]; rfl
theorem wInt_yes (f : List Nat → List Nat → Int) (L : Int) (rs us : List Nat) (h : alphB L (ints rs) = true) (h2 : wordB L (ints us) = true) : wInt f L (ints rs) (ints us) = (f rs us, 0) := by
  have e : wCode L (ints rs) (ints us) = 0 := by unfold wCode; rw [if_pos h, if_pos h2]
  unfold wInt; rw [if_pos e, ints_toNat, ints_toNat]
end Go.Proofs.YtcojodkcpemfdaaDoor
namespace Go.Proofs.YtcojodkcpemfdaaDoor
open Go Go.RowKit
set_option linter.unusedVariables false
set_option maxRecDepth 100000

def ordR (rs us : List Nat) : List Nat := ordM (RDep rs) (nfR rs us) us.length
def ordAns (L : Int) (xs us : List Int) : List Int × Int := wAns ordR L xs us
theorem ordAns_small (L : Int) (xs us : List Int) : (ordAns L xs us).1.length ≤ 24 := wAns_small _ 24 (fun rs us _ h => by unfold ordR; rw [ordM_len]; exact h) L xs us
theorem wAns_code (f : List Nat → List Nat → List Nat) (L : Int) (xs us : List Int) (h : ¬ wCode L xs us = 0) : wAns f L xs us = ([], wCode L xs us) := by unfold wAns; rw [if_neg h]
theorem wInt_code (f : List Nat → List Nat → Int) (L : Int) (xs us : List Int) (h : ¬ wCode L xs us = 0) : wInt f L xs us = (0, wCode L xs us) := by unfold wInt; rw [if_neg h]
end Go.Proofs.YtcojodkcpemfdaaDoor
namespace Go.Proofs.YtcojodkcpemfdaaDoor
open Go Go.RowKit
set_option linter.unusedVariables false
set_option maxRecDepth 100000

def flN (rs us : List Nat) : Nat := firstM (RDep rs) rs.length us
def llN (rs us : List Nat) : Nat := firstM (RDep rs) rs.length us.reverse
def flR (rs us : List Nat) : Int := ((flN rs us : Nat) : Int)
def llR (rs us : List Nat) : Int := ((llN rs us : Nat) : Int)
def flAns (L : Int) (xs us : List Int) : Int × Int := wInt flR L xs us
def llAns (L : Int) (xs us : List Int) : Int × Int := wInt llR L xs us
set_option maxHeartbeats 3200000 in
theorem implFirstLetters (L : Int) (A : Option Addr) (n c : Nat) (xs : List Int) (A1 : Option Addr) (m d : Nat) (us : List Int) (w : World) (h : Rd w A n xs) (hwf : Wf xs) (hL1 : -9223372036854775808 ≤ L) (hL2 : L ≤ 9223372036854775807) (hn : n ≤ maxLen) (h2 : Rd w A1 m us) (hwf2 : Wf us) (hm : m ≤ maxLen) (hT : Tab w) :
    Calls Tryd.prog 62 #[.agg #[.int .i64 L, .slice A n c], .slice A1 m d] w (fun e w' => e = .returned (.tuple #[.int .i64 (flAns L xs us).1, .int .i64 (flAns L xs us).2]) ∧ Below w.heap.size w w') := by
  have HB := Lib.hid (below1 w (.cells #[.int .i64 L, .slice A n c] 29))
  have x0 := box_new 29 w L A n c
  have hh := h.below HB.out
  have hh2 := h2.below HB.out
  have hT1 := hT.below HB.out
  by_cases hc : wCode L xs us = 0
  · obtain ⟨ha, hu⟩ := wCode_zero hc
    obtain ⟨rs, rfl, rfl, h8, hr, hrel, hl, hd, _⟩ := alphB_nats L xs n h.1 ha
    obtain ⟨vs, rfl, hv24, hvn⟩ := wordB_nats n us hu
    have hm1 : vs.length = m := by have := h2.1; rw [ints_len] at this; exact this
    have hm24 : m ≤ 24 := by omega
    rw [show flAns (n : Int) (ints rs) (ints vs) = _ from wInt_yes _ (n : Int) rs vs ha hu]
    have HSY := Lib.hid (rdep_sym rs n hl hr ((depB_iff rs n hl hr).1 hd))
    have HRF : Hid (∀ a, a < n → RDep rs a a = true) := Lib.hid fun a h9 => ((depB_iff rs n hl hr).1 hd).1 a (by omega)
    have HNL : Hid (∀ x, x ∈ nfR rs vs → x < n) := Lib.hid fun x hx => by have := nfR_lt rs vs x hx; omega
    have HEQ : Hid (Eqv (RDep rs) (nfR rs vs) vs) := Lib.hid (by unfold nfR; rw [hl]; exact nfM_eqv HSY.out HRF.out vs hvn)
    have HRL : Hid (rs.length = n) := Lib.hid hl
    have HPI := Lib.hid (positionsIn_yes A n c rs A1 m d vs _ hh hwf h8 hr hrel hl hd hh2 hm24 hvn hu hT1)
    have HVL := Lib.hid hm1
    obtain ⟨nf, hnf⟩ : ∃ nf, nf = nfR rs vs := ⟨_, rfl⟩
    rw [← hnf] at HPI HNL HEQ
    clear ha hu hl hm1 hd hr hrel hc hvn hwf hwf2 hh hh2 x0 h h2 hnf
    obtain ⟨V, hV⟩ : ∃ V, V = flN rs vs := ⟨_, rfl⟩
    rw [show flR rs vs = (V : Int) from by rw [hV]; rfl]
    have HV := Lib.hid hV
    clear hV
    go_enter Tryd.func62, Tryd.ntmps62
    go_wp2_with fail
    refine HPI.out.mono ?_
    rintro e w1 ⟨g, A5, c5, rfl, hg, x, hrd, hb⟩
    have HB1 := Lib.hid (HB.out.trans (hb.mono HB.out.size))
    have hnl : nf.length = m := by have := hrd.1; rw [ints_len] at this; exact this
    have HNP : Hid (∀ p, p < m → nf.getD p 0 < n) := Lib.hid fun p hp => in_getD HNL.out p (by omega)
    obtain ⟨F, hF⟩ : ∃ F, F = dnF (RDep rs) nf m := ⟨_, rfl⟩
    have HE : Hid (aloneM nf (fun i => F i == 2 ^ i) m = V) := Lib.hid (by
      rw [HV.out, hF]
      rw [aloneM_congr nf _ (fun i => dnW (RDep rs) nf i == 2 ^ i) m (fun i hi => by show (dnF (RDep rs) nf m i == 2 ^ i) = _; rw [dnF_at _ _ _ _ hi])]
      rw [dn_first (RDep rs) n m nf hnl hm24 HNP.out]
      unfold flN
      rw [HRL.out]
      exact HEQ.out.firstM_ HRF.out)
    rw [← hF] at x
    have HLA := Lib.hid (lettersAlone_any g m c5 A5 F _ _ nf w1 x hrd hm24 (fun p hp => by have := HNP.out p hp; omega))
    rw [HE.out] at HLA
    have HLB : Hid (Calls Tryd.prog 129 #[.pointer (some ⟨g, 0, none⟩), .agg (rowV F).toArray] w1 fun e w' => e = .returned (.int .i64 (V : Int)) ∧ Below w1.heap.size w1 w') := Lib.hid HLA.out
    have hld := Lib.hid (row_range (w := w1) g 1 F (fun i hi => x.cf i hi))
    clear hF x hrd hg hb hnl HLA
    have hif : Hid ((Tryd.prog.info? 139).map (·.size) = some (rowV F).length) := Lib.hid (by rw [rowV_len]; exact info_rows)
    obtain ⟨FV, hFV⟩ : ∃ FV, FV = rowV F := ⟨_, rfl⟩
    rw [← hFV] at hld HLB hif
    clear hFV
    go_wp2_with (refine wpList_load_mid rfl 139 _ rfl g 1 rfl FV _ hld.out Tryd.underlying139 rfl hif.out ?_)
    refine HLB.out.mono ?_
    rintro e w2 ⟨rfl, hb2⟩
    go_wp2_with fail
    go_ret2
    exact ⟨rfl, HB1.out.trans (hb2.mono HB1.out.size)⟩
  · rw [show flAns L xs us = _ from wInt_code _ L xs us hc]
    have HPI := Lib.hid (positionsIn_no L A n c xs A1 m d us _ hh hwf hL1 hL2 hn hh2 hwf2 hm hT1 hc)
    obtain ⟨C, hC⟩ : ∃ C, C = wCode L xs us := ⟨_, rfl⟩
    rw [← hC] at hc HPI ⊢
    have hq1 : (C != 0) = true := by simpa using hc
    have hq2 : (C == 0) = false := by simpa using hc
    clear hC hc
    go_enter Tryd.func62, Tryd.ntmps62
    go_wp2_with fail
    refine HPI.out.mono ?_
    rintro e w1 ⟨rfl, hb⟩
    go_wp2_with fail
    go_ret2
    exact ⟨rfl, HB.out.trans (hb.mono HB.out.size)⟩
set_option maxHeartbeats 3200000 in
theorem implLastLetters (L : Int) (A : Option Addr) (n c : Nat) (xs : List Int) (A1 : Option Addr) (m d : Nat) (us : List Int) (w : World) (h : Rd w A n xs) (hwf : Wf xs) (hL1 : -9223372036854775808 ≤ L) (hL2 : L ≤ 9223372036854775807) (hn : n ≤ maxLen) (h2 : Rd w A1 m us) (hwf2 : Wf us) (hm : m ≤ maxLen) (hT : Tab w) :
    Calls Tryd.prog 67 #[.agg #[.int .i64 L, .slice A n c], .slice A1 m d] w (fun e w' => e = .returned (.tuple #[.int .i64 (llAns L xs us).1, .int .i64 (llAns L xs us).2]) ∧ Below w.heap.size w w') := by
  have HB := Lib.hid (below1 w (.cells #[.int .i64 L, .slice A n c] 29))
  have x0 := box_new 29 w L A n c
  have hh := h.below HB.out
  have hh2 := h2.below HB.out
  have hT1 := hT.below HB.out
  by_cases hc : wCode L xs us = 0
  · obtain ⟨ha, hu⟩ := wCode_zero hc
    obtain ⟨rs, rfl, rfl, h8, hr, hrel, hl, hd, _⟩ := alphB_nats L xs n h.1 ha
    obtain ⟨vs, rfl, hv24, hvn⟩ := wordB_nats n us hu
    have hm1 : vs.length = m := by have := h2.1; rw [ints_len] at this; exact this
    have hm24 : m ≤ 24 := by omega
    rw [show llAns (n : Int) (ints rs) (ints vs) = _ from wInt_yes _ (n : Int) rs vs ha hu]
    have HSY := Lib.hid (rdep_sym rs n hl hr ((depB_iff rs n hl hr).1 hd))
    have HRF : Hid (∀ a, a < n → RDep rs a a = true) := Lib.hid fun a h9 => ((depB_iff rs n hl hr).1 hd).1 a (by omega)
    have HNL : Hid (∀ x, x ∈ nfR rs vs → x < n) := Lib.hid fun x hx => by have := nfR_lt rs vs x hx; omega
    have HEQ : Hid (Eqv (RDep rs) (nfR rs vs) vs) := Lib.hid (by unfold nfR; rw [hl]; exact nfM_eqv HSY.out HRF.out vs hvn)
    have HRL : Hid (rs.length = n) := Lib.hid hl
    have HPI := Lib.hid (positionsIn_yes A n c rs A1 m d vs _ hh hwf h8 hr hrel hl hd hh2 hm24 hvn hu hT1)
    have HVL := Lib.hid hm1
    obtain ⟨nf, hnf⟩ : ∃ nf, nf = nfR rs vs := ⟨_, rfl⟩
    rw [← hnf] at HPI HNL HEQ
    clear ha hu hl hm1 hd hr hrel hc hvn hwf hwf2 hh hh2 x0 h h2 hnf
    obtain ⟨V, hV⟩ : ∃ V, V = llN rs vs := ⟨_, rfl⟩
    rw [show llR rs vs = (V : Int) from by rw [hV]; rfl]
    have HV := Lib.hid hV
    clear hV
    go_enter Tryd.func67, Tryd.ntmps67
    go_wp2_with fail
    refine HPI.out.mono ?_
    rintro e w1 ⟨g, A5, c5, rfl, hg, x, hrd, hb⟩
    have HB1 := Lib.hid (HB.out.trans (hb.mono HB.out.size))
    have hnl : nf.length = m := by have := hrd.1; rw [ints_len] at this; exact this
    have HNP : Hid (∀ p, p < m → nf.getD p 0 < n) := Lib.hid fun p hp => in_getD HNL.out p (by omega)
    obtain ⟨F, hF⟩ : ∃ F, F = upW (RDep rs) nf m := ⟨_, rfl⟩
    have HE : Hid (aloneM nf (fun i => F i == 2 ^ i) m = V) := Lib.hid (by
      rw [HV.out, hF]
      rw [up_last (RDep rs) HSY.out n m nf hnl HNP.out]
      unfold llN
      rw [HRL.out]
      exact HEQ.out.reverse_.firstM_ HRF.out)
    rw [← hF] at x
    have HLA := Lib.hid (lettersAlone_any g m c5 A5 F _ _ nf w1 x hrd hm24 (fun p hp => by have := HNP.out p hp; omega))
    rw [HE.out] at HLA
    have HLB : Hid (Calls Tryd.prog 129 #[.pointer (some ⟨g, 0, none⟩), .agg (rowV F).toArray] w1 fun e w' => e = .returned (.int .i64 (V : Int)) ∧ Below w1.heap.size w1 w') := Lib.hid HLA.out
    have hld := Lib.hid (row_range (w := w1) g 25 F (fun i hi => x.ch i hi))
    clear hF x hrd hg hb hnl HLA
    have hif : Hid ((Tryd.prog.info? 139).map (·.size) = some (rowV F).length) := Lib.hid (by rw [rowV_len]; exact info_rows)
    obtain ⟨FV, hFV⟩ : ∃ FV, FV = rowV F := ⟨_, rfl⟩
    rw [← hFV] at hld HLB hif
    clear hFV
    go_wp2_with (refine wpList_load_mid rfl 139 _ rfl g 25 rfl FV _ hld.out Tryd.underlying139 rfl hif.out ?_)
    refine HLB.out.mono ?_
    rintro e w2 ⟨rfl, hb2⟩
    go_wp2_with fail
    go_ret2
    exact ⟨rfl, HB1.out.trans (hb2.mono HB1.out.size)⟩
  · rw [show llAns L xs us = _ from wInt_code _ L xs us hc]
    have HPI := Lib.hid (positionsIn_no L A n c xs A1 m d us _ hh hwf hL1 hL2 hn hh2 hwf2 hm hT1 hc)
    obtain ⟨C, hC⟩ : ∃ C, C = wCode L xs us := ⟨_, rfl⟩
    rw [← hC] at hc HPI ⊢
    have hq1 : (C != 0) = true := by simpa using hc
    have hq2 : (C == 0) = false := by simpa using hc
    clear hC hc
    go_enter Tryd.func67, Tryd.ntmps67
    go_wp2_with fail
    refine HPI.out.mono ?_
    rintro e w1 ⟨rfl, hb⟩
    go_wp2_with fail
    go_ret2
    exact ⟨rfl, HB.out.trans (hb.mono HB.out.size)⟩
theorem rev_takeI (us : List Int) (k : Nat) (hk : k < us.length) : (us.reverse).take (us.length - k) = (us.reverse).take (us.length - (k + 1)) ++ [us.getD k 0] := by
  have e : us.length - k = us.length - (k + 1) + 1 := by omega
  rw [e, List.take_add_one, List.getElem?_reverse (by omega)]
  have e2 : us.length - 1 - (us.length - (k + 1)) = k := by omega
  rw [e2, List.getD_eq_getElem?_getD, List.getElem?_eq_getElem hk]; rfl
theorem wordB_rev (L : Int) (us : List Int) : wordB L us.reverse = wordB L us := by unfold wordB; rw [List.length_reverse, List.all_reverse]
theorem wCode_rev (L : Int) (xs us : List Int) : wCode L xs us.reverse = wCode L xs us := by unfold wCode; rw [wordB_rev]
theorem llAns_rev (L : Int) (xs us : List Int) : flAns L xs us.reverse = llAns L xs us := by
  unfold flAns llAns wInt
  rw [wCode_rev, List.map_reverse]
  rfl
set_option maxHeartbeats 3200000 in
theorem specFirstLetters (L : Int) (A : Option Addr) (n c : Nat) (xs : List Int) (A1 : Option Addr) (m d : Nat) (us : List Int) (w : World) (h : Rd w A n xs) (hwf : Wf xs) (hL1 : -9223372036854775808 ≤ L) (hL2 : L ≤ 9223372036854775807) (hn : n ≤ maxLen) (h2 : Rd w A1 m us) (hwf2 : Wf us) (hm : m ≤ maxLen) :
    Calls Tryd.prog 65 #[.agg #[.int .i64 L, .slice A n c], .slice A1 m d] w (fun e w' => e = .returned (.tuple #[.int .i64 (flAns L xs us).1, .int .i64 (flAns L xs us).2]) ∧ Below w.heap.size w w') := by
  have HB := Lib.hid (below1 w (.cells #[.int .i64 L, .slice A n c] 29))
  have x0 := box_new 29 w L A n c
  have hh := h.below HB.out
  have hh2 := h2.below HB.out
  by_cases hc : wCode L xs us = 0
  · obtain ⟨ha, hu⟩ := wCode_zero hc
    obtain ⟨rs, rfl, rfl, h8, hr, hrel, hl, hd, _⟩ := alphB_nats L xs n h.1 ha
    obtain ⟨vs, rfl, hv24, hvn⟩ := wordB_nats n us hu
    have hm1 : vs.length = m := by have := h2.1; rw [ints_len] at this; exact this
    have hm24 : m ≤ 24 := by omega
    rw [show flAns (n : Int) (ints rs) (ints vs) = _ from wInt_yes _ (n : Int) rs vs ha hu]
    obtain ⟨V, hV⟩ : ∃ V, V = flN rs vs := ⟨_, rfl⟩
    rw [show flR rs vs = (V : Int) from by rw [hV]; rfl]
    have HV : Hid (V = mkM (freeB (RDep rs) vs) n) := Lib.hid (by rw [hV]; unfold flN firstM; rw [hl])
    have HC : Hid (wCode2 (n : Int) (ints rs) (ints vs) (ints vs) = 0) := Lib.hid (by rw [wCode_two]; exact hc)
    have HVR : Hid (∀ p, p < m → vs.getD p 0 < n) := Lib.hid fun p hp => in_getD hvn p (by omega)
    have HR := Lib.hid hr
    have HMK : Hid (∀ k, mkM (freeB (RDep rs) vs) (k + 1) = if freeB (RDep rs) vs k = true then mkM (freeB (RDep rs) vs) k ||| 2 ^ k else mkM (freeB (RDep rs) vs) k) := Lib.hid fun k => rfl
    have HML : Hid (∀ k, k ≤ 8 → mkM (freeB (RDep rs) vs) k < 2 ^ 8) := Lib.hid fun k hk => mkM_lt _ _ _ hk
    have HFI : Hid (∀ k, freeB (RDep rs) vs k = decide ((0:Int) ≤ firstI (RDep rs) vs k)) := Lib.hid fun k => by
      unfold firstI
      split
      · rename_i h9; rw [h9]; symm; exact decide_eq_true (by omega)
      · rename_i h9; rw [Bool.not_eq_true] at h9; rw [h9]; rfl
    have HFS : Hid (∀ (k : Nat) (ww : World), Below w.heap.size w ww → k < n → Calls Tryd.prog 130 #[.agg #[.int .i64 (n : Int), .slice A n c], .slice A1 m d, .int .i64 (k : Int)] ww fun e w' => e = .returned (.int .i64 (firstI (RDep rs) vs k)) ∧ Below ww.heap.size ww w') := Lib.hid fun k ww hw hk => l03First_any (n : Int) A A1 n c m d k rs vs ww (h.below hw) (by omega) HR.out (h2.below hw) hm24 HVR.out hk
    obtain ⟨al, hal⟩ : ∃ al, al = mkM (freeB (RDep rs) vs) := ⟨_, rfl⟩
    have HZ : Hid (al 0 = 0) := Lib.hid (by rw [hal]; rfl)
    obtain ⟨fi, hfi⟩ : ∃ fi, fi = firstI (RDep rs) vs := ⟨_, rfl⟩
    rw [← hal] at HV HMK HML
    rw [← hfi] at HFI HFS
    clear ha hu hl hm1 hd hr hrel hc hvn hwf hwf2 hV hal hfi
    go_enter Tryd.func65, Tryd.ntmps65
    go_wp2_with fail
    refine (l03Code_any (n : Int) _ _ _ _ _ _ _ _ _ (ints rs) (ints vs) (ints vs) _ hh (by omega) hh2 (by omega) hh2 (by omega)).mono ?_
    rintro e w1 ⟨rfl, hb⟩
    rw [HC.out]
    have x1 := x0.next hb
    have HB1 := Lib.hid (HB.out.trans (hb.mono HB.out.size))
    clear hh hh2 h h2 hb x0
    go_wp2_with fail
    go_loopw [7, 8] (fun v q wr => ∃ k, k ≤ n ∧ q = .int .i64 ((k : Nat) : Int) ∧ v = .int .i64 ((al k : Nat) : Int) ∧ Below w1.heap.size w1 wr) (fun _ q _ => n - (intOf q).toNat)
    case atStart => exact ⟨0, Nat.zero_le _, rfl, by rw [HZ.out]; rfl, Below.refl _ _⟩
    case round =>
      obtain ⟨k, hk, rfl, rfl, hb⟩ := hrel
      have x2 := x1.next hb
      have y0 := x2.c0
      have y1 := x2.c1
      have HBW := Lib.hid (HB1.out.trans (hb.mono HB1.out.size))
      by_cases hkn : k < n
      · have HCF := Lib.hid (HFS.out k wr HBW.out hkn)
        obtain ⟨S, hS⟩ : ∃ S, S = al k := ⟨_, rfl⟩
        have hS8 : S < 256 := by rw [hS]; exact HML.out k (by omega)
        have HMS := Lib.hid (HMK.out k)
        rw [← hS] at HMS ⊢
        obtain ⟨i, hi⟩ : ∃ i, i = fi k := ⟨_, rfl⟩
        have HFK := Lib.hid (HFI.out k)
        rw [← hi] at HCF HFK
        have hp8 : (2:Nat) ^ k ≤ 2 ^ 8 := Nat.pow_le_pow_right (by decide) (by omega)
        obtain ⟨P2, hP2⟩ : ∃ P2, P2 = 2 ^ k := ⟨_, rfl⟩
        have HON : Hid (∀ ww : World, Calls Tryd.prog 76 #[.int .i64 (k : Int)] ww fun e w' => e = .returned (.int .i64 (P2 : Int)) ∧ ww = w') := Lib.hid fun ww => by rw [hP2]; exact one_any k (by omega) ww
        rw [← hP2] at HMS hp8
        have hor := i64_or_nat S P2 (by omega) (by omega)
        clear hS hi hP2
        by_cases h0 : 0 ≤ i
        · have HN : Hid (al (k + 1) = S ||| P2) := Lib.hid (by rw [HMS.out, if_pos (by rw [HFK.out]; exact decide_eq_true h0)])
          have hd0 : decide ((0:Int) ≤ i) = true := decide_eq_true h0
          go_wp2_with fail
          refine HCF.out.mono ?_
          rintro e w4 ⟨rfl, hb4⟩
          go_wp2_with fail
          refine (HON.out _).mono ?_
          rintro e w' ⟨rfl, rfl⟩
          go_wp2_with fail
          go_roundw
          case rel => exact ⟨k + 1, by omega, by go_num, by rw [HN.out], hb.trans (hb4.mono hb.size)⟩
          case measure => simp [intOf]; omega
        · have HN : Hid (al (k + 1) = S) := Lib.hid (by rw [HMS.out, if_neg (by rw [HFK.out, decide_eq_false h0]; decide)])
          have hd0 : decide ((0:Int) ≤ i) = false := decide_eq_false h0
          go_wp2_with fail
          refine HCF.out.mono ?_
          rintro e w4 ⟨rfl, hb4⟩
          go_wp2_with fail
          go_roundw
          case rel => exact ⟨k + 1, by omega, by go_num, by rw [HN.out], hb.trans (hb4.mono hb.size)⟩
          case measure => simp [intOf]; omega
      · have hke : k = n := by omega
        subst hke
        go_wp2_with fail
        go_ret2
        exact ⟨by rw [HV.out]; rfl, HBW.out⟩
  · rw [show flAns L xs us = _ from wInt_code _ L xs us hc]
    have HC := Lib.hid (wCode_two L xs us)
    have hn2 : n ≤ 9223372036854775807 := by unfold maxLen at hn; omega
    have hm2 : m ≤ 9223372036854775807 := by unfold maxLen at hm; omega
    obtain ⟨C, hC⟩ : ∃ C, C = wCode L xs us := ⟨_, rfl⟩
    rw [← hC] at hc HC ⊢
    have hq1 : (C != 0) = true := by simpa using hc
    have hq2 : (C == 0) = false := by simpa using hc
    clear hC hc
    go_enter Tryd.func65, Tryd.ntmps65
    go_wp2_with fail
    refine (l03Code_any L _ _ _ _ _ _ _ _ _ xs us us _ hh hn2 hh2 hm2 hh2 hm2).mono ?_
    rintro e w1 ⟨rfl, hb⟩
    rw [HC.out]
    go_wp2_with fail
    go_ret2
    exact ⟨rfl, HB.out.trans (hb.mono HB.out.size)⟩
end Go.Proofs.YtcojodkcpemfdaaDoor
namespace Go.Proofs.YtcojodkcpemfdaaDoor
open Go Go.RowKit
set_option linter.unusedVariables false

theorem nfR_eqv2 (rs : List Nat) (n : Nat) (hl : rs.length = n) (hsym : ∀ a b, RDep rs a b = RDep rs b a) (href : ∀ a, a < n → RDep rs a a = true) (us : List Nat) (hu : ∀ x, x ∈ us → x < n) : Eqv (RDep rs) (nfR rs us) us := by
  unfold nfR nfM; rw [hl]; exact nfGo_eqv hsym href us.length us rfl hu
theorem nfGo_ltN (D : Nat → Nat → Bool) (n : Nat) : ∀ (k : Nat) (us : List Nat) (x : Nat), x ∈ nfGo D n k us → x < n
  | 0, _, x, h => by cases h
  | k + 1, us, x, h => by
    have h' : x ∈ (match leastFree D n us with | none => [] | some a => a :: nfGo D n k (us.erase a)) := h
    cases hl : leastFree D n us with
    | none => rw [hl] at h'; cases h'
    | some a =>
      rw [hl] at h'
      rcases List.mem_cons.1 h' with e | e
      · rw [e]; exact ((leastFree_iff D n us a).1 hl).1
      · exact nfGo_ltN D n k _ x e
theorem nfR_ltN (rs us : List Nat) (x : Nat) (h : x ∈ nfR rs us) : x < rs.length := by
  unfold nfR nfM at h; exact nfGo_ltN _ _ _ _ x h
theorem inGo_rest (D : Nat → Nat → Bool) (P : Nat → Bool) (n : Nat) (hsym : ∀ a b, D a b = D b a) (href : ∀ a, a < n → D a a = true) : ∀ u p f : List Nat, (∀ x, x ∈ u → x < n) → (∀ x, x ∈ f → x < n) → (∀ x, x ∈ p → P x = true ∧ x < n) → (∀ c, P c = true → freeB D f c = false) →
    Eqv D ((inGo D P u p f).1 ++ (inGo D P u p f).2) (p ++ (f ++ u)) ∧ (∀ c, P c = true → freeB D (inGo D P u p f).2 c = false) ∧ (∀ x, x ∈ (inGo D P u p f).1 → P x = true ∧ x < n) ∧ ∀ x, x ∈ (inGo D P u p f).2 → x < n
  | [], p, f, _, hf, hp, hP => by
    refine ⟨Eqv.of_eq ?_, hP, hp, hf⟩
    show p ++ f = p ++ (f ++ [])
    rw [List.append_nil]
  | a :: u, p, f, hu, hf, hp, hP => by
    have hu' : ∀ x, x ∈ u → x < n := fun x hx => hu x (List.mem_cons_of_mem _ hx)
    have han := hu a List.mem_cons_self
    cases ht : (P a && !depL D f a) with
    | true =>
      have e : inGo D P (a :: u) p f = inGo D P u (p ++ [a]) f := by
        show (if (P a && !depL D f a) = true then _ else _) = _
        rw [ht]; rfl
      rw [Bool.and_eq_true, Bool.not_eq_true'] at ht
      obtain ⟨h1, h2, h3, h4⟩ := inGo_rest D P n hsym href u (p ++ [a]) f hu' hf (fun x hx => by
        rcases List.mem_append.1 hx with h9 | h9
        · exact hp x h9
        · rw [List.mem_singleton.1 h9]; exact ⟨ht.1, han⟩) hP
      rw [e]
      refine ⟨h1.trans ?_, h2, h3, h4⟩
      rw [List.append_assoc]
      exact Eqv.append (Eqv.refl _ _) (pass D hsym a (href a han) f u ht.2).symm
    | false =>
      have e : inGo D P (a :: u) p f = inGo D P u p (f ++ [a]) := by
        show (if (P a && !depL D f a) = true then _ else _) = _
        rw [ht]; rfl
      obtain ⟨h1, h2, h3, h4⟩ := inGo_rest D P n hsym href u p (f ++ [a]) hu' (fun x hx => by
        rcases List.mem_append.1 hx with h9 | h9
        · exact hf x h9
        · rw [List.mem_singleton.1 h9]; exact han) hp (fun c hc => by
        cases h : freeB D (f ++ [a]) c with
        | false => rfl
        | true =>
          rcases free_append D c f [a] h with h9 | ⟨h8, h9⟩
          · rw [hP c hc] at h9; cases h9
          · have h7 := List.mem_singleton.1 (free_mem D c _ h9)
            subst h7
            rw [hc, h8] at ht; cases ht)
      rw [e]
      refine ⟨h1.trans (Eqv.of_eq ?_), h2, h3, h4⟩
      rw [List.append_assoc]; rfl
/-- What FnPrefixesIn asks of a trace and a set. -/
theorem prefix_in (rs us : List Nat) (n k : Nat) (hl : rs.length = n) (h8 : n ≤ 8) (hdep : Dep rs) (hr : ∀ i, rs.getD i 0 < 2 ^ n) (hu : ∀ x, x ∈ us → x < n) :
    ∃ r, lqF rs (pnR rs us k) us = (nfR rs r, 0) ∧ flN rs (nfR rs r) &&& k = 0 ∧ nfR rs (prjS (pnR rs us k) k) = pnR rs us k ∧ r.length ≤ us.length := by
  have hsym : ∀ a b, RDep rs a b = RDep rs b a := rdep_sym rs n hl hr hdep
  have href : ∀ a, a < n → RDep rs a a = true := fun a ha => hdep.1 a (by omega)
  obtain ⟨h1, h2, h3, h4⟩ := inGo_rest (RDep rs) (fun a => k.testBit a) n hsym href us [] [] hu (fun x hx => by cases hx) (fun x hx => by cases hx) (fun c _ => by simp [freeB])
  obtain ⟨pn, hpn⟩ : ∃ pn, pn = (inGo (RDep rs) (fun a => k.testBit a) us [] []).1 := ⟨_, rfl⟩
  obtain ⟨f, hf⟩ : ∃ f, f = (inGo (RDep rs) (fun a => k.testBit a) us [] []).2 := ⟨_, rfl⟩
  have e : pnR rs us k = nfR rs pn := by rw [hpn]; rfl
  rw [← hpn, ← hf] at h1
  rw [← hf] at h2 h4
  rw [← hpn] at h3
  rw [e]
  have hq := nfR_eqv2 rs n hl hsym href pn (fun x hx => (h3 x hx).2)
  have hlt : ∀ x, x ∈ nfR rs pn → x < n := fun x hx => by rw [← hl]; exact nfR_ltN rs pn x hx
  obtain ⟨r, hr1, hr2⟩ := cut_some (RDep rs) n hsym href (nfR rs pn) f us hlt ((Eqv.append hq (Eqv.refl _ f)).trans h1)
  have hrl := cut_len (RDep rs) _ _ _ hr1
  have hrn : ∀ x, x ∈ r → x < n := fun x hx => hu x (hrl.2 x hx)
  refine ⟨r, lqF_yes rs _ us r hr1, ?_, ?_, hrl.1⟩
  · refine Nat.eq_of_testBit_eq fun c => ?_
    rw [Nat.testBit_and, Nat.zero_testBit]
    cases hk : k.testBit c with
    | false => rw [Bool.and_false]
    | true =>
      rw [Bool.and_true]
      cases hb : (flN rs (nfR rs r)).testBit c with
      | false => rfl
      | true =>
        have h9 := (mkM_bit _ _ _).1 hb
        rw [hl] at h9
        have h7 := (nfR_eqv2 rs n hl hsym href r hrn).free (href c h9.1)
        have h6 := hr2.free (href c h9.1)
        rw [h7, ← h6, h2 c hk] at h9
        cases h9.2
  · have h9 : prjS (nfR rs pn) k = nfR rs pn := by
      refine List.filter_eq_self.2 fun x hx => ?_
      have h7 := (hq.mem (href x (hlt x hx))).1 hx
      exact (h3 x h7).1
    rw [h9]
    unfold nfR
    rw [hl]
    exact ((eqv_iff_nf hsym href _ pn (fun x hx => by refine hlt x ?_; unfold nfR; rw [hl]; exact hx) (fun x hx => (h3 x hx).2)).1 (by unfold nfR at hq; rw [hl] at hq; exact hq))
end Go.Proofs.YtcojodkcpemfdaaDoor
