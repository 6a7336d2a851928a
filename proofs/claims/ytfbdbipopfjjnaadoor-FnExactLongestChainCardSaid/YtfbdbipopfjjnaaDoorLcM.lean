/-
  Plain mathematics of the model's longest chains: the best chain from each place, by the best ones of those above it; the best of all.
-/
import Derived.Test.YtfbdbipopfjjnaaDoorChL
namespace Go.Proofs.YtfbdbipopfjjnaaDoor
open Go Go.RowKit
set_option linter.unusedVariables false
set_option maxRecDepth 100000

theorem chL_fuel (rs us : List Nat) (m : Nat) (hm : m ≤ 24) (hsym : ∀ a b, RDep rs a b = RDep rs b a) (hl : us.length = m) : ∀ (f f' s : Nat), s < 2 ^ m → mxS rs us m s ≤ f → mxS rs us m s ≤ f' → chL rs us m f s = chL rs us m f' s
  | 0, f', s, hs, h, h' => by
    have h0 : s = 0 := by
      apply Classical.byContradiction
      intro h0
      have := mxS_pos rs us m s hm hs h0
      omega
    rw [h0, chL_zero, chL_zero]
  | f + 1, f', s, hs, h, h' => by
    by_cases h0 : s = 0
    · rw [h0, chL_zero, chL_zero]
    · have hp := mxS_pos rs us m s hm hs h0
      obtain ⟨q, rfl⟩ : ∃ q, f' = q + 1 := ⟨f' - 1, by omega⟩
      obtain ⟨h1, h2⟩ := nextC_spec rs us m s hm hs h0
      have h3 := mxS_abv rs us m hm hsym hl _ h1
      show (if s = 0 then [] else nextC rs us m s :: chL rs us m f (abvS rs us m (nextC rs us m s))) = (if s = 0 then [] else nextC rs us m s :: chL rs us m q (abvS rs us m (nextC rs us m s)))
      rw [if_neg h0, if_neg h0, chL_fuel rs us m hm hsym hl f q _ (abvS_lt _ _ _ _) (by omega) (by omega)]
def bst (rs us : List Nat) (m i : Nat) : List Nat := i :: chL rs us m 25 (abvS rs us m i)
theorem bst_len (rs us : List Nat) (m : Nat) (hm : m ≤ 24) (hsym : ∀ a b, RDep rs a b = RDep rs b a) (hl : us.length = m) (i : Nat) (hi : i < m) : (bst rs us m i).length = csz rs us m i := by
  have h1 := mxS_abv rs us m hm hsym hl i hi
  have h2 := csz_le rs us m i hi
  unfold bst
  rw [List.length_cons, chL_len rs us m hm hsym hl 25 _ (abvS_lt _ _ _ _) (by omega)]; exact h1
theorem chL_bst (rs us : List Nat) (m : Nat) (hm : m ≤ 24) (hsym : ∀ a b, RDep rs a b = RDep rs b a) (hl : us.length = m) (s : Nat) (hs : s < 2 ^ m) (h0 : s ≠ 0) : chL rs us m 25 s = bst rs us m (nextC rs us m s) := by
  obtain ⟨h1, h2⟩ := nextC_spec rs us m s hm hs h0
  have h3 := mxS_abv rs us m hm hsym hl _ h1
  have h4 := csz_le rs us m _ h1
  show (if s = 0 then [] else nextC rs us m s :: chL rs us m 24 (abvS rs us m (nextC rs us m s))) = _
  rw [if_neg h0]
  unfold bst
  rw [chL_fuel rs us m hm hsym hl 24 25 _ (abvS_lt _ _ _ _) (by omega) (by omega)]
/-- The model's chain from i while the places below t have been looked at. -/
def stC (rs us : List Nat) (m i t : Nat) : List Nat := match upTo (abvS rs us m i) t with
  | [] => [i]
  | x :: r => i :: bst rs us m (fstMx (csz rs us m) x r)
theorem upTo_next (x t : Nat) : upTo x (t + 1) = if x.testBit t = true then upTo x t ++ [t] else upTo x t := by
  unfold upTo
  rw [List.range_succ, List.filter_append]
  by_cases h : x.testBit t = true
  · rw [if_pos h, List.filter_cons_of_pos (by simpa using h), List.filter_nil]
  · rw [if_neg h, List.filter_cons_of_neg (by simpa using h), List.filter_nil, List.append_nil]
theorem stC_start (rs us : List Nat) (m i : Nat) (hm : m ≤ 24) (hi : i < m) : stC rs us m i (i + 1) = [i] := by
  have : upTo (abvS rs us m i) (i + 1) = [] := by
    cases h : upTo (abvS rs us m i) (i + 1) with
    | nil => rfl
    | cons x r =>
      have hx : x ∈ upTo (abvS rs us m i) (i + 1) := by rw [h]; exact List.mem_cons_self
      unfold upTo at hx
      rw [List.mem_filter, List.mem_range] at hx
      obtain ⟨a, b, c⟩ := (abvS_mem rs us m i x hm hi).1 ((bitsOf_mem _ _).2 ⟨by omega, hx.2⟩)
      have := lq_le _ us i x b
      omega
  unfold stC
  rw [this]
theorem stC_no (rs us : List Nat) (m i t : Nat) (h : (abvS rs us m i).testBit t = false) : stC rs us m i (t + 1) = stC rs us m i t := by
  unfold stC
  rw [upTo_next, h]; rfl
theorem upTo_in (rs us : List Nat) (m i t x : Nat) (r : List Nat) (hm : m ≤ 24) (hi : i < m) (h : upTo (abvS rs us m i) t = x :: r) : fstMx (csz rs us m) x r < m := by
  obtain ⟨h1, _, _⟩ := fstMx_spec (csz rs us m) r x
  have hin : fstMx (csz rs us m) x r ∈ upTo (abvS rs us m i) t := by
    rw [h]
    rcases h1 with h1 | h1
    · rw [h1]; exact List.mem_cons_self
    · exact List.mem_cons_of_mem _ h1
  unfold upTo at hin
  rw [List.mem_filter] at hin
  exact bit_lt (abvS_lt rs us m i) hin.2
theorem stC_len (rs us : List Nat) (m : Nat) (hm : m ≤ 24) (hsym : ∀ a b, RDep rs a b = RDep rs b a) (hl : us.length = m) (i t : Nat) (hi : i < m) : 1 ≤ (stC rs us m i t).length ∧ (stC rs us m i t).length ≤ 25 := by
  unfold stC
  cases h : upTo (abvS rs us m i) t with
  | nil => exact ⟨Nat.le_refl _, by show 1 ≤ 25; omega⟩
  | cons x r =>
    have h1 := upTo_in rs us m i t x r hm hi h
    have h2 := bst_len rs us m hm hsym hl _ h1
    have h3 := csz_le rs us m _ h1
    show 1 ≤ (i :: bst rs us m _).length ∧ (i :: bst rs us m _).length ≤ 25
    rw [List.length_cons, h2]
    omega
theorem stC_yes (rs us : List Nat) (m : Nat) (hm : m ≤ 24) (hsym : ∀ a b, RDep rs a b = RDep rs b a) (hl : us.length = m) (i t : Nat) (hi : i < m) (ht : t < m) (h : (abvS rs us m i).testBit t = true) :
    stC rs us m i (t + 1) = if (stC rs us m i t).length < (bst rs us m t).length + 1 then i :: bst rs us m t else stC rs us m i t := by
  have hb := bst_len rs us m hm hsym hl t ht
  have hp := csz_pos rs us m t
  have hn := upTo_next (abvS rs us m i) t
  rw [if_pos h] at hn
  cases hu : upTo (abvS rs us m i) t with
  | nil =>
    have e1 : stC rs us m i t = [i] := by unfold stC; rw [hu]
    have e2 : stC rs us m i (t + 1) = i :: bst rs us m t := by unfold stC; rw [hn, hu]; rfl
    rw [e1, e2, if_pos (by rw [hb]; show 1 < _; omega)]
  | cons x r =>
    have e1 : stC rs us m i t = i :: bst rs us m (fstMx (csz rs us m) x r) := by unfold stC; rw [hu]
    have e2 : stC rs us m i (t + 1) = i :: bst rs us m (fstMx (csz rs us m) x (r ++ [t])) := by unfold stC; rw [hn, hu]; rfl
    have e3 : fstMx (csz rs us m) x (r ++ [t]) = if csz rs us m (fstMx (csz rs us m) x r) < csz rs us m t then t else fstMx (csz rs us m) x r := by
      unfold fstMx; rw [List.foldl_append]; rfl
    have h4 := bst_len rs us m hm hsym hl _ (upTo_in rs us m i t x r hm hi hu)
    rw [e2, e1, List.length_cons, h4, hb, e3]
    by_cases h5 : csz rs us m (fstMx (csz rs us m) x r) < csz rs us m t
    · rw [if_pos h5, if_pos (by omega)]
    · rw [if_neg h5, if_neg (by omega)]
theorem stC_end (rs us : List Nat) (m : Nat) (hm : m ≤ 24) (hsym : ∀ a b, RDep rs a b = RDep rs b a) (hl : us.length = m) (i : Nat) (hi : i < m) : stC rs us m i m = bst rs us m i := by
  have hb : upTo (abvS rs us m i) m = bitsOf (abvS rs us m i) := by
    unfold bitsOf
    rw [upTo_skip (abvS rs us m i) m 24 hm fun b h1 _ => Nat.testBit_lt_two_pow (Nat.lt_of_lt_of_le (abvS_lt _ _ _ _) (Nat.pow_le_pow_right (by decide) h1))]
  unfold stC
  rw [hb]
  cases h : bitsOf (abvS rs us m i) with
  | nil =>
    have h0 : abvS rs us m i = 0 := by
      apply Classical.byContradiction
      intro h0
      exact bits_ne _ m hm (abvS_lt _ _ _ _) h0 h
    show [i] = _
    unfold bst
    rw [h0, chL_zero]
  | cons x r =>
    have h0 : abvS rs us m i ≠ 0 := by
      intro h0
      have : x ∈ bitsOf (abvS rs us m i) := by rw [h]; exact List.mem_cons_self
      have := ((bitsOf_mem _ _).1 this).2
      rw [h0, Nat.zero_testBit] at this; cases this
    show i :: bst rs us m (fstMx (csz rs us m) x r) = _
    have e : nextC rs us m (abvS rs us m i) = fstMx (csz rs us m) x r := by unfold nextC; rw [h]; rfl
    rw [← e, ← chL_bst rs us m hm hsym hl _ (abvS_lt _ _ _ _) h0]; rfl
/-! ### the best of all -/
def obC (rs us : List Nat) (m : Nat) : Nat → List Nat
  | 0 => []
  | d + 1 => if (obC rs us m d).length ≤ (bst rs us m (m - (d + 1))).length then bst rs us m (m - (d + 1)) else obC rs us m d
theorem fstMx_first (f : Nat → Nat) : ∀ (ms : List Nat) (b : Nat), (b :: ms).Pairwise (· < ·) → ∀ k, k ∈ b :: ms → k < fstMx f b ms → f k < f (fstMx f b ms)
  | [], b, _, k, hk, hlt => by
    rcases List.mem_cons.1 hk with rfl | hk
    · exact absurd hlt (Nat.lt_irrefl _)
    · cases hk
  | x :: t, b, hs, k, hk, hlt => by
    obtain ⟨h0, hs'⟩ := List.pairwise_cons.1 hs
    obtain ⟨h1, hs2⟩ := List.pairwise_cons.1 hs'
    have e : fstMx f b (x :: t) = fstMx f (if f b < f x then x else b) t := rfl
    rw [e] at hlt ⊢
    by_cases h : f b < f x
    · rw [if_pos h] at hlt ⊢
      have h2 := (fstMx_spec f t x).2.1
      rcases List.mem_cons.1 hk with rfl | hk
      · omega
      · exact fstMx_first f t x hs' k hk hlt
    · rw [if_neg h] at hlt ⊢
      have hbt : (b :: t).Pairwise (· < ·) := List.pairwise_cons.2 ⟨fun a ha => h0 a (List.mem_cons_of_mem _ ha), hs2⟩
      have ih := fstMx_first f t b hbt
      rcases List.mem_cons.1 hk with rfl | hk
      · exact ih _ List.mem_cons_self hlt
      · rcases List.mem_cons.1 hk with rfl | hk
        · have hbk := h0 k List.mem_cons_self
          rcases (fstMx_spec f t b).1 with h2 | h2
          · rw [h2] at hlt; omega
          · have := ih b List.mem_cons_self (by omega)
            omega
        · exact ih k (List.mem_cons_of_mem _ hk) hlt
theorem obC_spec (rs us : List Nat) (m : Nat) (hm : m ≤ 24) (hsym : ∀ a b, RDep rs a b = RDep rs b a) (hl : us.length = m) : ∀ d, d ≤ m → 0 < d → ∃ q, m - d ≤ q ∧ q < m ∧ obC rs us m d = bst rs us m q ∧ (∀ k, m - d ≤ k → k < m → csz rs us m k ≤ csz rs us m q) ∧ ∀ k, m - d ≤ k → k < q → csz rs us m k < csz rs us m q
  | 0, _, h => absurd h (Nat.lt_irrefl _)
  | d + 1, hd, _ => by
    have hi : m - (d + 1) < m := by omega
    have hb := bst_len rs us m hm hsym hl _ hi
    have U : obC rs us m (d + 1) = if (obC rs us m d).length ≤ (bst rs us m (m - (d + 1))).length then bst rs us m (m - (d + 1)) else obC rs us m d := rfl
    by_cases h0 : d = 0
    · subst h0
      refine ⟨m - 1, by omega, by omega, ?_, fun k h1 h2 => ?_, fun k h1 h2 => by omega⟩
      · rw [U]
        exact if_pos (Nat.zero_le _)
      · have : k = m - 1 := by omega
        rw [this]; exact Nat.le_refl _
    · obtain ⟨q, h1, h2, h3, h4, h5⟩ := obC_spec rs us m hm hsym hl d (by omega) (by omega)
      have hq := bst_len rs us m hm hsym hl q h2
      rw [U, h3, hq, hb]
      by_cases h6 : csz rs us m q ≤ csz rs us m (m - (d + 1))
      · rw [if_pos h6]
        refine ⟨m - (d + 1), by omega, hi, rfl, fun k h7 h8 => ?_, fun k h7 h8 => by omega⟩
        by_cases h9 : k = m - (d + 1)
        · rw [h9]; exact Nat.le_refl _
        · have := h4 k (by omega) h8; omega
      · rw [if_neg h6]
        refine ⟨q, by omega, h2, rfl, fun k h7 h8 => ?_, fun k h7 h8 => ?_⟩
        · by_cases h9 : k = m - (d + 1)
          · rw [h9]; omega
          · exact h4 k (by omega) h8
        · by_cases h9 : k = m - (d + 1)
          · rw [h9]; omega
          · exact h5 k (by omega) h8
theorem obC_full (rs us : List Nat) (m : Nat) (hm : m ≤ 24) (hsym : ∀ a b, RDep rs a b = RDep rs b a) (hl : us.length = m) : obC rs us m m = chL rs us m 25 (2 ^ m - 1) := by
  by_cases h0 : m = 0
  · subst h0
    show [] = chL rs us 0 25 (2 ^ 0 - 1)
    rw [show 2 ^ 0 - 1 = 0 from rfl, chL_zero]
  · have hp : (2:Nat) ≤ 2 ^ m := by
      have : (2:Nat) ^ 1 ≤ 2 ^ m := Nat.pow_le_pow_right (by decide) (by omega)
      simpa using this
    obtain ⟨q, h1, h2, h3, h4, h5⟩ := obC_spec rs us m hm hsym hl m (Nat.le_refl _) (by omega)
    rw [h3, chL_bst rs us m hm hsym hl (2 ^ m - 1) (by omega) (by omega)]
    obtain ⟨g1, g2⟩ := nextC_spec rs us m (2 ^ m - 1) hm (by omega) (by omega)
    congr 1
    have hbf : bitsOf (2 ^ m - 1) = List.range m := bits_full m hm
    obtain ⟨r, hr⟩ : ∃ r, List.range m = 0 :: r := by
      cases hm' : m with
      | zero => omega
      | succ k => exact ⟨_, List.range_succ_eq_map⟩
    have en : nextC rs us m (2 ^ m - 1) = fstMx (csz rs us m) 0 r := by unfold nextC; rw [hbf, hr]; rfl
    have hall : ∀ k, k < m → k ∈ 0 :: r := fun k hk => by rw [← hr]; exact List.mem_range.2 hk
    have hsrt : (0 :: r).Pairwise (· < ·) := by rw [← hr]; exact List.pairwise_lt_range
    rw [en] at g1 g2 ⊢
    have hmax : ∀ k, k < m → csz rs us m k ≤ csz rs us m (fstMx (csz rs us m) 0 r) := fun k hk => by
      obtain ⟨_, a, b⟩ := fstMx_spec (csz rs us m) r 0
      rcases List.mem_cons.1 (hall k hk) with rfl | h
      · exact a
      · exact b k h
    have hfst := fstMx_first (csz rs us m) r 0 hsrt
    rcases Nat.lt_trichotomy q (fstMx (csz rs us m) 0 r) with h | h | h
    · have := hfst q (hall q h2) h
      have := h4 _ (by omega) g1
      omega
    · exact h
    · have := h5 _ (by omega) h
      have := hmax q h2
      omega
end Go.Proofs.YtfbdbipopfjjnaaDoor
