/-
  Plain mathematics of heights and steps.
-/
import Derived.Test.YtcojodkcpemfdaaDoorWord3
namespace Go.Proofs.YtcojodkcpemfdaaDoor
open Go.RowKit
set_option linter.unusedVariables false
set_option maxRecDepth 100000

/-- The height of a letter behind the first k letters of a word with these heights. -/
def hNext (rs us hs : List Nat) (a : Nat) : Nat → Nat
  | 0 => 1
  | k + 1 => if ((rs.getD (us.getD k 0) 0).testBit a && decide (hNext rs us hs a k < hs.getD k 0 + 1)) = true then hs.getD k 0 + 1 else hNext rs us hs a k
theorem hNext_pos (rs us hs : List Nat) (a k : Nat) : 1 ≤ hNext rs us hs a k := by
  induction k with
  | zero => exact Nat.le_refl _
  | succ k ih => unfold hNext; split <;> omega
theorem hNext_ge (rs us hs : List Nat) (a k j : Nat) (hj : j < k) (hd : (rs.getD (us.getD j 0) 0).testBit a = true) : hs.getD j 0 + 1 ≤ hNext rs us hs a k := by
  induction k with
  | zero => omega
  | succ k ih =>
    unfold hNext
    by_cases e : j = k
    · subst e
      rw [hd, Bool.true_and]
      by_cases h : hNext rs us hs a j < hs.getD j 0 + 1
      · rw [decide_eq_true h]; simp
      · rw [decide_eq_false h, if_neg (by decide)]; omega
    · have := ih (by omega)
      split
      · rename_i h
        rw [Bool.and_eq_true, decide_eq_true_eq] at h
        omega
      · exact this
theorem hNext_or (rs us hs : List Nat) (a k : Nat) : hNext rs us hs a k = 1 ∨ ∃ j, j < k ∧ (rs.getD (us.getD j 0) 0).testBit a = true ∧ hNext rs us hs a k = hs.getD j 0 + 1 := by
  induction k with
  | zero => exact .inl rfl
  | succ k ih =>
    unfold hNext
    split
    · rename_i h
      rw [Bool.and_eq_true] at h
      exact .inr ⟨k, by omega, h.1, rfl⟩
    · rcases ih with h | ⟨j, hj, hd, h⟩
      · exact .inl h
      · exact .inr ⟨j, by omega, hd, h⟩
theorem hNext_congr (rs us hs hs' : List Nat) (a k : Nat) (h : ∀ j, j < k → hs.getD j 0 = hs'.getD j 0) : hNext rs us hs a k = hNext rs us hs' a k := by
  induction k with
  | zero => rfl
  | succ k ih =>
    unfold hNext
    rw [ih (fun j hj => h j (by omega)), h k (by omega)]
/-- The heights of the first letters of a word. -/
def hgts (rs us : List Nat) : Nat → List Nat
  | 0 => []
  | i + 1 => hgts rs us i ++ [hNext rs us (hgts rs us i) (us.getD i 0) i]
theorem hgts_len (rs us : List Nat) (i : Nat) : (hgts rs us i).length = i := by
  induction i with
  | zero => rfl
  | succ i ih => unfold hgts; rw [List.length_append, ih]; rfl
def hgt (rs us : List Nat) (k : Nat) : Nat := (hgts rs us (k + 1)).getD k 0
theorem hgts_get (rs us : List Nat) (i k : Nat) (h : k < i) : (hgts rs us i).getD k 0 = hgt rs us k := by
  induction i with
  | zero => omega
  | succ i ih =>
    by_cases e : k = i
    · subst e; rfl
    · rw [← ih (by omega)]
      show (hgts rs us i ++ _).getD k 0 = _
      rw [List.getD_eq_getElem?_getD, List.getElem?_append_left (by rw [hgts_len]; omega), List.getD_eq_getElem?_getD]
theorem hgt_is (rs us : List Nat) (i : Nat) : hgt rs us i = hNext rs us (hgts rs us i) (us.getD i 0) i := by
  unfold hgt
  show (hgts rs us i ++ _).getD i 0 = _
  rw [List.getD_eq_getElem?_getD, List.getElem?_append_right (by rw [hgts_len]; omega), hgts_len, Nat.sub_self]; rfl
theorem hgt_pos (rs us : List Nat) (i : Nat) : 1 ≤ hgt rs us i := by rw [hgt_is]; exact hNext_pos _ _ _ _ _
theorem hgt_ge (rs us : List Nat) (i j : Nat) (hj : j < i) (hd : (rs.getD (us.getD j 0) 0).testBit (us.getD i 0) = true) : hgt rs us j + 1 ≤ hgt rs us i := by
  rw [hgt_is rs us i]
  have := hNext_ge rs us (hgts rs us i) (us.getD i 0) i j hj hd
  rw [hgts_get rs us i j hj] at this; exact this
theorem hgt_or (rs us : List Nat) (i : Nat) : hgt rs us i = 1 ∨ ∃ j, j < i ∧ (rs.getD (us.getD j 0) 0).testBit (us.getD i 0) = true ∧ hgt rs us i = hgt rs us j + 1 := by
  rw [hgt_is rs us i]
  rcases hNext_or rs us (hgts rs us i) (us.getD i 0) i with h | ⟨j, hj, hd, h⟩
  · exact .inl h
  · rw [hgts_get rs us i j hj] at h
    exact .inr ⟨j, hj, hd, h⟩
theorem hgt_le (rs us : List Nat) (i : Nat) : hgt rs us i ≤ i + 1 := by
  induction i using Nat.strongRecOn with
  | ind i ih =>
    rcases hgt_or rs us i with h | ⟨j, hj, _, h⟩
    · omega
    · have := ih j hj; omega

def padTo (out : List Nat) (h : Nat) : List Nat := out ++ List.replicate (h - out.length) 0
theorem padTo_len (out : List Nat) (h : Nat) : (padTo out h).length = max out.length h := by unfold padTo; rw [List.length_append, List.length_replicate]; omega
theorem padTo_same (out : List Nat) (h : Nat) (hl : h ≤ out.length) : padTo out h = out := by unfold padTo; rw [Nat.sub_eq_zero_of_le hl]; simp
theorem padTo_next (out : List Nat) (h : Nat) (hl : out.length < h) : padTo out h = padTo (out ++ [0]) h := by
  unfold padTo
  rw [List.length_append, List.append_assoc]
  have e : h - out.length = (h - (out.length + [0].length)) + 1 := by simp; omega
  rw [e, List.replicate_succ]; rfl
theorem padTo_lt (out : List Nat) (h n : Nat) (ho : ∀ i, out.getD i 0 < 2 ^ n) (i : Nat) : (padTo out h).getD i 0 < 2 ^ n := by
  unfold padTo
  rw [List.getD_eq_getElem?_getD, List.getElem?_append]
  split
  · rw [← List.getD_eq_getElem?_getD]; exact ho i
  · rw [List.getElem?_replicate]
    split <;> exact p2_pos n
def foPut (out : List Nat) (h a : Nat) : List Nat := (padTo out h).set (h - 1) ((padTo out h).getD (h - 1) 0 ||| 2 ^ a)
theorem foPut_len (out : List Nat) (h a : Nat) : (foPut out h a).length = max out.length h := by unfold foPut; rw [List.length_set, padTo_len]
/-- The steps of the first i letters of a word. -/
def foTo (rs us : List Nat) : Nat → List Nat
  | 0 => []
  | i + 1 => foPut (foTo rs us i) (hgt rs us i) (us.getD i 0)
def foM (rs us : List Nat) : List Nat := foTo rs us us.length
theorem foTo_len (rs us : List Nat) (i : Nat) : (foTo rs us i).length ≤ i := by
  induction i with
  | zero => exact Nat.le_refl _
  | succ i ih =>
    show (foPut _ _ _).length ≤ _
    rw [foPut_len]
    have := hgt_le rs us i
    omega
theorem foTo_ge (rs us : List Nat) (i k : Nat) (h : k < i) : hgt rs us k ≤ (foTo rs us i).length := by
  induction i with
  | zero => omega
  | succ i ih =>
    show _ ≤ (foPut _ _ _).length
    rw [foPut_len]
    by_cases e : k = i
    · subst e; omega
    · have := ih (by omega); omega
theorem hgt_one (rs us : List Nat) (i : Nat) : hgt rs us i ≤ (foTo rs us i).length + 1 := by
  rcases hgt_or rs us i with h | ⟨j, hj, _, h⟩
  · omega
  · have := foTo_ge rs us i j hj; omega
theorem foTo_lt (rs us : List Nat) (n : Nat) (hu : ∀ u, u ∈ us → u < n) (i : Nat) (hi : i ≤ us.length) (k : Nat) : (foTo rs us i).getD k 0 < 2 ^ n := by
  induction i generalizing k with
  | zero => show ([] : List Nat).getD k 0 < _; rw [List.getD_nil]; exact p2_pos n
  | succ i ih =>
    show (foPut _ _ _).getD k 0 < _
    have hp := padTo_lt (foTo rs us i) (hgt rs us i) n (fun k => ih (by omega) k)
    unfold foPut
    by_cases e : k = hgt rs us i - 1
    · rw [e, getD_set _ _ _ _ (by rw [padTo_len]; have := hgt_pos rs us i; omega), if_pos rfl]
      refine Nat.or_lt_two_pow (hp _) (Nat.pow_lt_pow_right (by decide) ?_)
      rw [List.getD_eq_getElem?_getD, List.getElem?_eq_getElem (by omega)]
      exact hu _ (List.getElem_mem _)
    · rw [getD_set _ _ _ _ (by rw [padTo_len]; have := hgt_pos rs us i; omega), if_neg e]; exact hp k
theorem foM_len (rs us : List Nat) : (foM rs us).length ≤ us.length := foTo_len rs us us.length

/-- What the program's list of heights, one a letter, holds behind i letters. -/
def HInv (rs us : List Nat) (n i : Nat) (hb : List Nat) : Prop :=
  hb.length = n ∧ (∀ b, b < n → hb.getD b 0 = 0 ∨ ∃ k, k < i ∧ us.getD k 0 = b ∧ hb.getD b 0 = hgt rs us k) ∧ ∀ k, k < i → hgt rs us k ≤ hb.getD (us.getD k 0) 0
theorem hinv_zero (rs us : List Nat) (n : Nat) : HInv rs us n 0 (List.replicate n 0) := ⟨List.length_replicate, fun b _ => .inl (replicate_getD n b), fun k hk => absurd hk (Nat.not_lt_zero _)⟩
theorem hinv_le {rs us : List Nat} {n i : Nat} {hb : List Nat} (h : HInv rs us n i hb) (b : Nat) (hb' : b < n) : hb.getD b 0 ≤ (foTo rs us i).length := by
  rcases h.2.1 b hb' with h1 | ⟨k, hk, _, h1⟩
  · omega
  · rw [h1]; exact foTo_ge rs us i k hk
/-- The greatest height of the letters of a list. -/
def mxTo (hb ms : List Nat) : Nat → Nat
  | 0 => 0
  | t + 1 => max (mxTo hb ms t) (hb.getD (ms.getD t 0) 0)
theorem mxTo_ge (hb ms : List Nat) (t j : Nat) (h : j < t) : hb.getD (ms.getD j 0) 0 ≤ mxTo hb ms t := by
  induction t with
  | zero => omega
  | succ t ih =>
    unfold mxTo
    by_cases e : j = t
    · subst e; omega
    · have := ih (by omega); omega
theorem mxTo_or (hb ms : List Nat) (t : Nat) : mxTo hb ms t = 0 ∨ ∃ j, j < t ∧ mxTo hb ms t = hb.getD (ms.getD j 0) 0 := by
  induction t with
  | zero => exact .inl rfl
  | succ t ih =>
    unfold mxTo
    rcases Nat.le_total (mxTo hb ms t) (hb.getD (ms.getD t 0) 0) with h | h
    · exact .inr ⟨t, by omega, by omega⟩
    · rcases ih with h1 | ⟨j, hj, h1⟩
      · exact .inl (by omega)
      · exact .inr ⟨j, by omega, by omega⟩
theorem getD_mem (ms : List Nat) (j : Nat) (h : j < ms.length) : ms.getD j 0 ∈ ms := by
  rw [List.getD_eq_getElem?_getD, List.getElem?_eq_getElem h]; exact List.getElem_mem _
theorem mem_getD (ms : List Nat) (b : Nat) (h : b ∈ ms) : ∃ j, j < ms.length ∧ ms.getD j 0 = b := by
  obtain ⟨j, hj, e⟩ := List.getElem_of_mem h
  exact ⟨j, hj, by rw [List.getD_eq_getElem?_getD, List.getElem?_eq_getElem hj, e]; rfl⟩
theorem hgt_mx (rs us hb : List Nat) (n i : Nat) (hn : rs.length = n) (h24 : n ≤ 24) (hr : ∀ i, rs.getD i 0 < 2 ^ n) (hd : Dep rs) (hu : ∀ u, u ∈ us → u < n) (hi : i < us.length) (h : HInv rs us n i hb) :
    hgt rs us i = mxTo hb (bitsOf (rs.getD (us.getD i 0) 0)) (bitsOf (rs.getD (us.getD i 0) 0)).length + 1 := by
  have ha := hu _ (getD_mem us i hi)
  obtain ⟨a, hae⟩ : ∃ a, a = us.getD i 0 := ⟨_, rfl⟩
  rw [← hae] at ha ⊢
  have hmem : ∀ b, b ∈ bitsOf (rs.getD a 0) ↔ (rs.getD a 0).testBit b = true := fun b => by
    rw [bitsOf_mem]
    exact ⟨fun h => h.2, fun h => ⟨Nat.lt_of_lt_of_le (bit_lt (hr a) h) h24, h⟩⟩
  have hus : ∀ k, k < i → us.getD k 0 < n := fun k hk => hu _ (getD_mem us k (by omega))
  apply Nat.le_antisymm
  · rcases hgt_or rs us i with h1 | ⟨j, hj, hdj, h1⟩
    · omega
    · rw [← hae] at hdj
      have h2 : (rs.getD a 0).testBit (us.getD j 0) = true := ((hd.2 a (us.getD j 0) (by omega) (by rw [hn]; exact hus j hj)).2 hdj)
      obtain ⟨t, ht, he⟩ := mem_getD _ _ ((hmem _).2 h2)
      have h3 := mxTo_ge hb (bitsOf (rs.getD a 0)) _ t ht
      rw [he] at h3
      have h4 := h.2.2 j hj
      omega
  · rcases mxTo_or hb (bitsOf (rs.getD a 0)) (bitsOf (rs.getD a 0)).length with h1 | ⟨t, ht, h1⟩
    · rw [h1]; exact hgt_pos rs us i
    · have hm := (hmem _).1 (getD_mem _ t ht)
      have hbn := bit_lt (hr a) hm
      rcases h.2.1 _ hbn with h2 | ⟨k, hk, hke, h2⟩
      · rw [h1, h2]; exact hgt_pos rs us i
      · rw [h1, h2]
        refine hgt_ge rs us i k hk ?_
        rw [← hae, hke]
        exact (hd.2 a _ (by omega) (by rw [hn]; exact hbn)).1 hm
theorem hinv_next {rs us hb : List Nat} {n i : Nat} (hn : rs.length = n) (hd : Dep rs) (hu : ∀ u, u ∈ us → u < n) (hi : i < us.length) (h : HInv rs us n i hb) : HInv rs us n (i + 1) (hb.set (us.getD i 0) (hgt rs us i)) := by
  have ha := hu _ (getD_mem us i hi)
  refine ⟨by rw [List.length_set]; exact h.1, fun b hbn => ?_, fun k hk => ?_⟩
  · rw [getD_set _ _ _ _ (by rw [h.1]; exact ha)]
    by_cases e : b = us.getD i 0
    · rw [if_pos e]; exact .inr ⟨i, by omega, e.symm, rfl⟩
    · rw [if_neg e]
      rcases h.2.1 b hbn with h1 | ⟨k, hk, h1⟩
      · exact .inl h1
      · exact .inr ⟨k, by omega, h1⟩
  · rw [getD_set _ _ _ _ (by rw [h.1]; exact ha)]
    by_cases e : us.getD k 0 = us.getD i 0
    · rw [if_pos e]
      by_cases e2 : k = i
      · subst e2; exact Nat.le_refl _
      · have := hgt_ge rs us i k (by omega) (by rw [e]; exact hd.1 _ (by omega))
        omega
    · rw [if_neg e]
      have e2 : k ≠ i := fun e2 => e (by rw [e2])
      exact h.2.2 k (by omega)
end Go.Proofs.YtcojodkcpemfdaaDoor
