/-
  Plain mathematics of chains: how long the chains are that begin at a place; the greatest length; chains by the first greatest size. Chains of positions: chainSizes, slices.MaxFunc by a closure, longestChain, by contracts. The longest chain of positions: longestChain, by a contract.
-/
import Derived.Test.YtfbdbipopfjjnaaDoorOrdM
import Derived.Test.YtfbdbipopfjjnaaDoorFoM
import Derived.Test.YtfbdbipopfjjnaaDoorTrOfM
import Derived.Test.YtfbdbipopfjjnaaDoorPaA
namespace Go.Proofs.YtfbdbipopfjjnaaDoor
open Go.RowKit
set_option linter.unusedVariables false
set_option maxRecDepth 100000

/-- How many places the longest chain has that begins at i: the height in the word read from its end. -/
def csz (rs us : List Nat) (m i : Nat) : Nat := hgt rs us.reverse (m - 1 - i)
theorem csz_pos (rs us : List Nat) (m i : Nat) : 1 ≤ csz rs us m i := hgt_pos _ _ _
theorem csz_step (rs us : List Nat) (m : Nat) (hsym : ∀ a b, RDep rs a b = RDep rs b a) (hl : us.length = m) (i k : Nat) (hik : i < k) (hk : k < m) (hd : RDep rs (us.getD i 0) (us.getD k 0) = true) : csz rs us m k + 1 ≤ csz rs us m i := by
  unfold csz
  refine hgt_ge rs us.reverse (m - 1 - i) (m - 1 - k) (by omega) ?_
  rw [getD_rev us m _ hl (by omega), getD_rev us m _ hl (by omega), show m - 1 - (m - 1 - k) = k by omega, show m - 1 - (m - 1 - i) = i by omega]
  rw [hsym] at hd; exact hd
theorem csz_or (rs us : List Nat) (m : Nat) (hsym : ∀ a b, RDep rs a b = RDep rs b a) (hl : us.length = m) (i : Nat) (hi : i < m) : csz rs us m i = 1 ∨ ∃ k, i < k ∧ k < m ∧ RDep rs (us.getD i 0) (us.getD k 0) = true ∧ csz rs us m i = csz rs us m k + 1 := by
  unfold csz
  rcases hgt_or rs us.reverse (m - 1 - i) with h | ⟨j, hj, hd, h⟩
  · exact .inl h
  · right
    refine ⟨m - 1 - j, by omega, by omega, ?_, by rw [h, show m - 1 - (m - 1 - j) = j by omega]⟩
    rw [getD_rev us m _ hl (by omega), getD_rev us m _ hl (by omega), show m - 1 - (m - 1 - i) = i by omega] at hd
    rw [hsym]; exact hd
theorem csz_lq (rs us : List Nat) (m : Nat) (hsym : ∀ a b, RDep rs a b = RDep rs b a) (hl : us.length = m) (i : Nat) : ∀ k, k < m → lqB (RDep rs) us i k = true → i ≠ k → csz rs us m k + 1 ≤ csz rs us m i := by
  intro k
  induction k using Nat.strongRecOn with
  | ind k ih =>
    intro hk h hne
    rcases (lq_rec _ us i k).1 h with rfl | ⟨j, hj, h2, h3⟩
    · exact absurd rfl hne
    · have h4 := csz_step rs us m hsym hl j k hj hk h3
      by_cases e : i = j
      · subst e; exact h4
      · have := ih j hj (by omega) h2 e; omega
/-! ### maxima -/
def foldMx (f : Nat → Nat) (ms : List Nat) (a : Nat) : Nat := ms.foldl (fun b k => max b (f k)) a
theorem foldMx_take (f : Nat → Nat) (ms : List Nat) (a t k : Nat) (h : ms[t]? = some k) : foldMx f (ms.take (t + 1)) a = max (foldMx f (ms.take t) a) (f k) := by
  unfold foldMx
  rw [List.take_add_one, h, List.foldl_append]; rfl
theorem foldMx_spec (f : Nat → Nat) : ∀ (ms : List Nat) (a : Nat), a ≤ foldMx f ms a ∧ (∀ k, k ∈ ms → f k ≤ foldMx f ms a) ∧ (foldMx f ms a = a ∨ ∃ k, k ∈ ms ∧ foldMx f ms a = f k)
  | [], a => ⟨Nat.le_refl _, fun k h => (by cases h), .inl rfl⟩
  | x :: t, a => by
    obtain ⟨h1, h2, h3⟩ := foldMx_spec f t (max a (f x))
    have e : foldMx f (x :: t) a = foldMx f t (max a (f x)) := rfl
    rw [e]
    refine ⟨by omega, fun k hk => ?_, ?_⟩
    · rcases List.mem_cons.1 hk with rfl | hk
      · omega
      · exact h2 k hk
    · rcases h3 with h3 | ⟨k, hk, h3⟩
      · by_cases h4 : a ≤ f x
        · exact .inr ⟨x, List.mem_cons_self, by rw [h3]; omega⟩
        · exact .inl (by rw [h3]; omega)
      · exact .inr ⟨k, List.mem_cons_of_mem _ hk, h3⟩
/-- The places strictly above i. -/
def abvS (rs us : List Nat) (m i : Nat) : Nat := dif (upW (RDep rs) us m i) (2 ^ i)
theorem abvS_lt (rs us : List Nat) (m i : Nat) : abvS rs us m i < 2 ^ m := Nat.lt_of_le_of_lt (dif_le _ _) (upW_lt _ _ _ _)
theorem abvS_mem (rs us : List Nat) (m i k : Nat) (hm : m ≤ 24) (hi : i < m) : k ∈ bitsOf (abvS rs us m i) ↔ k < m ∧ lqB (RDep rs) us i k = true ∧ i ≠ k := by
  have h24 := p24 m hm
  have hu := upW_lt (RDep rs) us m i
  unfold abvS
  rw [bitsOf_mem, dif_one _ i (by omega) (by omega), Bool.and_eq_true, upW_bit]
  constructor
  · rintro ⟨_, ⟨h1, h2⟩, h3⟩
    exact ⟨h1, h2, by simpa using h3⟩
  · rintro ⟨h1, h2, h3⟩
    exact ⟨by omega, ⟨h1, h2⟩, by simpa using h3⟩
theorem csz_fold (rs us : List Nat) (m : Nat) (hm : m ≤ 24) (hsym : ∀ a b, RDep rs a b = RDep rs b a) (hl : us.length = m) (i : Nat) (hi : i < m) : foldMx (fun k => 1 + csz rs us m k) (bitsOf (abvS rs us m i)) 1 = csz rs us m i := by
  obtain ⟨h1, h2, h3⟩ := foldMx_spec (fun k => 1 + csz rs us m k) (bitsOf (abvS rs us m i)) 1
  have hp := csz_pos rs us m i
  have hle : foldMx (fun k => 1 + csz rs us m k) (bitsOf (abvS rs us m i)) 1 ≤ csz rs us m i := by
    rcases h3 with h3 | ⟨k, hk, h3⟩
    · rw [h3]; exact hp
    · obtain ⟨a, b, c⟩ := (abvS_mem rs us m i k hm hi).1 hk
      have := csz_lq rs us m hsym hl i k a b c
      rw [h3]; show 1 + csz rs us m k ≤ _; omega
  have hge : csz rs us m i ≤ foldMx (fun k => 1 + csz rs us m k) (bitsOf (abvS rs us m i)) 1 := by
    rcases csz_or rs us m hsym hl i hi with h | ⟨k, h4, h5, h6, h7⟩
    · omega
    · have h8 := h2 k ((abvS_mem rs us m i k hm hi).2 ⟨h5, (lq_rec _ us i k).2 (.inr ⟨i, h4, lq_refl _ _ _, h6⟩), by omega⟩)
      have h9 : 1 + csz rs us m k ≤ _ := h8
      omega
  omega
/-- The greatest size in a set. -/
def mxS (rs us : List Nat) (m s : Nat) : Nat := foldMx (csz rs us m) (bitsOf s) 0
theorem mxS_abv (rs us : List Nat) (m : Nat) (hm : m ≤ 24) (hsym : ∀ a b, RDep rs a b = RDep rs b a) (hl : us.length = m) (i : Nat) (hi : i < m) : mxS rs us m (abvS rs us m i) + 1 = csz rs us m i := by
  rw [← csz_fold rs us m hm hsym hl i hi]
  unfold mxS
  obtain ⟨h1, h2, h3⟩ := foldMx_spec (csz rs us m) (bitsOf (abvS rs us m i)) 0
  obtain ⟨g1, g2, g3⟩ := foldMx_spec (fun k => 1 + csz rs us m k) (bitsOf (abvS rs us m i)) 1
  have hle : foldMx (csz rs us m) (bitsOf (abvS rs us m i)) 0 + 1 ≤ foldMx (fun k => 1 + csz rs us m k) (bitsOf (abvS rs us m i)) 1 := by
    rcases h3 with h3 | ⟨k, hk, h3⟩
    · omega
    · have := g2 k hk
      have h9 : 1 + csz rs us m k ≤ _ := this
      omega
  have hge : foldMx (fun k => 1 + csz rs us m k) (bitsOf (abvS rs us m i)) 1 ≤ foldMx (csz rs us m) (bitsOf (abvS rs us m i)) 0 + 1 := by
    rcases g3 with g3 | ⟨k, hk, g3⟩
    · omega
    · have := h2 k hk
      have h9 : foldMx (fun k => 1 + csz rs us m k) (bitsOf (abvS rs us m i)) 1 = 1 + csz rs us m k := g3
      omega
  omega
/-- The first one of the greatest. -/
def fstMx (f : Nat → Nat) (b : Nat) (ms : List Nat) : Nat := ms.foldl (fun b x => if f b < f x then x else b) b
theorem fstMx_take (f : Nat → Nat) (b : Nat) (ms : List Nat) (t k : Nat) (h : ms[t]? = some k) : fstMx f b (ms.take (t + 1)) = if f (fstMx f b (ms.take t)) < f k then k else fstMx f b (ms.take t) := by
  unfold fstMx
  rw [List.take_add_one, h, List.foldl_append]; rfl
theorem fstMx_spec (f : Nat → Nat) : ∀ (ms : List Nat) (b : Nat), (fstMx f b ms = b ∨ fstMx f b ms ∈ ms) ∧ f b ≤ f (fstMx f b ms) ∧ ∀ k, k ∈ ms → f k ≤ f (fstMx f b ms)
  | [], b => ⟨.inl rfl, Nat.le_refl _, fun k h => (by cases h)⟩
  | x :: t, b => by
    have e : fstMx f b (x :: t) = fstMx f (if f b < f x then x else b) t := rfl
    obtain ⟨h1, h2, h3⟩ := fstMx_spec f t (if f b < f x then x else b)
    rw [e]
    by_cases h : f b < f x
    · rw [if_pos h] at h1 h2 h3 ⊢
      refine ⟨.inr ?_, by omega, fun k hk => ?_⟩
      · rcases h1 with h1 | h1
        · rw [h1]; exact List.mem_cons_self
        · exact List.mem_cons_of_mem _ h1
      · rcases List.mem_cons.1 hk with rfl | hk
        · exact h2
        · exact h3 k hk
    · rw [if_neg h] at h1 h2 h3 ⊢
      refine ⟨?_, h2, fun k hk => ?_⟩
      · rcases h1 with h1 | h1
        · exact .inl h1
        · exact .inr (List.mem_cons_of_mem _ h1)
      · rcases List.mem_cons.1 hk with rfl | hk
        · omega
        · exact h3 k hk
def nextC (rs us : List Nat) (m s : Nat) : Nat := fstMx (csz rs us m) ((bitsOf s).getD 0 0) ((bitsOf s).drop 1)
theorem bits_ne (s m : Nat) (hm : m ≤ 24) (hs : s < 2 ^ m) (h0 : s ≠ 0) : bitsOf s ≠ [] := by
  intro h
  apply h0
  apply Nat.eq_of_testBit_eq
  intro i
  rw [Nat.zero_testBit, Bool.eq_false_iff]
  intro hb
  have : i ∈ bitsOf s := (bitsOf_mem s i).2 ⟨by have := bit_lt hs hb; omega, hb⟩
  rw [h] at this; cases this
theorem nextC_spec (rs us : List Nat) (m s : Nat) (hm : m ≤ 24) (hs : s < 2 ^ m) (h0 : s ≠ 0) : nextC rs us m s < m ∧ csz rs us m (nextC rs us m s) = mxS rs us m s := by
  have hne := bits_ne s m hm hs h0
  unfold nextC mxS
  cases hb : bitsOf s with
  | nil => exact absurd hb hne
  | cons x t =>
    have ex : (x :: t).getD 0 0 = x := rfl
    have et : (x :: t).drop 1 = t := rfl
    rw [ex, et]
    obtain ⟨h1, h2, h3⟩ := fstMx_spec (csz rs us m) t x
    obtain ⟨g1, g2, g3⟩ := foldMx_spec (csz rs us m) (x :: t) 0
    have hin : fstMx (csz rs us m) x t ∈ x :: t := by
      rcases h1 with h1 | h1
      · rw [h1]; exact List.mem_cons_self
      · exact List.mem_cons_of_mem _ h1
    refine ⟨?_, ?_⟩
    · rw [← hb] at hin
      exact bit_lt hs ((bitsOf_mem _ _).1 hin).2
    · have a := g2 _ hin
      rcases g3 with g3 | ⟨k, hk, g3⟩
      · omega
      · have b : csz rs us m k ≤ csz rs us m (fstMx (csz rs us m) x t) := by
          rcases List.mem_cons.1 hk with rfl | hk
          · exact h2
          · exact h3 k hk
        omega
theorem mxS_zero (rs us : List Nat) (m : Nat) : mxS rs us m 0 = 0 := by
  unfold mxS
  have : bitsOf 0 = [] := by
    cases h : bitsOf 0 with
    | nil => rfl
    | cons x t =>
      have : x ∈ bitsOf 0 := by rw [h]; exact List.mem_cons_self
      have := ((bitsOf_mem 0 x).1 this).2
      rw [Nat.zero_testBit] at this; cases this
  rw [this]; rfl
theorem mxS_pos (rs us : List Nat) (m s : Nat) (hm : m ≤ 24) (hs : s < 2 ^ m) (h0 : s ≠ 0) : 1 ≤ mxS rs us m s := by
  rw [← (nextC_spec rs us m s hm hs h0).2]; exact csz_pos _ _ _ _
theorem csz_le (rs us : List Nat) (m i : Nat) (hi : i < m) : csz rs us m i ≤ m := by
  unfold csz
  have := hgt_le rs us.reverse (m - 1 - i)
  omega
theorem mxS_le (rs us : List Nat) (m s : Nat) (hm : m ≤ 24) (hs : s < 2 ^ m) : mxS rs us m s ≤ m := by
  by_cases h0 : s = 0
  · rw [h0, mxS_zero]; exact Nat.zero_le _
  · obtain ⟨h1, h2⟩ := nextC_spec rs us m s hm hs h0
    rw [← h2]; exact csz_le _ _ _ _ h1
/-! ### the greatest size is the number of steps -/
theorem fwd (rs us : List Nat) (m : Nat) (hsym : ∀ a b, RDep rs a b = RDep rs b a) (hl : us.length = m) : ∀ i, i < m → ∃ p, p < m ∧ hgt rs us i + csz rs us m i ≤ csz rs us m p + 1 := by
  intro i
  induction i using Nat.strongRecOn with
  | ind i ih =>
    intro hi
    rcases hgt_or rs us i with h | ⟨j, hj, hd, h⟩
    · exact ⟨i, hi, by omega⟩
    · obtain ⟨p, hp, h2⟩ := ih j hj (by omega)
      have := csz_step rs us m hsym hl j i hj hi hd
      exact ⟨p, hp, by omega⟩
theorem bwd (rs us : List Nat) (m : Nat) (hsym : ∀ a b, RDep rs a b = RDep rs b a) (hl : us.length = m) : ∀ d i, m - i ≤ d → i < m → ∃ p, p < m ∧ csz rs us m i + hgt rs us i ≤ hgt rs us p + 1
  | 0, i, h, hi => absurd h (by omega)
  | d + 1, i, h, hi => by
    rcases csz_or rs us m hsym hl i hi with h1 | ⟨k, h2, h3, h4, h5⟩
    · exact ⟨i, hi, by omega⟩
    · obtain ⟨p, hp, h6⟩ := bwd rs us m hsym hl d k (by omega) h3
      have := hgt_ge rs us k i h2 h4
      exact ⟨p, hp, by omega⟩
theorem foTo_att (rs us : List Nat) : ∀ i, (foTo rs us i).length = 0 ∨ ∃ k, k < i ∧ (foTo rs us i).length = hgt rs us k
  | 0 => .inl rfl
  | i + 1 => by
    have e : (foTo rs us (i + 1)).length = max (foTo rs us i).length (hgt rs us i) := by
      show (foPut _ _ _).length = _
      rw [foPut_len]
    rcases foTo_att rs us i with h | ⟨k, hk, h⟩
    · right; exact ⟨i, by omega, by rw [e, h]; omega⟩
    · right
      by_cases h2 : hgt rs us i ≤ hgt rs us k
      · exact ⟨k, by omega, by rw [e, h]; omega⟩
      · exact ⟨i, by omega, by rw [e, h]; omega⟩
theorem steps_mx (rs us : List Nat) (m : Nat) (hm : m ≤ 24) (hsym : ∀ a b, RDep rs a b = RDep rs b a) (hl : us.length = m) : mxS rs us m (2 ^ m - 1) = (foM rs us).length := by
  have hall : ∀ i, i ∈ bitsOf (2 ^ m - 1) ↔ i < m := fun i => by
    rw [bitsOf_mem, Nat.testBit_two_pow_sub_one, decide_eq_true_eq]
    exact ⟨fun h => h.2, fun h => ⟨by omega, h⟩⟩
  obtain ⟨h1, h2, h3⟩ := foldMx_spec (csz rs us m) (bitsOf (2 ^ m - 1)) 0
  have e : (foM rs us).length = (foTo rs us m).length := by unfold foM; rw [hl]
  rw [e]
  unfold mxS
  have hle : foldMx (csz rs us m) (bitsOf (2 ^ m - 1)) 0 ≤ (foTo rs us m).length := by
    rcases h3 with h3 | ⟨k, hk, h3⟩
    · omega
    · obtain ⟨p, hp, h4⟩ := bwd rs us m hsym hl m k (by omega) ((hall k).1 hk)
      have := foTo_ge rs us m p hp
      have := hgt_pos rs us k
      omega
  have hge : (foTo rs us m).length ≤ foldMx (csz rs us m) (bitsOf (2 ^ m - 1)) 0 := by
    rcases foTo_att rs us m with h | ⟨k, hk, h⟩
    · omega
    · obtain ⟨p, hp, h4⟩ := fwd rs us m hsym hl k hk
      have := h2 p ((hall p).2 hp)
      have := csz_pos rs us m k
      omega
  omega
/-- The last step in which each place can stand. -/
def latM (rs us : List Nat) (m : Nat) : List Nat := (List.range m).map fun i => (foM rs us).length + 1 - csz rs us m i
theorem csz_foM (rs us : List Nat) (m : Nat) (hm : m ≤ 24) (hsym : ∀ a b, RDep rs a b = RDep rs b a) (hl : us.length = m) (i : Nat) (hi : i < m) : csz rs us m i ≤ (foM rs us).length := by
  rw [← steps_mx rs us m hm hsym hl]
  obtain ⟨h1, h2, h3⟩ := foldMx_spec (csz rs us m) (bitsOf (2 ^ m - 1)) 0
  exact h2 i ((bitsOf_mem _ _).2 ⟨by omega, by rw [Nat.testBit_two_pow_sub_one]; simpa using hi⟩)
end Go.Proofs.YtfbdbipopfjjnaaDoor
namespace Go.Proofs.YtfbdbipopfjjnaaDoor
open Go Go.RowKit
set_option linter.unusedVariables false
set_option maxRecDepth 100000

/-- The sizes while the places from j on are whole. -/
def szM (rs us : List Nat) (m j : Nat) : List Nat := (List.range m).map fun k => if j ≤ k then csz rs us m k else 0
theorem szM_len (rs us : List Nat) (m j : Nat) : (szM rs us m j).length = m := by simp [szM]
theorem szM_at (rs us : List Nat) (m j k : Nat) (h : k < m) : (szM rs us m j).getD k 0 = if j ≤ k then csz rs us m k else 0 := getD_range_map _ _ _ h
theorem szM_top (rs us : List Nat) (m : Nat) : szM rs us m m = List.replicate m 0 := by
  refine list_eq_getD _ _ m (szM_len _ _ _ _) List.length_replicate fun k hk => ?_
  rw [szM_at _ _ _ _ _ hk, if_neg (by omega), List.getD_eq_getElem?_getD, List.getElem?_replicate, if_pos hk]; rfl
theorem szM_set (rs us : List Nat) (m i : Nat) (h : i < m) : (szM rs us m (i + 1)).set i (csz rs us m i) = szM rs us m i := by
  refine list_eq_getD _ _ m (by rw [List.length_set, szM_len]) (szM_len _ _ _ _) fun k hk => ?_
  rw [getD_set _ _ _ _ (by rw [szM_len]; exact h), szM_at _ _ _ _ _ hk, szM_at _ _ _ _ _ hk]
  by_cases e : k = i
  · subst e; rw [if_pos rfl, if_pos (Nat.le_refl _)]
  · rw [if_neg e]
    by_cases h2 : i + 1 ≤ k
    · rw [if_pos h2, if_pos (by omega)]
    · rw [if_neg h2, if_neg (by omega)]
theorem szM_zero (rs us : List Nat) (m : Nat) : szM rs us m 0 = (List.range m).map (csz rs us m) := by
  unfold szM
  exact List.map_congr_left fun k _ => by rw [if_pos (Nat.zero_le _)]
set_option maxHeartbeats 4000000 in
theorem chainSizes_any (g m c : Nat) (A : Option Addr) (rs us : List Nat) (w : World) (x : OBox w g A m c (dnF (RDep rs) us m) (upW (RDep rs) us m)) (hm : m ≤ 24) (hsym : ∀ a b, RDep rs a b = RDep rs b a) (hl : us.length = m) (hT : Tab w) :
    Calls Tryd.prog 55 #[.pointer (some ⟨g, 0, none⟩)] w fun e w' => ∃ b c', e = .returned (.slice (some ⟨b, 0, none⟩) m c') ∧ Own 2 w' w.heap.size (some ⟨b, 0, none⟩) m c' (ints ((List.range m).map (csz rs us m))) ∧ Below w.heap.size w w' := by
  obtain ⟨i0, hi0, hz0, hz1, hz2⟩ := info_parts info_int
  have mixed : Tryd.prog.follows .mixedOrders = true := by kernel_rfl
  have h24 := p24 m hm
  have HSYM := Lib.hid hsym
  have HLU := Lib.hid hl
  have z0 := x.c0
  have hml : m ≤ maxLen := by unfold maxLen; omega
  have hby : i0.bytes * m ≤ 281474976710656 := by rw [hz2]; omega
  rw [← szM_zero]
  obtain ⟨S, hS⟩ : ∃ S, S = szM rs us m := ⟨_, rfl⟩
  have HSL : Hid (∀ j, (S j).length = m) := Lib.hid fun j => by rw [hS]; exact szM_len _ _ _ _
  have HSA : Hid (∀ j k, k < m → j ≤ k → (S j).getD k 0 = csz rs us m k) := Lib.hid fun j k hk hj => by rw [hS, szM_at _ _ _ _ _ hk, if_pos hj]
  have HST : Hid (S m = List.replicate m 0) := Lib.hid (by rw [hS]; exact szM_top _ _ _)
  have HSS : Hid (∀ i, i < m → (S (i + 1)).set i (csz rs us m i) = S i) := Lib.hid fun i hi => by rw [hS]; exact szM_set _ _ _ _ hi
  rw [← hS]
  clear hsym hl hS
  go_enter Tryd.func55, Tryd.ntmps55
  go_wp2_with (at_make; refine wpList_make_full _ rfl _ _ _ rfl w.heap.size 2 i0 (.int .i64 0) 1 Tryd.underlying22 hi0 hz0 hz1 _ _ (m : Int) (m : Int) m rfl rfl rfl rfl hby hml (Nat.le_refl _) ?_; intro w1 hown0 hg1)
  have ho1 : Own 2 w1 w.heap.size (some ⟨w.heap.size, 0, none⟩) m m (ints (S m)) := by rw [HST.out]; exact own_made hown0
  have hb1 : Below w.heap.size w w1 := (Below.refl _ _).grown hg1 (Nat.le_refl _) (by simp)
  have x1 := x.next hb1
  have HXG : Hid (g < w.heap.size) := Lib.hid x.lt
  obtain ⟨bb, hbb⟩ : ∃ bb, bb = w.heap.size := ⟨_, rfl⟩
  rw [← hbb] at ho1 ⊢
  have HBB := Lib.hid hbb
  have ho1' : Own 2 w1 bb (some ⟨bb, 0, none⟩) m m (ints (S m)) := by rw [hbb] at ho1 ⊢; exact ho1
  clear hown0 hg1 hbb ho1
  go_loopw [4] (fun q wr => ∃ j, j ≤ m ∧ q = .int .i64 ((j : Int) - 1) ∧ OBox wr g A m c (dnF (RDep rs) us m) (upW (RDep rs) us m) ∧ Own 2 wr bb (some ⟨bb, 0, none⟩) m m (ints (S j)) ∧ Below w.heap.size w wr) (fun q _ => ((intOf q) + 1).toNat)
  case atStart => exact ⟨m, Nat.le_refl _, rfl, x1, ho1', hb1⟩
  case round =>
    clear x1 ho1' hb1
    obtain ⟨j, hj, rfl, x, ho, hb⟩ := hrel
    by_cases hj0 : 0 < j
    · obtain ⟨i, hi⟩ : ∃ i, i = j - 1 := ⟨_, rfl⟩
      have hqe : (j : Int) - 1 = (i : Int) := by omega
      have hje : j = i + 1 := by omega
      have him : i < m := by omega
      have HQ := Lib.hid hqe
      rw [hqe]
      subst hje
      clear hi hj0 hqe
      obtain ⟨u0, hu0⟩ : ∃ u, (ints (S (i + 1)))[i]? = some u := ⟨_, List.getElem?_eq_getElem (by rw [ints_len, HSL.out]; exact him)⟩
      have hc0 := ho.cell hu0
      have hf0 := ho.frozen i
      have ho2 := ho.set_ i 1
      have e1 : (ints (S (i + 1))).set i 1 = ints ((S (i + 1)).set i 1) := ints_set _ i 1
      rw [e1] at ho2
      obtain ⟨w2, hw2⟩ : ∃ w2, wr.setCell ⟨bb, i, none⟩ (.int .i64 1) = w2 := ⟨_, rfl⟩
      have hx2 : OBox w2 g A m c (dnF (RDep rs) us m) (upW (RDep rs) us m) := by
        rw [← hw2]; unfold OBox; rw [Below.heap_setCell wr _ _ g (by show ¬ g = bb; have := HXG.out; have := HBB.out; omega)]; exact x
      have hb2 : Below w.heap.size w w2 := by rw [← hw2]; exact hb.setCell (p := ⟨bb, i, none⟩) (by rw [HBB.out]; exact Nat.le_refl _) _
      have ho2' : Own 2 w2 bb (some ⟨bb, 0, none⟩) m m (ints ((S (i + 1)).set i 1)) := by rw [← hw2]; exact ho2
      have hci := hx2.ch i (by omega)
      have hu := upW_lt (RDep rs) us m i
      have hu63 : upW (RDep rs) us m i < 9223372036854775808 := by omega
      have hp63 : (2:Nat) ^ i < 9223372036854775808 := p2_lt i (by omega)
      have hw64 := w64_p2 i (by omega)
      have HMI : Hid (∀ ww : World, Calls Tryd.prog 103 #[.int .i64 ((upW (RDep rs) us m i : Nat) : Int), .int .i64 ((2 ^ i : Nat) : Int)] ww fun e w' => e = .returned (.int .i64 ((abvS rs us m i : Nat) : Int)) ∧ w' = ww) := Lib.hid fun ww => (minus_nat (upW (RDep rs) us m i) (2 ^ i) hu63 hp63 ww).mono fun _ _ h => ⟨h.1, h.2.symm⟩
      obtain ⟨ms, hms⟩ : ∃ ms, ms = bitsOf (abvS rs us m i) := ⟨_, rfl⟩
      have hab := abvS_lt rs us m i
      have hdr : Below w2.heap.size w2 w2.drew := (Below.refl _ _).drew
      have HME : Hid (Calls Tryd.prog 100 #[.int .i64 ((abvS rs us m i : Nat) : Int)] w2.drew fun e w' => ∃ g c, e = .returned (.slice (some ⟨g, 0, none⟩) ms.length c) ∧ Own 2 w' w2.drew.heap.size (some ⟨g, 0, none⟩) ms.length c (ints ms) ∧ Below w2.drew.heap.size w2.drew w') := Lib.hid (by rw [hms]; exact members_some _ (by omega) _ ((hT.below hb2).below hdr))
      have HFO : Hid (foldMx (fun k => 1 + csz rs us m k) ms 1 = csz rs us m i) := Lib.hid (by rw [hms]; exact csz_fold rs us m hm HSYM.out HLU.out i him)
      have HIN : Hid (∀ t k, ms[t]? = some k → k < m ∧ i < k) := Lib.hid fun t k h => by
        have h2 := List.mem_of_getElem? h
        rw [hms] at h2
        obtain ⟨h3, h4, h5⟩ := (abvS_mem rs us m i k hm him).1 h2
        have := lq_le _ us i k h4
        exact ⟨h3, by omega⟩
      have HML : Hid (ms.length ≤ 24) := Lib.hid (by rw [hms]; exact bitsOf_len _)
      obtain ⟨AB, hAB⟩ : ∃ AB, AB = abvS rs us m i := ⟨_, rfl⟩
      rw [← hAB] at HMI HME
      obtain ⟨U, hU⟩ : ∃ U, U = upW (RDep rs) us m i := ⟨_, rfl⟩
      rw [← hU] at HMI hci
      obtain ⟨P2, hP2⟩ : ∃ P2, P2 = 2 ^ i := ⟨_, rfl⟩
      rw [← hP2] at HMI hw64
      have hw65 : IntKind.i64.wrap (2 ^ i : Int) = (P2 : Int) := by rw [← hw64]; exact IntWalk.i64_left _
      have hiz : (i : Int) < 24 := by omega
      have hizm : (i : Int) < (m : Int) := by omega
      have hcd := (hx2.next hdr).ch i (by omega)
      rw [← hU] at hcd
      obtain ⟨ml, hml9⟩ : ∃ ml, ml = ms.length := ⟨_, rfl⟩
      rw [← hml9] at HME HML
      have HMLE := Lib.hid hml9
      clear hms hAB hU hP2 e1 hu hu63 hp63 hab hml9 ho2 ho hb x
      go_upto_region 6 with fail
      go_cut [32, 33, 34] from 23 to 34 (fun v32 v33 v34 wx => ∃ gm cm, v32 = .slice (some ⟨gm, 0, none⟩) ml cm ∧ v33 = .int .i64 (ml : Int) ∧ v34 = .int .i64 0 ∧ Own 2 wx w2.heap.size (some ⟨gm, 0, none⟩) ml cm (ints ms) ∧ Below w2.heap.size w2 wx)
      case first =>
        have hme := HME.out
        go_region_with (first
          | (go_at_call 103; refine (HMI.out _).mono ?_; rintro e w' ⟨rfl, rfl⟩)
          | (go_at_call 100; refine hme.mono ?_; rintro e w3 ⟨gm, cm, rfl, hom, hb3⟩))
        all_goals (
          go_wp2_with fail
          go_meet
          exact ⟨gm, cm, rfl, rfl, rfl, hom, hdr.trans (hb3.mono hdr.size)⟩)
      case rest =>
      obtain ⟨gm, cm, rfl, rfl, rfl, hom, hb23⟩ := hcut
      obtain ⟨w3, rfl⟩ : ∃ w9 : World, w9 = wc := ⟨_, rfl⟩
      clear hw64 hw65
      have HB3 := Lib.hid (hb2.trans (hb23.mono hb2.size))
      have hx3 := hx2.next hb23
      have ho3 := ho2'.below hb23
      have HGM : Hid (w.heap.size < gm ∧ gm ≠ bb ∧ gm < w3.heap.size) := Lib.hid (by
        have h1 := (hom.lt gm rfl).1
        have h2 := (hom.lt gm rfl).2
        have h3 := (ho2'.lt bb rfl).2
        have := HBB.out
        omega)
      have HOM := Lib.hid hom.rd
      obtain ⟨S1, hS1⟩ : ∃ S1, S1 = S (i + 1) := ⟨_, rfl⟩
      have HSL1 : Hid (S1.length = m) := Lib.hid (by rw [hS1]; exact HSL.out _)
      have HSA1 : Hid (∀ k, k < m → i < k → S1.getD k 0 = csz rs us m k) := Lib.hid fun k hk hik => by rw [hS1]; exact HSA.out (i + 1) k hk (by omega)
      have HSS1 : Hid (S1.set i (csz rs us m i) = S i) := Lib.hid (by rw [hS1]; exact HSS.out i him)
      rw [← hS1] at ho3
      clear hom hb23 HME HMI hci hcd hx2 ho2' hb2 hdr hw2 hS1 hc0 hf0 hu0
      go_wp2_with fail
      go_loopw [34] (fun q wy => ∃ t, t ≤ ml ∧ q = .int .i64 ((t : Nat) : Int) ∧ Rd wy (some ⟨gm, 0, none⟩) ml (ints ms) ∧ OBox wy g A m c (dnF (RDep rs) us m) (upW (RDep rs) us m) ∧ Own 2 wy bb (some ⟨bb, 0, none⟩) m m (ints (S1.set i (foldMx (fun k => 1 + csz rs us m k) (ms.take t) 1))) ∧ Below w.heap.size w wy) (fun q _ => ml - (intOf q).toNat)
      case atStart => exact ⟨0, Nat.zero_le _, rfl, HOM.out, hx3, ho3, HB3.out⟩
      case round =>
        clear hx3 ho3
        obtain ⟨t, ht, rfl, hrd, x, ho, hb⟩ := hrel
        have hml24 := HML.out
        by_cases htl : t < ml
        · obtain ⟨k, hk⟩ : ∃ k, ms[t]? = some k := ⟨_, List.getElem?_eq_getElem (by rw [← HMLE.out]; exact htl)⟩
          obtain ⟨hkm, hik⟩ := HIN.out t k hk
          obtain ⟨b9, off9, y, eA, hbs, hy, hcy⟩ := hrd.at_ htl
          rw [ints_at hk] at hy
          injection hy with hy
          subst hy
          cases eA
          rw [Nat.zero_add] at hcy
          have HFN : Hid (foldMx (fun k => 1 + csz rs us m k) (ms.take (t + 1)) 1 = max (foldMx (fun k => 1 + csz rs us m k) (ms.take t) 1) (1 + csz rs us m k)) := Lib.hid (foldMx_take _ ms 1 t k hk)
          obtain ⟨F, hF⟩ : ∃ F, F = fun t => foldMx (fun k => 1 + csz rs us m k) (ms.take t) 1 := ⟨_, rfl⟩
          have HF := Lib.hid hF
          have eF : foldMx (fun k => 1 + csz rs us m k) (ms.take t) 1 = F t := by rw [hF]
          have eF2 : foldMx (fun k => 1 + csz rs us m k) (ms.take (t + 1)) 1 = F (t + 1) := by rw [hF]
          rw [eF] at ho
          rw [eF, eF2] at HFN
          have hci := ho.cell (k := i) (x := ((F t : Nat) : Int)) (by rw [ints_getD _ i (by rw [List.length_set, HSL1.out]; exact him), getD_set _ _ _ _ (by rw [HSL1.out]; exact him), if_pos rfl])
          have hck := ho.cell (k := k) (x := ((csz rs us m k : Nat) : Int)) (by rw [ints_getD _ k (by rw [List.length_set, HSL1.out]; exact hkm), getD_set _ _ _ _ (by rw [HSL1.out]; exact him), if_neg (by omega), HSA1.out k hkm hik])
          have hfi := ho.frozen i
          have hcle := csz_le rs us m k hkm
          have HFB : Hid (F t ≤ 25) := Lib.hid (by
            rw [hF]
            obtain ⟨h1, h2, h3⟩ := foldMx_spec (fun k => 1 + csz rs us m k) (ms.take t) 1
            show foldMx (fun k => 1 + csz rs us m k) (ms.take t) 1 ≤ 25
            rcases h3 with h3 | ⟨q, hq, h3⟩
            · omega
            · obtain ⟨p, hp⟩ := List.mem_iff_getElem?.1 (List.mem_of_mem_take hq)
              have h8 := csz_le rs us m q (HIN.out p q hp).1
              have h9 : foldMx (fun k => 1 + csz rs us m k) (ms.take t) 1 = 1 + csz rs us m q := h3
              omega)
          obtain ⟨V1, hV1⟩ : ∃ V1, V1 = F t := ⟨_, rfl⟩
          obtain ⟨V2, hV2⟩ : ∃ V2, V2 = csz rs us m k := ⟨_, rfl⟩
          rw [← hV1] at hci HFN HFB
          rw [← hV2] at hck HFN hcle
          have hV1b := HFB.out
          have HSET : Hid (∀ v : Nat, Own 2 ((wr.setCell ⟨bb, i, none⟩ (.int .i64 (v : Int))).drew) bb (some ⟨bb, 0, none⟩) m m (ints (S1.set i v))) := Lib.hid fun v => by
            have h9 := ho.set_ i (v : Int)
            rw [ints_set, List.set_set] at h9
            exact h9.below ((Below.refl _ _).drew)
          have HXX : Hid (∀ v : Int, OBox ((wr.setCell ⟨bb, i, none⟩ (.int .i64 v)).drew) g A m c (dnF (RDep rs) us m) (upW (RDep rs) us m)) := Lib.hid fun v => OBox.next (by unfold OBox; rw [Below.heap_setCell wr _ _ g (by show ¬ g = bb; have := HXG.out; have := HBB.out; omega)]; exact x) ((Below.refl _ _).drew)
          have HBX : Hid (∀ v : Int, Below w.heap.size w ((wr.setCell ⟨bb, i, none⟩ (.int .i64 v)).drew)) := Lib.hid fun v => (hb.setCell (p := ⟨bb, i, none⟩) (by rw [HBB.out]; exact Nat.le_refl _) _).drew
          have HRX : Hid (∀ v : Int, Rd ((wr.setCell ⟨bb, i, none⟩ (.int .i64 v)).drew) (some ⟨gm, 0, none⟩) ml (ints ms)) := Lib.hid fun v =>
            (hrd.far2 (grown_set (World.grownBy.refl _ _) i (.int .i64 v)) (fun b _ hb9 e => by cases hb9; injection e with e; exact HGM.out.2.1 e.symm)).below ((Below.refl _ _).drew)
          have hfd : wr.drew.frozen? ⟨bb, i, none⟩ = false := hfi
          have hcid : wr.drew.cell? ⟨bb, i, none⟩ = some (.int .i64 (V1 : Int)) := hci
          clear hF eF eF2 hV1 hV2
          by_cases hmx : 1 + V2 ≤ V1
          · have HV : Hid (F (t + 1) = V1) := Lib.hid (by rw [HFN.out]; omega)
            have hd1 : (1 : Int) + (V2 : Int) ≤ (V1 : Int) := by omega
            have HN := Lib.hid (HSET.out V1)
            rw [← HV.out] at HN
            have HN1 := HXX.out (V1 : Int)
            have HN2 := HBX.out (V1 : Int)
            have HN3 := HRX.out (V1 : Int)
            have hnx1 := Lib.hid HN1
            have hnx2 := Lib.hid HN2
            have hnx3 := Lib.hid HN3
            rw [HV.out] at HN
            clear HN1 HN2 HN3
            go_wp2_with fail
            go_still_tail 13, mixed
            repeat still_step
            change wpList _ _ _ _ _ wr.drew
            go_wp2_with fail
            go_roundw
            case rel => exact ⟨t + 1, by omega, by go_num, hnx3.out, hnx1.out, by show Own _ _ _ _ _ _ (ints (S1.set i (foldMx (fun k => 1 + csz rs us m k) (ms.take (t + 1)) 1))); rw [show foldMx (fun k => 1 + csz rs us m k) (ms.take (t + 1)) 1 = V1 from by rw [← HV.out, HF.out]]; exact HN.out, hnx2.out⟩
            case measure => simp [intOf]; omega
          · obtain ⟨V3, hV3⟩ : ∃ V3, V3 = 1 + V2 := ⟨_, rfl⟩
            have HV : Hid (F (t + 1) = V3) := Lib.hid (by rw [HFN.out]; omega)
            have hd1 : ¬ (V3 : Int) ≤ (V1 : Int) := by omega
            have hd2 : (1 : Int) + (V2 : Int) = (V3 : Int) := by omega
            have hd3 : IntKind.i64.wrap ((1 : Int) + (V2 : Int)) = (V3 : Int) := by rw [IntWalk.i64_left]; unfold wrap64; omega
            have HN := Lib.hid (HSET.out V3)
            have hnx1 := Lib.hid (HXX.out (V3 : Int))
            have hnx2 := Lib.hid (HBX.out (V3 : Int))
            have hnx3 := Lib.hid (HRX.out (V3 : Int))
            have hV3b : V3 ≤ 25 := by omega
            clear hV3 hmx
            go_wp2_with fail
            go_still_tail 13, mixed
            repeat still_step
            change wpList _ _ _ _ _ wr.drew
            clear hd2 hd3
            go_wp2_with fail
            go_roundw
            case rel => exact ⟨t + 1, by omega, by go_num, hnx3.out, hnx1.out, by show Own _ _ _ _ _ _ (ints (S1.set i (foldMx (fun k => 1 + csz rs us m k) (ms.take (t + 1)) 1))); rw [show foldMx (fun k => 1 + csz rs us m k) (ms.take (t + 1)) 1 = V3 from by rw [← HV.out, HF.out]]; exact HN.out, hnx2.out⟩
            case measure => simp [intOf]; omega
        · have hte : t = ml := by omega
          have e9 : foldMx (fun k => 1 + csz rs us m k) (ms.take t) 1 = csz rs us m i := by rw [hte, HMLE.out, List.take_length]; exact HFO.out
          rw [e9, HSS1.out] at ho
          subst hte
          clear e9
          go_wp2_with fail
          go_roundw
          case rel => exact ⟨i, by omega, by go_num, x, ho, hb⟩
          case measure => simp [intOf]
    · have hje : j = 0 := by omega
      subst hje
      have hd : decide ((0 : Int) ≤ ((0 : Nat) : Int) - 1) = false := rfl
      go_wp2_with fail
      go_ret
      exact ⟨bb, m, rfl, ho.mono (by rw [HBB.out]; exact Nat.le_refl _), hb⟩
theorem cmpI_pos (x y : Int) : 0 < cmpI x y ↔ y < x := by unfold cmpI; split <;> (try split) <;> omega
theorem chainCmp_any (bw m d i k : Nat) (A : Option Addr) (us : List Nat) (w : World) (hc : w.cell? ⟨bw, 0, none⟩ = some (.slice A m d)) (h : Rd w A m (ints us)) (hi : i < m) (hk : k < m) :
    Calls Tryd.prog 101 (#[.int .i64 (i : Int), .int .i64 (k : Int)] ++ #[.pointer (some ⟨bw, 0, none⟩)]) w fun e w' => e = .returned (.int .i64 (cmpI ((us.getD i 0 : Nat) : Int) ((us.getD k 0 : Nat) : Int))) ∧ ∃ q, w' = w.drewN q := by
  have hlen : us.length = m := by have := h.1; rw [ints_len] at this; exact this
  obtain ⟨b, off, x, e1, hbs, hx, hcx⟩ := h.at_ hi
  obtain ⟨b2, off2, y, e2, hbs2, hy, hcy⟩ := h.at_ hk
  subst e1
  cases e2
  rw [ints_getD us i (by omega)] at hx
  rw [ints_getD us k (by omega)] at hy
  injection hx with hx
  injection hy with hy
  subst hx hy
  obtain ⟨X, hX⟩ : ∃ X, X = us.getD i 0 := ⟨_, rfl⟩
  obtain ⟨Y, hY⟩ : ∃ Y, Y = us.getD k 0 := ⟨_, rfl⟩
  rw [← hX] at hcx ⊢
  rw [← hY] at hcy ⊢
  have mixed : Tryd.prog.follows .mixedOrders = true := by kernel_rfl
  clear hX hY h hlen
  show Calls _ _ #[.int .i64 (i : Int), .int .i64 (k : Int), .pointer (some ⟨bw, 0, none⟩)] w _
  go_enter Tryd.func101, Tryd.ntmps101
  go_wp2_with fail
  go_quiet_o (first | (go_at_call 102; refine Calls.quiet_of ((compare_any _ _ _).mono fun _ _ ⟨he, hw⟩ => ⟨he, 0, hw.symm⟩)))
  go_wp2_with fail
  go_ret
  exact ⟨rfl, _, rfl⟩
set_option maxHeartbeats 1600000 in
theorem maxFunc_any (cs : Nat → Nat) (f : FuncId) (lb : Array Value) (A : Option Addr) (n c : Nat) (ms : List Nat) (w : World) (h : Rd w A n (ints ms)) (hn0 : 0 < n) (hn : n ≤ 1048576)
    (eg : ∀ args w, (callFunc f args).run Tryd.prog w = .ok (.enter f args) w)
    (hp : ∀ x y, x ∈ ms → y ∈ ms → ∀ ww, Below w.heap.size w ww → Calls Tryd.prog f (#[.int .i64 (x : Int), .int .i64 (y : Int)] ++ lb) ww fun e w' => e = .returned (.int .i64 (cmpI ((cs x : Nat) : Int) ((cs y : Nat) : Int))) ∧ Below ww.heap.size ww w') :
    Calls Tryd.prog 99 #[.slice A n c, .func (.func f) #[] lb] w fun e w' => e = .returned (.int .i64 ((fstMx cs (ms.getD 0 0) (ms.drop 1) : Nat) : Int)) ∧ Below w.heap.size w w' := by
  have HP := Lib.hid hp
  have hlen : ms.length = n := by have := h.1; rw [ints_len] at this; exact this
  have HL := Lib.hid hlen
  obtain ⟨b, off, y, eA, hbs, hy, hcy⟩ := h.at_ hn0
  rw [Nat.add_zero] at hcy
  rw [ints_getD ms 0 (by omega)] at hy
  injection hy with hy
  obtain ⟨x0, hx0⟩ : ∃ x0, x0 = ms.getD 0 0 := ⟨_, rfl⟩
  rw [← hx0] at hy ⊢
  have HX0 : Hid (x0 ∈ ms) := Lib.hid (by rw [hx0]; rw [List.getD_eq_getElem?_getD, List.getElem?_eq_getElem (by omega)]; exact List.getElem_mem _)
  subst hy eA
  obtain ⟨F, hF⟩ : ∃ F : Nat → Nat, F = fun t => fstMx cs x0 ((ms.drop 1).take t) := ⟨_, rfl⟩
  have HF0 : Hid (F 0 = x0) := Lib.hid (by rw [hF]; rfl)
  have HFN : Hid (∀ t k, (ms.drop 1)[t]? = some k → F (t + 1) = if cs (F t) < cs k then k else F t) := Lib.hid fun t k hk => by rw [hF]; exact fstMx_take cs x0 (ms.drop 1) t k hk
  have HFE : Hid (fstMx cs x0 (ms.drop 1) = F (n - 1)) := Lib.hid (by rw [hF]; show _ = fstMx cs x0 ((ms.drop 1).take (n - 1)); rw [List.take_of_length_le (by rw [List.length_drop]; omega)])
  rw [HFE.out]
  have hd1 : decide ((n : Int) < 1) = false := decide_eq_false (by omega)
  clear hp hlen hx0 hF
  go_enter Tryd.func99, Tryd.ntmps99
  go_wp2_with fail
  go_loopw [5, 6] (fun v q wr => ∃ t, t + 1 ≤ n ∧ q = .int .i64 ((t : Int) + 1) ∧ v = .int .i64 ((F t : Nat) : Int) ∧ F t ∈ ms ∧ Below w.heap.size w wr) (fun _ q _ => n - (intOf q).toNat)
  case atStart => exact ⟨0, hn0, rfl, by rw [HF0.out], by rw [HF0.out]; exact HX0.out, Below.refl _ _⟩
  case round =>
    obtain ⟨t, ht, rfl, rfl, hin, hb⟩ := hrel
    have HIN := Lib.hid hin
    clear hin
    by_cases htn : t + 1 < n
    · obtain ⟨k, hk⟩ : ∃ k, ms[t + 1]? = some k := ⟨_, List.getElem?_eq_getElem (by rw [HL.out]; exact htn)⟩
      have hk2 : (ms.drop 1)[t]? = some k := by rw [List.getElem?_drop, Nat.add_comm]; exact hk
      have HKM : Hid (k ∈ ms) := Lib.hid (List.mem_of_getElem? hk)
      obtain ⟨q, hq⟩ : ∃ q, q = t + 1 := ⟨_, rfl⟩
      have hqe : (t : Int) + 1 = (q : Int) := by omega
      have HQ := Lib.hid hqe
      rw [hqe]
      have hqn : q < n := by omega
      obtain ⟨b', off', y, eA, hbs', hy, hcq⟩ := (h.below hb).at_ hqn
      rw [ints_at (show ms[q]? = some k by rw [hq]; exact hk)] at hy
      injection hy with hy
      subst hy
      cases eA
      have HNX := Lib.hid (HFN.out t k hk2)
      obtain ⟨G, hG⟩ : ∃ G, G = F t := ⟨_, rfl⟩
      have HG := Lib.hid hG
      rw [← hG] at HNX HIN ⊢
      have HCL := Lib.hid (HP.out k G HKM.out HIN.out wr hb)
      obtain ⟨C, hC⟩ : ∃ C, C = cmpI ((cs k : Nat) : Int) ((cs G : Nat) : Int) := ⟨_, rfl⟩
      rw [← hC] at HCL
      have hCi : 0 < C ↔ ((cs G : Nat) : Int) < ((cs k : Nat) : Int) := by rw [hC]; exact cmpI_pos _ _
      have hCi2 : 0 < C ↔ cs G < cs k := by rw [hCi]; omega
      have HCI := Lib.hid hCi2
      have HTQ := Lib.hid hq
      clear hk hk2 hqe hG hC hCi hCi2 hq
      by_cases hlt : 0 < C
      · have hdc : decide ((0 : Int) < C) = true := decide_eq_true hlt
        have HN : Hid (F (t + 1) = k) := Lib.hid (by rw [HNX.out, if_pos (HCI.out.1 hlt)])
        go_wp2_with fail
        refine HCL.out.mono ?_
        rintro e w3 ⟨rfl, hb3⟩
        have hcq3 := (hb3.cell (p := ⟨b, off + q, none⟩) hbs').trans hcq
        go_wp2_with fail
        go_roundw
        case rel => exact ⟨t + 1, by have := HTQ.out; omega, by have := HTQ.out; go_num, by rw [HN.out], by rw [HN.out]; exact HKM.out, hb.trans (hb3.mono hb.size)⟩
        case measure => have := HTQ.out; simp [intOf]; omega
      · have hdc : decide ((0 : Int) < C) = false := decide_eq_false hlt
        have HN : Hid (F (t + 1) = G) := Lib.hid (by rw [HNX.out, if_neg (fun h9 => hlt (HCI.out.2 h9))])
        go_wp2_with fail
        refine HCL.out.mono ?_
        rintro e w3 ⟨rfl, hb3⟩
        go_wp2_with fail
        go_roundw
        case rel => exact ⟨t + 1, by have := HTQ.out; omega, by have := HTQ.out; go_num, by rw [HN.out], by rw [HN.out]; exact HIN.out, hb.trans (hb3.mono hb.size)⟩
        case measure => have := HTQ.out; simp [intOf]; omega
    · have hte : n - 1 = t := by omega
      have HE : Hid (F (n - 1) = F t) := Lib.hid (by rw [hte])
      have hd2 : decide ((t : Int) + 1 < (n : Int)) = false := decide_eq_false (by omega)
      clear hte
      go_wp2_with fail
      go_ret
      exact ⟨ret_i _ _ (by rw [HE.out]), hb⟩
end Go.Proofs.YtfbdbipopfjjnaaDoor
namespace Go.Proofs.YtfbdbipopfjjnaaDoor
open Go Go.RowKit
set_option linter.unusedVariables false
set_option maxRecDepth 100000

/-- The chain that takes the first one of the greatest sizes, again and again. -/
def chL (rs us : List Nat) (m : Nat) : Nat → Nat → List Nat
  | 0, _ => []
  | f + 1, s => if s = 0 then [] else nextC rs us m s :: chL rs us m f (abvS rs us m (nextC rs us m s))
theorem chL_zero (rs us : List Nat) (m f : Nat) : chL rs us m f 0 = [] := by
  cases f with
  | zero => rfl
  | succ f => show (if (0 : Nat) = 0 then [] else _) = _; rw [if_pos rfl]
theorem chL_len (rs us : List Nat) (m : Nat) (hm : m ≤ 24) (hsym : ∀ a b, RDep rs a b = RDep rs b a) (hl : us.length = m) : ∀ (f s : Nat), s < 2 ^ m → mxS rs us m s ≤ f → (chL rs us m f s).length = mxS rs us m s
  | 0, s, hs, h => by
    show 0 = _; omega
  | f + 1, s, hs, h => by
    by_cases h0 : s = 0
    · rw [h0, chL_zero, mxS_zero]; rfl
    · obtain ⟨h1, h2⟩ := nextC_spec rs us m s hm hs h0
      have h3 := mxS_abv rs us m hm hsym hl _ h1
      show (if s = 0 then [] else nextC rs us m s :: chL rs us m f (abvS rs us m (nextC rs us m s))).length = _
      rw [if_neg h0, List.length_cons, chL_len rs us m hm hsym hl f _ (abvS_lt _ _ _ _) (by omega)]
      omega
theorem map_csz_at (rs us : List Nat) (m i : Nat) (h : i < m) : ((List.range m).map (csz rs us m)).getD i 0 = csz rs us m i := getD_range_map _ _ _ h
set_option maxHeartbeats 4000000 in
theorem longestChain_any (g m c : Nat) (A : Option Addr) (rs us : List Nat) (w : World) (x : OBox w g A m c (dnF (RDep rs) us m) (upW (RDep rs) us m)) (hm : m ≤ 24) (hsym : ∀ a b, RDep rs a b = RDep rs b a) (hl : us.length = m) (hT : Tab w) :
    Calls Tryd.prog 51 #[.pointer (some ⟨g, 0, none⟩)] w (MakesE 2 w (chL rs us m 25 (2 ^ m - 1)).length (ints (chL rs us m 25 (2 ^ m - 1)))) := by
  obtain ⟨i0, hi0, hz0, hz1, hz2⟩ := info_parts info_int
  have h24 := p24 m hm
  have hp0 := p2_pos m
  have HSYM := Lib.hid hsym
  have HLU := Lib.hid hl
  have HCS := Lib.hid (chainSizes_any g m c A rs us w x hm hsym hl hT)
  have eg : ∀ args w, (callFunc 101 args).run Tryd.prog w = .ok (.enter 101 args) w := fun args w => Go.MuLone.run_callFunc_enter (P := Tryd.prog) Tryd.func101 (by kernel_rfl) rfl args w
  have HEG := Lib.hid eg
  obtain ⟨fin, hfin⟩ : ∃ fin, fin = chL rs us m 25 (2 ^ m - 1) := ⟨_, rfl⟩
  have HFIN := Lib.hid hfin
  have HFL : Hid (fin.length ≤ 24) := Lib.hid (by
    have h1 := mxS_le rs us m (2 ^ m - 1) hm (by omega)
    rw [hfin, chL_len rs us m hm hsym hl 25 _ (by omega) (by omega)]; omega)
  rw [← hfin]
  clear hsym hl hfin eg
  go_enter Tryd.func51, Tryd.ntmps51
  go_wp2_with fail
  refine HCS.out.mono ?_
  rintro e w1 ⟨b, c', rfl, ho1, hb1⟩
  have x1 := x.next hb1
  have hrd1 := ho1.rd
  have hT1 := hT.below hb1
  have HB1 := Lib.hid hb1
  obtain ⟨W2, hW2⟩ : ∃ W2, w1.alloc (.cells #[.slice (some ⟨b, 0, none⟩) m c'] 22) = W2 := ⟨_, rfl⟩
  have hb2 : Below w1.heap.size w1 W2 := by rw [← hW2]; exact below1 w1 _
  have hbw : W2.cell? ⟨w1.heap.size, 0, none⟩ = some (.slice (some ⟨b, 0, none⟩) m c') := by rw [← hW2]; exact cell_new0 _ _ _
  have hbl : w1.heap.size < W2.heap.size := by rw [← hW2]; simp
  go_wp2_with fail
  have x2 := x1.next hb2
  have hrd2 := hrd1.below hb2
  have hT2 := hT1.below hb2
  have HB2 := Lib.hid (HB1.out.trans (hb2.mono HB1.out.size))
  have HOA := Lib.hid (oall_any g m c A (fun _ => 0) (fun _ => 0) W2 x2.c0 hm)
  obtain ⟨FU, hFU⟩ : ∃ FU, FU = 2 ^ m - 1 := ⟨_, rfl⟩
  rw [← hFU] at HOA
  have hfu : FU < 2 ^ m := by omega
  have HFU : Hid (fin = chL rs us m 25 FU) := Lib.hid (by rw [hFU]; exact HFIN.out)
  have HMX : Hid (mxS rs us m FU ≤ 25) := Lib.hid (Nat.le_trans (mxS_le rs us m FU hm hfu) (by omega))
  obtain ⟨bw, hbw9⟩ : ∃ bw, bw = w1.heap.size := ⟨_, rfl⟩
  rw [← hbw9] at hbw hbl ⊢
  obtain ⟨cs, hcs⟩ : ∃ cs, cs = (List.range m).map (csz rs us m) := ⟨_, rfl⟩
  have HCA : Hid (∀ i, i < m → cs.getD i 0 = csz rs us m i) := Lib.hid fun i hi => by rw [hcs]; exact map_csz_at rs us m i hi
  rw [← hcs] at hrd2
  clear hW2 hb2 hFU hbw9 hcs ho1 hb1 x1 hrd1 hT1 hp0
  refine HOA.out.mono ?_
  rintro e w' ⟨rfl, rfl⟩
  go_wp2_with fail
  go_loopw [4, 5] (fun v q wr => ∃ (s f : Nat) (zs : List Nat) (A1 : Option Addr) (c1 : Nat), s < 2 ^ m ∧ q = .int .i64 (s : Int) ∧ v = .slice A1 zs.length c1 ∧ mxS rs us m s ≤ f ∧ zs ++ chL rs us m f s = fin ∧ Own 2 wr W2.heap.size A1 zs.length c1 (ints zs) ∧ Below W2.heap.size W2 wr) (fun _ q _ => mxS rs us m (intOf q).toNat)
  case atStart => exact ⟨FU, 25, [], none, 0, hfu, rfl, rfl, HMX.out, by rw [HFU.out]; rfl, Own.nil _ _ _, Below.refl _ _⟩
  case round =>
    obtain ⟨s, f, zs, A1, c1, hs, rfl, rfl, hmf, hfin, ho, hb⟩ := hrel
    have HFI := Lib.hid hfin
    have HMF := Lib.hid hmf
    have hzl : zs.length ≤ 24 := by have := HFL.out; have h9 := congrArg List.length hfin; rw [List.length_append] at h9; omega
    obtain ⟨L, hL⟩ : ∃ L, L = zs.length := ⟨_, rfl⟩
    rw [← hL] at ho hzl ⊢
    have HLZ := Lib.hid hL
    clear hfin hmf hL
    by_cases h0 : s = 0
    · have HE : Hid (zs = fin) := Lib.hid (by have h9 := HFI.out; rw [h0, chL_zero, List.append_nil] at h9; exact h9)
      subst h0
      go_wp2_with fail
      go_ret
      refine ⟨A1, c1, ?_, ?_, HB2.out.trans (hb.mono HB2.out.size)⟩
      · rw [← HE.out, ← HLZ.out]; rfl
      · rw [← HE.out, ← HLZ.out]; exact ho.mono HB2.out.size
    · obtain ⟨hq1, hq2⟩ := nextC_spec rs us m s hm hs h0
      have hmx := mxS_abv rs us m hm HSYM.out HLU.out _ hq1
      obtain ⟨ms, hms⟩ : ∃ ms, ms = bitsOf s := ⟨_, rfl⟩
      have HNX : Hid (fstMx (csz rs us m) (ms.getD 0 0) (ms.drop 1) = nextC rs us m s) := Lib.hid (by rw [hms]; rfl)
      have hxr := x2.next hb
      have hTr := hT2.below hb
      have HME := Lib.hid (members_some s (by omega) wr hTr)
      rw [← hms] at HME
      have hmsne : 0 < ms.length := by rw [hms]; exact List.length_pos_iff.2 (bits_ne s m hm hs h0)
      have hms24 : ms.length ≤ 24 := by rw [hms]; exact bitsOf_len s
      have HMM : Hid (∀ k, k ∈ ms → k < m) := Lib.hid fun k hk => by rw [hms] at hk; exact bit_lt hs ((bitsOf_mem _ _).1 hk).2
      have HCX : Hid (∀ x y, x ∈ ms → y ∈ ms → ∀ ww, Below wr.heap.size wr ww → Calls Tryd.prog 101 (#[.int .i64 (x : Int), .int .i64 (y : Int)] ++ #[.pointer (some ⟨bw, 0, none⟩)]) ww fun e w' => e = .returned (.int .i64 (cmpI ((csz rs us m x : Nat) : Int) ((csz rs us m y : Nat) : Int))) ∧ Below ww.heap.size ww w') := Lib.hid fun x y hx hy ww hw => by
        have hbb := hb.trans (hw.mono hb.size)
        have h9 := chainCmp_any bw m c' x y (some ⟨b, 0, none⟩) cs ww ((hbb.cell (p := ⟨bw, 0, none⟩) hbl).trans hbw) (hrd2.below hbb) (HMM.out x hx) (HMM.out y hy)
        rw [HCA.out x (HMM.out x hx), HCA.out y (HMM.out y hy)] at h9
        exact h9.mono fun _ _ ⟨he, q, hq⟩ => ⟨he, by rw [hq]; exact below_drewN (Below.refl _ _) q⟩
      obtain ⟨nx, hnx⟩ : ∃ nx, nx = nextC rs us m s := ⟨_, rfl⟩
      rw [← hnx] at hq1 hq2 hmx HNX
      have hu63 : upW (RDep rs) us m nx < 9223372036854775808 := by have := upW_lt (RDep rs) us m nx; omega
      have hp63 : (2:Nat) ^ nx < 9223372036854775808 := p2_lt nx (by omega)
      have hw64 := w64_p2 nx (by omega)
      have HMI : Hid (∀ (ww : World) (j : Nat), Calls Tryd.prog 103 #[.int .i64 ((upW (RDep rs) us m nx : Nat) : Int), .int .i64 ((2 ^ nx : Nat) : Int)] (ww.drewN j) fun e w'' => e = .returned (.int .i64 ((abvS rs us m nx : Nat) : Int)) ∧ ∃ m', w'' = ww.drewN m') := Lib.hid fun ww j => Calls.quiet_of_same ((minus_nat (upW (RDep rs) us m nx) (2 ^ nx) hu63 hp63 _).mono fun _ _ ⟨he, hw⟩ => ⟨he, hw.symm⟩)
      obtain ⟨f', hf'⟩ : ∃ f', f = f' + 1 := ⟨f - 1, by have := HMF.out; have := csz_pos rs us m nx; omega⟩
      have HFN : Hid ((zs ++ [nx]) ++ chL rs us m f' (abvS rs us m nx) = fin) := Lib.hid (by
        rw [← HFI.out, hf', List.append_assoc]
        show _ = zs ++ (if s = 0 then [] else nextC rs us m s :: chL rs us m f' (abvS rs us m (nextC rs us m s)))
        rw [if_neg h0, ← hnx]; rfl)
      have HMN : Hid (mxS rs us m (abvS rs us m nx) ≤ f' ∧ mxS rs us m (abvS rs us m nx) < mxS rs us m s) := Lib.hid (by have := HMF.out; omega)
      have HAL : Hid (abvS rs us m nx < 2 ^ m) := Lib.hid (abvS_lt _ _ _ _)
      obtain ⟨U, hU⟩ : ∃ U, U = upW (RDep rs) us m nx := ⟨_, rfl⟩
      rw [← hU] at HMI
      have HU := Lib.hid hU
      obtain ⟨AB, hAB⟩ : ∃ AB, AB = abvS rs us m nx := ⟨_, rfl⟩
      rw [← hAB] at HMI HFN HMN HAL
      obtain ⟨P2, hP2⟩ : ∃ P2, P2 = 2 ^ nx := ⟨_, rfl⟩
      rw [← hP2] at HMI hw64
      have hw65 : IntKind.i64.wrap (2 ^ nx : Int) = (P2 : Int) := by rw [← hw64]; exact IntWalk.i64_left _
      have hs1 : ((s : Int) != 0) = true := by simp; omega
      have hnz : (nx : Int) < 24 := by omega
      obtain ⟨ml, hml⟩ : ∃ ml, ml = ms.length := ⟨_, rfl⟩
      rw [← hml] at HME hmsne hms24
      clear hms hq2 hmx hnx hu63 hp63 hf' hU hAB hP2 hml h0
      go_wp2_with fail
      refine HME.out.mono ?_
      rintro e w3 ⟨gm, cm, rfl, hom, hb3⟩
      have HMF2 := Lib.hid (maxFunc_any (csz rs us m) 101 #[.pointer (some ⟨bw, 0, none⟩)] (some ⟨gm, 0, none⟩) ml cm ms w3 hom.rd hmsne (by omega) HEG.out (fun x y hx hy ww hw => HCX.out x y hx hy ww (hb3.trans (hw.mono hb3.size))))
      rw [HNX.out] at HMF2
      have ho3 := ho.below hb3
      clear hom
      go_wp2_with fail
      refine HMF2.out.mono ?_
      rintro e w4 ⟨rfl, hb4⟩
      have hb34 := hb3.trans (hb4.mono hb3.size)
      have ho4 := ho3.below hb4
      have HB4 := Lib.hid (hb.trans (hb34.mono hb.size))
      have HB34 := Lib.hid hb34
      have HAP : Hid (ints (zs ++ [nx]) = ints (zs ++ [nx])) := Lib.hid rfl
      have hmlx : L + 1 ≤ maxLen := by unfold maxLen; omega
      have hby2 : (L + 1) * 8 ≤ 140737488355328 := by omega
      clear hb34 hb3 hb4 ho3 ho hb hxr hTr
      go_wp2_with (at_builtin; refine wpList_append_own _ rfl _ _ 22 rfl W2.heap.size 2 i0 (.int .i64 0) 1 8 Tryd.underlying22 hi0 hz0 hz1 hz2 rfl (by decide) (.slice A1 L c1) L ((ints zs).map (Value.int .i64)) rfl (World.ownsRow.alloc ho4 _) ⟨w4.heap.size, 0, none⟩ 1 1 [.int .i64 (nx : Int)] rfl rfl ?c1 ?c2 hmlx hby2 ?c5 ?_)
      case c1 => exact cell_one_new _ _ _
      case c2 => intro u hu; simp at hu; subst hu; rfl
      case c5 => have := HB4.out.size; simp; omega
      intro v' w5 hown hg _
      rw [ints_snoc_map] at hown
      have hb5 : Below W2.heap.size W2 w5 := (HB4.out.alloc HB4.out.size _).grown hg (by have := HB4.out.size; simp; omega) (fun g hgr => (World.ownsRow.lt ho4 g hgr).1)
      have hcu : w5.cell? ⟨g, 25 + nx, none⟩ = some (.int .i64 (U : Int)) := by
        have h9 := (x2.next hb5).ch nx (by omega)
        rw [← HU.out] at h9
        exact h9
      obtain ⟨A2, c2, hv, ho5⟩ := own_shape hown
      rw [hv]
      clear hg hown hv ho4
      go_wp2_with fail
      go_quiet ((go_at_call 103; exact HMI.out _ _))
      clear hw64 hw65
      go_wp2_with fail
      go_roundw
      case rel => exact ⟨AB, f', zs ++ [nx], A2, c2, HAL.out, rfl, by rw [List.length_append, ← HLZ.out]; rfl, HMN.out.1, HFN.out, by rw [List.length_append, ← HLZ.out]; first | exact ho5.below (below_drewN (Below.refl _ _) _) | exact ho5.below ((Below.refl _ _).drew), by first | exact below_drewN hb5 _ | exact hb5.drew⟩
      case measure => exact HMN.out.2
end Go.Proofs.YtfbdbipopfjjnaaDoor
