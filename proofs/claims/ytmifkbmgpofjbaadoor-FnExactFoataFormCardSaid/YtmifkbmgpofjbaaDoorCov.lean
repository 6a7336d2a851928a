/-
  The covers of an order: the model's way and the program's, by contracts.
-/
import Derived.Test.YtmifkbmgpofjbaaDoorOrd2
import Derived.Deep.RegionWith
namespace Go.Proofs.YtmifkbmgpofjbaaDoor
open Go.RowKit
set_option linter.unusedVariables false
set_option maxRecDepth 100000

/-! ### counting -/
def cntP (p : Nat → Bool) : Nat → Nat
  | 0 => 0
  | k + 1 => cntP p k + if p k = true then 1 else 0
theorem cntP_le (p : Nat → Bool) (n : Nat) : cntP p n ≤ n := by
  induction n with
  | zero => exact Nat.le_refl _
  | succ n ih => unfold cntP; split <;> omega
theorem cntP_congr (p q : Nat → Bool) (n : Nat) (h : ∀ j, j < n → p j = q j) : cntP p n = cntP q n := by
  induction n with
  | zero => rfl
  | succ n ih => unfold cntP; rw [ih fun j hj => h j (by omega), h n (by omega)]
theorem cntP_zero (p : Nat → Bool) (n : Nat) : cntP p n = 0 ↔ ∀ j, j < n → p j = false := by
  induction n with
  | zero => simp [cntP]
  | succ n ih =>
    unfold cntP
    constructor
    · intro h j hj
      by_cases e : p n = true
      · rw [if_pos e] at h; omega
      · rw [if_neg e] at h
        by_cases e2 : j = n
        · subst e2; simpa using e
        · exact ih.1 (by omega) j (by omega)
    · intro h
      rw [if_neg (by rw [h n (by omega)]; decide), ih.2 fun j hj => h j (by omega)]
theorem cntP_remove (p : Nat → Bool) (n i : Nat) (hi : i < n) (hp : p i = true) : cntP p n = cntP (fun j => p j && !decide (j = i)) n + 1 := by
  induction n with
  | zero => omega
  | succ n ih =>
    unfold cntP
    by_cases e : i = n
    · subst e
      rw [if_pos hp, if_neg (by simp)]
      congr 1
      exact cntP_congr _ _ _ fun j hj => by rw [decide_eq_false (by omega)]; simp
    · rw [ih (by omega)]
      have : (p n && !decide (n = i)) = p n := by rw [decide_eq_false (by omega)]; simp
      rw [this]; omega
theorem cntP_two (p : Nat → Bool) (n i k : Nat) (hi : i < n) (hk : k < n) (hik : i ≠ k) (hpi : p i = true) (hpk : p k = true) : cntP p n = 2 ↔ ∀ j, j < n → p j = true → j = i ∨ j = k := by
  rw [cntP_remove p n i hi hpi, cntP_remove _ n k hk (by rw [hpk, decide_eq_false (by omega)]; rfl)]
  constructor
  · intro h j hj hpj
    have := (cntP_zero (fun j => (p j && !decide (j = i)) && !decide (j = k)) n).1 (by omega) j hj
    rw [hpj] at this
    simp at this
    by_cases e : j = i
    · exact .inl e
    · exact .inr (this e)
  · intro h
    have := (cntP_zero (fun j => (p j && !decide (j = i)) && !decide (j = k)) n).2 fun j hj => by
      cases e : p j
      · rfl
      · rcases h j hj e with rfl | rfl <;> simp
    omega

/-- j stands between i and k, these among them. -/
def btw (rs : List Nat) (i k j : Nat) : Bool := (rs.getD i 0).testBit j && (rs.getD j 0).testBit k
def covRow (rs : List Nat) (i n : Nat) : Nat → Nat
  | 0 => 0
  | k + 1 => if i ≠ k ∧ cntP (btw rs i k) n = 2 then covRow rs i n k ||| 2 ^ k else covRow rs i n k
theorem covRow_bit (rs : List Nat) (i n t b : Nat) : (covRow rs i n t).testBit b = true ↔ b < t ∧ i ≠ b ∧ cntP (btw rs i b) n = 2 := by
  induction t with
  | zero => simp [covRow]
  | succ t ih =>
    unfold covRow
    by_cases h : i ≠ t ∧ cntP (btw rs i t) n = 2
    · rw [if_pos h, Nat.testBit_or, Bool.or_eq_true, ih, p2_bit]
      constructor
      · rintro (⟨h1, h2⟩ | rfl)
        · exact ⟨by omega, h2⟩
        · exact ⟨by omega, h⟩
      · rintro ⟨h1, h2⟩
        by_cases e : t = b
        · exact .inr e
        · exact .inl ⟨by omega, h2⟩
    · rw [if_neg h, ih]
      constructor
      · rintro ⟨h1, h2⟩; exact ⟨by omega, h2⟩
      · rintro ⟨h1, h2⟩
        by_cases e : t = b
        · subst e; exact absurd h2 h
        · exact ⟨by omega, h2⟩
theorem covRow_lt (rs : List Nat) (i n t m : Nat) (h : t ≤ m) : covRow rs i n t < 2 ^ m := by
  induction t with
  | zero => exact p2_pos m
  | succ t ih =>
    unfold covRow
    split
    · exact Nat.or_lt_two_pow (ih (by omega)) (Nat.pow_lt_pow_right (by decide) (by omega))
    · exact ih (by omega)
def covM (rs : List Nat) : List Nat := (List.range rs.length).map fun i => covRow rs i rs.length rs.length
theorem covM_len (rs : List Nat) : (covM rs).length = rs.length := by simp [covM]
theorem covM_at (rs : List Nat) (i : Nat) (h : i < rs.length) : (covM rs).getD i 0 = covRow rs i rs.length rs.length := getD_range_map _ _ _ h
theorem covM_lt (rs : List Nat) (n : Nat) (hn : rs.length = n) (i : Nat) : (covM rs).getD i 0 < 2 ^ n := by
  rcases Nat.lt_or_ge i n with h | h
  · rw [covM_at rs i (by omega), hn]; exact covRow_lt rs i n n n (Nat.le_refl _)
  · rw [getD_past _ n i (by rw [covM_len, hn]) h]; exact p2_pos n
/-- Of an order: covers are what is strictly above with nothing strictly between. -/
theorem cov_iff (rs : List Nat) (n i b : Nat) (hn : rs.length = n) (hr : ∀ i, rs.getD i 0 < 2 ^ n) (ho : IsOrd rs) (hi : i < n) (hb : b < n) :
    (i ≠ b ∧ cntP (btw rs i b) n = 2) ↔ (R rs i b ∧ b ≠ i ∧ ∀ j, R rs i j → j ≠ i → ¬ (R rs j b ∧ b ≠ j)) := by
  have hbt : ∀ j, btw rs i b j = true ↔ R rs i j ∧ R rs j b := fun j => by unfold btw R; rw [Bool.and_eq_true]
  have hlt : ∀ {x y}, R rs x y → y < n := fun h => bit_lt (hr _) h
  have hrefl : ∀ x, x < n → R rs x x := fun x hx => (ho x (by omega)).1
  constructor
  · rintro ⟨hne, hc⟩
    have hR : R rs i b := by
      apply Classical.byContradiction
      intro hno
      have : cntP (btw rs i b) n = 0 := (cntP_zero _ n).2 fun j hj => by
        cases e : btw rs i b j
        · rfl
        · obtain ⟨h1, h2⟩ := (hbt j).1 e
          exact absurd (((ho i (by omega)).2 j h1).2 b h2) hno
      omega
    refine ⟨hR, fun e => hne e.symm, fun j hj hji ⟨hjb, hbj⟩ => ?_⟩
    have := (cntP_two (btw rs i b) n i b hi hb hne ((hbt i).2 ⟨hrefl i hi, hR⟩) ((hbt b).2 ⟨hR, hrefl b hb⟩)).1 hc j (hlt hj) ((hbt j).2 ⟨hj, hjb⟩)
    rcases this with h | h
    · exact hji h
    · exact hbj h.symm
  · rintro ⟨hR, hne, hno⟩
    refine ⟨fun e => hne e.symm, ?_⟩
    refine (cntP_two (btw rs i b) n i b hi hb (fun e => hne e.symm) ((hbt i).2 ⟨hrefl i hi, hR⟩) ((hbt b).2 ⟨hR, hrefl b hb⟩)).2 fun j hj hp => ?_
    obtain ⟨h1, h2⟩ := (hbt j).1 hp
    by_cases e : j = i
    · exact .inl e
    · right
      apply Classical.byContradiction
      intro e2
      exact hno j h1 e ⟨h2, fun e3 => e2 e3.symm⟩

theorem minus_nat (a b : Nat) (ha : a < 9223372036854775808) (hb : b < 9223372036854775808) (w : World) :
    Calls Tryd.prog 109 #[.int .i64 (a : Int), .int .i64 (b : Int)] w fun e w' => e = .returned (.int .i64 ((dif a b : Nat) : Int)) ∧ w = w' := by
  have := minus_int (a : Int) (b : Int) w
  rw [i64_andNot_nat a b ha hb] at this
  exact this
def strM (rs : List Nat) : List Nat := (List.range rs.length).map fun i => dif (rs.getD i 0) (2 ^ i)
theorem strM_len (rs : List Nat) : (strM rs).length = rs.length := by simp [strM]
theorem strM_at (rs : List Nat) (i : Nat) (h : i < rs.length) : (strM rs).getD i 0 = dif (rs.getD i 0) (2 ^ i) := getD_range_map _ _ _ h
theorem strM_lt (rs : List Nat) (n : Nat) (hn : rs.length = n) (hr : ∀ i, rs.getD i 0 < 2 ^ n) (i : Nat) : (strM rs).getD i 0 < 2 ^ n := by
  rcases Nat.lt_or_ge i n with h | h
  · rw [strM_at rs i (by omega)]; exact Nat.lt_of_le_of_lt (dif_le _ _) (hr i)
  · rw [getD_past _ n i (by rw [strM_len, hn]) h]; exact p2_pos n
theorem strM_bit (rs : List Nat) (n : Nat) (hn : rs.length = n) (h24 : n ≤ 24) (hr : ∀ i, rs.getD i 0 < 2 ^ n) (i b : Nat) (hi : i < n) : R (strM rs) i b ↔ R rs i b ∧ b ≠ i := by
  unfold R
  rw [strM_at rs i (by omega), dif_bit _ _ _ (lt63 h24 (hr i)) (p2_lt i (by omega)), Bool.and_eq_true, Nat.testBit_two_pow]
  simp
  intro _
  exact ⟨fun h e => h e.symm, fun h e => h e.symm⟩
theorem set_step (f : Nat → Nat) (rs ds : List Nat) (n k : Nat) (hd : ds.length = n) (hk : k < n)
    (hb : ∀ i, i < n → ds.getD i 0 = if i < k then f i else rs.getD i 0) :
    ∀ i, i < n → (ds.set k (f k)).getD i 0 = if i < k + 1 then f i else rs.getD i 0 := by
  intro i hi
  rw [getD_set ds k _ i (by omega)]
  by_cases e : i = k
  · subst e; rw [if_pos rfl, if_pos (by omega)]
  · rw [if_neg e, hb i hi]
    by_cases h : i < k
    · rw [if_pos h, if_pos (by omega)]
    · rw [if_neg h, if_neg (by omega)]
theorem list_eq_getD (cs ds : List Nat) (n : Nat) (hc : cs.length = n) (hd : ds.length = n) (h : ∀ i, i < n → cs.getD i 0 = ds.getD i 0) : cs = ds := by
  apply List.ext_getElem?
  intro i
  by_cases hi : i < n
  · have e1 : cs[i]? = some (cs.getD i 0) := by rw [List.getD_eq_getElem?_getD, List.getElem?_eq_getElem (by omega)]; rfl
    have e2 : ds[i]? = some (ds.getD i 0) := by rw [List.getD_eq_getElem?_getD, List.getElem?_eq_getElem (by omega)]; rfl
    rw [e1, e2, h i hi]
  · rw [List.getElem?_eq_none (by omega), List.getElem?_eq_none (by omega)]



/-- A list for an order, else ErrInvalid. -/
def ansO (f : List Nat → List Nat) (xs : List Int) : List Int × Int := if orderB xs = true then (ints (f (xs.map Int.toNat)), 0) else ([], 1)
theorem ansO_no (f : List Nat → List Nat) (xs : List Int) (h : orderB xs = false) : ansO f xs = ([], 1) := by unfold ansO; rw [if_neg (by rw [h]; decide)]
theorem orderB_rel (xs : List Int) (h : orderB xs = true) : relB xs = true := by unfold orderB at h; rw [Bool.and_eq_true] at h; exact h.1
theorem ansO_yes (f : List Nat → List Nat) (xs : List Int) (n : Nat) (hl : xs.length = n) (h : orderB xs = true) :
    ∃ rs, xs = ints rs ∧ rs.length = n ∧ n ≤ 24 ∧ (∀ i, rs.getD i 0 < 2 ^ n) ∧ IsOrd rs ∧ orderB (ints rs) = true ∧ ansO f xs = (ints (f rs), 0) := by
  obtain ⟨rs, rfl, h2, h3, h4⟩ := rel_nats xs n hl (orderB_rel xs h)
  refine ⟨rs, rfl, h2, h3, h4, ?_, h, ?_⟩
  · rw [orderB_ints rs (orderB_rel _ h)] at h
    exact (ord_iff rs n h2 h4).1 h
  · unfold ansO; rw [if_pos h, nats_ints]
theorem ansO_small (f : List Nat → List Nat) (b : Nat) (hf : ∀ rs, rs.length ≤ 24 → (f rs).length ≤ b) (xs : List Int) : (ansO f xs).1.length ≤ b := by
  unfold ansO
  split
  · rename_i h
    show (ints _).length ≤ b
    rw [ints_len]; exact hf _ (by rw [List.length_map]; exact relB_len xs (orderB_rel xs h))
  · exact Nat.zero_le _
def covAns (xs : List Int) : List Int × Int := ansO covM xs
theorem covAns_small (xs : List Int) : (covAns xs).1.length ≤ 24 := ansO_small covM 24 (fun rs h => by rw [covM_len]; exact h) xs
end Go.Proofs.YtmifkbmgpofjbaaDoor
