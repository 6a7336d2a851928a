/-
  Whether a relation is an order: the model's way and the program's, by contracts. orderOf, IsOrder and its model, by contracts. The covers of an order: the model's way and the program's, by contracts. The components of a relation: the model's way and the program's, by contracts.
-/
import Derived.Test.YtdafdffmkjhhcaaDoorB1
import Derived.Deep.RegionWith
namespace Go.Proofs.YtdafdffmkjhhcaaDoor
open Go.RowKit
set_option linter.unusedVariables false
set_option maxRecDepth 100000

/-! ### plain: what both ways test -/
def andM (rs cs : List Nat) : List Nat := (List.range rs.length).map fun i => cs.getD i 0 &&& rs.getD i 0
theorem andM_len (rs cs : List Nat) : (andM rs cs).length = rs.length := by simp [andM]
theorem andM_at (rs cs : List Nat) (i : Nat) (h : i < rs.length) : (andM rs cs).getD i 0 = cs.getD i 0 &&& rs.getD i 0 := getD_range_map _ _ _ h
/-- The part that holds in both directions. -/
def mutM (rs : List Nat) : List Nat := andM rs (convM rs)
theorem mutM_len (rs : List Nat) : (mutM rs).length = rs.length := andM_len _ _
theorem mutM_lt (rs : List Nat) (n : Nat) (hn : rs.length = n) (hr : ∀ i, rs.getD i 0 < 2 ^ n) (i : Nat) : (mutM rs).getD i 0 < 2 ^ n := by
  rcases Nat.lt_or_ge i n with h | h
  · rw [mutM, andM_at rs _ i (by omega)]
    exact Nat.lt_of_le_of_lt Nat.and_le_right (hr i)
  · rw [getD_past _ n i (by rw [mutM_len, hn]) h]; exact p2_pos n
theorem mutM_bit (rs : List Nat) (n : Nat) (hn : rs.length = n) (i b : Nat) (hi : i < n) : ((mutM rs).getD i 0).testBit b = true ↔ b < n ∧ R rs b i ∧ R rs i b := by
  rw [mutM, andM_at rs _ i (by omega), convM_at rs i (by omega), Nat.testBit_and, Bool.and_eq_true, colM_bit, hn]
  constructor
  · rintro ⟨⟨h1, h2⟩, h3⟩; exact ⟨h1, h2, h3⟩
  · rintro ⟨h1, h2, h3⟩; exact ⟨⟨h1, h2⟩, h3⟩
/-- An order: each element's mutual part is itself alone; the closure is the relation. -/
def ordB (rs : List Nat) : Bool := (List.range rs.length).all (fun i => (mutM rs).getD i 0 == 2 ^ i) && (rs == closM rs)
/-- The same, as the document says it. -/
def IsOrd (rs : List Nat) : Prop := ∀ i, i < rs.length → R rs i i ∧ ∀ k, R rs i k → (i ≠ k → ¬ R rs k i) ∧ ∀ b, R rs k b → R rs i b
theorem ord_iff (rs : List Nat) (n : Nat) (hn : rs.length = n) (hr : ∀ i, rs.getD i 0 < 2 ^ n) : ordB rs = true ↔ IsOrd rs := by
  have hl : ∀ {i k}, R rs i k → k < n := fun h => bit_lt (hr _) h
  unfold ordB
  rw [Bool.and_eq_true, List.all_eq_true, beq_iff_eq]
  constructor
  · rintro ⟨h1, h2⟩ i hi
    have hm : ∀ b, (b < n ∧ R rs b i ∧ R rs i b) ↔ i = b := by
      intro b
      have e : (mutM rs).getD i 0 = 2 ^ i := by simpa using h1 i (List.mem_range.2 hi)
      rw [← mutM_bit rs n hn i b (by omega), e, p2_bit]
    have hT : ∀ b, R rs i b ↔ RT rs i b := by
      intro b
      have e : rs.getD i 0 = reachM rs i n := by
        have e1 := closM_at rs i hi
        rw [← h2] at e1
        rw [e1, hn]
      unfold R
      rw [e, reachM_bit rs n i hn hr (by omega)]
    refine ⟨((hm i).2 rfl).2.1, fun k hk => ⟨fun hne hki => hne ((hm k).1 ⟨hl hk, hki, hk⟩), fun b hb => (hT b).2 (((hT k).1 hk).step hb)⟩⟩
  · intro h
    constructor
    · intro i hi
      have hi' := List.mem_range.1 hi
      rw [beq_iff_eq]
      refine nat_ext (mutM_lt rs n hn hr i) (Nat.pow_lt_pow_right (by decide) (by omega)) fun b hb => ?_
      rw [mutM_bit rs n hn i b (by omega), p2_bit]
      constructor
      · rintro ⟨h1, h2, h3⟩
        apply Classical.byContradiction
        intro hne
        exact ((h i hi').2 b h3).1 hne h2
      · rintro rfl
        exact ⟨hb, (h i hi').1, (h i hi').1⟩
    · refine masks_eq rs (closM rs) n hn (by rw [closM_len, hn]) hr (fun i => ?_) fun i k hi hk => ?_
      · rcases Nat.lt_or_ge i n with h1 | h1
        · rw [closM_at rs i (by omega), hn]; exact reachM_lt rs n i n hr h1
        · rw [getD_past _ n i (by rw [closM_len, hn]) h1]; exact p2_pos n
      · rw [closM_at rs i (by omega), hn, reachM_bit rs n i hn hr hi]
        constructor
        · intro h1; exact (RT.refl i).step h1
        · intro h1
          show R rs i k
          induction h1 with
          | refl => exact (h i (by omega)).1
          | step h1 h2 ih => exact ((h i (by omega)).2 _ (ih (RT.lt hr hi h1))).2 _ h2


theorem ints_inj (rs cs : List Nat) : ints rs = ints cs ↔ rs = cs := by
  constructor
  · intro h
    have h2 := congrArg (List.map Int.toNat) h
    unfold ints at h2
    rw [List.map_map, List.map_map] at h2
    have e : (Int.toNat ∘ fun m : Nat => ((m : Nat) : Int)) = id := by funext m; simp
    rw [e, List.map_id, List.map_id] at h2
    exact h2
  · rintro rfl; rfl
def sameB (xs ys : List Int) : Bool := decide (xs = ys)
theorem take_same (xs ys : List Int) (k : Nat) (x : Int) (h : xs.take k = ys.take k) (hx : xs[k]? = some x) (hy : ys[k]? = some x) : xs.take (k + 1) = ys.take (k + 1) := by
  rw [List.take_add_one, List.take_add_one, h, hx, hy]
set_option maxHeartbeats 800000 in
theorem equal_any (A B : Option Addr) (n c d : Nat) (xs ys : List Int) (w : World) (h : Rd w A n xs) (h2 : Rd w B n ys) (hn : n ≤ 9223372036854775807) :
    Calls Tryd.prog 167 #[.slice A n c, .slice B n d] w fun e w' => e = .returned (.bool (sameB xs ys)) ∧ Below w.heap.size w w' := by
  go_enter Tryd.func167, Tryd.ntmps167
  go_wp2
  go_loopw [13] (fun i wr => ∃ k : Nat, k ≤ n ∧ i = .int .i64 k ∧ Below w.heap.size w wr ∧ xs.take k = ys.take k) (fun i _ => n - (intOf i).toNat)
  case atStart => exact ⟨0, Nat.zero_le _, rfl, Below.refl _ _, rfl⟩
  case round =>
    obtain ⟨k, hk, rfl, hb, hsame⟩ := hrel
    by_cases hlt : k < n
    · obtain ⟨b, off, x, rfl, hbs, hx, hcx⟩ := h.at_ hlt
      obtain ⟨b2, off2, y, rfl, hbs2, hy, hcy⟩ := h2.at_ hlt
      have hc1 : wr.cell? ⟨b, off + k, none⟩ = some (.int .i64 x) := (hb.cell (p := ⟨b, off + k, none⟩) hbs).trans hcx
      have hc2 : wr.cell? ⟨b2, off2 + k, none⟩ = some (.int .i64 y) := (hb.cell (p := ⟨b2, off2 + k, none⟩) hbs2).trans hcy
      have HX := Lib.hid hx
      have HY := Lib.hid hy
      have HS := Lib.hid hsame
      clear hx hy hcx hcy hsame
      by_cases hxy : x = y
      · subst hxy
        go_wp2
        go_quiet (fail)
        go_wp2
        go_roundw
        case rel => exact ⟨k + 1, by omega, by go_num, by first | exact below_drewN hb _ | exact hb.drew, take_same xs ys k x HS.out HX.out HY.out⟩
        case measure => simp [intOf]; omega
      · have hne1 : (x == y) = false := by simpa using hxy
        have hne2 : (x != y) = true := by simpa using hxy
        have HN : Hid (sameB xs ys = false) := Lib.hid (by
          unfold sameB
          apply decide_eq_false
          intro e
          apply hxy
          have h1 := HX.out
          rw [e, HY.out] at h1
          injection h1 with h1; exact h1.symm)
        clear hxy
        go_wp2
        go_quiet (fail)
        go_wp2
        go_ret
        exact ⟨ret_b _ _ HN.out.symm, by first | exact below_drewN hb _ | exact hb.drew⟩
    · obtain rfl : k = n := by omega
      have HN : Hid (sameB xs ys = true) := Lib.hid (by
        unfold sameB
        apply decide_eq_true
        rw [List.take_of_length_le (by have := h.1; omega), List.take_of_length_le (by have := h2.1; omega)] at hsame
        exact hsame)
      clear hsame
      go_wp2
      go_ret
      exact ⟨ret_b _ _ HN.out.symm, hb⟩
end Go.Proofs.YtdafdffmkjhhcaaDoor
namespace Go.Proofs.YtdafdffmkjhhcaaDoor
open Go.RowKit
set_option linter.unusedVariables false
set_option maxRecDepth 100000

/-- Whether a list is an order. -/
def orderB (xs : List Int) : Bool := relB xs && ordB (xs.map Int.toNat)
theorem nats_ints (rs : List Nat) : (ints rs).map Int.toNat = rs := by
  unfold ints
  rw [List.map_map]
  conv => rhs; rw [← List.map_id rs]
  apply List.map_congr_left
  intro m _; simp
theorem orderB_ints (rs : List Nat) (h : relB (ints rs) = true) : orderB (ints rs) = ordB rs := by unfold orderB; rw [h, Bool.true_and, nats_ints]
/-- A relation's list, taken apart. -/
theorem rel_nats (xs : List Int) (n : Nat) (hl : xs.length = n) (h : relB xs = true) : ∃ rs, xs = ints rs ∧ rs.length = n ∧ n ≤ 24 ∧ (∀ i, rs.getD i 0 < 2 ^ n) := by
  obtain ⟨rs, h1, h2, h3⟩ := relB_nats xs h
  have h4 := relB_len xs h
  subst hl
  exact ⟨rs, h1, h2, h4, h3⟩
theorem bit_q (m k : Nat) (hm : m < 9223372036854775808) (hk : k ≤ 62) (w : World) (j : Nat) :
    Calls Tryd.prog 79 #[.int .i64 (m : Int), .int .i64 (k : Int)] (w.drewN j) fun e w'' => e = .returned (.bool (m.testBit k)) ∧ ∃ m', w'' = w.drewN m' :=
  Calls.quiet_of_same ((bit_any m k hm hk _).mono fun _ _ ⟨he, hw⟩ => ⟨he, hw.symm⟩)
theorem bit_is (m k : Nat) (v : Bool) (h : m.testBit k = v) (hm : m < 9223372036854775808) (hk : k ≤ 62) (w : World) (j : Nat) :
    Calls Tryd.prog 79 #[.int .i64 (m : Int), .int .i64 (k : Int)] (w.drewN j) fun e w'' => e = .returned (.bool v) ∧ ∃ m', w'' = w.drewN m' := by
  rw [← h]; exact bit_q m k hm hk w j
end Go.Proofs.YtdafdffmkjhhcaaDoor
namespace Go.Proofs.YtdafdffmkjhhcaaDoor
open Go.RowKit
set_option linter.unusedVariables false
set_option maxRecDepth 100000

/-! ### counting -/
def cntP (p : Nat → Bool) : Nat → Nat
  | 0 => 0
  | k + 1 => cntP p k + if p k = true then 1 else 0
theorem cntP_le (p : Nat → Bool) (n : Nat) : cntP p n ≤ n := by
  induction n with
  | zero => exact Nat.le_refl _
  | succ n ih => unfold cntP; split <;> omega
theorem cntP_congr (p q : Nat → Bool) (n : Nat) (h : ∀ j, j < n → p j = q j) : cntP p n = cntP q n := by
  induction n with
  | zero => rfl
  | succ n ih => unfold cntP; rw [ih fun j hj => h j (by omega), h n (by omega)]
theorem cntP_zero (p : Nat → Bool) (n : Nat) : cntP p n = 0 ↔ ∀ j, j < n → p j = false := by
  induction n with
  | zero => simp [cntP]
  | succ n ih =>
    unfold cntP
    constructor
    · intro h j hj
      by_cases e : p n = true
      · rw [if_pos e] at h; omega
      · rw [if_neg e] at h
        by_cases e2 : j = n
        · subst e2; simpa using e
        · exact ih.1 (by omega) j (by omega)
    · intro h
      rw [if_neg (by rw [h n (by omega)]; decide), ih.2 fun j hj => h j (by omega)]
theorem cntP_remove (p : Nat → Bool) (n i : Nat) (hi : i < n) (hp : p i = true) : cntP p n = cntP (fun j => p j && !decide (j = i)) n + 1 := by
  induction n with
  | zero => omega
  | succ n ih =>
    unfold cntP
    by_cases e : i = n
    · subst e
      rw [if_pos hp, if_neg (by simp)]
      congr 1
      exact cntP_congr _ _ _ fun j hj => by rw [decide_eq_false (by omega)]; simp
    · rw [ih (by omega)]
      have : (p n && !decide (n = i)) = p n := by rw [decide_eq_false (by omega)]; simp
      rw [this]; omega
theorem cntP_two (p : Nat → Bool) (n i k : Nat) (hi : i < n) (hk : k < n) (hik : i ≠ k) (hpi : p i = true) (hpk : p k = true) : cntP p n = 2 ↔ ∀ j, j < n → p j = true → j = i ∨ j = k := by
  rw [cntP_remove p n i hi hpi, cntP_remove _ n k hk (by rw [hpk, decide_eq_false (by omega)]; rfl)]
  constructor
  · intro h j hj hpj
    have := (cntP_zero (fun j => (p j && !decide (j = i)) && !decide (j = k)) n).1 (by omega) j hj
    rw [hpj] at this
    simp at this
    by_cases e : j = i
    · exact .inl e
    · exact .inr (this e)
  · intro h
    have := (cntP_zero (fun j => (p j && !decide (j = i)) && !decide (j = k)) n).2 fun j hj => by
      cases e : p j
      · rfl
      · rcases h j hj e with rfl | rfl <;> simp
    omega

/-- j stands between i and k, these among them. -/
def btw (rs : List Nat) (i k j : Nat) : Bool := (rs.getD i 0).testBit j && (rs.getD j 0).testBit k
def covRow (rs : List Nat) (i n : Nat) : Nat → Nat
  | 0 => 0
  | k + 1 => if i ≠ k ∧ cntP (btw rs i k) n = 2 then covRow rs i n k ||| 2 ^ k else covRow rs i n k
theorem covRow_bit (rs : List Nat) (i n t b : Nat) : (covRow rs i n t).testBit b = true ↔ b < t ∧ i ≠ b ∧ cntP (btw rs i b) n = 2 := by
  induction t with
  | zero => simp [covRow]
  | succ t ih =>
    unfold covRow
    by_cases h : i ≠ t ∧ cntP (btw rs i t) n = 2
    · rw [if_pos h, Nat.testBit_or, Bool.or_eq_true, ih, p2_bit]
      constructor
      · rintro (⟨h1, h2⟩ | rfl)
        · exact ⟨by omega, h2⟩
        · exact ⟨by omega, h⟩
      · rintro ⟨h1, h2⟩
        by_cases e : t = b
        · exact .inr e
        · exact .inl ⟨by omega, h2⟩
    · rw [if_neg h, ih]
      constructor
      · rintro ⟨h1, h2⟩; exact ⟨by omega, h2⟩
      · rintro ⟨h1, h2⟩
        by_cases e : t = b
        · subst e; exact absurd h2 h
        · exact ⟨by omega, h2⟩
theorem covRow_lt (rs : List Nat) (i n t m : Nat) (h : t ≤ m) : covRow rs i n t < 2 ^ m := by
  induction t with
  | zero => exact p2_pos m
  | succ t ih =>
    unfold covRow
    split
    · exact Nat.or_lt_two_pow (ih (by omega)) (Nat.pow_lt_pow_right (by decide) (by omega))
    · exact ih (by omega)
def covM (rs : List Nat) : List Nat := (List.range rs.length).map fun i => covRow rs i rs.length rs.length
theorem covM_len (rs : List Nat) : (covM rs).length = rs.length := by simp [covM]
theorem covM_at (rs : List Nat) (i : Nat) (h : i < rs.length) : (covM rs).getD i 0 = covRow rs i rs.length rs.length := getD_range_map _ _ _ h
theorem covM_lt (rs : List Nat) (n : Nat) (hn : rs.length = n) (i : Nat) : (covM rs).getD i 0 < 2 ^ n := by
  rcases Nat.lt_or_ge i n with h | h
  · rw [covM_at rs i (by omega), hn]; exact covRow_lt rs i n n n (Nat.le_refl _)
  · rw [getD_past _ n i (by rw [covM_len, hn]) h]; exact p2_pos n
/-- Of an order: covers are what is strictly above with nothing strictly between. -/
theorem cov_iff (rs : List Nat) (n i b : Nat) (hn : rs.length = n) (hr : ∀ i, rs.getD i 0 < 2 ^ n) (ho : IsOrd rs) (hi : i < n) (hb : b < n) :
    (i ≠ b ∧ cntP (btw rs i b) n = 2) ↔ (R rs i b ∧ b ≠ i ∧ ∀ j, R rs i j → j ≠ i → ¬ (R rs j b ∧ b ≠ j)) := by
  have hbt : ∀ j, btw rs i b j = true ↔ R rs i j ∧ R rs j b := fun j => by unfold btw R; rw [Bool.and_eq_true]
  have hlt : ∀ {x y}, R rs x y → y < n := fun h => bit_lt (hr _) h
  have hrefl : ∀ x, x < n → R rs x x := fun x hx => (ho x (by omega)).1
  constructor
  · rintro ⟨hne, hc⟩
    have hR : R rs i b := by
      apply Classical.byContradiction
      intro hno
      have : cntP (btw rs i b) n = 0 := (cntP_zero _ n).2 fun j hj => by
        cases e : btw rs i b j
        · rfl
        · obtain ⟨h1, h2⟩ := (hbt j).1 e
          exact absurd (((ho i (by omega)).2 j h1).2 b h2) hno
      omega
    refine ⟨hR, fun e => hne e.symm, fun j hj hji ⟨hjb, hbj⟩ => ?_⟩
    have := (cntP_two (btw rs i b) n i b hi hb hne ((hbt i).2 ⟨hrefl i hi, hR⟩) ((hbt b).2 ⟨hR, hrefl b hb⟩)).1 hc j (hlt hj) ((hbt j).2 ⟨hj, hjb⟩)
    rcases this with h | h
    · exact hji h
    · exact hbj h.symm
  · rintro ⟨hR, hne, hno⟩
    refine ⟨fun e => hne e.symm, ?_⟩
    refine (cntP_two (btw rs i b) n i b hi hb (fun e => hne e.symm) ((hbt i).2 ⟨hrefl i hi, hR⟩) ((hbt b).2 ⟨hR, hrefl b hb⟩)).2 fun j hj hp => ?_
    obtain ⟨h1, h2⟩ := (hbt j).1 hp
    by_cases e : j = i
    · exact .inl e
    · right
      apply Classical.byContradiction
      intro e2
      exact hno j h1 e ⟨h2, fun e3 => e2 e3.symm⟩

theorem minus_nat (a b : Nat) (ha : a < 9223372036854775808) (hb : b < 9223372036854775808) (w : World) :
    Calls Tryd.prog 130 #[.int .i64 (a : Int), .int .i64 (b : Int)] w fun e w' => e = .returned (.int .i64 ((dif a b : Nat) : Int)) ∧ w = w' := by
  have := minus_int (a : Int) (b : Int) w
  rw [i64_andNot_nat a b ha hb] at this
  exact this
def strM (rs : List Nat) : List Nat := (List.range rs.length).map fun i => dif (rs.getD i 0) (2 ^ i)
theorem strM_len (rs : List Nat) : (strM rs).length = rs.length := by simp [strM]
theorem strM_at (rs : List Nat) (i : Nat) (h : i < rs.length) : (strM rs).getD i 0 = dif (rs.getD i 0) (2 ^ i) := getD_range_map _ _ _ h
theorem strM_lt (rs : List Nat) (n : Nat) (hn : rs.length = n) (hr : ∀ i, rs.getD i 0 < 2 ^ n) (i : Nat) : (strM rs).getD i 0 < 2 ^ n := by
  rcases Nat.lt_or_ge i n with h | h
  · rw [strM_at rs i (by omega)]; exact Nat.lt_of_le_of_lt (dif_le _ _) (hr i)
  · rw [getD_past _ n i (by rw [strM_len, hn]) h]; exact p2_pos n
theorem strM_bit (rs : List Nat) (n : Nat) (hn : rs.length = n) (h24 : n ≤ 24) (hr : ∀ i, rs.getD i 0 < 2 ^ n) (i b : Nat) (hi : i < n) : R (strM rs) i b ↔ R rs i b ∧ b ≠ i := by
  unfold R
  rw [strM_at rs i (by omega), dif_bit _ _ _ (lt63 h24 (hr i)) (p2_lt i (by omega)), Bool.and_eq_true, Nat.testBit_two_pow]
  simp
  intro _
  exact ⟨fun h e => h e.symm, fun h e => h e.symm⟩
theorem set_step (f : Nat → Nat) (rs ds : List Nat) (n k : Nat) (hd : ds.length = n) (hk : k < n)
    (hb : ∀ i, i < n → ds.getD i 0 = if i < k then f i else rs.getD i 0) :
    ∀ i, i < n → (ds.set k (f k)).getD i 0 = if i < k + 1 then f i else rs.getD i 0 := by
  intro i hi
  rw [getD_set ds k _ i (by omega)]
  by_cases e : i = k
  · subst e; rw [if_pos rfl, if_pos (by omega)]
  · rw [if_neg e, hb i hi]
    by_cases h : i < k
    · rw [if_pos h, if_pos (by omega)]
    · rw [if_neg h, if_neg (by omega)]
theorem list_eq_getD (cs ds : List Nat) (n : Nat) (hc : cs.length = n) (hd : ds.length = n) (h : ∀ i, i < n → cs.getD i 0 = ds.getD i 0) : cs = ds := by
  apply List.ext_getElem?
  intro i
  by_cases hi : i < n
  · have e1 : cs[i]? = some (cs.getD i 0) := by rw [List.getD_eq_getElem?_getD, List.getElem?_eq_getElem (by omega)]; rfl
    have e2 : ds[i]? = some (ds.getD i 0) := by rw [List.getD_eq_getElem?_getD, List.getElem?_eq_getElem (by omega)]; rfl
    rw [e1, e2, h i hi]
  · rw [List.getElem?_eq_none (by omega), List.getElem?_eq_none (by omega)]



/-- A list for an order, else ErrInvalid. -/
def ansO (f : List Nat → List Nat) (xs : List Int) : List Int × Int := if orderB xs = true then (ints (f (xs.map Int.toNat)), 0) else ([], 1)
theorem ansO_no (f : List Nat → List Nat) (xs : List Int) (h : orderB xs = false) : ansO f xs = ([], 1) := by unfold ansO; rw [if_neg (by rw [h]; decide)]
theorem orderB_rel (xs : List Int) (h : orderB xs = true) : relB xs = true := by unfold orderB at h; rw [Bool.and_eq_true] at h; exact h.1
theorem ansO_yes (f : List Nat → List Nat) (xs : List Int) (n : Nat) (hl : xs.length = n) (h : orderB xs = true) :
    ∃ rs, xs = ints rs ∧ rs.length = n ∧ n ≤ 24 ∧ (∀ i, rs.getD i 0 < 2 ^ n) ∧ IsOrd rs ∧ orderB (ints rs) = true ∧ ansO f xs = (ints (f rs), 0) := by
  obtain ⟨rs, rfl, h2, h3, h4⟩ := rel_nats xs n hl (orderB_rel xs h)
  refine ⟨rs, rfl, h2, h3, h4, ?_, h, ?_⟩
  · rw [orderB_ints rs (orderB_rel _ h)] at h
    exact (ord_iff rs n h2 h4).1 h
  · unfold ansO; rw [if_pos h, nats_ints]
theorem ansO_small (f : List Nat → List Nat) (b : Nat) (hf : ∀ rs, rs.length ≤ 24 → (f rs).length ≤ b) (xs : List Int) : (ansO f xs).1.length ≤ b := by
  unfold ansO
  split
  · rename_i h
    show (ints _).length ≤ b
    rw [ints_len]; exact hf _ (by rw [List.length_map]; exact relB_len xs (orderB_rel xs h))
  · exact Nat.zero_le _
def covAns (xs : List Int) : List Int × Int := ansO covM xs
theorem covAns_small (xs : List Int) : (covAns xs).1.length ≤ 24 := ansO_small covM 24 (fun rs h => by rw [covM_len]; exact h) xs
end Go.Proofs.YtdafdffmkjhhcaaDoor
namespace Go.Proofs.YtdafdffmkjhhcaaDoor
open Go.RowKit
set_option linter.unusedVariables false
set_option maxRecDepth 100000

def orM (rs qs : List Nat) : List Nat := (List.range rs.length).map fun i => rs.getD i 0 ||| qs.getD i 0
theorem orM_len (rs qs : List Nat) : (orM rs qs).length = rs.length := by simp [orM]
theorem orM_at (rs qs : List Nat) (i : Nat) (h : i < rs.length) : (orM rs qs).getD i 0 = rs.getD i 0 ||| qs.getD i 0 := getD_range_map _ _ _ h
theorem orM_lt (rs qs : List Nat) (n : Nat) (hn : rs.length = n) (hr : ∀ i, rs.getD i 0 < 2 ^ n) (hq : ∀ i, qs.getD i 0 < 2 ^ n) (i : Nat) : (orM rs qs).getD i 0 < 2 ^ n := by
  rcases Nat.lt_or_ge i n with h | h
  · rw [orM_at rs qs i (by omega)]; exact Nat.or_lt_two_pow (hr i) (hq i)
  · rw [getD_past _ n i (by rw [orM_len, hn]) h]; exact p2_pos n
/-- The relation in both directions. -/
def symM (rs : List Nat) : List Nat := orM rs (convM rs)
theorem symM_len (rs : List Nat) : (symM rs).length = rs.length := orM_len _ _
theorem symM_lt (rs : List Nat) (n : Nat) (hn : rs.length = n) (hr : ∀ i, rs.getD i 0 < 2 ^ n) (i : Nat) : (symM rs).getD i 0 < 2 ^ n := orM_lt rs _ n hn hr (convM_lt rs n hn) i
theorem symM_R (rs : List Nat) (n : Nat) (hn : rs.length = n) (hr : ∀ i, rs.getD i 0 < 2 ^ n) (i k : Nat) (hi : i < n) (hk : k < n) : R (symM rs) i k ↔ R rs i k ∨ R rs k i := by
  unfold R
  rw [symM, orM_at rs _ i (by omega), convM_at rs i (by omega), Nat.testBit_or, Bool.or_eq_true, colM_bit, hn]
  constructor
  · rintro (h | ⟨_, h⟩)
    · exact .inl h
    · exact .inr h
  · rintro (h | h)
    · exact .inl h
    · exact .inr ⟨hk, h⟩
theorem sym_RT (us : List Nat) (n : Nat) (hu : ∀ i, us.getD i 0 < 2 ^ n) (hs : ∀ i k, i < n → k < n → R us i k → R us k i) (i k : Nat) (hi : i < n) (h : RT us i k) : RT us k i := by
  induction h with
  | refl => exact .refl _
  | step h1 h2 ih =>
    have hj := RT.lt hu hi h1
    exact ((RT.refl _).step (hs _ _ hj (bit_lt (hu _) h2) h2)).trans ih
/-- The components that begin below t. -/
def compL (us : List Nat) (n : Nat) : Nat → List Nat
  | 0 => []
  | t + 1 => if low (reachM us t n) = t then compL us n t ++ [reachM us t n] else compL us n t
theorem compL_len (us : List Nat) (n t : Nat) : (compL us n t).length ≤ t := by
  induction t with
  | zero => exact Nat.le_refl _
  | succ t ih =>
    unfold compL
    split
    · rw [List.length_append]; simp; exact ih
    · omega
theorem reach_self (us : List Nat) (n t : Nat) (hn : us.length = n) (hu : ∀ i, us.getD i 0 < 2 ^ n) (ht : t < n) : (reachM us t n).testBit t = true := (reachM_bit us n t hn hu ht t).2 (.refl _)
theorem nonzero_of_bit {m b : Nat} (h : m.testBit b = true) : m ≠ 0 := by rintro rfl; simp at h
/-- A component begins with t exactly if no lesser one leads to t. -/
theorem comp_new (us : List Nat) (n t : Nat) (hn : us.length = n) (h24 : n ≤ 24) (hu : ∀ i, us.getD i 0 < 2 ^ n) (hs : ∀ i k, i < n → k < n → R us i k → R us k i) (ht : t < n) :
    low (reachM us t n) = t ↔ ¬ ∃ a, a < t ∧ RT us a t := by
  have hself := reach_self us n t hn hu ht
  have hlt := reachM_lt us n t n hu ht
  obtain ⟨h1, h2, _⟩ := low_bit (reachM us t n) (nonzero_of_bit hself) (lt63 h24 hlt)
  constructor
  · rintro e ⟨a, ha, hat⟩
    have := sym_RT us n hu hs a t (by omega) hat
    have hb := (reachM_bit us n t hn hu ht a).2 this
    rw [h2 a (by omega)] at hb; cases hb
  · intro hno
    apply Classical.byContradiction
    intro hne
    have hle : low (reachM us t n) ≤ t := by
      apply Classical.byContradiction
      intro hgt
      rw [h2 t (by omega)] at hself; cases hself
    have hb := (reachM_bit us n t hn hu ht _).1 h1
    exact hno ⟨low (reachM us t n), by omega, sym_RT us n hu hs t _ ht hb⟩
def compM (rs : List Nat) : List Nat := compL (symM rs) rs.length rs.length
theorem compM_len (rs : List Nat) : (compM rs).length ≤ rs.length := compL_len _ _ _


theorem rd_news2 {w wx : World} {ad : Addr} {n : Nat} {xs : List Int} (h : Rd w (some ad) n xs) (hwx : ∀ p : Addr, p.block < w.heap.size → wx.cell? p = w.cell? p) (hsz : w.heap.size ≤ wx.heap.size) :
    ∀ j u, (xs.map (Value.int .i64))[j]? = some u → wx.cell? (ad.add j) = some u := by
  intro j u hu
  have hj : 0 < n := by
    rcases Nat.eq_zero_or_pos n with h0 | h0
    · have : xs = [] := List.eq_nil_of_length_eq_zero (by have := h.1; omega)
      subst this; simp at hu
    · exact h0
  obtain ⟨b, off, e, _⟩ := h.2 hj
  injection e with e
  subst e
  exact rd_news (h.keep hsz hwx) hj j u hu
set_option maxHeartbeats 800000 in
theorem own_any (A : Option Addr) (n c : Nat) (xs : List Int) (w : World) (h : Rd w A n xs) (hn : n ≤ 1048576) :
    Calls Tryd.prog 80 #[.slice A n c] w (MakesE 2 w n xs) := by
  obtain ⟨i0, hi, hz0, hz1, hz2⟩ := info_parts info_int
  cases A with
  | none =>
    have hn0 : n = 0 := by
      rcases Nat.eq_zero_or_pos n with h0 | h0
      · exact h0
      · obtain ⟨b, off, e, _⟩ := h.2 h0; cases e
    have hx : xs = [] := List.eq_nil_of_length_eq_zero (by have := h.1; omega)
    subst hn0 hx
    go_enter Tryd.func80, Tryd.ntmps80
    go_wp2
    go_ret
    exact ⟨_, 0, rfl, World.ownsRow_lit w #[] 0 (Nat.le_refl _) (by unfold maxLen; omega) rfl, (Below.refl _ _).alloc (Nat.le_refl _) _⟩
  | some ad =>
    have hml : 0 + n ≤ maxLen := by unfold maxLen; omega
    have hby2 : (0 + n) * 8 ≤ 140737488355328 := by omega
    have hlen : (xs.map (Value.int .i64)).length = n * 1 := by rw [List.length_map, h.1, Nat.mul_one]
    have hone := ints_oneCell .i64 xs
    have hnews := fun wx => rd_news2 (wx := wx) h
    clear h
    go_enter Tryd.func80, Tryd.ntmps80
    go_wp2_with (first | (at_builtin; refine wpList_append_own _ rfl _ _ 22 rfl w.heap.size 2 i0 (.int .i64 0) 1 8 Tryd.underlying22 hi hz0 hz1 hz2 rfl (by decide) (.slice (some ⟨w.heap.size, 0, none⟩) 0 0) 0 [] rfl ?s0 ad n c (xs.map (Value.int .i64)) rfl hlen ?s1 hone hml hby2 ?s5 ?_))
    case s0 => exact World.ownsRow_lit _ #[] 0 (Nat.le_refl _) (by unfold maxLen; omega) rfl
    case s1 => exact hnews _ (fun p hp => World.cell?_alloc_lt w _ p hp) (by simp)
    case s5 => simp
    intro v1 w1 hown hg _
    have hb : Below w.heap.size w w1 := ((Below.refl _ _).alloc (Nat.le_refl _) _).grown hg (by simp) (by simp [Value.ownBlock])
    obtain ⟨A1, c1, hv, ho⟩ := own_shape hown
    rw [hv]
    clear hg hown hv
    go_wp2
    go_ret
    exact ⟨A1, c1, rfl, ho, hb⟩


def compAns (xs : List Int) : List Int × Int := ansR compM xs
theorem compAns_small (xs : List Int) : (compAns xs).1.length ≤ 24 := ansR_small compM 24 (fun rs h => Nat.le_trans (compM_len rs) h) xs
end Go.Proofs.YtdafdffmkjhhcaaDoor
