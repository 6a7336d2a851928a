/-
  Whether a relation is an order: the model's way and the program's, by contracts.
-/
import Derived.Test.YtmifkbmgpofjbaaDoorConv
namespace Go.Proofs.YtmifkbmgpofjbaaDoor
open Go.RowKit
set_option linter.unusedVariables false
set_option maxRecDepth 100000

/-! ### plain: what both ways test -/
def andM (rs cs : List Nat) : List Nat := (List.range rs.length).map fun i => cs.getD i 0 &&& rs.getD i 0
theorem andM_len (rs cs : List Nat) : (andM rs cs).length = rs.length := by simp [andM]
theorem andM_at (rs cs : List Nat) (i : Nat) (h : i < rs.length) : (andM rs cs).getD i 0 = cs.getD i 0 &&& rs.getD i 0 := getD_range_map _ _ _ h
/-- The part that holds in both directions. -/
def mutM (rs : List Nat) : List Nat := andM rs (convM rs)
theorem mutM_len (rs : List Nat) : (mutM rs).length = rs.length := andM_len _ _
theorem mutM_lt (rs : List Nat) (n : Nat) (hn : rs.length = n) (hr : ∀ i, rs.getD i 0 < 2 ^ n) (i : Nat) : (mutM rs).getD i 0 < 2 ^ n := by
  rcases Nat.lt_or_ge i n with h | h
  · rw [mutM, andM_at rs _ i (by omega)]
    exact Nat.lt_of_le_of_lt Nat.and_le_right (hr i)
  · rw [getD_past _ n i (by rw [mutM_len, hn]) h]; exact p2_pos n
theorem mutM_bit (rs : List Nat) (n : Nat) (hn : rs.length = n) (i b : Nat) (hi : i < n) : ((mutM rs).getD i 0).testBit b = true ↔ b < n ∧ R rs b i ∧ R rs i b := by
  rw [mutM, andM_at rs _ i (by omega), convM_at rs i (by omega), Nat.testBit_and, Bool.and_eq_true, colM_bit, hn]
  constructor
  · rintro ⟨⟨h1, h2⟩, h3⟩; exact ⟨h1, h2, h3⟩
  · rintro ⟨h1, h2, h3⟩; exact ⟨⟨h1, h2⟩, h3⟩
/-- An order: each element's mutual part is itself alone; the closure is the relation. -/
def ordB (rs : List Nat) : Bool := (List.range rs.length).all (fun i => (mutM rs).getD i 0 == 2 ^ i) && (rs == closM rs)
/-- The same, as the document says it. -/
def IsOrd (rs : List Nat) : Prop := ∀ i, i < rs.length → R rs i i ∧ ∀ k, R rs i k → (i ≠ k → ¬ R rs k i) ∧ ∀ b, R rs k b → R rs i b
theorem ord_iff (rs : List Nat) (n : Nat) (hn : rs.length = n) (hr : ∀ i, rs.getD i 0 < 2 ^ n) : ordB rs = true ↔ IsOrd rs := by
  have hl : ∀ {i k}, R rs i k → k < n := fun h => bit_lt (hr _) h
  unfold ordB
  rw [Bool.and_eq_true, List.all_eq_true, beq_iff_eq]
  constructor
  · rintro ⟨h1, h2⟩ i hi
    have hm : ∀ b, (b < n ∧ R rs b i ∧ R rs i b) ↔ i = b := by
      intro b
      have e : (mutM rs).getD i 0 = 2 ^ i := by simpa using h1 i (List.mem_range.2 hi)
      rw [← mutM_bit rs n hn i b (by omega), e, p2_bit]
    have hT : ∀ b, R rs i b ↔ RT rs i b := by
      intro b
      have e : rs.getD i 0 = reachM rs i n := by
        have e1 := closM_at rs i hi
        rw [← h2] at e1
        rw [e1, hn]
      unfold R
      rw [e, reachM_bit rs n i hn hr (by omega)]
    refine ⟨((hm i).2 rfl).2.1, fun k hk => ⟨fun hne hki => hne ((hm k).1 ⟨hl hk, hki, hk⟩), fun b hb => (hT b).2 (((hT k).1 hk).step hb)⟩⟩
  · intro h
    constructor
    · intro i hi
      have hi' := List.mem_range.1 hi
      rw [beq_iff_eq]
      refine nat_ext (mutM_lt rs n hn hr i) (Nat.pow_lt_pow_right (by decide) (by omega)) fun b hb => ?_
      rw [mutM_bit rs n hn i b (by omega), p2_bit]
      constructor
      · rintro ⟨h1, h2, h3⟩
        apply Classical.byContradiction
        intro hne
        exact ((h i hi').2 b h3).1 hne h2
      · rintro rfl
        exact ⟨hb, (h i hi').1, (h i hi').1⟩
    · refine masks_eq rs (closM rs) n hn (by rw [closM_len, hn]) hr (fun i => ?_) fun i k hi hk => ?_
      · rcases Nat.lt_or_ge i n with h1 | h1
        · rw [closM_at rs i (by omega), hn]; exact reachM_lt rs n i n hr h1
        · rw [getD_past _ n i (by rw [closM_len, hn]) h1]; exact p2_pos n
      · rw [closM_at rs i (by omega), hn, reachM_bit rs n i hn hr hi]
        constructor
        · intro h1; exact (RT.refl i).step h1
        · intro h1
          show R rs i k
          induction h1 with
          | refl => exact (h i (by omega)).1
          | step h1 h2 ih => exact ((h i (by omega)).2 _ (ih (RT.lt hr hi h1))).2 _ h2


theorem ints_inj (rs cs : List Nat) : ints rs = ints cs ↔ rs = cs := by
  constructor
  · intro h
    have h2 := congrArg (List.map Int.toNat) h
    unfold ints at h2
    rw [List.map_map, List.map_map] at h2
    have e : (Int.toNat ∘ fun m : Nat => ((m : Nat) : Int)) = id := by funext m; simp
    rw [e, List.map_id, List.map_id] at h2
    exact h2
  · rintro rfl; rfl
def sameB (xs ys : List Int) : Bool := decide (xs = ys)
theorem take_same (xs ys : List Int) (k : Nat) (x : Int) (h : xs.take k = ys.take k) (hx : xs[k]? = some x) (hy : ys[k]? = some x) : xs.take (k + 1) = ys.take (k + 1) := by
  rw [List.take_add_one, List.take_add_one, h, hx, hy]
set_option maxHeartbeats 800000 in
theorem equal_any (A B : Option Addr) (n c d : Nat) (xs ys : List Int) (w : World) (h : Rd w A n xs) (h2 : Rd w B n ys) (hn : n ≤ 9223372036854775807) :
    Calls Tryd.prog 110 #[.slice A n c, .slice B n d] w fun e w' => e = .returned (.bool (sameB xs ys)) ∧ Below w.heap.size w w' := by
  go_enter Tryd.func110, Tryd.ntmps110
  go_wp2
  go_loopw [13] (fun i wr => ∃ k : Nat, k ≤ n ∧ i = .int .i64 k ∧ Below w.heap.size w wr ∧ xs.take k = ys.take k) (fun i _ => n - (intOf i).toNat)
  case atStart => exact ⟨0, Nat.zero_le _, rfl, Below.refl _ _, rfl⟩
  case round =>
    obtain ⟨k, hk, rfl, hb, hsame⟩ := hrel
    by_cases hlt : k < n
    · obtain ⟨b, off, x, rfl, hbs, hx, hcx⟩ := h.at_ hlt
      obtain ⟨b2, off2, y, rfl, hbs2, hy, hcy⟩ := h2.at_ hlt
      have hc1 : wr.cell? ⟨b, off + k, none⟩ = some (.int .i64 x) := (hb.cell (p := ⟨b, off + k, none⟩) hbs).trans hcx
      have hc2 : wr.cell? ⟨b2, off2 + k, none⟩ = some (.int .i64 y) := (hb.cell (p := ⟨b2, off2 + k, none⟩) hbs2).trans hcy
      have HX := Lib.hid hx
      have HY := Lib.hid hy
      have HS := Lib.hid hsame
      clear hx hy hcx hcy hsame
      by_cases hxy : x = y
      · subst hxy
        go_wp2
        go_quiet (fail)
        go_wp2
        go_roundw
        case rel => exact ⟨k + 1, by omega, by go_num, by first | exact below_drewN hb _ | exact hb.drew, take_same xs ys k x HS.out HX.out HY.out⟩
        case measure => simp [intOf]; omega
      · have hne1 : (x == y) = false := by simpa using hxy
        have hne2 : (x != y) = true := by simpa using hxy
        have HN : Hid (sameB xs ys = false) := Lib.hid (by
          unfold sameB
          apply decide_eq_false
          intro e
          apply hxy
          have h1 := HX.out
          rw [e, HY.out] at h1
          injection h1 with h1; exact h1.symm)
        clear hxy
        go_wp2
        go_quiet (fail)
        go_wp2
        go_ret
        exact ⟨ret_b _ _ HN.out.symm, by first | exact below_drewN hb _ | exact hb.drew⟩
    · obtain rfl : k = n := by omega
      have HN : Hid (sameB xs ys = true) := Lib.hid (by
        unfold sameB
        apply decide_eq_true
        rw [List.take_of_length_le (by have := h.1; omega), List.take_of_length_le (by have := h2.1; omega)] at hsame
        exact hsame)
      clear hsame
      go_wp2
      go_ret
      exact ⟨ret_b _ _ HN.out.symm, hb⟩
end Go.Proofs.YtmifkbmgpofjbaaDoor
