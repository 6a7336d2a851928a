/-
  Whether a relation is an order: the model's way and the program's, by contracts.
-/
import Derived.Test.YtbjkpkgnjeaimaaDoorConv
namespace Go.Proofs.YtbjkpkgnjeaimaaDoor
open Go.RowKit
set_option linter.unusedVariables false
set_option maxRecDepth 100000

/-! ### plain: what both ways test -/
def andM (rs cs : List Nat) : List Nat := (List.range rs.length).map fun i => cs.getD i 0 &&& rs.getD i 0
theorem andM_len (rs cs : List Nat) : (andM rs cs).length = rs.length := by simp [andM]
theorem andM_at (rs cs : List Nat) (i : Nat) (h : i < rs.length) : (andM rs cs).getD i 0 = cs.getD i 0 &&& rs.getD i 0 := getD_range_map _ _ _ h
/-- The part that holds in both directions. -/
def mutM (rs : List Nat) : List Nat := andM rs (convM rs)
theorem mutM_len (rs : List Nat) : (mutM rs).length = rs.length := andM_len _ _
theorem mutM_lt (rs : List Nat) (n : Nat) (hn : rs.length = n) (hr : ∀ i, rs.getD i 0 < 2 ^ n) (i : Nat) : (mutM rs).getD i 0 < 2 ^ n := by
  rcases Nat.lt_or_ge i n with h | h
  · rw [mutM, andM_at rs _ i (by omega)]
    exact Nat.lt_of_le_of_lt Nat.and_le_right (hr i)
  · rw [getD_past _ n i (by rw [mutM_len, hn]) h]; exact p2_pos n
theorem mutM_bit (rs : List Nat) (n : Nat) (hn : rs.length = n) (i b : Nat) (hi : i < n) : ((mutM rs).getD i 0).testBit b = true ↔ b < n ∧ R rs b i ∧ R rs i b := by
  rw [mutM, andM_at rs _ i (by omega), convM_at rs i (by omega), Nat.testBit_and, Bool.and_eq_true, colM_bit, hn]
  constructor
  · rintro ⟨⟨h1, h2⟩, h3⟩; exact ⟨h1, h2, h3⟩
  · rintro ⟨h1, h2, h3⟩; exact ⟨⟨h1, h2⟩, h3⟩
/-- An order: each element's mutual part is itself alone; the closure is the relation. -/
def ordB (rs : List Nat) : Bool := (List.range rs.length).all (fun i => (mutM rs).getD i 0 == 2 ^ i) && (rs == closM rs)
/-- The same, as the document says it. -/
def IsOrd (rs : List Nat) : Prop := ∀ i, i < rs.length → R rs i i ∧ ∀ k, R rs i k → (i ≠ k → ¬ R rs k i) ∧ ∀ b, R rs k b → R rs i b
theorem ord_iff (rs : List Nat) (n : Nat) (hn : rs.length = n) (hr : ∀ i, rs.getD i 0 < 2 ^ n) : ordB rs = true ↔ IsOrd rs := by
  have hl : ∀ {i k}, R rs i k → k < n := fun h => bit_lt (hr _) h
  unfold ordB
  rw [Bool.and_eq_true, List.all_eq_true, beq_iff_eq]
  constructor
  · rintro ⟨h1, h2⟩ i hi
    have hm : ∀ b, (b < n ∧ R rs b i ∧ R rs i b) ↔ i = b := by
      intro b
      have e : (mutM rs).getD i 0 = 2 ^ i := by simpa using h1 i (List.mem_range.2 hi)
      rw [← mutM_bit rs n hn i b (by omega), e, p2_bit]
    have hT : ∀ b, R rs i b ↔ RT rs i b := by
      intro b
      have e : rs.getD i 0 = reachM rs i n := by
        have e1 := closM_at rs i hi
        rw [← h2] at e1
        rw [e1, hn]
      unfold R
      rw [e, reachM_bit rs n i hn hr (by omega)]
    refine ⟨((hm i).2 rfl).2.1, fun k hk => ⟨fun hne hki => hne ((hm k).1 ⟨hl hk, hki, hk⟩), fun b hb => (hT b).2 (((hT k).1 hk).step hb)⟩⟩
  · intro h
    constructor
    · intro i hi
      have hi' := List.mem_range.1 hi
      rw [beq_iff_eq]
      refine nat_ext (mutM_lt rs n hn hr i) (Nat.pow_lt_pow_right (by decide) (by omega)) fun b hb => ?_
      rw [mutM_bit rs n hn i b (by omega), p2_bit]
      constructor
      · rintro ⟨h1, h2, h3⟩
        apply Classical.byContradiction
        intro hne
        exact ((h i hi').2 b h3).1 hne h2
      · rintro rfl
        exact ⟨hb, (h i hi').1, (h i hi').1⟩
    · refine masks_eq rs (closM rs) n hn (by rw [closM_len, hn]) hr (fun i => ?_) fun i k hi hk => ?_
      · rcases Nat.lt_or_ge i n with h1 | h1
        · rw [closM_at rs i (by omega), hn]; exact reachM_lt rs n i n hr h1
        · rw [getD_past _ n i (by rw [closM_len, hn]) h1]; exact p2_pos n
      · rw [closM_at rs i (by omega), hn, reachM_bit rs n i hn hr hi]
        constructor
        · intro h1; exact (RT.refl i).step h1
        · intro h1
          show R rs i k
          induction h1 with
          | refl => exact (h i (by omega)).1
          | step h1 h2 ih => exact ((h i (by omega)).2 _ (ih (RT.lt hr hi h1))).2 _ h2

theorem and_step (rs cs ds : List Nat) (n k : Nat) (hl : cs.length = n) (hd : ds.length = n) (hk : k < n)
    (hb : ∀ i, ds.getD i 0 = if i < k then cs.getD i 0 &&& rs.getD i 0 else cs.getD i 0) :
    ∀ i, (ds.set k (ds.getD k 0 &&& rs.getD k 0)).getD i 0 = if i < k + 1 then cs.getD i 0 &&& rs.getD i 0 else cs.getD i 0 := by
  intro i
  rw [getD_set ds k _ i (by omega)]
  by_cases e : i = k
  · subst e
    rw [if_pos rfl, if_pos (by omega), hb i, if_neg (by omega)]
  · rw [if_neg e, hb i]
    by_cases h : i < k
    · rw [if_pos h, if_pos (by omega)]
    · rw [if_neg h, if_neg (by omega)]
set_option maxHeartbeats 1600000 in
theorem mutual_any (A : Option Addr) (n c : Nat) (rs : List Nat) (w : World) (h : Rd w A n (ints rs)) (hn : n ≤ 24) (hr : ∀ i, rs.getD i 0 < 2 ^ n) (hT : Tab w) :
    Calls Tryd.prog 93 #[.slice A n c] w (MakesE 57 w n (ints (mutM rs))) := by
  have hlen : rs.length = n := by have := h.1; rw [ints_len] at this; exact this
  have HL := Lib.hid hlen
  clear hlen
  go_enter Tryd.func93, Tryd.ntmps93
  go_wp2_with fail
  refine (converse_any A n c rs _ h hn hr hT).mono ?_
  rintro e w1 ⟨A1, c1, rfl, ho1, hb1⟩
  go_wp2_with fail
  go_loopw [9] (fun i wr => ∃ (k : Nat) (ds : List Nat), k ≤ n ∧ i = .int .i64 k ∧ ds.length = n ∧ Own 57 wr w.heap.size A1 n c1 (ints ds) ∧ Below w.heap.size w wr ∧ (∀ i, ds.getD i 0 = if i < k then (convM rs).getD i 0 &&& rs.getD i 0 else (convM rs).getD i 0)) (fun i _ => n - (intOf i).toNat)
  case atStart => exact ⟨0, convM rs, Nat.zero_le _, rfl, by rw [convM_len, HL.out], ho1, hb1, fun i => by rw [if_neg (by omega)]⟩
  case round =>
    clear ho1 hb1
    obtain ⟨k, ds, hk, rfl, hdl, ho, hb, hdw⟩ := hrel
    have HC := Lib.hid hdl
    have HW := Lib.hid hdw
    clear hdl hdw
    by_cases hlt : k < n
    · obtain ⟨b, off, x, rfl, hbs, hx, hcx⟩ := (h.below hb).at_ hlt
      have hx2 := ints_getD rs k (by rw [HL.out]; exact hlt)
      rw [hx2] at hx
      injection hx with hx
      subst hx
      have hbw : b ≠ b + 1 := by omega
      obtain ⟨g, rfl, hgB, hcell, hfr, hset⟩ := own_stored ho hlt
      have hst := Lib.hid (and_step rs (convM rs) ds n k (by rw [convM_len, HL.out]) HC.out hlt HW.out)
      have hm1 : ds.getD k 0 < 9223372036854775808 := by
        rw [HW.out k, if_neg (by omega)]; exact lt63 hn (convM_lt rs n HL.out k)
      have hm2 := lt63 hn (hr k)
      have ho4 := hset (ds.getD k 0 &&& rs.getD k 0)
      have hb4 := hb.setCell (p := ⟨g, k, none⟩) hgB (.int .i64 ((ds.getD k 0 &&& rs.getD k 0 : Nat) : Int))
      have hand := i64_and_nat _ _ hm1 hm2
      obtain ⟨S, hS⟩ : ∃ S, S = ds.getD k 0 := ⟨_, rfl⟩
      obtain ⟨D, hD⟩ : ∃ D, D = rs.getD k 0 := ⟨_, rfl⟩
      rw [← hS, ← hD] at ho4 hb4 hand hst
      rw [← hS] at hcell
      rw [← hD] at hcx
      clear hS hD hset hm1 hm2 hx2 hbw
      go_wp2
      go_region
      all_goals go_wp2
      go_roundw
      case rel => exact ⟨k + 1, ds.set k (S &&& D), by omega, by go_num, by rw [List.length_set]; exact HC.out, by first | exact ho4 | (have h9 := ho4; rw [← hand] at h9; exact h9), by first | exact hb4.drew | (have h9 := hb4.drew; rw [← hand] at h9; exact h9), hst.out⟩
      case measure => simp [intOf]; omega
    · obtain rfl : k = n := by omega
      go_wp2
      go_ret
      refine ⟨A1, c1, rfl, ?_, hb⟩
      have e : ds = mutM rs := by
        apply List.ext_getElem?
        intro i
        by_cases hi : i < k
        · have e1 : ds[i]? = some (ds.getD i 0) := by rw [List.getD_eq_getElem?_getD, List.getElem?_eq_getElem (by have := HC.out; omega)]; rfl
          have e2 : (mutM rs)[i]? = some ((mutM rs).getD i 0) := by rw [List.getD_eq_getElem?_getD, List.getElem?_eq_getElem (by rw [mutM_len]; have := HL.out; omega)]; rfl
          rw [e1, e2, HW.out i, if_pos hi, mutM, andM_at rs _ i (by have := HL.out; omega)]
        · rw [List.getElem?_eq_none (by have := HC.out; omega), List.getElem?_eq_none (by rw [mutM_len]; have := HL.out; omega)]
      rw [← e]; exact ho

theorem ints_inj (rs cs : List Nat) : ints rs = ints cs ↔ rs = cs := by
  constructor
  · intro h
    have h2 := congrArg (List.map Int.toNat) h
    unfold ints at h2
    rw [List.map_map, List.map_map] at h2
    have e : (Int.toNat ∘ fun m : Nat => ((m : Nat) : Int)) = id := by funext m; simp
    rw [e, List.map_id, List.map_id] at h2
    exact h2
  · rintro rfl; rfl
def sameB (xs ys : List Int) : Bool := decide (xs = ys)
theorem take_same (xs ys : List Int) (k : Nat) (x : Int) (h : xs.take k = ys.take k) (hx : xs[k]? = some x) (hy : ys[k]? = some x) : xs.take (k + 1) = ys.take (k + 1) := by
  rw [List.take_add_one, List.take_add_one, h, hx, hy]
set_option maxHeartbeats 800000 in
theorem equal_any (A B : Option Addr) (n c d : Nat) (xs ys : List Int) (w : World) (h : Rd w A n xs) (h2 : Rd w B n ys) (hn : n ≤ 9223372036854775807) :
    Calls Tryd.prog 79 #[.slice A n c, .slice B n d] w fun e w' => e = .returned (.bool (sameB xs ys)) ∧ Below w.heap.size w w' := by
  go_enter Tryd.func79, Tryd.ntmps79
  go_wp2
  go_loopw [13] (fun i wr => ∃ k : Nat, k ≤ n ∧ i = .int .i64 k ∧ Below w.heap.size w wr ∧ xs.take k = ys.take k) (fun i _ => n - (intOf i).toNat)
  case atStart => exact ⟨0, Nat.zero_le _, rfl, Below.refl _ _, rfl⟩
  case round =>
    obtain ⟨k, hk, rfl, hb, hsame⟩ := hrel
    by_cases hlt : k < n
    · obtain ⟨b, off, x, rfl, hbs, hx, hcx⟩ := h.at_ hlt
      obtain ⟨b2, off2, y, rfl, hbs2, hy, hcy⟩ := h2.at_ hlt
      have hc1 : wr.cell? ⟨b, off + k, none⟩ = some (.int .i64 x) := (hb.cell (p := ⟨b, off + k, none⟩) hbs).trans hcx
      have hc2 : wr.cell? ⟨b2, off2 + k, none⟩ = some (.int .i64 y) := (hb.cell (p := ⟨b2, off2 + k, none⟩) hbs2).trans hcy
      have HX := Lib.hid hx
      have HY := Lib.hid hy
      have HS := Lib.hid hsame
      clear hx hy hcx hcy hsame
      by_cases hxy : x = y
      · subst hxy
        go_wp2
        go_quiet (fail)
        go_wp2
        go_roundw
        case rel => exact ⟨k + 1, by omega, by go_num, by first | exact below_drewN hb _ | exact hb.drew, take_same xs ys k x HS.out HX.out HY.out⟩
        case measure => simp [intOf]; omega
      · have hne1 : (x == y) = false := by simpa using hxy
        have hne2 : (x != y) = true := by simpa using hxy
        have HN : Hid (sameB xs ys = false) := Lib.hid (by
          unfold sameB
          apply decide_eq_false
          intro e
          apply hxy
          have h1 := HX.out
          rw [e, HY.out] at h1
          injection h1 with h1; exact h1.symm)
        clear hxy
        go_wp2
        go_quiet (fail)
        go_wp2
        go_ret
        exact ⟨ret_b _ _ HN.out.symm, by first | exact below_drewN hb _ | exact hb.drew⟩
    · obtain rfl : k = n := by omega
      have HN : Hid (sameB xs ys = true) := Lib.hid (by
        unfold sameB
        apply decide_eq_true
        rw [List.take_of_length_le (by have := h.1; omega), List.take_of_length_le (by have := h2.1; omega)] at hsame
        exact hsame)
      clear hsame
      go_wp2
      go_ret
      exact ⟨ret_b _ _ HN.out.symm, hb⟩
end Go.Proofs.YtbjkpkgnjeaimaaDoor
