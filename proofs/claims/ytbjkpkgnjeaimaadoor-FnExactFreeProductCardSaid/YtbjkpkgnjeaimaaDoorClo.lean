/-
  The closure of a relation: the model's growing sets and the program's rounds, by contracts.
-/
import Derived.Test.YtbjkpkgnjeaimaaDoorBits
import Derived.Test.YtbjkpkgnjeaimaaDoorMaskOf
import Derived.Test.YtbjkpkgnjeaimaaDoorCloMath
import Derived.RegionTactic
import Derived.ChangeAlike
namespace Go.Proofs.YtbjkpkgnjeaimaaDoor
open Go.RowKit
set_option linter.unusedVariables false
set_option maxRecDepth 100000

/-- What a function that answers a list and a code leaves. -/
def AnsPost (w : World) (ys : List Int) (code : Int) (e : Ending) (w' : World) : Prop :=
  ∃ A c, e = .returned (.tuple #[.slice A ys.length c, .int .i64 code]) ∧ Own 2 w' w.heap.size A ys.length c ys ∧ Below w.heap.size w w'

theorem lt63 {m n : Nat} (hn : n ≤ 24) (h : m < 2 ^ n) : m < 9223372036854775808 := by have := p24 n hn; omega
theorem or63 (a b : Nat) (ha : a < 9223372036854775808) (hb : b < 9223372036854775808) : bits .or .i64 (a : Int) (b : Int) = ((a ||| b : Nat) : Int) := i64_or_nat a b ha hb

set_option maxHeartbeats 800000 in
theorem reach_any (A : Option Addr) (n c frm : Nat) (rs : List Nat) (w : World) (h : Rd w A n (ints rs)) (hn : n ≤ 24) (hf : frm < n) (hr : ∀ i, rs.getD i 0 < 2 ^ n) :
    Calls Tryd.prog 102 #[.slice A n c, .int .i64 (frm : Int)] w fun e w' => e = .returned (.int .i64 (reachM rs frm n : Nat)) ∧ w = w' := by
  have hlen : rs.length = n := by have := h.1; rw [ints_len] at this; exact this
  have HL := Lib.hid hlen
  have hf62 : frm ≤ 62 := by omega
  clear hlen
  go_enter Tryd.func102, Tryd.ntmps102
  go_wp2_with (go_at_call 62; refine (one_any frm hf62 _).mono ?_; rintro e w' ⟨rfl, rfl⟩)
  go_loop [5, 6] (fun m i => ∃ t : Nat, t ≤ n ∧ i = .int .i64 t ∧ m = .int .i64 (reachM rs frm t : Nat)) (fun _ i => n - (intOf i).toNat)
  case atStart => exact ⟨0, Nat.zero_le _, rfl, rfl⟩
  case round =>
    obtain ⟨t, ht, rfl, rfl⟩ := hrel
    by_cases hlt : t < n
    · have hm := lt63 hn (reachM_lt rs n frm t hr hf)
      obtain ⟨M, hM⟩ : ∃ M, M = reachM rs frm t := ⟨_, rfl⟩
      have hM2 : M < 2 ^ n := by rw [hM]; exact reachM_lt rs n frm t hr hf
      rw [← hM] at hm ⊢
      have HM := Lib.hid hM
      clear hM
      go_wp2
      go_loop [7, 8] (fun q i => ∃ k : Nat, k ≤ n ∧ i = .int .i64 k ∧ q = .int .i64 (stepM rs M k : Nat)) (fun _ i => n - (intOf i).toNat)
      case atStart => exact ⟨0, Nat.zero_le _, rfl, rfl⟩
      case round =>
        obtain ⟨k, hk, rfl, rfl⟩ := hrel
        have hq := lt63 hn (stepM_lt rs n M k hr hM2)
        by_cases hlt2 : k < n
        · obtain ⟨b, off, x, rfl, hbs, hx, hcx⟩ := h.at_ hlt2
          have hx2 := ints_getD rs k (by rw [HL.out]; exact hlt2)
          rw [hx2] at hx
          injection hx with hx
          subst hx
          have hk62 : k ≤ 62 := by omega
          have hrk := lt63 hn (hr k)
          have e1 : stepM rs M (k + 1) = if M.testBit k = true then stepM rs M k ||| rs.getD k 0 else stepM rs M k := rfl
          obtain ⟨S, hS⟩ : ∃ S, S = stepM rs M k := ⟨_, rfl⟩
          obtain ⟨D, hD⟩ : ∃ D, D = rs.getD k 0 := ⟨_, rfl⟩
          rw [← hS] at hq ⊢
          rw [← hS, ← hD] at e1
          rw [← hD] at hcx hrk
          have HE := Lib.hid e1
          clear e1 hS hD hx2
          cases hb : M.testBit k
          · have HB := Lib.hid hb
            clear hb
            go_wp2_with (go_at_call 57; refine (bit_any M k hm hk62 _).mono ?_; rintro e w' ⟨rfl, rfl⟩; rw [HB.out])
            go_round
            case rel => exact ⟨k + 1, by omega, by go_num, by rw [HE.out, if_neg (by rw [HB.out]; decide)]⟩
            case measure => simp [intOf]; omega
          · have HB := Lib.hid hb
            clear hb
            go_wp2_with (go_at_call 57; refine (bit_any M k hm hk62 _).mono ?_; rintro e w' ⟨rfl, rfl⟩; rw [HB.out])
            go_round
            case rel => exact ⟨k + 1, by omega, by go_num, by rw [HE.out, if_pos HB.out, or63 _ _ hq hrk]⟩
            case measure => simp [intOf]; omega
        · obtain rfl : k = n := by omega
          go_wp2
          go_round
          case rel => exact ⟨t + 1, by omega, by go_num, by show _ = Value.int .i64 ((stepM rs (reachM rs frm t) rs.length : Nat) : Int); rw [HL.out, ← HM.out]⟩
          case measure => simp [intOf]; omega
    · obtain rfl : t = n := by omega
      go_wp2
      go_ret
      exact ⟨rfl, rfl⟩

theorem ints_snoc_map (ys : List Nat) (m : Nat) : (ints ys).map (Value.int .i64) ++ [Value.int .i64 ((m : Nat) : Int)] = (ints (ys ++ [m])).map (Value.int .i64) := by simp [ints]
theorem take_next_nat (ys : List Nat) (k : Nat) (h : k < ys.length) : ys.take k ++ [ys.getD k 0] = ys.take (k + 1) := by
  rw [List.take_add_one, List.getD_eq_getElem?_getD, List.getElem?_eq_getElem h]; rfl
theorem ans_yes {w w' : World} {A : Option Addr} {n c : Nat} {ys : List Int} (hl : ys.length = n) (ho : Own 2 w' w.heap.size A n c ys) (hb : Below w.heap.size w w') : AnsPost w ys 0 (.returned (.tuple #[.slice A n c, .int .i64 0])) w' := by
  subst hl; exact ⟨A, c, rfl, ho, hb⟩
theorem ans_no {w w' : World} (code : Int) (hb : Below w.heap.size w w') : AnsPost w [] code (.returned (.tuple #[.slice none 0 0, .int .i64 code])) w' := ⟨none, 0, rfl, Own.nil _ _ _, hb⟩

theorem own_stored {E : TypeId} {w : World} {B : Nat} {A : Option Addr} {n c k : Nat} {cs : List Nat} (h : Own E w B A n c (ints cs)) (hk : k < n) :
    ∃ g, A = some ⟨g, 0, none⟩ ∧ B ≤ g ∧ w.cell? ⟨g, k, none⟩ = some (.int .i64 ((cs.getD k 0 : Nat) : Int)) ∧ w.frozen? ⟨g, k, none⟩ = false ∧ (∀ m : Nat, Own E (w.setCell ⟨g, k, none⟩ (.int .i64 (m : Int))) B (some ⟨g, 0, none⟩) n c (ints (cs.set k m))) := by
  obtain ⟨g, rfl, hg, _⟩ := h.form (by omega)
  have hl : cs.length = n := by have := h.len; rw [ints_len] at this; exact this
  exact ⟨g, rfl, hg, h.cell (ints_getD cs k (by omega)), h.frozen k, fun m => by rw [← ints_set]; exact h.set_ k m⟩
theorem getD_set (cs : List Nat) (k m i : Nat) (hk : k < cs.length) : (cs.set k m).getD i 0 = if i = k then m else cs.getD i 0 := by
  rw [List.getD_eq_getElem?_getD, List.getD_eq_getElem?_getD, List.getElem?_set]
  by_cases e : k = i
  · subst e; simp [hk]
  · rw [if_neg e, if_neg (fun h => e h.symm)]
/-- A row after its element has been put in. -/
theorem refl_step (rs cs : List Nat) (n k : Nat) (hl : cs.length = n) (hk : k < n) (hc : ∀ i, cs.getD i 0 < 2 ^ n)
    (hb : ∀ i b, ((cs.getD i 0).testBit b = true ↔ (if i < k then W rs 0 i b else R rs i b))) :
    (∀ i, (cs.set k (cs.getD k 0 ||| 2 ^ k)).getD i 0 < 2 ^ n) ∧ ∀ i b, (((cs.set k (cs.getD k 0 ||| 2 ^ k)).getD i 0).testBit b = true ↔ (if i < k + 1 then W rs 0 i b else R rs i b)) := by
  constructor
  · intro i
    rw [getD_set cs k _ i (by omega)]
    split
    · exact Nat.or_lt_two_pow (hc k) (Nat.pow_lt_pow_right (by decide) hk)
    · exact hc i
  · intro i b
    rw [getD_set cs k _ i (by omega)]
    by_cases e : i = k
    · subst e
      rw [if_pos rfl, if_pos (by omega), Nat.testBit_or, Bool.or_eq_true, hb, if_neg (by omega), p2_bit]
      constructor
      · rintro (h | h)
        · exact .inr h
        · exact .inl h
      · rintro (h | h)
        · exact .inr h
        · exact .inl h
    · rw [if_neg e, hb]
      by_cases h : i < k
      · rw [if_pos h, if_pos (by omega)]
      · rw [if_neg h, if_neg (by omega)]
/-- A row after Warshall's step. -/
theorem war_step (rs cs : List Nat) (n j k : Nat) (hl : cs.length = n) (hj : j < n) (hk : k < n) (hc : ∀ i, cs.getD i 0 < 2 ^ n)
    (hb : ∀ i b, i < n → ((cs.getD i 0).testBit b = true ↔ (if i < k then W rs (j + 1) i b else W rs j i b))) :
    ((cs.getD k 0).testBit j = true → (∀ i, (cs.set k (cs.getD k 0 ||| cs.getD j 0)).getD i 0 < 2 ^ n) ∧ ∀ i b, i < n → (((cs.set k (cs.getD k 0 ||| cs.getD j 0)).getD i 0).testBit b = true ↔ (if i < k + 1 then W rs (j + 1) i b else W rs j i b))) ∧
    ((cs.getD k 0).testBit j = false → ∀ i b, i < n → ((cs.getD i 0).testBit b = true ↔ (if i < k + 1 then W rs (j + 1) i b else W rs j i b))) := by
  have hjr : ∀ b, ((cs.getD j 0).testBit b = true ↔ W rs j j b) := by
    intro b
    rw [hb j b hj]
    by_cases h : j < k
    · rw [if_pos h, W_row]
    · rw [if_neg h]
  have hkr : ∀ b, ((cs.getD k 0).testBit b = true ↔ W rs j k b) := by
    intro b
    rw [hb k b hk, if_neg (by omega)]
  constructor
  · intro h
    constructor
    · intro i
      rw [getD_set cs k _ i (by omega)]
      split
      · exact Nat.or_lt_two_pow (hc k) (hc j)
      · exact hc i
    · intro i b hi
      rw [getD_set cs k _ i (by omega)]
      by_cases e : i = k
      · subst e
        rw [if_pos rfl, if_pos (by omega), Nat.testBit_or, Bool.or_eq_true, hkr, hjr]
        constructor
        · rintro (h1 | h1)
          · exact .inl h1
          · exact .inr ⟨(hkr j).1 h, h1⟩
        · rintro (h1 | ⟨_, h1⟩)
          · exact .inl h1
          · exact .inr h1
      · rw [if_neg e, hb i b hi]
        by_cases h : i < k
        · rw [if_pos h, if_pos (by omega)]
        · rw [if_neg h, if_neg (by omega)]
  · intro h i b hi
    rw [hb i b hi]
    by_cases e : i = k
    · subst e
      rw [if_neg (by omega), if_pos (by omega)]
      constructor
      · exact .inl
      · rintro (h1 | ⟨h1, _⟩)
        · exact h1
        · rw [(hkr j).2 h1] at h; cases h
    · by_cases h : i < k
      · rw [if_pos h, if_pos (by omega)]
      · rw [if_neg h, if_neg (by omega)]
set_option maxHeartbeats 1600000 in
theorem closure_any (A : Option Addr) (n c : Nat) (rs : List Nat) (w : World) (h : Rd w A n (ints rs)) (hn : n ≤ 24) (hr : ∀ i, rs.getD i 0 < 2 ^ n) :
    Calls Tryd.prog 80 #[.slice A n c] w (MakesE 57 w n (ints (closM rs))) := by
  have hlen : rs.length = n := by have := h.1; rw [ints_len] at this; exact this
  have HL := Lib.hid hlen
  clear hlen
  go_enter Tryd.func80, Tryd.ntmps80
  go_wp2_with fail
  refine (clone_any A n c _ _ h hn).mono ?_
  rintro e w1 ⟨A1, c1, rfl, ho1, hb1⟩
  go_wp2_with fail
  go_loopw [11] (fun i wr => ∃ (k : Nat) (cs : List Nat), k ≤ n ∧ i = .int .i64 k ∧ cs.length = n ∧ Own 57 wr w.heap.size A1 n c1 (ints cs) ∧ Below w.heap.size w wr ∧ (∀ i, cs.getD i 0 < 2 ^ n) ∧ (∀ i b, ((cs.getD i 0).testBit b = true ↔ (if i < k then W rs 0 i b else R rs i b)))) (fun i _ => n - (intOf i).toNat)
  case atStart => exact ⟨0, rs, Nat.zero_le _, rfl, HL.out, ho1, hb1, hr, fun i b => by rw [if_neg (by omega)]; rfl⟩
  case round =>
    obtain ⟨k, cs, hk, rfl, hcl, ho, hb, hcb, hcw⟩ := hrel
    have HC := Lib.hid hcl
    have HW := Lib.hid hcw
    clear hcl hcw
    by_cases hlt : k < n
    · obtain ⟨g, rfl, hgB, hcell, hfr, hset⟩ := own_stored ho hlt
      have hst := Lib.hid (refl_step rs cs n k HC.out hlt hcb HW.out)
      have hm := lt63 hn (hcb k)
      have hk62 : k ≤ 62 := by omega
      have ho2 := hset (cs.getD k 0 ||| 2 ^ k)
      have hb2 := hb.setCell (p := ⟨g, k, none⟩) hgB (.int .i64 ((cs.getD k 0 ||| 2 ^ k : Nat) : Int))
      obtain ⟨D, hD⟩ : ∃ D, D = cs.getD k 0 := ⟨_, rfl⟩
      rw [← hD] at hcell hst hm ho2 hb2
      clear hD
      go_wp2_with (go_at_call 63; refine (with_any _ _ hm hk62 _).mono ?_; rintro e w' ⟨rfl, rfl⟩)
      go_roundw
      case rel => exact ⟨k + 1, cs.set k (D ||| 2 ^ k), by omega, by go_num, by rw [List.length_set]; exact HC.out, ho2, hb2, hst.out.1, hst.out.2⟩
      case measure => simp [intOf]; omega
    · obtain rfl : k = n := by omega
      have HW0 : Hid (∀ i b, i < k → ((cs.getD i 0).testBit b = true ↔ W rs 0 i b)) := Lib.hid (fun i b hi => by rw [HW.out i b, if_pos hi])
      clear HW
      go_wp2
      go_loopw [26] (fun i wr => ∃ (j : Nat) (cs : List Nat), j ≤ k ∧ i = .int .i64 j ∧ cs.length = k ∧ Own 57 wr w.heap.size A1 k c1 (ints cs) ∧ Below w.heap.size w wr ∧ (∀ i, cs.getD i 0 < 2 ^ k) ∧ (∀ i b, i < k → ((cs.getD i 0).testBit b = true ↔ W rs j i b))) (fun i _ => k - (intOf i).toNat)
      case atStart => exact ⟨0, cs, Nat.zero_le _, rfl, HC.out, ho, hb, hcb, HW0.out⟩
      case round =>
        clear ho hb hcb HC HW0
        obtain ⟨j, cs, hj, rfl, hcl, ho, hb, hcb, hcw⟩ := hrel
        have HC := Lib.hid hcl
        have HW := Lib.hid hcw
        clear hcl hcw
        by_cases hlt2 : j < k
        · obtain ⟨wo, rfl⟩ : ∃ wo : World, wo = wr := ⟨_, rfl⟩
          have HW1 : Hid (∀ i b, i < k → ((cs.getD i 0).testBit b = true ↔ (if i < 0 then W rs (j + 1) i b else W rs j i b))) := Lib.hid (fun i b hi => by rw [HW.out i b hi, if_neg (by omega)])
          clear HW
          go_wp2
          go_loopw [31] (fun i wr => ∃ (t : Nat) (cs : List Nat), t ≤ k ∧ i = .int .i64 t ∧ cs.length = k ∧ Own 57 wr w.heap.size A1 k c1 (ints cs) ∧ Below w.heap.size w wr ∧ (∀ i, cs.getD i 0 < 2 ^ k) ∧ (∀ i b, i < k → ((cs.getD i 0).testBit b = true ↔ (if i < t then W rs (j + 1) i b else W rs j i b)))) (fun i _ => k - (intOf i).toNat)
          case atStart => exact ⟨0, cs, Nat.zero_le _, rfl, HC.out, ho, hb, hcb, HW1.out⟩
          case round =>
            clear ho hb hcb HC HW1
            obtain ⟨t, cs, ht, rfl, hcl, ho, hb, hcb, hcw⟩ := hrel
            have HC := Lib.hid hcl
            have HW := Lib.hid hcw
            clear hcl hcw
            by_cases hlt3 : t < k
            · obtain ⟨g, rfl, hgB, hcell, hfr, hset⟩ := own_stored ho hlt3
              obtain ⟨g', hg', _, hcellj, _, _⟩ := own_stored ho hlt2
              injection hg' with hg'
              injection hg' with hg' _ _
              subst hg'
              have hst := Lib.hid (war_step rs cs k j t HC.out hlt2 hlt3 hcb HW.out)
              have hmt := lt63 hn (hcb t)
              have hmj := lt63 hn (hcb j)
              have hj62 : j ≤ 62 := by omega
              cases hbit : (cs.getD t 0).testBit j
              · have HB := Lib.hid hbit
                clear hbit hset
                have hnext := Lib.hid (hst.out.2 HB.out)
                clear hst
                go_wp2_with (go_at_call 54; refine (has_any _ _ hmt hj62 _).mono ?_; rintro e w' ⟨rfl, rfl⟩; rw [HB.out])
                go_roundw
                case rel => exact ⟨t + 1, cs, by omega, by go_num, HC.out, ho, hb, hcb, hnext.out⟩
                case measure => simp [intOf]; omega
              · have HB := Lib.hid hbit
                clear hbit
                have hnext := Lib.hid (hst.out.1 HB.out)
                clear hst
                have ho2 := hset (cs.getD t 0 ||| cs.getD j 0)
                have hb2 := hb.setCell (p := ⟨g, t, none⟩) hgB (.int .i64 ((cs.getD t 0 ||| cs.getD j 0 : Nat) : Int))
                have hor := or63 _ _ hmt hmj
                clear hset
                go_wp2_with (go_at_call 54; refine (has_any _ _ hmt hj62 _).mono ?_; rintro e w' ⟨rfl, rfl⟩; rw [HB.out])
                go_region
                all_goals go_wp2
                go_roundw
                case rel => exact ⟨t + 1, cs.set t (cs.getD t 0 ||| cs.getD j 0), by omega, by go_num, by rw [List.length_set]; exact HC.out, by (have h9 := ho2; rw [← hor] at h9; exact h9), by (have h9 := hb2.drew; rw [← hor] at h9; exact h9), hnext.out.1, hnext.out.2⟩
                case measure => simp [intOf]; omega
            · obtain rfl : t = k := by omega
              have HW2 : Hid (∀ i b, i < t → ((cs.getD i 0).testBit b = true ↔ W rs (j + 1) i b)) := Lib.hid (fun i b hi => by rw [HW.out i b hi, if_pos hi])
              clear HW
              go_wp2
              go_roundw
              case rel => exact ⟨j + 1, cs, by omega, by go_num, HC.out, ho, hb, hcb, HW2.out⟩
              case measure => simp [intOf]; omega
        · obtain rfl : j = k := by omega
          go_wp2
          go_ret
          refine ⟨A1, c1, rfl, ?_, hb⟩
          rw [← closM_eq rs cs j HL.out HC.out hr hcb (fun i b hi => HW.out i b hi)]
          exact ho

/-- What ClosureOfRelation answers. -/
def closAns (xs : List Int) : List Int × Int := if relB xs = true then (ints (closM (xs.map Int.toNat)), 0) else ([], 1)
theorem closAns_small (xs : List Int) : (closAns xs).1.length ≤ 24 := by
  unfold closAns
  split
  · rename_i h
    show (ints _).length ≤ 24
    rw [ints_len, closM_len, List.length_map]; exact relB_len xs h
  · show 0 ≤ 24; omega
theorem clos_nats (xs : List Int) (h : relB xs = true) : xs = ints (xs.map Int.toNat) ∧ ∀ i, (xs.map Int.toNat).getD i 0 < 2 ^ xs.length := by
  obtain ⟨rs, h1, h2, h3⟩ := relB_nats xs h
  have e : xs.map Int.toNat = rs := by
    rw [h1]; unfold ints; rw [List.map_map]
    conv => rhs; rw [← List.map_id rs]
    apply List.map_congr_left
    intro m _; simp
  rw [e]; exact ⟨h1, h3⟩
end Go.Proofs.YtbjkpkgnjeaimaaDoor
