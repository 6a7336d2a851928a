/-
  The members of a set in ascending order: the program's way and the model's, by contracts.
-/
import Derived.Test.YtmifkbmgpofjbaaDoorTz
import Derived.Test.YtmifkbmgpofjbaaDoorClo
namespace Go.Proofs.YtmifkbmgpofjbaaDoor
open Go.RowKit
set_option linter.unusedVariables false
set_option maxRecDepth 100000

/-- The members of m that are less than k, in ascending order. -/
def upTo (m k : Nat) : List Nat := (List.range k).filter fun b => m.testBit b
theorem upTo_yes (m k : Nat) (h : m.testBit k = true) : upTo m (k + 1) = upTo m k ++ [k] := by
  unfold upTo; rw [List.range_succ, List.filter_append]; simp [h]
theorem upTo_no (m k : Nat) (h : m.testBit k = false) : upTo m (k + 1) = upTo m k := by
  unfold upTo; rw [List.range_succ, List.filter_append]; simp [h]
theorem upTo_skip (m j l : Nat) (hj : j ≤ l) (h : ∀ b, j ≤ b → b < l → m.testBit b = false) : upTo m l = upTo m j := by
  induction l with
  | zero => have : j = 0 := by omega
            subst this; rfl
  | succ l ih =>
    by_cases e : j = l + 1
    · subst e; rfl
    · rw [upTo_no m l (h l (by omega) (by omega))]
      exact ih (by omega) fun b h1 h2 => h b h1 (by omega)
theorem upTo_len (m k : Nat) : (upTo m k).length ≤ k := by
  unfold upTo
  have := List.length_filter_le (fun b => m.testBit b) (List.range k)
  rw [List.length_range] at this; exact this
def bitsOf (m : Nat) : List Nat := upTo m 24
theorem bitsOf_len (m : Nat) : (bitsOf m).length ≤ 24 := upTo_len m 24
theorem div_bit (m k : Nat) : (m / 2 ^ k) % 2 = if m.testBit k = true then 1 else 0 := by
  rw [Nat.testBit_eq_decide_div_mod_eq]
  by_cases h : m / 2 ^ k % 2 = 1
  · simp [h]
  · simp [h]; omega
theorem div_next (m k : Nat) : m / 2 ^ k / 2 = m / 2 ^ (k + 1) := by rw [Nat.div_div_eq_div_mul, Nat.pow_succ]
theorem high_bits (m k b : Nat) (h : m / 2 ^ k = 0) (hb : k ≤ b) : m.testBit b = false := by
  have : m < 2 ^ k := by
    rcases Nat.lt_or_ge m (2 ^ k) with h1 | h1
    · exact h1
    · have := Nat.div_pos h1 (p2_pos k); omega
  exact Nat.testBit_lt_two_pow (Nat.lt_of_lt_of_le this (Nat.pow_le_pow_right (by decide) hb))

set_option maxHeartbeats 800000 in
theorem specList_any (m : Nat) (hm : m < 16777216) (w : World) :
    Calls Tryd.prog 94 #[.int .i64 (m : Int)] w (MakesE 2 w (bitsOf m).length (ints (bitsOf m))) := by
  obtain ⟨i0, hi, hz0, hz1, hz2⟩ := info_parts info_int
  go_enter Tryd.func94, Tryd.ntmps94
  go_wp2
  go_loopw [0, 3, 4] (fun q v i wr => ∃ (k : Nat) (A1 : Option Addr) (c1 : Nat), k ≤ 24 ∧ i = .int .i64 k ∧ q = .int .i64 ((m / 2 ^ k : Nat) : Int) ∧ v = .slice A1 (upTo m k).length c1 ∧ Own 2 wr w.heap.size A1 (upTo m k).length c1 (ints (upTo m k)) ∧ Below w.heap.size w wr) (fun q _ _ _ => (intOf q).toNat)
  case atStart => exact ⟨0, _, 0, Nat.zero_le _, rfl, by rw [Nat.pow_zero, Nat.div_one], rfl, (World.ownsRow_lit w #[] 0 (Nat.le_refl _) (by unfold maxLen; omega) rfl), (Below.refl _ _).alloc (Nat.le_refl _) _⟩
  case round =>
    obtain ⟨k, A1, c1, hk, rfl, rfl, rfl, ho, hb⟩ := hrel
    have hdb := div_bit m k
    have hdn := div_next m k
    have hle : m / 2 ^ k ≤ m := Nat.div_le_self _ _
    have hul := upTo_len m k
    have hsk := Lib.hid (fun h : m / 2 ^ k = 0 => upTo_skip m k 24 hk (fun b h1 _ => high_bits m k b h h1))
    have hkk := Lib.hid (fun h : 0 < m / 2 ^ k => (show k < 24 by
      rcases Nat.lt_or_ge k 24 with h1 | h1
      · exact h1
      · have : m / 2 ^ k = 0 := Nat.div_eq_of_lt (Nat.lt_of_lt_of_le (show m < 2 ^ 24 by omega) (Nat.pow_le_pow_right (by decide) h1))
        omega))
    obtain ⟨q, hq⟩ : ∃ q, q = m / 2 ^ k := ⟨_, rfl⟩
    rw [← hq] at hdb hdn hle hsk hkk ⊢
    have HDN := Lib.hid hdn
    clear hq hdn
    by_cases hq0 : 0 < q
    · have hk24 := hkk.out hq0
      cases hbit : m.testBit k
      · have HB := Lib.hid hbit
        rw [hbit, if_neg (by decide)] at hdb
        have hq2 : ((q : Int) % 2) = 0 := by omega
        clear hdb hbit
        go_wp2
        go_roundw
        case rel => exact ⟨k + 1, A1, c1, by omega, by go_num, by (have h9 := HDN.out; rw [← h9]; go_num), by rw [upTo_no m k HB.out], by (rw [upTo_no m k HB.out]; exact ho), hb⟩
        case measure => simp [intOf]; omega
      · have HB := Lib.hid hbit
        rw [hbit, if_pos rfl] at hdb
        have hq2 : ((q : Int) % 2) = 1 := by omega
        clear hdb hbit
        have hml : (upTo m k).length + 1 ≤ maxLen := by unfold maxLen; omega
        have hby2 : ((upTo m k).length + 1) * 8 ≤ 140737488355328 := by omega
        go_wp2_with (at_builtin; refine wpList_append_own _ rfl _ _ 22 rfl w.heap.size 2 i0 (.int .i64 0) 1 8 Tryd.underlying22 hi hz0 hz1 hz2 rfl (by decide) (.slice A1 (upTo m k).length c1) (upTo m k).length ((ints (upTo m k)).map (Value.int .i64)) rfl (World.ownsRow.alloc ho _) ⟨wr.heap.size, 0, none⟩ 1 1 [.int .i64 (k : Int)] rfl rfl ?c1 ?c2 hml hby2 ?c5 ?_)
        case c1 => exact cell_one_new _ _ _
        case c2 => intro u hu; simp at hu; subst hu; rfl
        case c5 => have := hb.size; simp; omega
        intro v' w2 hown hg _
        rw [ints_snoc_map, ← upTo_yes m k HB.out] at hown
        have hb2 : Below w.heap.size w w2 := (hb.alloc hb.size _).grown hg (by have := hb.size; simp; omega) (fun g hgr => (World.ownsRow.lt ho g hgr).1)
        obtain ⟨A2, c2, hv, ho2⟩ := own_shape hown
        have hl2 : (upTo m k).length + 1 = (upTo m (k + 1)).length := by rw [upTo_yes m k HB.out, List.length_append]; rfl
        rw [hl2] at hv ho2
        rw [hv]
        have HL2 := Lib.hid hl2
        clear hg hown hv hl2
        go_wp2
        go_roundw
        case rel => exact ⟨k + 1, A2, c2, by omega, by go_num, by (have h9 := HDN.out; rw [← h9]; go_num), rfl, ho2, hb2⟩
        case measure => simp [intOf]; omega
    · have hz := hsk.out (by omega)
      have hq1 : q = 0 := by omega
      subst hq1
      clear hdb hkk hsk
      have HZ := Lib.hid hz
      clear hz
      go_wp2
      go_ret
      refine ⟨A1, c1, ?_, ?_, hb⟩
      · unfold bitsOf; rw [HZ.out]; rfl
      · unfold bitsOf; rw [HZ.out]; exact ho

/-- What is left of m from j on. -/
def From (m j rest : Nat) : Prop := ∀ b, (rest.testBit b = true ↔ m.testBit b = true ∧ j ≤ b)
theorem From.zero {m j : Nat} (h : From m j 0) (b : Nat) (hb : j ≤ b) : m.testBit b = false := by
  cases e : m.testBit b
  · rfl
  · have := (h b).2 ⟨e, hb⟩; simp at this
theorem From.le {m j rest : Nat} (h : From m j rest) : rest &&& m = rest := by
  apply Nat.eq_of_testBit_eq
  intro b
  rw [Nat.testBit_and]
  cases e : rest.testBit b
  · rfl
  · rw [((h b).1 e).1]; rfl
theorem From.lt {m j rest : Nat} (h : From m j rest) (hm : m < 16777216) : rest < 16777216 := by
  have := h.le
  have h2 : rest &&& m ≤ m := Nat.and_le_right
  omega
theorem From.next {m j rest : Nat} (h : From m j rest) (hm : m < 16777216) (h0 : rest ≠ 0) :
    m.testBit (low rest) = true ∧ upTo m (low rest + 1) = upTo m j ++ [low rest] ∧ From m (low rest + 1) (rest &&& (rest - 1)) ∧ low rest < 24 ∧ rest &&& (rest - 1) < rest := by
  have hr := h.lt hm
  obtain ⟨h1, h2, h3⟩ := low_bit rest h0 (by omega)
  have hl := (h _).1 h1
  have hlt : low rest < 24 := bit_lt (show m < 2 ^ 24 by omega) hl.1
  refine ⟨hl.1, ?_, ?_, hlt, ?_⟩
  · rw [upTo_yes m _ hl.1, upTo_skip m j (low rest) hl.2]
    intro b hb hb2
    cases e : m.testBit b
    · rfl
    · have := (h b).2 ⟨e, hb⟩; rw [h2 b hb2] at this; cases this
  · intro b
    rw [h3 b]
    constructor
    · intro hb
      simp only [Bool.and_eq_true, Bool.not_eq_true', decide_eq_false_iff_not] at hb
      have := (h b).1 hb.1
      refine ⟨this.1, ?_⟩
      rcases Nat.lt_or_ge (low rest) b with h4 | h4
      · omega
      · have := h2 b (by omega); rw [hb.1] at this; cases this
    · rintro ⟨hb1, hb2⟩
      rw [(h b).2 ⟨hb1, by omega⟩, decide_eq_false (by omega)]; rfl
  · have : rest &&& (rest - 1) ≤ rest - 1 := Nat.and_le_right
    omega
set_option maxHeartbeats 800000 in
theorem members_any (m : Nat) (hm : m < 16777216) (w : World) (hT : Tab w) :
    Calls Tryd.prog 79 #[.int .i64 (m : Int)] w (MakesE 2 w (bitsOf m).length (ints (bitsOf m))) := by
  obtain ⟨i0, hi, hz0, hz1, hz2⟩ := info_parts info_int
  have hm63 : m < 9223372036854775808 := by omega
  go_enter Tryd.func79, Tryd.ntmps79
  go_wp2_with fail
  refine (size_any m hm63 _).mono ?_
  rintro e w' ⟨N, hN, rfl, rfl⟩
  have hml : N ≤ maxLen := by unfold maxLen; omega
  have hby : i0.bytes * N ≤ 281474976710656 := by rw [hz2]; omega
  go_wp2_with (at_make; refine wpList_make_own _ rfl _ _ _ rfl w.heap.size 2 i0 (.int .i64 0) 1 Tryd.underlying22 hi hz0 hz1 _ _ (N : Int) N rfl rfl rfl hby hml (Nat.le_refl _) ?_; intro w1 hown0 hg1)
  have hb1 : Below w.heap.size w w1 := (Below.refl _ _).grown hg1 (Nat.le_refl _) (by simp)
  clear hg1 hml hby
  go_loopw [3, 4] (fun v q wr => ∃ (j rest : Nat) (A1 : Option Addr) (c1 : Nat), From m j rest ∧ j ≤ 24 ∧ q = .int .i64 (rest : Int) ∧ v = .slice A1 (upTo m j).length c1 ∧ Own 2 wr w.heap.size A1 (upTo m j).length c1 (ints (upTo m j)) ∧ Below w.heap.size w wr) (fun _ q _ => (intOf q).toNat)
  case atStart => exact ⟨0, m, _, N, fun b => by simp, Nat.zero_le _, rfl, rfl, hown0, hb1⟩
  case round =>
    obtain ⟨j, rest, A1, c1, hf, hj, rfl, rfl, ho, hb⟩ := hrel
    have hrl := hf.lt hm
    have hul := upTo_len m j
    by_cases h0 : rest = 0
    · subst h0
      have hz := Lib.hid (upTo_skip m j 24 hj (fun b h1 _ => hf.zero b h1))
      clear hf
      go_wp2
      go_ret
      refine ⟨A1, c1, ?_, ?_, hb⟩
      · unfold bitsOf; rw [hz.out]; rfl
      · unfold bitsOf; rw [hz.out]; exact ho
    · obtain ⟨_, hup, hf2, hl24, hdec⟩ := hf.next hm h0
      have hup' := Lib.hid hup
      have hT2 := hT.below hb
      have h63 : rest < 9223372036854775808 := by omega
      have hand : bits .and .i64 (rest : Int) ((rest : Int) - 1) = ((rest &&& (rest - 1) : Nat) : Int) := by
        have e : (rest : Int) - 1 = ((rest - 1 : Nat) : Int) := by omega
        rw [e]; exact i64_and_nat _ _ h63 (by omega)
      have hml : (upTo m j).length + 1 ≤ maxLen := by unfold maxLen; omega
      have hby2 : ((upTo m j).length + 1) * 8 ≤ 140737488355328 := by omega
      have hne : ((rest : Int) == 0) = false := by simp; omega
      have hne2 : ((rest : Int) != 0) = true := by simp; omega
      clear hup hf
      go_wp2_with (first | (go_at_call 102; refine (least_any rest h63 h0 _ hT2).mono ?_; rintro e w' ⟨rfl, rfl⟩) | (at_builtin; refine wpList_append_own _ rfl _ _ 22 rfl w.heap.size 2 i0 (.int .i64 0) 1 8 Tryd.underlying22 hi hz0 hz1 hz2 rfl (by decide) (.slice A1 (upTo m j).length c1) (upTo m j).length ((ints (upTo m j)).map (Value.int .i64)) rfl (World.ownsRow.alloc ho _) ⟨wr.heap.size, 0, none⟩ 1 1 [.int .i64 ((low rest : Nat) : Int)] rfl rfl ?c1 ?c2 hml hby2 ?c5 ?_))
      case c1 => exact cell_one_new _ _ _
      case c2 => intro u hu; simp at hu; subst hu; rfl
      case c5 => have := hb.size; simp; omega
      intro v' w2 hown hg _
      rw [ints_snoc_map, ← hup'.out] at hown
      have hb2 : Below w.heap.size w w2 := (hb.alloc hb.size _).grown hg (by have := hb.size; simp; omega) (fun g hgr => (World.ownsRow.lt ho g hgr).1)
      obtain ⟨A2, c2, hv, ho2⟩ := own_shape hown
      have hl2 : (upTo m j).length + 1 = (upTo m (low rest + 1)).length := by rw [hup'.out, List.length_append]; rfl
      rw [hl2] at hv ho2
      rw [hv]
      have HL2 := Lib.hid hl2
      clear hg hown hv hl2 hT2
      go_wp2
      go_roundw
      case rel => exact ⟨low rest + 1, rest &&& (rest - 1), A2, c2, hf2, by omega, rfl, rfl, ho2, hb2⟩
      case measure => simp only [intOf]; omega
/-- What MembersOf answers. -/
def memAns (m : Int) : List Int × Int := if isMaskB m 24 = true then (ints (bitsOf m.toNat), 0) else ([], 2)
theorem memAns_small (m : Int) : (memAns m).1.length ≤ 24 := by
  unfold memAns
  split
  · show (ints _).length ≤ 24
    rw [ints_len]; exact bitsOf_len _
  · show 0 ≤ 24; omega
theorem memAns_yes (m : Nat) (h : isMaskB (m : Int) 24 = true) : memAns (m : Int) = (ints (bitsOf m), 0) := by
  unfold memAns; rw [if_pos h]; rfl
theorem memAns_no (m : Int) (h : isMaskB m 24 = false) : memAns m = ([], 2) := by unfold memAns; rw [if_neg (by rw [h]; decide)]
theorem mask24 (m : Int) (h : isMaskB m 24 = true) : ∃ k : Nat, m = (k : Int) ∧ k < 16777216 := by
  unfold isMaskB at h
  simp only [decide_eq_true_eq] at h
  obtain ⟨_, _, h1, h2⟩ := h
  have e : ((2 ^ (24 : Int).toNat : Nat) : Int) = 16777216 := by decide
  rw [e] at h2
  exact ⟨m.toNat, by omega, by omega⟩
end Go.Proofs.YtmifkbmgpofjbaaDoor
