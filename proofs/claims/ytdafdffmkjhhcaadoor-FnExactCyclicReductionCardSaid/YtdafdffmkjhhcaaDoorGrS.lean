/-
  Signed words: the model's small functions by contracts.
-/
import Derived.Test.YtdafdffmkjhhcaaDoorGrP
import Derived.Test.YtdafdffmkjhhcaaDoorGrN
import Derived.Deep.AppendLies
namespace Go.Proofs.YtdafdffmkjhhcaaDoor
open Go Go.RowKit
set_option linter.unusedVariables false
set_option linter.unusedSimpArgs false
set_option maxRecDepth 100000

def gCode2 (L : Int) (xs us vs : List Int) : Int := if alphB L xs = true then (if (sgB L us && sgB L vs) = true then 0 else 2) else 1
set_option maxHeartbeats 800000 in
theorem l09Word_any (L : Int) (A : Option Addr) (n c : Nat) (us : List Int) (w : World) (h : Rd w A n us) (hn : n ≤ 9223372036854775807) (h0 : 0 ≤ L) (h8 : L ≤ 8) :
    Calls Tryd.prog 118 #[.int .i64 L, .slice A n c] w fun e w' => e = .returned (.bool (sgB L us)) ∧ w = w' := by
  have hlen := h.1
  by_cases h24 : n ≤ 24
  · have HW : Hid (sgB L us = us.all (sgB1 L)) := Lib.hid (by unfold sgB; rw [hlen, decide_eq_true h24]; rfl)
    have HL := Lib.hid hlen
    have hw1 : wrap64 (-L) = -L := by unfold wrap64; omega
    clear hlen
    go_enter Tryd.func118, Tryd.ntmps118
    go_wp2_with fail
    go_loop [5] (fun i => ∃ k : Nat, k ≤ n ∧ i = .int .i64 k ∧ (us.take k).all (sgB1 L) = true) (fun i => n - (intOf i).toNat)
    case atStart => exact ⟨0, Nat.zero_le _, rfl, rfl⟩
    case round =>
      obtain ⟨k, hk, rfl, hall⟩ := hrel
      have HA := Lib.hid hall
      clear hall
      by_cases hlt : k < n
      · obtain ⟨b, off, x, rfl, hbs, hx, hcx⟩ := h.at_ hlt
        have HN := Lib.hid (all_next (sgB1 L) us k x hx)
        have HX := Lib.hid hx
        clear hx
        have HNO : Hid (sgB1 L x = false → us.all (sgB1 L) = false) := Lib.hid (fun hf => by
          rw [Bool.eq_false_iff]
          intro e
          have := List.all_eq_true.1 e x (List.mem_of_getElem? HX.out)
          rw [hf] at this; cases this)
        by_cases hx0 : x = 0
        · have HF : Hid (sgB1 L x = false) := Lib.hid (by rw [Bool.eq_false_iff, Ne, sgB1_iff]; exact fun h9 => h9.2.2 hx0)
          go_wp2_with fail
          go_ret
          exact ⟨ret_b _ _ (by rw [HW.out]; exact (HNO.out HF.out).symm), rfl⟩
        · by_cases hin : -L ≤ x ∧ x ≤ L
          · have HF : Hid (sgB1 L x = true) := Lib.hid ((sgB1_iff _ _).2 ⟨hin.1, hin.2, hx0⟩)
            go_wp2_with (go_at_call 101; refine (in_true _ _ _ hin _).mono ?_; rintro e w' ⟨rfl, rfl⟩)
            go_round
            case rel => exact ⟨k + 1, by omega, by go_num, by rw [HN.out, HA.out, HF.out]; rfl⟩
            case measure => simp [intOf]; omega
          · have HF : Hid (sgB1 L x = false) := Lib.hid (by rw [Bool.eq_false_iff, Ne, sgB1_iff]; exact fun h9 => hin ⟨h9.1, h9.2.1⟩)
            go_wp2_with (go_at_call 101; refine (in_false _ _ _ hin _).mono ?_; rintro e w' ⟨rfl, rfl⟩)
            go_ret
            exact ⟨ret_b _ _ (by rw [HW.out]; exact (HNO.out HF.out).symm), rfl⟩
      · obtain rfl : k = n := by omega
        go_wp2
        go_ret
        refine ⟨ret_b _ _ ?_, rfl⟩
        rw [HW.out]
        have := HA.out
        rw [List.take_of_length_le (by rw [HL.out]; omega)] at this
        exact this.symm
  · have HW := Lib.hid (sgB_long L us (by omega))
    clear hlen
    go_enter Tryd.func118, Tryd.ntmps118
    go_wp2_with fail
    go_ret
    exact ⟨ret_b _ _ HW.out.symm, rfl⟩
theorem l09Code_any (L : Int) (A B C : Option Addr) (n c m d q f : Nat) (xs us vs : List Int) (w : World) (h : Rd w A n xs) (hn : n ≤ 9223372036854775807) (h2 : Rd w B m us) (hm : m ≤ 9223372036854775807) (h3 : Rd w C q vs) (hq : q ≤ 9223372036854775807) :
    Calls Tryd.prog 68 #[.agg #[.int .i64 L, .slice A n c], .slice B m d, .slice C q f] w fun e w' => e = .returned (.int .i64 (gCode2 L xs us vs)) ∧ Below w.heap.size w w' := by
  have HB := Lib.hid (below1 w (.cells #[.int .i64 L, .slice A n c] 29))
  have x0 := box_new 29 w L A n c
  have hh := h.below HB.out
  have hh2 := h2.below HB.out
  have hh3 := h3.below HB.out
  cases ha : alphB L xs
  · have HA := Lib.hid ha
    have HC : Hid (gCode2 L xs us vs = 1) := Lib.hid (by unfold gCode2; rw [ha]; rfl)
    clear ha
    go_enter Tryd.func68, Tryd.ntmps68
    go_wp2_with fail
    refine (l02Is_any L _ _ _ xs _ hh hn).mono ?_
    rintro e w1 ⟨rfl, hb⟩
    rw [HA.out]
    go_wp2_with fail
    go_ret
    exact ⟨ret_i _ _ HC.out.symm, HB.out.trans (hb.mono HB.out.size)⟩
  · have HA := Lib.hid ha
    obtain ⟨hl0, hl8⟩ := alphB_L8 L xs ha
    cases hu : sgB L us
    · have HU := Lib.hid hu
      have HC : Hid (gCode2 L xs us vs = 2) := Lib.hid (by unfold gCode2; rw [ha, hu]; rfl)
      clear ha hu
      go_enter Tryd.func68, Tryd.ntmps68
      go_wp2_with fail
      refine (l02Is_any L _ _ _ xs _ hh hn).mono ?_
      rintro e w1 ⟨rfl, hb⟩
      rw [HA.out]
      have y0 := (x0.next hb).c0
      have HB1 := Lib.hid (HB.out.trans (hb.mono HB.out.size))
      go_wp2_with fail
      refine (l09Word_any L _ _ _ us _ (hh2.below hb) hm hl0 hl8).mono ?_
      rintro e w' ⟨rfl, rfl⟩
      rw [HU.out]
      go_wp2_with fail
      go_ret
      exact ⟨ret_i _ _ HC.out.symm, HB1.out⟩
    · have HU := Lib.hid hu
      cases hv : sgB L vs
      · have HV := Lib.hid hv
        have HC : Hid (gCode2 L xs us vs = 2) := Lib.hid (by unfold gCode2; rw [ha, hu, hv]; rfl)
        clear ha hu hv
        go_enter Tryd.func68, Tryd.ntmps68
        go_wp2_with fail
        refine (l02Is_any L _ _ _ xs _ hh hn).mono ?_
        rintro e w1 ⟨rfl, hb⟩
        rw [HA.out]
        have y0 := (x0.next hb).c0
        have HB1 := Lib.hid (HB.out.trans (hb.mono HB.out.size))
        go_wp2_with fail
        refine (l09Word_any L _ _ _ us _ (hh2.below hb) hm hl0 hl8).mono ?_
        rintro e w' ⟨rfl, rfl⟩
        rw [HU.out]
        go_wp2_with fail
        refine (l09Word_any L _ _ _ vs _ (hh3.below hb) hq hl0 hl8).mono ?_
        rintro e w' ⟨rfl, rfl⟩
        rw [HV.out]
        go_wp2_with fail
        go_ret
        exact ⟨ret_i _ _ HC.out.symm, HB1.out⟩
      · have HV := Lib.hid hv
        have HC : Hid (gCode2 L xs us vs = 0) := Lib.hid (by unfold gCode2; rw [ha, hu, hv]; rfl)
        clear ha hu hv
        go_enter Tryd.func68, Tryd.ntmps68
        go_wp2_with fail
        refine (l02Is_any L _ _ _ xs _ hh hn).mono ?_
        rintro e w1 ⟨rfl, hb⟩
        rw [HA.out]
        have y0 := (x0.next hb).c0
        have HB1 := Lib.hid (HB.out.trans (hb.mono HB.out.size))
        go_wp2_with fail
        refine (l09Word_any L _ _ _ us _ (hh2.below hb) hm hl0 hl8).mono ?_
        rintro e w' ⟨rfl, rfl⟩
        rw [HU.out]
        go_wp2_with fail
        refine (l09Word_any L _ _ _ vs _ (hh3.below hb) hq hl0 hl8).mono ?_
        rintro e w' ⟨rfl, rfl⟩
        rw [HV.out]
        go_wp2_with fail
        go_ret
        exact ⟨ret_i _ _ HC.out.symm, HB1.out⟩
set_option maxHeartbeats 1600000 in
theorem l09In_any (A : Option Addr) (n c : Nat) (us : List Int) (w : World) (h : Rd w A n us) (hn : n ≤ 1024) (hu : ∀ s, s ∈ us → sgB1 8 s = true) :
    Calls Tryd.prog 72 #[.slice A n c] w (MakesE 2 w n (ints (us.map inN))) := by
  obtain ⟨i0, hi, hz0, hz1, hz2⟩ := info_parts info_int
  have HL : Hid ((ints (us.map inN)).length = n) := Lib.hid (by rw [ints_len, List.length_map]; exact h.1)
  have HXS : Hid (∀ k x, us[k]? = some x → (ints (us.map inN))[k]? = some ((inN x : Nat) : Int)) := Lib.hid (fun k x hx => by unfold ints; rw [List.getElem?_map, List.getElem?_map, hx]; rfl)
  obtain ⟨zs, hzs⟩ : ∃ zs, zs = ints (us.map inN) := ⟨_, rfl⟩
  rw [← hzs] at HL HXS ⊢
  clear hzs
  go_enter Tryd.func72, Tryd.ntmps72
  go_wp2_with fail
  go_loopw [3, 4] (fun p q wr => ∃ (k : Nat) (A1 : Option Addr) (c1 : Nat), k ≤ n ∧ p = .slice A1 k c1 ∧ q = .int .i64 (k : Int) ∧ Own 2 wr w.heap.size A1 k c1 (zs.take k) ∧ Below w.heap.size w wr) (fun p _ _ => n - sliceLen p)
  case atStart => exact ⟨0, _, 0, Nat.zero_le _, rfl, rfl, World.ownsRow_lit w #[] 0 (Nat.le_refl _) (by unfold maxLen; omega) rfl, (Below.refl _ _).alloc (Nat.le_refl _) _⟩
  case round =>
    obtain ⟨k, A1, c1, hk, rfl, rfl, ho, hb⟩ := hrel
    by_cases hlt : k < n
    · obtain ⟨b, off, x0, eA, hbs, hx0, hcx⟩ := (h.below hb).at_ hlt
      have HZ : Hid (zs[k]? = some ((inN x0 : Nat) : Int)) := Lib.hid (HXS.out k x0 hx0)
      obtain ⟨hb1, hb2, hb3⟩ := (sgB1_iff _ _).1 (hu x0 (List.mem_of_getElem? hx0))
      subst eA
      clear hx0
      by_cases hp : 0 < x0
      · have HE := Lib.hid (inN_pos hp)
        have HZ : Hid (zs[k]? = some (2 * x0 - 2)) := Lib.hid (by rw [HZ.out, HE.out]; congr 1; omega)
        clear HE
        have HNX : Hid (zs.take (k + 1) = zs.take k ++ [2 * x0 - 2]) := Lib.hid (by rw [List.take_add_one, HZ.out]; rfl)
        have hml : k + 1 ≤ maxLen := by unfold maxLen; omega
        have hby2 : (k + 1) * 8 ≤ 140737488355328 := by omega
        go_wp2_with (at_builtin; refine wpList_append_own _ rfl _ _ 22 rfl w.heap.size 2 i0 (.int .i64 0) 1 8 Tryd.underlying22 hi hz0 hz1 hz2 rfl (by decide) (.slice A1 k c1) k ((zs.take k).map (Value.int .i64)) rfl (World.ownsRow.alloc ho _) ⟨wr.heap.size, 0, none⟩ 1 1 [.int .i64 (2 * x0 - 2)] rfl rfl (cell_one_new _ _ _) (by intro u hu; simp at hu; subst hu; rfl) hml hby2 (by have := hb.size; simp; omega) ?_; intro v' w2 hown hg _)
        rw [show (zs.take k).map (Value.int .i64) ++ [Value.int .i64 (2 * x0 - 2)] = (zs.take (k + 1)).map (Value.int .i64) from by rw [HNX.out, List.map_append]; rfl] at hown
        have hb2 : Below w.heap.size w w2 := (hb.alloc hb.size _).grown hg (by have := hb.size; simp; omega) (fun r hr => (World.ownsRow.lt ho r hr).1)
        obtain ⟨A2, c2, hv, ho2⟩ := own_shape hown
        rw [hv]
        clear hg hown hv ho hb
        go_wp2_with fail
        go_roundw
        case rel => exact ⟨k + 1, A2, c2, by omega, rfl, by go_num, ho2, hb2⟩
        case measure => simp [sliceLen]; omega
      · have HE := Lib.hid (inN_neg hp hb3)
        have HZ : Hid (zs[k]? = some (-2 * x0 - 1)) := Lib.hid (by rw [HZ.out, HE.out]; congr 1; omega)
        clear HE
        have HNX : Hid (zs.take (k + 1) = zs.take k ++ [-2 * x0 - 1]) := Lib.hid (by rw [List.take_add_one, HZ.out]; rfl)
        have hml : k + 1 ≤ maxLen := by unfold maxLen; omega
        have hby2 : (k + 1) * 8 ≤ 140737488355328 := by omega
        go_wp2_with (at_builtin; refine wpList_append_own _ rfl _ _ 22 rfl w.heap.size 2 i0 (.int .i64 0) 1 8 Tryd.underlying22 hi hz0 hz1 hz2 rfl (by decide) (.slice A1 k c1) k ((zs.take k).map (Value.int .i64)) rfl (World.ownsRow.alloc ho _) ⟨wr.heap.size, 0, none⟩ 1 1 [.int .i64 (-2 * x0 - 1)] rfl rfl (cell_one_new _ _ _) (by intro u hu; simp at hu; subst hu; rfl) hml hby2 (by have := hb.size; simp; omega) ?_; intro v' w2 hown hg _)
        rw [show (zs.take k).map (Value.int .i64) ++ [Value.int .i64 (-2 * x0 - 1)] = (zs.take (k + 1)).map (Value.int .i64) from by rw [HNX.out, List.map_append]; rfl] at hown
        have hb2 : Below w.heap.size w w2 := (hb.alloc hb.size _).grown hg (by have := hb.size; simp; omega) (fun r hr => (World.ownsRow.lt ho r hr).1)
        obtain ⟨A2, c2, hv, ho2⟩ := own_shape hown
        rw [hv]
        clear hg hown hv ho hb
        go_wp2_with fail
        go_roundw
        case rel => exact ⟨k + 1, A2, c2, by omega, rfl, by go_num, ho2, hb2⟩
        case measure => simp [sliceLen]; omega

    · obtain rfl : k = n := by omega
      rw [List.take_of_length_le (by rw [HL.out]; exact Nat.le_refl _)] at ho
      go_wp2_with fail
      go_ret
      exact ⟨A1, c1, rfl, ho, hb⟩
set_option maxHeartbeats 1600000 in
theorem l09Out_any (A : Option Addr) (n c : Nat) (vs : List Nat) (w : World) (h : Rd w A n (ints vs)) (hn : n ≤ 1024) (hu : ∀ x, x ∈ vs → x < 48) :
    Calls Tryd.prog 73 #[.slice A n c] w (MakesE 2 w n (vs.map outI)) := by
  obtain ⟨i0, hi, hz0, hz1, hz2⟩ := info_parts info_int
  have HL : Hid ((vs.map outI).length = n) := Lib.hid (by rw [List.length_map]; have := h.1; rw [ints_len] at this; exact this)
  have HXS : Hid (∀ k x, vs[k]? = some x → (vs.map outI)[k]? = some (outI x)) := Lib.hid (fun k x hx => map_at_ outI vs k x hx)
  obtain ⟨zs, hzs⟩ : ∃ zs, zs = vs.map outI := ⟨_, rfl⟩
  rw [← hzs] at HL HXS ⊢
  clear hzs
  go_enter Tryd.func73, Tryd.ntmps73
  go_wp2_with fail
  go_loopw [3, 4] (fun p q wr => ∃ (k : Nat) (A1 : Option Addr) (c1 : Nat), k ≤ n ∧ p = .slice A1 k c1 ∧ q = .int .i64 (k : Int) ∧ Own 2 wr w.heap.size A1 k c1 (zs.take k) ∧ Below w.heap.size w wr) (fun p _ _ => n - sliceLen p)
  case atStart => exact ⟨0, _, 0, Nat.zero_le _, rfl, rfl, World.ownsRow_lit w #[] 0 (Nat.le_refl _) (by unfold maxLen; omega) rfl, (Below.refl _ _).alloc (Nat.le_refl _) _⟩
  case round =>
    obtain ⟨k, A1, c1, hk, rfl, rfl, ho, hb⟩ := hrel
    by_cases hlt : k < n
    · obtain ⟨b, off, x0, eA, hbs, hx0, hcx⟩ := (h.below hb).at_ hlt
      obtain ⟨x, hx, rfl⟩ := ints_get vs k x0 hx0
      have HZ := Lib.hid (HXS.out k x hx)
      have hx48 := hu x (List.mem_of_getElem? hx)
      subst eA
      clear hx hx0
      have hq : Int.tdiv (x : Int) 2 = ((x / 2 : Nat) : Int) := by rw [Int.tdiv_eq_ediv_of_nonneg (by omega)]; omega
      have hr : Int.tmod (x : Int) 2 = ((x % 2 : Nat) : Int) := by rw [Int.tmod_eq_emod_of_nonneg (by omega)]; omega
      have hq2 : x / 2 < 24 := by omega
      obtain ⟨y, hy⟩ : ∃ y, y = x / 2 := ⟨_, rfl⟩
      have HY := Lib.hid hy
      rw [← hy] at hq hq2
      clear hy
      by_cases hp : x % 2 = 0
      · have HV := Lib.hid (outI_even hp)
        have HZ : Hid (zs[k]? = some ((y : Int) + 1)) := Lib.hid (by rw [HZ.out, HV.out, ← HY.out])
        clear HV
        have hr0 : Int.tmod (x : Int) 2 = 0 := by rw [hr, hp]; rfl
        clear hr
        have HNX : Hid (zs.take (k + 1) = zs.take k ++ [(y : Int) + 1]) := Lib.hid (by rw [List.take_add_one, HZ.out]; rfl)
        have hml : k + 1 ≤ maxLen := by unfold maxLen; omega
        have hby2 : (k + 1) * 8 ≤ 140737488355328 := by omega
        go_wp2_with (at_builtin; refine wpList_append_own _ rfl _ _ 22 rfl w.heap.size 2 i0 (.int .i64 0) 1 8 Tryd.underlying22 hi hz0 hz1 hz2 rfl (by decide) (.slice A1 k c1) k ((zs.take k).map (Value.int .i64)) rfl (World.ownsRow.alloc ho _) ⟨wr.heap.size, 0, none⟩ 1 1 [.int .i64 ((y : Int) + 1)] rfl rfl (cell_one_new _ _ _) (by intro u hu; simp at hu; subst hu; rfl) hml hby2 (by have := hb.size; simp; omega) ?_; intro v' w2 hown hg _)
        rw [show (zs.take k).map (Value.int .i64) ++ [Value.int .i64 ((y : Int) + 1)] = (zs.take (k + 1)).map (Value.int .i64) from by rw [HNX.out, List.map_append]; rfl] at hown
        have hb2 : Below w.heap.size w w2 := (hb.alloc hb.size _).grown hg (by have := hb.size; simp; omega) (fun r hr => (World.ownsRow.lt ho r hr).1)
        obtain ⟨A2, c2, hv, ho2⟩ := own_shape hown
        rw [hv]
        clear hg hown hv ho hb
        go_wp2_with fail
        go_roundw
        case rel => exact ⟨k + 1, A2, c2, by omega, rfl, by go_num, ho2, hb2⟩
        case measure => simp [sliceLen]; omega
      · have HV := Lib.hid (outI_odd hp)
        have HZ : Hid (zs[k]? = some (-(y : Int) - 1)) := Lib.hid (by rw [HZ.out, HV.out, ← HY.out]; congr 1; omega)
        clear HV
        have hr0 : Int.tmod (x : Int) 2 = 1 := by rw [hr, show x % 2 = 1 by omega]; rfl
        clear hr
        have HNX : Hid (zs.take (k + 1) = zs.take k ++ [-(y : Int) - 1]) := Lib.hid (by rw [List.take_add_one, HZ.out]; rfl)
        have hml : k + 1 ≤ maxLen := by unfold maxLen; omega
        have hby2 : (k + 1) * 8 ≤ 140737488355328 := by omega
        go_wp2_with (at_builtin; refine wpList_append_own _ rfl _ _ 22 rfl w.heap.size 2 i0 (.int .i64 0) 1 8 Tryd.underlying22 hi hz0 hz1 hz2 rfl (by decide) (.slice A1 k c1) k ((zs.take k).map (Value.int .i64)) rfl (World.ownsRow.alloc ho _) ⟨wr.heap.size, 0, none⟩ 1 1 [.int .i64 (-(y : Int) - 1)] rfl rfl (cell_one_new _ _ _) (by intro u hu; simp at hu; subst hu; rfl) hml hby2 (by have := hb.size; simp; omega) ?_; intro v' w2 hown hg _)
        rw [show (zs.take k).map (Value.int .i64) ++ [Value.int .i64 (-(y : Int) - 1)] = (zs.take (k + 1)).map (Value.int .i64) from by rw [HNX.out, List.map_append]; rfl] at hown
        have hb2 : Below w.heap.size w w2 := (hb.alloc hb.size _).grown hg (by have := hb.size; simp; omega) (fun r hr => (World.ownsRow.lt ho r hr).1)
        obtain ⟨A2, c2, hv, ho2⟩ := own_shape hown
        rw [hv]
        clear hg hown hv ho hb
        go_wp2_with fail
        go_roundw
        case rel => exact ⟨k + 1, A2, c2, by omega, rfl, by go_num, ho2, hb2⟩
        case measure => simp [sliceLen]; omega

    · obtain rfl : k = n := by omega
      rw [List.take_of_length_le (by rw [HL.out]; exact Nat.le_refl _)] at ho
      go_wp2_with fail
      go_ret
      exact ⟨A1, c1, rfl, ho, hb⟩
end Go.Proofs.YtdafdffmkjhhcaaDoor
