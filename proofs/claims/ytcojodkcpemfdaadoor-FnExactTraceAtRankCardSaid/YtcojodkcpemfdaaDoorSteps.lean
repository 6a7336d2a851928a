/-
  StepsOf: both sides.
-/
import Derived.Test.YtcojodkcpemfdaaDoorCpl
import Derived.Test.YtcojodkcpemfdaaDoorAlStepM
import Derived.Test.YtcojodkcpemfdaaDoorParts
namespace Go.Proofs.YtcojodkcpemfdaaDoor
open Go.RowKit
set_option linter.unusedVariables false
set_option maxRecDepth 100000

def stepsAns (L : Int) (xs : List Int) : List Int × Int := lsAns stepsM L xs
theorem stepsAns_small (L : Int) (xs : List Int) : (stepsAns L xs).1.length ≤ 256 := lsAns_small stepsM 256 (fun rs h => stepsM_len rs h) L xs
theorem and63 (a b : Nat) (ha : a < 9223372036854775808) (hb : b < 9223372036854775808) : bits .and .i64 (a : Int) (b : Int) = ((a &&& b : Nat) : Int) := i64_and_nat a b ha hb
set_option maxHeartbeats 1600000 in
theorem step_any (A : Option Addr) (n c m : Nat) (rs : List Nat) (w : World) (h : Rd w A n (ints rs)) (hn : n ≤ 8) (hr : ∀ i, rs.getD i 0 < 2 ^ n) (hm : m < 9223372036854775808) :
    Calls Tryd.prog 192 #[.agg #[.int .i64 (n : Int), .slice A n c], .int .i64 (m : Int)] w fun e w' => e = .returned (.bool (stepB rs n m)) ∧ Below w.heap.size w w' := by
  have hlen : rs.length = n := by have := h.1; rw [ints_len] at this; exact this
  have HL := Lib.hid hlen
  clear hlen
  have h24 : n ≤ 24 := by omega
  have HB := Lib.hid (below1 w (.cells #[.int .i64 (n : Int), .slice A n c] 29))
  have hh := h.below HB.out
  have x0 := box_new 29 w (n : Int) A n c
  obtain ⟨w1, hw1⟩ : ∃ w1, w1 = w.alloc (.cells #[.int .i64 (n : Int), .slice A n c] 29) := ⟨_, rfl⟩
  rw [← hw1] at hh x0
  have HB1 := Lib.hid (show Below w.heap.size w w1 by rw [hw1]; exact HB.out)
  go_enter Tryd.func192, Tryd.ntmps192
  go_wp2_with fail
  rw [← hw1]
  clear HB hw1
  go_loopw [5] (fun i wr => ∃ k : Nat, k ≤ n ∧ i = .int .i64 k ∧ Below w1.heap.size w1 wr ∧ (List.range k).all (fun a => !m.testBit a || decide (rs.getD a 0 &&& m = 2 ^ a)) = true) (fun i _ => n - (intOf i).toNat)
  case atStart => exact ⟨0, Nat.zero_le _, rfl, Below.refl _ _, rfl⟩
  case round =>
    obtain ⟨k, hk, rfl, hb, hall⟩ := hrel
    have HA := Lib.hid hall
    clear hall
    have y0 := (x0.next hb).c0
    have y1 := (x0.next hb).c1
    by_cases hlt : k < n
    · obtain ⟨b, off, x, rfl, hbs, hx, hcx⟩ := (hh.below hb).at_ hlt
      have hx2 := ints_getD rs k (by rw [HL.out]; exact hlt)
      rw [hx2] at hx
      injection hx with hx
      subst hx
      have hD63 := lt63 h24 (hr k)
      have hk62 : k ≤ 62 := by omega
      obtain ⟨D, hD⟩ : ∃ D, D = rs.getD k 0 := ⟨_, rfl⟩
      rw [← hD] at hcx hD63
      have HD := Lib.hid hD
      have hand := and63 D m hD63 hm
      obtain ⟨X, hX⟩ : ∃ X, X = D &&& m := ⟨_, rfl⟩
      rw [← hX] at hand
      have HX := Lib.hid hX
      obtain ⟨P, hP⟩ : ∃ P, P = 2 ^ k := ⟨_, rfl⟩
      have HP := Lib.hid hP
      have hone : ∀ ww : World, Calls Tryd.prog 76 #[.int .i64 (k : Int)] ww fun e w' => e = .returned (.int .i64 (P : Int)) ∧ ww = w' := by rw [hP]; exact fun ww => one_any k hk62 ww
      clear hx2 hD hX hP
      cases hbt : m.testBit k
      · have HT := Lib.hid hbt
        clear hbt
        go_wp2_with fail
        go_quiet ((go_at_call 125; exact bit_is m k false HT.out hm hk62 _ _))
        go_wp2
        go_roundw
        case rel => exact ⟨k + 1, by omega, by go_num, by first | exact below_drewN hb _ | exact hb.drew, by rw [all_range_next, HA.out, HT.out]; rfl⟩
        case measure => simp [intOf]; omega
      · have HT := Lib.hid hbt
        clear hbt
        by_cases he : X = P
        · have hne : ((X : Int) == (P : Int)) = true := by simp; omega
          go_wp2_with fail
          go_quiet ((first | (go_at_call 125; exact bit_is m k true HT.out hm hk62 _ _) | (go_at_call 76; exact Calls.quiet_of_same ((hone _).mono fun _ _ ⟨he, hw⟩ => ⟨he, hw.symm⟩))))
          go_wp2
          go_roundw
          case rel => exact ⟨k + 1, by omega, by go_num, by first | exact below_drewN hb _ | exact hb.drew, by rw [all_range_next, HA.out, HT.out, ← HD.out, ← HX.out, he, ← HP.out]; simp⟩
          case measure => simp [intOf]; omega
        · have hne : ((X : Int) == (P : Int)) = false := by simp; omega
          go_wp2_with fail
          go_quiet ((first | (go_at_call 125; exact bit_is m k true HT.out hm hk62 _ _) | (go_at_call 76; exact Calls.quiet_of_same ((hone _).mono fun _ _ ⟨he, hw⟩ => ⟨he, hw.symm⟩))))
          go_wp2
          go_ret
          refine ⟨ret_b _ _ ?_, by first | exact below_drewN (HB1.out.trans (hb.mono HB1.out.size)) _ | exact (HB1.out.trans (hb.mono HB1.out.size)).drew⟩
          symm
          unfold stepB
          refine all_range_no _ n k hlt ?_
          rw [HT.out, ← HD.out, ← HX.out, ← HP.out, decide_eq_false he]; rfl
    · obtain rfl : k = n := by omega
      go_wp2_with fail
      go_ret
      exact ⟨ret_b _ _ (by unfold stepB; rw [HA.out]), HB1.out.trans (hb.mono HB1.out.size)⟩
def stepsTo (rs : List Nat) (n m : Nat) : List Nat := (List.range m).filter (stepB rs n)
theorem stepsTo_yes (rs : List Nat) (n m : Nat) (h : stepB rs n m = true) : stepsTo rs n (m + 1) = stepsTo rs n m ++ [m] := by
  unfold stepsTo; rw [List.range_succ, List.filter_append]; simp [h]
theorem stepsTo_no (rs : List Nat) (n m : Nat) (h : stepB rs n m = false) : stepsTo rs n (m + 1) = stepsTo rs n m := by
  unfold stepsTo; rw [List.range_succ, List.filter_append]; simp [h]
theorem stepsTo_len (rs : List Nat) (n m : Nat) : (stepsTo rs n m).length ≤ m := by
  have := List.length_filter_le (stepB rs n) (List.range m)
  rw [List.length_range] at this; exact this
set_option maxHeartbeats 1600000 in
theorem steps_any (A : Option Addr) (n c : Nat) (rs : List Nat) (w : World) (h : Rd w A n (ints rs)) (hn : n ≤ 8) (hr : ∀ i, rs.getD i 0 < 2 ^ n) :
    Calls Tryd.prog 149 #[.agg #[.int .i64 (n : Int), .slice A n c]] w (MakesE 2 w (stepsM rs).length (ints (stepsM rs))) := by
  have hlen : rs.length = n := by have := h.1; rw [ints_len] at this; exact this
  have HS : Hid (stepsTo rs n (2 ^ n) = stepsM rs) := Lib.hid (by unfold stepsTo stepsM; rw [hlen])
  clear hlen
  obtain ⟨i0, hi, hz0, hz1, hz2⟩ := info_parts info_int
  have hn62 : n ≤ 62 := by omega
  have HB := Lib.hid (below1 w (.cells #[.int .i64 (n : Int), .slice A n c] 29))
  have hh := h.below HB.out
  have x0 := box_new 29 w (n : Int) A n c
  have hsz := size1 w (.cells #[.int .i64 (n : Int), .slice A n c] 29)
  obtain ⟨w1, hw1⟩ : ∃ w1, w1 = w.alloc (.cells #[.int .i64 (n : Int), .slice A n c] 29) := ⟨_, rfl⟩
  rw [← hw1] at hh x0 hsz
  have HB1 := Lib.hid (show Below w.heap.size w w1 by rw [hw1]; exact HB.out)
  have hp8 := p8 n hn
  have hp0 := p2_pos n
  obtain ⟨F, hF⟩ : ∃ F, F = 2 ^ n - 1 := ⟨_, rfl⟩
  have hFP : Hid (F + 1 = 2 ^ n) := Lib.hid (by omega)
  have hF8 : F ≤ 255 := by omega
  have hfull : ∀ ww : World, Calls Tryd.prog 124 #[.int .i64 (n : Int)] ww fun e w' => e = .returned (.int .i64 (F : Int)) ∧ ww = w' := by rw [hF]; exact fun ww => full_any n hn62 ww
  clear hp8 hp0 hF
  go_enter Tryd.func149, Tryd.ntmps149
  go_wp2_with fail
  rw [← hw1]
  have HSZ := Lib.hid hsz
  clear HB hw1 hsz
  go_loopw [3, 4] (fun v i wr => ∃ (m : Nat) (A1 : Option Addr) (c1 : Nat), m ≤ F + 1 ∧ i = .int .i64 m ∧ v = .slice A1 (stepsTo rs n m).length c1 ∧ Own 2 wr w1.heap.size A1 (stepsTo rs n m).length c1 (ints (stepsTo rs n m)) ∧ Below w1.heap.size w1 wr) (fun _ i _ => F + 1 - (intOf i).toNat)
  case atStart =>
    have h9 : Own 2 (w1.alloc (.cells #[] 2)) w1.heap.size (some ⟨w1.heap.size, 0, none⟩) 0 0 [] := World.ownsRow_lit w1 #[] 0 (Nat.le_refl _) (by unfold maxLen; omega) rfl
    refine ⟨0, some ⟨w.heap.size + 1, 0, none⟩, 0, Nat.zero_le _, rfl, rfl, ?_, below1 _ _⟩
    rw [HSZ.out] at h9 ⊢
    exact h9
  case round =>
    obtain ⟨m, A1, c1, hm, rfl, rfl, ho, hb⟩ := hrel
    have hle := stepsTo_len rs n m
    have y0 := (x0.next hb).c0
    have y1 := (x0.next hb).c1
    by_cases hlt : m ≤ F
    · have hm63 : m < 9223372036854775808 := by omega
      cases hst : stepB rs n m
      · have hno := stepsTo_no rs n m hst
        have HNO := Lib.hid hno
        have HST := Lib.hid hst
        clear hno hst hle
        obtain ⟨K, hK⟩ : ∃ K, K = (stepsTo rs n m).length := ⟨_, rfl⟩
        have HK := Lib.hid hK
        rw [← hK] at ho ⊢
        clear hK
        go_wp2_with fail
        refine (hfull _).mono ?_
        rintro e w' ⟨rfl, rfl⟩
        go_wp2_with fail
        refine (step_any _ _ _ m rs _ (hh.below hb) hn hr hm63).mono ?_
        rintro e w2 ⟨rfl, hb2⟩
        rw [HST.out]
        go_wp2_with fail
        go_roundw
        case rel => exact ⟨m + 1, A1, c1, by omega, by go_num, by rw [HNO.out, ← HK.out], by rw [HNO.out, ← HK.out]; exact ho.below hb2, hb.trans (hb2.mono hb.size)⟩
        case measure => simp [intOf]; omega
      · have hyes := stepsTo_yes rs n m hst
        have HYES := Lib.hid hyes
        have HST := Lib.hid hst
        have hml : (stepsTo rs n m).length + 1 ≤ maxLen := by unfold maxLen; omega
        have hby2 : ((stepsTo rs n m).length + 1) * 8 ≤ 140737488355328 := by omega
        have HLN : Hid ((stepsTo rs n (m + 1)).length = (stepsTo rs n m).length + 1) := Lib.hid (by rw [hyes, List.length_append]; rfl)
        clear hyes hst hle
        obtain ⟨K, hK⟩ : ∃ K, K = (stepsTo rs n m).length := ⟨_, rfl⟩
        rw [← hK] at ho hml hby2 HLN ⊢
        obtain ⟨ys, hys⟩ : ∃ ys, ys = stepsTo rs n m := ⟨_, rfl⟩
        rw [← hys] at ho HYES
        clear hK hys
        go_wp2_with fail
        refine (hfull _).mono ?_
        rintro e w' ⟨rfl, rfl⟩
        go_wp2_with fail
        refine (step_any _ _ _ m rs _ (hh.below hb) hn hr hm63).mono ?_
        rintro e w2 ⟨rfl, hb2⟩
        rw [HST.out]
        have ho2 := ho.below hb2
        have hb12 := hb.trans (hb2.mono hb.size)
        go_wp2_with (at_builtin; refine wpList_append_own _ rfl _ _ 22 rfl w1.heap.size 2 i0 (.int .i64 0) 1 8 Tryd.underlying22 hi hz0 hz1 hz2 rfl (by decide) (.slice A1 K c1) K ((ints ys).map (Value.int .i64)) rfl (World.ownsRow.alloc ho2 _) ⟨w2.heap.size, 0, none⟩ 1 1 [.int .i64 (m : Int)] rfl rfl ?s1 ?s2 hml hby2 ?s5 ?_)
        case s1 => exact cell_one_new _ _ _
        case s2 => intro u hu; simp at hu; subst hu; rfl
        case s5 => have := hb12.size; simp; omega
        intro v' w3 hown hg _
        rw [ints_snoc_map, ← HYES.out] at hown
        have hb3 : Below w1.heap.size w1 w3 := (hb12.alloc hb12.size _).grown hg (by have := hb12.size; simp; omega) (fun g hgr => (World.ownsRow.lt ho2 g hgr).1)
        obtain ⟨A2, c2, hv, ho3⟩ := own_shape hown
        rw [hv]
        clear hg hown hv
        go_wp2_with fail
        go_roundw
        case rel => exact ⟨m + 1, A2, c2, by omega, by go_num, by rw [HLN.out], by rw [HLN.out]; exact ho3, hb3⟩
        case measure => simp [intOf]; omega
    · obtain rfl : m = F + 1 := by omega
      have e9 : stepsTo rs n (F + 1) = stepsM rs := by rw [hFP.out]; exact HS.out
      rw [e9] at ho ⊢
      clear e9
      obtain ⟨K, hK⟩ : ∃ K, K = (stepsM rs).length := ⟨_, rfl⟩
      rw [← hK] at ho ⊢
      have HK := Lib.hid hK
      clear hK hle
      go_wp2_with fail
      refine (hfull _).mono ?_
      rintro e w' ⟨rfl, rfl⟩
      go_wp2_with fail
      go_ret
      show MakesE _ _ (stepsM rs).length _ _ _
      rw [← HK.out]
      exact ⟨A1, c1, rfl, ho.mono HB1.out.size, HB1.out.trans (hb.mono HB1.out.size)⟩
end Go.Proofs.YtcojodkcpemfdaaDoor
