/-
  The order of a word's places, the model's side: l04Order, l04Code.
-/
import Derived.Test.YtfbdbipopfjjnaaDoorOrdM
import Derived.Test.YtfbdbipopfjjnaaDoorNfS
import Derived.Test.YtfbdbipopfjjnaaDoorTrIn
import Derived.Test.YtfbdbipopfjjnaaDoorWord3
namespace Go.Proofs.YtfbdbipopfjjnaaDoor
open Go Go.RowKit
set_option linter.unusedVariables false
set_option maxRecDepth 100000

set_option maxHeartbeats 4000000 in
theorem l04Order_any (L : Int) (A B : Option Addr) (n c m d : Nat) (rs us : List Nat) (w : World) (h : Rd w A n (ints rs)) (hn : n ≤ 24) (hr : ∀ i, rs.getD i 0 < 2 ^ n) (h2 : Rd w B m (ints us)) (hm : m ≤ 24) (hus : ∀ p, p < m → us.getD p 0 < n) :
    Calls Tryd.prog 89 #[.agg #[.int .i64 L, .slice A n c], .slice B m d] w (MakesE 2 w m (ints (ordM (RDep rs) us m))) := by
  have mixed : Tryd.prog.follows .mixedOrders = true := by kernel_rfl
  obtain ⟨i0, hi0, hz0, hz1, hz2⟩ := info_parts info_int
  have hlen : us.length = m := by have := h2.1; rw [ints_len] at this; exact this
  have HLEN := Lib.hid hlen
  have HR := Lib.hid hr
  have HUS := Lib.hid hus
  clear hlen hr hus
  have x0 := box_new 28 w L A n c
  have hb0 : Below w.heap.size w (w.alloc (.cells #[.int .i64 L, .slice A n c] 28)) := below1 w _
  have hsz := size1' w (.cells #[.int .i64 L, .slice A n c] 28)
  obtain ⟨W1, hW1⟩ : ∃ W1, w.alloc (.cells #[.int .i64 L, .slice A n c] 28) = W1 := ⟨_, rfl⟩
  rw [hW1] at x0 hb0 hsz
  have hh := h.below hb0
  have hh2 := h2.below hb0
  have HSZ := Lib.hid hsz
  have HB0 := Lib.hid hb0
  obtain ⟨g0, hg0⟩ : ∃ g0, g0 = w.heap.size := ⟨_, rfl⟩
  rw [← hg0] at x0 HSZ
  have HG0 := Lib.hid hg0
  go_enter Tryd.func89, Tryd.ntmps89
  go_wp2_with fail
  rw [← hg0]
  clear hW1 hsz hb0 hg0 h h2
  go_loopw [5, 6] (fun v q wr => ∃ (i : Nat) (A5 : Option Addr) (c5 : Nat), i ≤ m ∧ q = .int .i64 ((i : Nat) : Int) ∧ v = .slice A5 i c5 ∧ Own 2 wr W1.heap.size A5 i c5 (ints ((List.range i).map fun j => upGo (RDep rs) us j m)) ∧ Below W1.heap.size W1 wr) (fun _ q _ => m - (intOf q).toNat)
  case atStart =>
    have h9 : Own 2 (W1.alloc (.cells #[] 2)) W1.heap.size (some ⟨W1.heap.size, 0, none⟩) 0 0 [] := World.ownsRow_lit W1 #[] 0 (Nat.le_refl _) (by unfold maxLen; omega) rfl
    refine ⟨0, some ⟨g0 + 1, 0, none⟩, 0, Nat.zero_le _, rfl, rfl, ?_, below1 _ _⟩
    rw [HSZ.out] at h9 ⊢
    exact h9
  case round =>
    obtain ⟨i, A5, c5, hi5, rfl, rfl, ho, hb⟩ := hrel
    by_cases hlt : i < m
    · have HONE : Hid (∀ (q : Nat) (ww : World), q < m → Calls Tryd.prog 88 #[.int .i64 (q : Int)] ww fun e w' => e = .returned (.int .i64 ((2 ^ q : Nat) : Int)) ∧ ww = w') := Lib.hid fun q ww hq => one_any q (by omega) ww
      have h2i : (2:Nat) ^ i < 9223372036854775808 := p2_lt i (by omega)
      obtain ⟨S1, hS1⟩ : ∃ S1, S1 = 2 ^ i := ⟨_, rfl⟩
      have hone : Calls Tryd.prog 88 #[.int .i64 (i : Int)] wr fun e w' => e = .returned (.int .i64 (S1 : Int)) ∧ wr = w' := by rw [hS1]; exact HONE.out i wr hlt
      have hst : S1 = upGo (RDep rs) us i (i + 1) := by rw [hS1]; exact (upGo_self _ _ _).symm
      have HST := Lib.hid hst
      have HO1 := Lib.hid hone
      obtain ⟨D, hD⟩ : ∃ D, D = RDep rs := ⟨_, rfl⟩
      have HD := Lib.hid hD
      rw [← hD] at ho HST ⊢
      clear hS1 hst hone h2i hD
      go_wp2_with fail
      refine HO1.out.mono ?_
      rintro e w' ⟨rfl, rfl⟩
      go_wp2_with fail
      obtain ⟨wo, rfl⟩ : ∃ wo : World, wo = wr := ⟨_, rfl⟩
      go_loopw [7, 8] (fun v q wr => ∃ k, i < k ∧ k ≤ m ∧ q = .int .i64 ((k : Nat) : Int) ∧ v = .int .i64 ((upGo D us i k : Nat) : Int) ∧ Below wo.heap.size wo wr) (fun _ q _ => m - (intOf q).toNat)
      case atStart => exact ⟨i + 1, by omega, by omega, by go_num, by rw [HST.out], Below.refl _ _⟩
      case round =>
        obtain ⟨k, hik, hk, rfl, rfl, hbk⟩ := hrel
        obtain ⟨M, hM⟩ : ∃ M, M = upGo D us i k := ⟨_, rfl⟩
        rw [← hM]
        have HM := Lib.hid hM
        clear hM
        by_cases hkm : k < m
        · have HST2 : Hid (M = upJ D us i k i) := Lib.hid (by rw [HM.out, upJ_start])
          clear HST
          go_wp2_with fail
          obtain ⟨wk, rfl⟩ : ∃ wk : World, wk = wr := ⟨_, rfl⟩
          go_loopw [7, 9] (fun v q wr => ∃ j, i ≤ j ∧ j ≤ k ∧ q = .int .i64 ((j : Nat) : Int) ∧ v = .int .i64 ((upJ D us i k j : Nat) : Int) ∧ Below wo.heap.size wo wr) (fun _ q _ => k - (intOf q).toNat)
          case atStart => exact ⟨i, Nat.le_refl _, by omega, rfl, by rw [HST2.out], hbk⟩
          case round =>
            clear hbk HST2
            obtain ⟨j, hij, hjk, rfl, rfl, hbj⟩ := hrel
            have hbb := hb.trans (hbj.mono hb.size)
            have hJ63 : upJ D us i k j < 2 ^ 24 := Nat.lt_of_lt_of_le (upJ_lt D us i k j m hkm) (Nat.pow_le_pow_right (by decide) hm)
            have HBT : Hid (j < k → (upJ D us i k j).testBit j = (upGo D us i k).testBit j) := Lib.hid fun h9 => upJ_bit D us i k j j h9
            have HNO : Hid (((upGo D us i k).testBit j && D (us.getD j 0) (us.getD k 0)) = false → upJ D us i k (j + 1) = upJ D us i k j) := Lib.hid (upJ_no D us i k j)
            have HYES : Hid (((upGo D us i k).testBit j && D (us.getD j 0) (us.getD k 0)) = true → upJ D us i k (j + 1) = upJ D us i k j ||| 2 ^ k) := Lib.hid (upJ_yes D us i k j)
            have HEND : Hid (j = k → upJ D us i k j = upGo D us i (k + 1)) := Lib.hid fun h9 => by rw [h9]; exact upJ_end D us i k hik
            obtain ⟨J, hJ⟩ : ∃ J, J = upJ D us i k j := ⟨_, rfl⟩
            rw [← hJ] at hJ63 HBT HNO HYES HEND ⊢
            have HJ := Lib.hid hJ
            clear hJ
            by_cases hjk2 : j < k
            · obtain ⟨bt, hbt⟩ : ∃ bt, bt = J.testBit j := ⟨_, rfl⟩
              have HBIT : Hid (∀ ww : World, Calls Tryd.prog 48 #[.int .i64 (J : Int), .int .i64 (j : Int)] ww fun e w'' => e = .returned (.bool bt) ∧ w'' = ww) := Lib.hid fun ww => by rw [hbt]; exact (bit_any J j (by omega) (by omega) ww).mono fun _ _ h => ⟨h.1, h.2.symm⟩
              have HBQ : Hid (∀ (ww : World) (q : Nat), Calls Tryd.prog 48 #[.int .i64 (J : Int), .int .i64 (j : Int)] (ww.drewN q) fun e w'' => e = .returned (.bool bt) ∧ ∃ m', w'' = ww.drewN m') := Lib.hid fun ww q => by rw [hbt]; exact bit_q J j (by omega) (by omega) ww q
              rw [← HBT.out hjk2, ← hbt] at HNO HYES
              clear hbt HEND HBT
              cases bt
              · have HN : Hid (upJ D us i k (j + 1) = J) := Lib.hid (HNO.out rfl)
                go_wp2_with fail
                go_quiet ((go_at_call 48; exact HBQ.out _ _))
                go_wp2_with fail
                go_roundw
                case rel => exact ⟨j + 1, by omega, by omega, by go_num, by rw [HN.out], by first | exact below_drewN hbj _ | exact hbj.drew⟩
                case measure => simp [intOf]; omega
              · have hjm : j < m := by omega
                obtain ⟨gu, ou, x, eU, hgu, hx, hcx⟩ := (hh2.below hbb).at_ hjm
                rw [ints_getD us j (by rw [HLEN.out]; exact hjm)] at hx
                injection hx with hx
                obtain ⟨gv, ov, y, eV, hgv, hy, hcy⟩ := (hh2.below hbb).at_ hkm
                rw [ints_getD us k (by rw [HLEN.out]; exact hkm)] at hy
                injection hy with hy
                obtain ⟨a, ha⟩ : ∃ a, a = us.getD j 0 := ⟨_, rfl⟩
                obtain ⟨b, hbv⟩ : ∃ b, b = us.getD k 0 := ⟨_, rfl⟩
                have han : a < n := by rw [ha]; exact HUS.out j hjm
                have hbn : b < n := by rw [hbv]; exact HUS.out k hkm
                rw [← ha] at hx
                rw [← hbv] at hy
                rw [← ha, ← hbv, Bool.true_and] at HNO HYES
                subst hx hy eU
                cases eV
                have x1 := x0.next hbb
                have y0 := x1.c0
                have y1 := x1.c1
                have hdr : Below wr.heap.size wr wr.drew := (Below.refl _ _).drew
                obtain ⟨dv, hdv⟩ : ∃ dv, dv = D a b := ⟨_, rfl⟩
                have HDEP : Hid (Calls Tryd.prog 76 #[.agg #[.int .i64 L, .slice A n c], .int .i64 (a : Int), .int .i64 (b : Int)] wr.drew fun e w' => e = .returned (.bool dv) ∧ Below wr.drew.heap.size wr.drew w') := Lib.hid (by
                  rw [hdv, HD.out]; exact dep_any L A n c a b rs wr.drew ((hh.below hbb).below hdr) hn HR.out han hbn)
                rw [← hdv] at HNO HYES
                clear ha hbv hdv
                go_wp2_with fail
                go_still_tail 13, mixed
                still_call (HBIT.out _)
                repeat still_step
                refine wpStill_nil ?_
                change wpList _ _ _ _ _ wr.drew
                cases dv
                · have HN : Hid (upJ D us i k (j + 1) = J) := Lib.hid (HNO.out rfl)
                  go_wp2_with fail
                  refine HDEP.out.mono ?_
                  rintro e w4 ⟨rfl, hb4⟩
                  go_wp2_with fail
                  go_roundw
                  case rel => exact ⟨j + 1, by omega, by omega, by go_num, by rw [HN.out], hbj.trans ((hdr.trans (hb4.mono hdr.size)).mono hbj.size)⟩
                  case measure => simp [intOf]; omega
                · have hp24 : (2:Nat) ^ k ≤ 2 ^ 24 := Nat.pow_le_pow_right (by decide) (by omega)
                  obtain ⟨P2, hP2⟩ : ∃ P2, P2 = 2 ^ k := ⟨_, rfl⟩
                  have HN : Hid (upJ D us i k (j + 1) = J ||| P2) := Lib.hid (by rw [hP2]; exact HYES.out rfl)
                  have HO2 : Hid (∀ ww : World, Calls Tryd.prog 88 #[.int .i64 (k : Int)] ww fun e w' => e = .returned (.int .i64 (P2 : Int)) ∧ ww = w') := Lib.hid fun ww => by rw [hP2]; exact HONE.out k ww hkm
                  rw [← hP2] at hp24
                  have hor := i64_or_nat J P2 (by omega) (by omega)
                  clear hP2
                  go_wp2_with fail
                  refine HDEP.out.mono ?_
                  rintro e w4 ⟨rfl, hb4⟩
                  go_wp2_with fail
                  refine (HO2.out _).mono ?_
                  rintro e w' ⟨rfl, rfl⟩
                  go_wp2_with fail
                  go_roundw
                  case rel => exact ⟨j + 1, by omega, by omega, by go_num, by rw [HN.out], hbj.trans ((hdr.trans (hb4.mono hdr.size)).mono hbj.size)⟩
                  case measure => simp [intOf]; omega
            · have hje : j = k := by omega
              have hend := HEND.out hje
              subst hje
              clear HBT HNO HYES hJ63
              go_wp2_with fail
              go_roundw
              case rel => exact ⟨j + 1, by omega, by omega, by go_num, by rw [← hend], hbj⟩
              case measure => simp [intOf]; omega
        · have hke : k = m := by omega
          subst hke
          have HNX : Hid (ints ((List.range (i + 1)).map fun j => upGo D us j k) = ints ((List.range i).map (fun j => upGo D us j k) ++ [M])) := Lib.hid (by rw [ordM_snoc, HM.out])
          have hbb := hb.trans (hbk.mono hb.size)
          have ho2 := ho.below hbk
          have hml2 : i + 1 ≤ maxLen := by unfold maxLen; omega
          have hby2 : (i + 1) * 8 ≤ 140737488355328 := by omega
          clear HST
          go_wp2_with (at_builtin; refine wpList_append_own _ rfl _ _ 22 rfl W1.heap.size 2 i0 (.int .i64 0) 1 8 Tryd.underlying22 hi0 hz0 hz1 hz2 rfl (by decide) (.slice A5 i c5) i ((ints ((List.range i).map fun j => upGo D us j k)).map (Value.int .i64)) rfl (World.ownsRow.alloc ho2 _) ⟨wr.heap.size, 0, none⟩ 1 1 [.int .i64 (M : Int)] rfl rfl ?s1 ?s2 hml2 hby2 ?s5 ?_)
          case s1 => exact cell_one_new _ _ _
          case s2 => intro u hu; simp at hu; subst hu; rfl
          case s5 => have := hbb.size; simp; omega
          intro v' w3 hown hg _
          rw [ints_snoc_map, ← HNX.out] at hown
          have hb3 : Below W1.heap.size W1 w3 := (hbb.alloc hbb.size _).grown hg (by have := hbb.size; simp; omega) (fun g hgr => (World.ownsRow.lt ho2 g hgr).1)
          obtain ⟨A2, c2, hv, ho3⟩ := own_shape hown
          rw [hv]
          clear hg hown hv
          go_wp2_with fail
          go_roundw
          case rel => exact ⟨i + 1, A2, c2, by omega, by go_num, rfl, ho3, hb3⟩
          case measure => simp [intOf]; omega
    · have hie : i = m := by omega
      subst hie
      go_wp2_with fail
      go_ret
      exact ⟨A5, c5, rfl, by rw [ordM_upGo]; exact ho.mono HB0.out.size, HB0.out.trans (hb.mono HB0.out.size)⟩
end Go.Proofs.YtfbdbipopfjjnaaDoor
