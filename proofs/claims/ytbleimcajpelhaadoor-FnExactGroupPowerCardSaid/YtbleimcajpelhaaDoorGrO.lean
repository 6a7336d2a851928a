/-
  Graph groups: both sides of GroupPower.
-/
import Derived.Test.YtbleimcajpelhaaDoorGrY
namespace Go.Proofs.YtbleimcajpelhaaDoor
open Go Go.RowKit
set_option linter.unusedVariables false
set_option linter.unusedSimpArgs false
set_option maxRecDepth 100000

def pbW (k : Int) (W : List Nat) : List Nat := if k < 0 then invW W else W
def pwE (j : Nat) (ds F : List Nat) : List Int × Int := eF ds (redW (RDep ds) (repV j F))
def pkF (k : Int) (ds W : List Nat) : List Int × Int := if -24 ≤ k ∧ k ≤ 24 then pwE k.natAbs ds (pbW k W) else ([], 2)
theorem pkF_out (k : Int) (ds W : List Nat) (h : ¬ (-24 ≤ k ∧ k ≤ 24)) : pkF k ds W = ([], 2) := if_neg h
theorem pkF_neg (j : Nat) (ds W : List Nat) (h0 : 0 < j) (h : j ≤ 24) : pkF (-(j : Int)) ds W = pwE j ds (invW W) := by
  unfold pkF pbW; rw [if_pos (by omega), if_pos (by omega)]; congr 1; omega
theorem pkF_pos (j : Nat) (ds W : List Nat) (h : j ≤ 24) : pkF (j : Int) ds W = pwE j ds W := by
  unfold pkF pbW; rw [if_pos (by omega), if_neg (by omega)]; congr 1
theorem pkF_small (k : Int) (L : Int) (xs us : List Int) : (gA [] (pkF k) L xs us).1.length ≤ 24 := by
  unfold gA; split
  · split
    · unfold pkF; split
      · exact eF_len _ _
      · exact Nat.zero_le _
    · exact Nat.zero_le _
  · exact Nat.zero_le _
set_option maxHeartbeats 3200000 in
theorem implGroupPower (L : Int) (A : Option Addr) (n c : Nat) (xs : List Int) (A1 : Option Addr) (m d : Nat) (us : List Int) (k : Int) (w : World) (h : Rd w A n xs) (hwf : Wf xs) (hL1 : -9223372036854775808 ≤ L) (hL2 : L ≤ 9223372036854775807) (hn : n ≤ maxLen) (h2 : Rd w A1 m us) (hwf2 : Wf us) (hm : m ≤ maxLen) (hk1 : -9223372036854775808 ≤ k) (hk2 : k ≤ 9223372036854775807) (hT : Tab w) :
    Calls Tryd.prog 39 #[.agg #[.int .i64 L, .slice A n c], .slice A1 m d, .int .i64 k] w (LsPost w (gA [] (pkF k) L xs us).1.length (gA [] (pkF k) L xs us).1 (gA [] (pkF k) L xs us).2) := by
  have hn2 : n ≤ 9223372036854775807 := by unfold maxLen at hn; omega
  have hn1 := h.1
  have hm1 := h2.1
  have x0 := box_new 27 w L A n c
  have HB := Lib.hid (below2 w (.cells #[.int .i64 L, .slice A n c] 27) (.cells #[.slice A1 m d] 22))
  have hh := h.below HB.out
  have ht := rdT_box w (.cells #[.int .i64 L, .slice A n c] 27) A1 m d us 22 h2 hm
  have hT1 := hT.below HB.out
  have x1 := x0.next (below1 (w.alloc (.cells #[.int .i64 L, .slice A n c] 27)) (.cells #[.slice A1 m d] 22))
  cases ha : alphB L xs
  · rw [show gA [] (pkF k) L xs us = _ from gA1_no ha]
    have HA := Lib.hid ha
    clear ha ht hn1
    go_enter Tryd.func39, Tryd.ntmps39
    go_wp2_with fail
    refine (signedIn_no L _ _ _ _ _ _ xs _ hh hwf hL1 hL2 hn2 HA.out hT1).mono ?_
    rintro e w1 ⟨rfl, hb⟩
    have gc := cell_new0 w1 (.slice none 0 0) 52
    have HBG := (HB.out.trans (hb.mono HB.out.size)).alloc (HB.out.trans (hb.mono HB.out.size)).size
    go_wp2_with fail
    go_ret2
    exact LsPost.of_ans (ans_no 1 (HBG _))
  · cases hu : sgB L us
    · rw [show gA [] (pkF k) L xs us = _ from gA1_bad ha hu]
      obtain ⟨rs, rfl, rfl, h8, hr, hrel, hl, hd, _⟩ := alphB_nats L xs n hn1 ha
      have HU := Lib.hid hu
      clear ha hu
      go_enter Tryd.func39, Tryd.ntmps39
      go_wp2_with fail
      refine (signedIn_any _ _ _ _ _ _ rs _ _ hh hwf h8 hl hr hrel hd ht (by omega) hT1).mono ?_
      rw [okG_one, HU.out]
      rintro e w1 (⟨hok, _⟩ | ⟨hok, rfl, hb⟩)
      · cases hok
      have gc := cell_new0 w1 (.slice none 0 0) 52
      have HBG := (HB.out.trans (hb.mono HB.out.size)).alloc (HB.out.trans (hb.mono HB.out.size)).size
      go_wp2_with fail
      go_ret2
      exact LsPost.of_ans (ans_no 2 (HBG _))
    · obtain ⟨rs, rfl, rfl, h8, hr, hrel, hl, hd, hxs⟩ := alphB_nats L xs n hn1 ha
      have HANS := Lib.hid (show gA [] (pkF k) (n : Int) (ints rs) us = _ from gA1_yes rs hxs ha hu)
      have HU := Lib.hid hu
      have HDEP := (depB_iff rs n hl hr).1 hd
      obtain ⟨ds, hds⟩ : ∃ ds, ds = dblR rs := ⟨_, rfl⟩
      obtain ⟨N, hN⟩ : ∃ N, N = 2 * n := ⟨_, rfl⟩
      have HDL : Hid (ds.length = N) := Lib.hid (by rw [hds, dbl_len, hl, hN])
      have HDR : Hid (∀ i, ds.getD i 0 < 2 ^ N) := Lib.hid (by rw [hds, hN, ← hl]; exact dbl_lt rs)
      have HGD : Hid (GD (RDep ds) N) := Lib.hid (by rw [hds, hN]; exact dbl_gd rs n hl hr HDEP)
      have HDD : Hid (Dep ds) := Lib.hid (by rw [hds]; exact dbl_is rs n hl hr HDEP)
      have hN16 : N ≤ 16 := by omega
      have hum : us.length ≤ 24 := sgB_len (by exact HU.out)
      have HWN : Hid (∀ x, x ∈ us.map inN → x < N) := Lib.hid (by rw [hN]; exact sgB_nats (by exact HU.out))
      have HWA : Hid (∀ s, s ∈ us → sgB1 8 s = true) := Lib.hid (fun s hs => sgB1_mono n s h8 (sgB_all (L := (n : Int)) (by exact HU.out) s hs))
      obtain ⟨W, hW⟩ : ∃ W, W = us.map inN := ⟨_, rfl⟩
      have HWL : Hid (W.length = m) := Lib.hid (by rw [hW, List.length_map]; exact hm1)
      rw [← hW] at HWN HANS
      rw [← hds] at HANS
      rw [HANS.out]
      have HDS := Lib.hid hds
      have HWE := Lib.hid hW
      have HNE := Lib.hid hN
      clear hds hW hN
      go_enter Tryd.func39, Tryd.ntmps39
      go_wp2_with fail
      refine (signedIn_any _ _ _ _ _ _ rs _ _ hh hwf h8 hl hr hrel hd ht (by omega) hT1).mono ?_
      rw [okG_one, HU.out]
      rintro e w1 (⟨hok, R, cr, AL, cl, rfl, oR, oS, hb⟩ | ⟨hok, _⟩)
      rotate_left
      · cases hok
      rw [← HDS.out, ← HNE.out] at oR
      rw [← HNE.out]
      obtain ⟨lo, hi, oS⟩ : ∃ lo hi, OwnSS w1 lo hi AL 1 cl [ints W] := ⟨_, _, by rw [HWE.out]; exact oS⟩
      have gb := Boxed.new w1 52 (.slice R N cr)
      have gc := gb.cell
      have hbg := below1 w1 (.cells #[.slice R N cr] 52)
      have HB1 := Lib.hid (HB.out.trans (hb.mono HB.out.size))
      have HB2 := Lib.hid (HB1.out.trans (hbg.mono HB1.out.size))
      have hRd := oR.rd.below hbg
      obtain ⟨ws, hws, HWS⟩ := rdSS_words (oS.rd (by intro z hz; obtain rfl := (by simpa using hz : z = _); rw [ints_len, HWL.out]; unfold maxLen; omega)) [W] rfl
      have hT2 := ((hT1.below hb).below hbg)
      have hRT := hws.below hbg
      have y0 := ((x1.next hb).next hbg).c0
      have y1 := ((x1.next hb).next hbg).c1
      have yz := ((x1.next hb).next hbg).c0
      clear hr hrel hd hu hws oS hh ht hT1 hT h h2 x0 x1
      obtain ⟨wg, hwg⟩ : ∃ wg, wg = w1.alloc (.cells #[.slice R N cr] 52) := ⟨_, rfl⟩
      rw [← hwg] at gb gc hbg HB2 hRd hT2 hRT y0 y1
      have hgl := gb.lt
      obtain ⟨bw, ow, B0, n0, c0, x0, eAL, hbl, ht0, hc0, hr0, hm0⟩ := hRT.at_ (show 0 < 1 by omega)
      have hx0 : x0 = ints W := HWS.out 0 _ ht0
      subst hx0
      have hn0 : n0 = m := by have := hr0.1; rw [ints_len, HWL.out] at this; exact this.symm
      subst hn0
      rw [Nat.add_zero] at hc0
      subst eAL
      have hcz : (w1.alloc (.cells #[.slice R N cr] 52)).cell? ⟨bw, ow, none⟩ = some (.slice B0 n0 c0) := by rw [← hwg]; exact hc0
      clear HNE HDS HANS hm0 ht0
      by_cases hk9 : -24 ≤ k ∧ k ≤ 24
      rotate_left
      · have HVV := Lib.hid (pkF_out k ds W hk9)
        by_cases hk8 : k < -24
        · go_wp2_with fail
          rw [← hwg]
          go_ret2
          rw [HVV.out]
          exact LsPost.of_ans (ans_no 2 HB2.out)
        · have hk7 : 24 < k := by omega
          go_wp2_with fail
          rw [← hwg]
          go_ret2
          rw [HVV.out]
          exact LsPost.of_ans (ans_no 2 HB2.out)
      have hk8 : ¬ k < -24 := by omega
      have hk7 : ¬ 24 < k := by omega
      by_cases hk6 : k < 0
      · obtain ⟨j, rfl⟩ : ∃ j : Nat, k = -(j : Int) := ⟨k.natAbs, by omega⟩
        have hj : j ≤ 24 := by omega
        have hj0 : 0 < j := by omega
        have HPK := Lib.hid (pkF_neg j ds W hj0 hj)
        have HINV : Hid (∀ ww : World, Below wg.heap.size wg ww → Calls Tryd.prog 56 #[.slice B0 n0 c0] ww (MakesE 2 ww n0 (ints (invW W)))) := Lib.hid (fun ww hw => inverseOf_any B0 n0 c0 W ww (hr0.below hw) (by omega) (fun x hx => by have := HWN.out x hx; omega))
        have HFN : Hid (∀ x, x ∈ invW W → x < N) := Lib.hid (invW_lt HGD.out HWN.out)
        have HFL : Hid ((invW W).length = n0) := Lib.hid (by rw [invW_len, HWL.out])
        go_wp2_with fail
        rw [← hwg]
        clear hwg oR hb yz
        refine (HINV.out _ (Below.refl _ _)).mono ?_
        rintro e wv ⟨Av, cv, rfl, ov, hv⟩
        have hvr := ov.rd
        have HRP : Hid (∀ ww : World, Below wv.heap.size wv ww → Calls Tryd.prog 65 #[.slice Av n0 cv, .int .i64 (j : Int)] ww (MakesE 2 ww (n0 * j) (ints (repV j (invW W))))) := Lib.hid (fun ww hw => repeat_ints Av n0 cv j (invW W) ww (hvr.below hw) (by omega) hj)
        have HVN : Hid (∀ x, x ∈ repV j (invW W) → x < N) := Lib.hid (fun x hx => HFN.out x (repV_mem hx))
        have HVL : Hid ((repV j (invW W)).length = n0 * j) := Lib.hid (by rw [repV_len, HFL.out])
        have HV576 : Hid (n0 * j ≤ 576) := Lib.hid (Nat.le_trans (Nat.mul_le_mul (show n0 ≤ 24 by omega) hj) (by decide))
        have HV1 : Hid (pkF (-(j : Int)) ds W = eF ds (redW (RDep ds) (repV j (invW W)))) := HPK
        obtain ⟨V, hVw⟩ : ∃ V, V = repV j (invW W) := ⟨_, rfl⟩
        rw [← hVw] at HRP HVN HVL HV1
        obtain ⟨z0, hz0⟩ : ∃ z0, z0 = n0 * j := ⟨_, rfl⟩
        rw [← hz0] at HRP HVL HV576
        obtain ⟨VX, VC, hVV⟩ : ∃ a b, pkF (-(j : Int)) ds W = (a, b) := ⟨_, _, rfl⟩
        rw [hVV] at HV1
        have HEL : Hid (∀ (wq : World) (Aq : Option Addr) (cq : Nat), Below wg.heap.size wg wq → Rd wq Aq z0 (ints V) → Calls Tryd.prog 53 #[.agg #[.slice R N cr], .slice (some ⟨wq.heap.size, 0, none⟩) 1 1] (wq.alloc (.cells #[.slice Aq z0 cq] 22)) (LsPost (wq.alloc (.cells #[.slice Aq z0 cq] 22)) VX.length VX VC)) := Lib.hid (fun wq Aq cq hq ho => by
          have hz24 := HV576.out
          have h9 := element_any R _ N cr 1 1 ds _ [V] (wq.alloc (.cells #[.slice Aq z0 cq] 22)) ((hRd.below hq).below (below1 _ _)) hN16 HDL.out HDR.out HGD.out HDD.out (rdT_one wq Aq z0 cq (ints V) 22 ho (by unfold maxLen; omega)) (by omega) rfl (fun k t hk => by
            match k, hk with
            | 0, hk => injection hk with hk; subst hk; rfl
            | k + 1, hk => simp at hk) (fun k => by
            match k with
            | 0 => show V.length ≤ 576; rw [HVL.out]; omega
            | k + 1 => simp) (by rw [show [V].flatten = V by simp, HVL.out]; omega) (by rw [show [V].flatten = V by simp]; exact HVN.out) ((hT2.below hq).below (below1 _ _))
          rw [show [V].flatten = V by simp, ← HV1.out] at h9
          exact h9)
        have HVV := Lib.hid hVV
        have HBW : Hid (Below wg.heap.size wg wv) := Lib.hid (hv)
        have gbw : Boxed wv w1.heap.size 52 (.slice R N cr) := ((hv.block _ gb.lt).trans gb)
        have gc := gbw.cell
        have hC : Below wv.heap.size wv wv.drew := (Below.refl _ _).drew
        clear hVV HV1 hVw HVN HVL HV576 HPK hz0 hr0 HGD HDD HDR HDL HWS hRd hT2 y0 y1 hbg
        clear HINV hk6 hk7 hk8 hk9 hk1 hk2 ov
        go_wp2_with fail
        go_region_law (first
          | (go_simp; (with_reducible refine (HRP.out _ hC).mono ?_); rintro e wq ⟨Aq, cq, rfl, oq, hq⟩; have hC := hC.trans (hq.mono hC.size); have gbq : Boxed wq w1.heap.size 52 (.slice R N cr) := (hC.block _ gbw.lt).trans gbw; have gc := gbq.cell; have gcl : ∀ o : Obj, (wq.alloc o).cell? ⟨w1.heap.size, 0, none⟩ = some (.slice R N cr) := fun o => (gbq.alloc o).cell)
          | (go_simp; (with_reducible refine (HEL.out wq Aq cq (HBW.out.trans (hC.mono HBW.out.size)) oq.rd).mono ?_); rintro e wr ⟨A7, c7, rfl, o7, hb7⟩; have HOR := Lib.hid o7; have HBA := Lib.hid (HB2.out.trans ((HBW.out.trans (hC.mono HBW.out.size)).mono HB2.out.size)); have HBL := Lib.hid (HBA.out.trans ((below1 wq (.cells #[.slice Aq z0 cq] 22)).mono HBA.out.size)); have HBR := Lib.hid (HBL.out.trans (hb7.mono HBL.out.size)); clear o7 hb7))
        all_goals
          clear gc gcl HEL HRP
          go_wp2_with fail
          go_ret2
          rw [HVV.out]
          exact ⟨A7, c7, rfl, HOR.out.mono HBL.out.size, HBR.out⟩
      · obtain ⟨j, rfl⟩ : ∃ j : Nat, k = (j : Int) := ⟨k.toNat, by omega⟩
        have hj : j ≤ 24 := by omega
        have HPK := Lib.hid (pkF_pos j ds W hj)
        have HFN := HWN
        have HFL := HWL
        have hr0' := hr0
        have HRP : Hid (∀ ww : World, Below wg.heap.size wg ww → Calls Tryd.prog 65 #[.slice B0 n0 c0, .int .i64 (j : Int)] ww (MakesE 2 ww (n0 * j) (ints (repV j W)))) := Lib.hid (fun ww hw => repeat_ints B0 n0 c0 j W ww (hr0'.below hw) (by omega) hj)
        have HVN : Hid (∀ x, x ∈ repV j W → x < N) := Lib.hid (fun x hx => HFN.out x (repV_mem hx))
        have HVL : Hid ((repV j W).length = n0 * j) := Lib.hid (by rw [repV_len, HFL.out])
        have HV576 : Hid (n0 * j ≤ 576) := Lib.hid (Nat.le_trans (Nat.mul_le_mul (show n0 ≤ 24 by omega) hj) (by decide))
        have HV1 : Hid (pkF (j : Int) ds W = eF ds (redW (RDep ds) (repV j W))) := HPK
        obtain ⟨V, hVw⟩ : ∃ V, V = repV j W := ⟨_, rfl⟩
        rw [← hVw] at HRP HVN HVL HV1
        obtain ⟨z0, hz0⟩ : ∃ z0, z0 = n0 * j := ⟨_, rfl⟩
        rw [← hz0] at HRP HVL HV576
        obtain ⟨VX, VC, hVV⟩ : ∃ a b, pkF (j : Int) ds W = (a, b) := ⟨_, _, rfl⟩
        rw [hVV] at HV1
        have HEL : Hid (∀ (wq : World) (Aq : Option Addr) (cq : Nat), Below wg.heap.size wg wq → Rd wq Aq z0 (ints V) → Calls Tryd.prog 53 #[.agg #[.slice R N cr], .slice (some ⟨wq.heap.size, 0, none⟩) 1 1] (wq.alloc (.cells #[.slice Aq z0 cq] 22)) (LsPost (wq.alloc (.cells #[.slice Aq z0 cq] 22)) VX.length VX VC)) := Lib.hid (fun wq Aq cq hq ho => by
          have hz24 := HV576.out
          have h9 := element_any R _ N cr 1 1 ds _ [V] (wq.alloc (.cells #[.slice Aq z0 cq] 22)) ((hRd.below hq).below (below1 _ _)) hN16 HDL.out HDR.out HGD.out HDD.out (rdT_one wq Aq z0 cq (ints V) 22 ho (by unfold maxLen; omega)) (by omega) rfl (fun k t hk => by
            match k, hk with
            | 0, hk => injection hk with hk; subst hk; rfl
            | k + 1, hk => simp at hk) (fun k => by
            match k with
            | 0 => show V.length ≤ 576; rw [HVL.out]; omega
            | k + 1 => simp) (by rw [show [V].flatten = V by simp, HVL.out]; omega) (by rw [show [V].flatten = V by simp]; exact HVN.out) ((hT2.below hq).below (below1 _ _))
          rw [show [V].flatten = V by simp, ← HV1.out] at h9
          exact h9)
        have HVV := Lib.hid hVV
        have HBW : Hid (Below wg.heap.size wg wg) := Lib.hid (Below.refl _ _)
        have gbw : Boxed wg w1.heap.size 52 (.slice R N cr) := gb
        have gc := gbw.cell
        have hC : Below wg.heap.size wg wg.drew := (Below.refl _ _).drew
        clear hVV HV1 hVw HVN HVL HV576 HPK hz0 hr0 HGD HDD HDR HDL HWS hRd hT2 y0 y1 hbg
        have gz := gc
        clear hk1 hk2
        go_wp2_with fail
        rw [← hwg]
        clear hwg oR hb yz
        go_region_law (first
          | (go_simp; (with_reducible refine (HRP.out _ hC).mono ?_); rintro e wq ⟨Aq, cq, rfl, oq, hq⟩; have hC := hC.trans (hq.mono hC.size); have gbq : Boxed wq w1.heap.size 52 (.slice R N cr) := (hC.block _ gbw.lt).trans gbw; have gc := gbq.cell; have gcl : ∀ o : Obj, (wq.alloc o).cell? ⟨w1.heap.size, 0, none⟩ = some (.slice R N cr) := fun o => (gbq.alloc o).cell)
          | (go_simp; (with_reducible refine (HEL.out wq Aq cq (HBW.out.trans (hC.mono HBW.out.size)) oq.rd).mono ?_); rintro e wr ⟨A7, c7, rfl, o7, hb7⟩; have HOR := Lib.hid o7; have HBA := Lib.hid (HB2.out.trans ((HBW.out.trans (hC.mono HBW.out.size)).mono HB2.out.size)); have HBL := Lib.hid (HBA.out.trans ((below1 wq (.cells #[.slice Aq z0 cq] 22)).mono HBA.out.size)); have HBR := Lib.hid (HBL.out.trans (hb7.mono HBL.out.size)); clear o7 hb7))
        all_goals
          clear gc gcl HEL HRP
          go_wp2_with fail
          go_ret2
          rw [HVV.out]
          exact ⟨A7, c7, rfl, HOR.out.mono HBL.out.size, HBR.out⟩
set_option maxHeartbeats 3200000 in
theorem specGroupPower (L : Int) (A : Option Addr) (n c : Nat) (xs : List Int) (A1 : Option Addr) (m d : Nat) (us : List Int) (k : Int) (w : World) (h : Rd w A n xs) (hwf : Wf xs) (hL1 : -9223372036854775808 ≤ L) (hL2 : L ≤ 9223372036854775807) (hn : n ≤ maxLen) (h2 : Rd w A1 m us) (hwf2 : Wf us) (hm : m ≤ maxLen) (hk1 : -9223372036854775808 ≤ k) (hk2 : k ≤ 9223372036854775807) :
    Calls Tryd.prog 38 #[.agg #[.int .i64 L, .slice A n c], .slice A1 m d, .int .i64 k] w (LsPost w (gA [] (pkF k) L xs us).1.length (gA [] (pkF k) L xs us).1 (gA [] (pkF k) L xs us).2) := by
  have hn2 : n ≤ 9223372036854775807 := by unfold maxLen at hn; omega
  have hm2 : m ≤ 9223372036854775807 := by unfold maxLen at hm; omega
  have hn1 := h.1
  have hm1 := h2.1
  have HB := Lib.hid (below1 w (.cells #[.int .i64 L, .slice A n c] 27))
  have x0 := box_new 27 w L A n c
  have hh := h.below HB.out
  have hh2 := h2.below HB.out
  cases ha : alphB L xs
  · rw [show gA [] (pkF k) L xs us = _ from gA1_no ha]
    have HD := Lib.hid (gCode_no L xs us us ha)
    clear ha hn1
    go_enter Tryd.func38, Tryd.ntmps38
    go_wp2_with fail
    refine (l09Code_any L _ _ _ _ _ _ _ _ _ xs us us _ hh hn2 hh2 hm2 hh2 hm2).mono ?_
    rintro e w1 ⟨rfl, hb⟩
    rw [HD.out]
    go_wp2_with fail
    go_ret2
    exact LsPost.of_ans (ans_no 1 (HB.out.trans (hb.mono HB.out.size)))
  · cases hu : sgB L us
    · rw [show gA [] (pkF k) L xs us = _ from gA1_bad ha hu]
      have HD := Lib.hid (gCode_bad L xs us us ha (by rw [hu]; rfl))
      clear ha hu hn1
      go_enter Tryd.func38, Tryd.ntmps38
      go_wp2_with fail
      refine (l09Code_any L _ _ _ _ _ _ _ _ _ xs us us _ hh hn2 hh2 hm2 hh2 hm2).mono ?_
      rintro e w1 ⟨rfl, hb⟩
      rw [HD.out]
      go_wp2_with fail
      go_ret2
      exact LsPost.of_ans (ans_no 2 (HB.out.trans (hb.mono HB.out.size)))
    · have HD := Lib.hid (gCode_yes L xs us us ha (by rw [hu]; rfl))
      obtain ⟨rs, rfl, rfl, h8, hr, hrel, hl, hd, hxs⟩ := alphB_nats L xs n hn1 ha
      have HANS := Lib.hid (show gA [] (pkF k) (n : Int) (ints rs) us = _ from gA1_yes rs hxs ha hu)
      have HU := Lib.hid hu
      have HDEP := (depB_iff rs n hl hr).1 hd
      obtain ⟨ds, hds⟩ : ∃ ds, ds = dblR rs := ⟨_, rfl⟩
      obtain ⟨N, hN⟩ : ∃ N, N = 2 * n := ⟨_, rfl⟩
      have HDL : Hid (ds.length = N) := Lib.hid (by rw [hds, dbl_len, hl, hN])
      have HDR : Hid (∀ i, ds.getD i 0 < 2 ^ N) := Lib.hid (by rw [hds, hN, ← hl]; exact dbl_lt rs)
      have HGD : Hid (GD (RDep ds) N) := Lib.hid (by rw [hds, hN]; exact dbl_gd rs n hl hr HDEP)
      have hN16 : N ≤ 16 := by omega
      have hum : us.length ≤ 24 := sgB_len (by exact HU.out)
      have HWN : Hid (∀ x, x ∈ us.map inN → x < N) := Lib.hid (by rw [hN]; exact sgB_nats (by exact HU.out))
      have HWA : Hid (∀ s, s ∈ us → sgB1 8 s = true) := Lib.hid (fun s hs => sgB1_mono n s h8 (sgB_all (L := (n : Int)) (by exact HU.out) s hs))
      have HDB : Hid (∀ ww : World, Rd ww A n (ints rs) → Calls Tryd.prog 51 #[.agg #[.int .i64 (n : Int), .slice A n c]] ww (MakesG ww (N : Int) N (ints ds))) := Lib.hid (fun ww hw => by rw [hN, hds]; exact l09Double_any A n c rs ww hw h8 hl hr)
      have HIN : Hid (∀ ww : World, Rd ww A1 m us → Calls Tryd.prog 52 #[.slice A1 m d] ww (MakesE 2 ww m (ints (us.map inN)))) := Lib.hid (fun ww hw => l09In_any A1 m d us ww hw (by omega) HWA.out)
      obtain ⟨W, hW⟩ : ∃ W, W = us.map inN := ⟨_, rfl⟩
      have HWL : Hid (W.length = m) := Lib.hid (by rw [hW, List.length_map]; exact hm1)
      rw [← hW] at HWN HANS
      rw [← hW] at HIN
      rw [← hds] at HANS
      rw [HANS.out]
      have HNE := Lib.hid hN
      clear hds hW hN
      go_enter Tryd.func38, Tryd.ntmps38
      go_wp2_with fail
      refine (l09Code_any (n : Int) _ _ _ _ _ _ _ _ _ (ints rs) us us _ hh hn2 hh2 hm2 hh2 hm2).mono ?_
      rintro e w1 ⟨rfl, hb⟩
      rw [HD.out]
      have x1 := x0.next hb
      have y0 := x1.c0
      have y1 := x1.c1
      have HB1 := Lib.hid (HB.out.trans (hb.mono HB.out.size))
      have hrd := hh.below hb
      have hr2 := hh2.below hb
      clear hb hh hh2 h h2 x0 hr hd hrel hu ha
      clear HNE HANS
      by_cases hk9 : -24 ≤ k ∧ k ≤ 24
      rotate_left
      · have HVV := Lib.hid (pkF_out k ds W hk9)
        have HIQ := Lib.hid (in_false k (-24) 24 hk9)
        clear HDB HIN
        go_wp2_with (first | (go_at_call 57; (with_reducible refine (HIQ.out _).mono ?_); rintro e w9 ⟨rfl, rfl⟩) | fail)
        go_ret2
        rw [HVV.out]
        exact LsPost.of_ans (ans_no 2 HB1.out)
      have HIQ := Lib.hid (in_true k (-24) 24 hk9)
      by_cases hk6 : k < 0
      · obtain ⟨j, rfl⟩ : ∃ j : Nat, k = -(j : Int) := ⟨k.natAbs, by omega⟩
        have hj : j ≤ 24 := by omega
        have hj0 : 0 < j := by omega
        have HPK := Lib.hid (pkF_neg j ds W hj0 hj)
        have HBK : Hid (∀ (ww : World) (AI : Option Addr) (cI : Nat), Rd ww AI m (ints W) → Calls Tryd.prog 54 #[.slice AI m cI] ww (MakesE 2 ww m (ints (invW W)))) := Lib.hid (fun ww AI cI k1 => l09Back_any AI m cI W ww k1 (by omega) (fun x hx => by have := HWN.out x hx; omega))
        have HFN : Hid (∀ x, x ∈ invW W → x < N) := Lib.hid (invW_lt HGD.out HWN.out)
        have HFL : Hid ((invW W).length = m) := Lib.hid (by rw [invW_len, HWL.out])
        go_wp2_with (first | (go_at_call 57; (with_reducible refine (HIQ.out _).mono ?_); rintro e w9 ⟨rfl, rfl⟩) | fail)
        refine (HIN.out _ hr2).mono ?_
        rintro e w3 ⟨AI, cI, rfl, oI, hbI⟩
        have HB3 := Lib.hid (HBK.out w3 AI cI oI.rd)
        clear HBK
        go_wp2_with fail
        refine HB3.out.mono ?_
        rintro e w8 ⟨AF, cF, rfl, oF, hbF⟩
        have hfr := oF.rd
        have hb8 : Below w1.heap.size w1 w8 := hbI.trans (hbF.mono hbI.size)
        have HPW := Lib.hid (fun (ww : World) (hw : Below w8.heap.size w8 ww) => l07Power_any AF m cF j (invW W) ww (hfr.below hw) (by omega) hj)
        have HVN : Hid (∀ x, x ∈ repV j (invW W) → x < N) := Lib.hid (fun x hx => HFN.out x (repV_mem hx))
        have HVL : Hid ((repV j (invW W)).length = m * j) := Lib.hid (by rw [repV_len, HFL.out])
        have HV576 : Hid (m * j ≤ 576) := Lib.hid (Nat.le_trans (Nat.mul_le_mul (show m ≤ 24 by omega) hj) (by decide))
        have HV1 : Hid (pkF (-(j : Int)) ds W = eF ds (redW (RDep ds) (repV j (invW W)))) := HPK
        obtain ⟨V, hVw⟩ : ∃ V, V = repV j (invW W) := ⟨_, rfl⟩
        rw [← hVw] at HPW HVN HVL HV1
        obtain ⟨z0, hz0⟩ : ∃ z0, z0 = m * j := ⟨_, rfl⟩
        rw [← hz0] at HPW HVL HV576
        have HRD : Hid (∀ (ww : World) (AD AV : Option Addr) (cD cV : Nat), Rd ww AD N (ints ds) → Rd ww AV z0 (ints V) → Calls Tryd.prog 50 #[.agg #[.int .i64 (N : Int), .slice AD N cD], .slice AV z0 cV] ww (MakesE 2 ww (nfR ds (redW (RDep ds) V)).length (ints (nfR ds (redW (RDep ds) V))))) := Lib.hid (fun ww AD AV cD cV k1 k2 => l09Reduce_any AD AV N cD z0 cV ds V ww k1 hN16 HDL.out HDR.out HGD.out k2 (by have := HV576.out; omega) HVN.out)
        have HZE : Hid ((nfR ds (redW (RDep ds) V)).length = (redW (RDep ds) V).length) := Lib.hid (nfR_lenG ds _ N HDL.out HGD.out (redW_lt HVN.out))
        have HN48 : Hid (∀ x, x ∈ nfR ds (redW (RDep ds) V) → x < 48) := Lib.hid (fun x hx => by have := nfR_ltG ds _ x hx; have := HDL.out; omega)
        have HZ576 : Hid ((nfR ds (redW (RDep ds) V)).length ≤ 576) := Lib.hid (by rw [HZE.out]; exact Nat.le_trans (redW_len V) (by rw [HVL.out]; exact HV576.out))
        have HVY : Hid ((nfR ds (redW (RDep ds) V)).length ≤ 24 → pkF (-(j : Int)) ds W = ((nfR ds (redW (RDep ds) V)).map outI, 0)) := Lib.hid (fun h => by rw [HV1.out]; exact eF_yes ds _ (by rw [← HZE.out]; exact h))
        have HVLG : Hid (24 < (nfR ds (redW (RDep ds) V)).length → pkF (-(j : Int)) ds W = ([], 3)) := Lib.hid (fun h => by rw [HV1.out]; exact eF_long ds _ (by rw [← HZE.out]; exact h))
        obtain ⟨Z, hZ⟩ : ∃ Z, Z = nfR ds (redW (RDep ds) V) := ⟨_, rfl⟩
        rw [← hZ] at HN48 HRD HVY HVLG HZ576
        obtain ⟨Zo, hZo⟩ : ∃ Zo, Zo = Z.map outI := ⟨_, rfl⟩
        obtain ⟨zl, hzl⟩ : ∃ zl, zl = Z.length := ⟨_, rfl⟩
        have HZL : Hid (Zo.length = zl) := Lib.hid (by rw [hZo, hzl]; exact List.length_map ..)
        have HOT : Hid (∀ (ww : World) (AN : Option Addr) (cN : Nat), Rd ww AN zl (ints Z) → Calls Tryd.prog 49 #[.slice AN zl cN] ww (MakesE 2 ww zl Zo)) := Lib.hid (fun ww AN cN k1 => by rw [hZo]; exact l09Out_any AN zl cN Z ww k1 (by rw [hzl]; have := HZ576.out; omega) HN48.out)
        rw [← hZo] at HVY
        rw [← hzl] at HRD HVY HVLG HZ576
        have HDX := Lib.hid (HDB.out w8 (hrd.below hb8))
        have q0 := (x1.next hb8).c0
        have q1 := (x1.next hb8).c1
        have HBX := Lib.hid (HB1.out.trans (hb8.mono HB1.out.size))
        clear hZ hZo hzl HN48 HZE HV1 HVN HVL HV576 hz0 hVw HDB HIN HPK
        clear hk9 hk6 hk1 hk2 HIQ HB3 oI oF
        go_wp2_with fail
        refine HDX.out.mono ?_
        rintro e w4 ⟨AD, cD, rfl, oD, hbD⟩
        have HP4 := Lib.hid (HPW.out w4 hbD)
        have HB4 := Lib.hid (HBX.out.trans (hbD.mono HBX.out.size))
        go_wp2_with fail
        refine HP4.out.mono ?_
        rintro e w5 ⟨AP, cP, rfl, oP, hbP⟩
        have HR5 := Lib.hid (HRD.out w5 AD AP cD cP (oD.rd.below hbP) oP.rd)
        have HB5 := Lib.hid (HB4.out.trans (hbP.mono HB4.out.size))
        go_wp2_with fail
        refine HR5.out.mono ?_
        rintro e w6 ⟨AN, cN, rfl, oN, hbN⟩
        have HO6 := Lib.hid (HOT.out w6 AN cN oN.rd)
        have HB6 := Lib.hid (HB5.out.trans (hbN.mono HB5.out.size))
        have hz576 := HZ576.out
        clear HDX HP4 HR5 HOT HRD HPW oN oP oD hbN hbP hbD q0 q1
        by_cases hz24 : 24 < zl
        · have HVV := Lib.hid (HVLG.out hz24)
          clear HVY HVLG HO6
          go_wp2_with fail
          go_ret2
          rw [HVV.out]
          exact LsPost.of_ans (ans_no 3 HB6.out)
        · have HVV := Lib.hid (HVY.out (by omega))
          clear HVY HVLG
          go_wp2_with fail
          refine HO6.out.mono ?_
          rintro e w7 ⟨AO, cO, rfl, oO, hbO⟩
          go_wp2_with fail
          go_ret2
          rw [HVV.out]
          show LsPost w Zo.length Zo 0 _ _
          rw [HZL.out]
          exact ⟨AO, cO, rfl, oO.mono HB6.out.size, HB6.out.trans (hbO.mono HB6.out.size)⟩
      · obtain ⟨j, rfl⟩ : ∃ j : Nat, k = (j : Int) := ⟨k.toNat, by omega⟩
        have hj : j ≤ 24 := by omega
        have HPK := Lib.hid (pkF_pos j ds W hj)
        go_wp2_with (first | (go_at_call 57; (with_reducible refine (HIQ.out _).mono ?_); rintro e w9 ⟨rfl, rfl⟩) | fail)
        refine (HIN.out _ hr2).mono ?_
        rintro e w3 ⟨AI, cI, rfl, oI, hbI⟩
        have hfr := oI.rd
        have HPW := Lib.hid (fun (ww : World) (hw : Below w3.heap.size w3 ww) => l07Power_any AI m cI j W ww (hfr.below hw) (by omega) hj)
        have HVN : Hid (∀ x, x ∈ repV j W → x < N) := Lib.hid (fun x hx => HWN.out x (repV_mem hx))
        have HVL : Hid ((repV j W).length = m * j) := Lib.hid (by rw [repV_len, HWL.out])
        have HV576 : Hid (m * j ≤ 576) := Lib.hid (Nat.le_trans (Nat.mul_le_mul (show m ≤ 24 by omega) hj) (by decide))
        have HV1 : Hid (pkF (j : Int) ds W = eF ds (redW (RDep ds) (repV j W))) := HPK
        obtain ⟨V, hVw⟩ : ∃ V, V = repV j W := ⟨_, rfl⟩
        rw [← hVw] at HPW HVN HVL HV1
        obtain ⟨z0, hz0⟩ : ∃ z0, z0 = m * j := ⟨_, rfl⟩
        rw [← hz0] at HPW HVL HV576
        have HRD : Hid (∀ (ww : World) (AD AV : Option Addr) (cD cV : Nat), Rd ww AD N (ints ds) → Rd ww AV z0 (ints V) → Calls Tryd.prog 50 #[.agg #[.int .i64 (N : Int), .slice AD N cD], .slice AV z0 cV] ww (MakesE 2 ww (nfR ds (redW (RDep ds) V)).length (ints (nfR ds (redW (RDep ds) V))))) := Lib.hid (fun ww AD AV cD cV k1 k2 => l09Reduce_any AD AV N cD z0 cV ds V ww k1 hN16 HDL.out HDR.out HGD.out k2 (by have := HV576.out; omega) HVN.out)
        have HZE : Hid ((nfR ds (redW (RDep ds) V)).length = (redW (RDep ds) V).length) := Lib.hid (nfR_lenG ds _ N HDL.out HGD.out (redW_lt HVN.out))
        have HN48 : Hid (∀ x, x ∈ nfR ds (redW (RDep ds) V) → x < 48) := Lib.hid (fun x hx => by have := nfR_ltG ds _ x hx; have := HDL.out; omega)
        have HZ576 : Hid ((nfR ds (redW (RDep ds) V)).length ≤ 576) := Lib.hid (by rw [HZE.out]; exact Nat.le_trans (redW_len V) (by rw [HVL.out]; exact HV576.out))
        have HVY : Hid ((nfR ds (redW (RDep ds) V)).length ≤ 24 → pkF (j : Int) ds W = ((nfR ds (redW (RDep ds) V)).map outI, 0)) := Lib.hid (fun h => by rw [HV1.out]; exact eF_yes ds _ (by rw [← HZE.out]; exact h))
        have HVLG : Hid (24 < (nfR ds (redW (RDep ds) V)).length → pkF (j : Int) ds W = ([], 3)) := Lib.hid (fun h => by rw [HV1.out]; exact eF_long ds _ (by rw [← HZE.out]; exact h))
        obtain ⟨Z, hZ⟩ : ∃ Z, Z = nfR ds (redW (RDep ds) V) := ⟨_, rfl⟩
        rw [← hZ] at HN48 HRD HVY HVLG HZ576
        obtain ⟨Zo, hZo⟩ : ∃ Zo, Zo = Z.map outI := ⟨_, rfl⟩
        obtain ⟨zl, hzl⟩ : ∃ zl, zl = Z.length := ⟨_, rfl⟩
        have HZL : Hid (Zo.length = zl) := Lib.hid (by rw [hZo, hzl]; exact List.length_map ..)
        have HOT : Hid (∀ (ww : World) (AN : Option Addr) (cN : Nat), Rd ww AN zl (ints Z) → Calls Tryd.prog 49 #[.slice AN zl cN] ww (MakesE 2 ww zl Zo)) := Lib.hid (fun ww AN cN k1 => by rw [hZo]; exact l09Out_any AN zl cN Z ww k1 (by rw [hzl]; have := HZ576.out; omega) HN48.out)
        rw [← hZo] at HVY
        rw [← hzl] at HRD HVY HVLG HZ576
        have HDX := Lib.hid (HDB.out w3 (hrd.below hbI))
        have q0 := (x1.next hbI).c0
        have q1 := (x1.next hbI).c1
        have HBX := Lib.hid (HB1.out.trans (hbI.mono HB1.out.size))
        clear hZ hZo hzl HN48 HZE HV1 HVN HVL HV576 hz0 hVw HDB HIN HPK
        clear hk1 hk2 HIQ oI
        go_wp2_with fail
        refine HDX.out.mono ?_
        rintro e w4 ⟨AD, cD, rfl, oD, hbD⟩
        have HP4 := Lib.hid (HPW.out w4 hbD)
        have HB4 := Lib.hid (HBX.out.trans (hbD.mono HBX.out.size))
        go_wp2_with fail
        refine HP4.out.mono ?_
        rintro e w5 ⟨AP, cP, rfl, oP, hbP⟩
        have HR5 := Lib.hid (HRD.out w5 AD AP cD cP (oD.rd.below hbP) oP.rd)
        have HB5 := Lib.hid (HB4.out.trans (hbP.mono HB4.out.size))
        go_wp2_with fail
        refine HR5.out.mono ?_
        rintro e w6 ⟨AN, cN, rfl, oN, hbN⟩
        have HO6 := Lib.hid (HOT.out w6 AN cN oN.rd)
        have HB6 := Lib.hid (HB5.out.trans (hbN.mono HB5.out.size))
        have hz576 := HZ576.out
        clear HDX HP4 HR5 HOT HRD HPW oN oP oD hbN hbP hbD q0 q1
        by_cases hz24 : 24 < zl
        · have HVV := Lib.hid (HVLG.out hz24)
          clear HVY HVLG HO6
          go_wp2_with fail
          go_ret2
          rw [HVV.out]
          exact LsPost.of_ans (ans_no 3 HB6.out)
        · have HVV := Lib.hid (HVY.out (by omega))
          clear HVY HVLG
          go_wp2_with fail
          refine HO6.out.mono ?_
          rintro e w7 ⟨AO, cO, rfl, oO, hbO⟩
          go_wp2_with fail
          go_ret2
          rw [HVV.out]
          show LsPost w Zo.length Zo 0 _ _
          rw [HZL.out]
          exact ⟨AO, cO, rfl, oO.mono HB6.out.size, HB6.out.trans (hbO.mono HB6.out.size)⟩
end Go.Proofs.YtbleimcajpelhaaDoor
