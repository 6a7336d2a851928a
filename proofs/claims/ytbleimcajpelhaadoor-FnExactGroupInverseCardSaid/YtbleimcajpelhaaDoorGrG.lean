/-
  Graph groups: both sides of GroupInverse.
-/
import Derived.Test.YtbleimcajpelhaaDoorGrF
namespace Go.Proofs.YtbleimcajpelhaaDoor
open Go Go.RowKit
set_option linter.unusedVariables false
set_option linter.unusedSimpArgs false
set_option maxRecDepth 100000

set_option maxHeartbeats 3200000 in
theorem implGroupInverse (L : Int) (A : Option Addr) (n c : Nat) (xs : List Int) (A1 : Option Addr) (m d : Nat) (us : List Int) (w : World) (h : Rd w A n xs) (hwf : Wf xs) (hL1 : -9223372036854775808 ≤ L) (hL2 : L ≤ 9223372036854775807) (hn : n ≤ maxLen) (h2 : Rd w A1 m us) (hwf2 : Wf us) (hm : m ≤ maxLen) (hT : Tab w) :
    Calls Tryd.prog 33 #[.agg #[.int .i64 L, .slice A n c], .slice A1 m d] w (LsPost w (gA [] giF L xs us).1.length (gA [] giF L xs us).1 (gA [] giF L xs us).2) := by
  have hn2 : n ≤ 9223372036854775807 := by unfold maxLen at hn; omega
  have hn1 := h.1
  have hm1 := h2.1
  have x0 := box_new 27 w L A n c
  have HB := Lib.hid (below2 w (.cells #[.int .i64 L, .slice A n c] 27) (.cells #[.slice A1 m d] 22))
  have hh := h.below HB.out
  have ht := rdT_box w (.cells #[.int .i64 L, .slice A n c] 27) A1 m d us 22 h2 hm
  have hT1 := hT.below HB.out
  have x1 := x0.next (below1 (w.alloc (.cells #[.int .i64 L, .slice A n c] 27)) (.cells #[.slice A1 m d] 22))
  cases ha : alphB L xs
  · rw [show gA [] giF L xs us = _ from gA1_no ha]
    have HA := Lib.hid ha
    clear ha ht hn1
    go_enter Tryd.func33, Tryd.ntmps33
    go_wp2_with fail
    refine (signedIn_no L _ _ _ _ _ _ xs _ hh hwf hL1 hL2 hn2 HA.out hT1).mono ?_
    rintro e w1 ⟨rfl, hb⟩
    have gc := cell_new0 w1 (.slice none 0 0) 52
    have HBG := (HB.out.trans (hb.mono HB.out.size)).alloc (HB.out.trans (hb.mono HB.out.size)).size
    go_wp2_with fail
    go_ret2
    exact LsPost.of_ans (ans_no 1 (HBG _))
  · cases hu : sgB L us
    · rw [show gA [] giF L xs us = _ from gA1_bad ha hu]
      obtain ⟨rs, rfl, rfl, h8, hr, hrel, hl, hd, _⟩ := alphB_nats L xs n hn1 ha
      have HU := Lib.hid hu
      clear ha hu
      go_enter Tryd.func33, Tryd.ntmps33
      go_wp2_with fail
      refine (signedIn_any _ _ _ _ _ _ rs _ _ hh hwf h8 hl hr hrel hd ht (by omega) hT1).mono ?_
      rw [okG_one, HU.out]
      rintro e w1 (⟨hok, _⟩ | ⟨hok, rfl, hb⟩)
      · cases hok
      have gc := cell_new0 w1 (.slice none 0 0) 52
      have HBG := (HB.out.trans (hb.mono HB.out.size)).alloc (HB.out.trans (hb.mono HB.out.size)).size
      go_wp2_with fail
      go_ret2
      exact LsPost.of_ans (ans_no 2 (HBG _))
    · obtain ⟨rs, rfl, rfl, h8, hr, hrel, hl, hd, hxs⟩ := alphB_nats L xs n hn1 ha
      have HANS := Lib.hid (show gA [] giF (n : Int) (ints rs) us = _ from gA1_yes rs hxs ha hu)
      have HU := Lib.hid hu
      have HDEP := (depB_iff rs n hl hr).1 hd
      obtain ⟨ds, hds⟩ : ∃ ds, ds = dblR rs := ⟨_, rfl⟩
      obtain ⟨N, hN⟩ : ∃ N, N = 2 * n := ⟨_, rfl⟩
      have HDL : Hid (ds.length = N) := Lib.hid (by rw [hds, dbl_len, hl, hN])
      have HDR : Hid (∀ i, ds.getD i 0 < 2 ^ N) := Lib.hid (by rw [hds, hN, ← hl]; exact dbl_lt rs)
      have HGD : Hid (GD (RDep ds) N) := Lib.hid (by rw [hds, hN]; exact dbl_gd rs n hl hr HDEP)
      have HDD : Hid (Dep ds) := Lib.hid (by rw [hds]; exact dbl_is rs n hl hr HDEP)
      have hN16 : N ≤ 16 := by omega
      have hum : us.length ≤ 24 := sgB_len (by exact HU.out)
      have HWN : Hid (∀ x, x ∈ us.map inN → x < N) := Lib.hid (by rw [hN]; exact sgB_nats (by exact HU.out))
      have HWA : Hid (∀ s, s ∈ us → sgB1 8 s = true) := Lib.hid (fun s hs => sgB1_mono n s h8 (sgB_all (L := (n : Int)) (by exact HU.out) s hs))
      obtain ⟨W, hW⟩ : ∃ W, W = us.map inN := ⟨_, rfl⟩
      have HWL : Hid (W.length = m) := Lib.hid (by rw [hW, List.length_map]; exact hm1)
      rw [← hW] at HWN HANS
      rw [← hds] at HANS
      rw [HANS.out]
      have HDS := Lib.hid hds
      have HWE := Lib.hid hW
      have HNE := Lib.hid hN
      clear hds hW hN
      go_enter Tryd.func33, Tryd.ntmps33
      go_wp2_with fail
      refine (signedIn_any _ _ _ _ _ _ rs _ _ hh hwf h8 hl hr hrel hd ht (by omega) hT1).mono ?_
      rw [okG_one, HU.out]
      rintro e w1 (⟨hok, R, cr, AL, cl, rfl, oR, oS, hb⟩ | ⟨hok, _⟩)
      rotate_left
      · cases hok
      rw [← HDS.out, ← HNE.out] at oR
      rw [← HNE.out]
      obtain ⟨lo, hi, oS⟩ : ∃ lo hi, OwnSS w1 lo hi AL 1 cl [ints W] := ⟨_, _, by rw [HWE.out]; exact oS⟩
      have gb := Boxed.new w1 52 (.slice R N cr)
      have gc := gb.cell
      have hbg := below1 w1 (.cells #[.slice R N cr] 52)
      have HB1 := Lib.hid (HB.out.trans (hb.mono HB.out.size))
      have HB2 := Lib.hid (HB1.out.trans (hbg.mono HB1.out.size))
      have hRd := oR.rd.below hbg
      obtain ⟨ws, hws, HWS⟩ := rdSS_words (oS.rd (by intro z hz; obtain rfl := (by simpa using hz : z = _); rw [ints_len, HWL.out]; unfold maxLen; omega)) [W] rfl
      have hT2 := ((hT1.below hb).below hbg)
      have hRT := hws.below hbg
      have y0 := ((x1.next hb).next hbg).c0
      have y1 := ((x1.next hb).next hbg).c1
      clear hr hrel hd hu hws oS hh ht hT1 hT h h2 x0 x1
      obtain ⟨wg, hwg⟩ : ∃ wg, wg = w1.alloc (.cells #[.slice R N cr] 52) := ⟨_, rfl⟩
      rw [← hwg] at gb gc hbg HB2 hRd hT2 hRT y0 y1
      have hgl := gb.lt
      go_wp2_with fail
      rw [← hwg]
      clear hwg oR hb
      obtain ⟨bw, ow, B0, n0, c0, x0, eAL, hbl, ht0, hc0, hr0, hm0⟩ := hRT.at_ (show 0 < 1 by omega)
      have hx0 : x0 = ints W := HWS.out 0 _ ht0
      subst hx0
      have hn0 : n0 = m := by have := hr0.1; rw [ints_len, HWL.out] at this; exact this.symm
      subst hn0
      rw [Nat.add_zero] at hc0
      subst eAL
      have HINV : Hid (∀ ww : World, Below wg.heap.size wg ww → Calls Tryd.prog 56 #[.slice B0 n0 c0] ww (MakesE 2 ww n0 (ints (invW W)))) := Lib.hid (fun ww hw => inverseOf_any B0 n0 c0 W ww (hr0.below hw) (by omega) (fun x hx => by have := HWN.out x hx; omega))
      have HVN : Hid (∀ x, x ∈ invW W → x < N) := Lib.hid (invW_lt HGD.out HWN.out)
      have HVL : Hid ((invW W).length = n0) := Lib.hid (by rw [invW_len, HWL.out])
      have HVV0 : Hid (giF ds W = eF ds (redW (RDep ds) (invW W))) := Lib.hid rfl
      obtain ⟨V, hVw⟩ : ∃ V, V = invW W := ⟨_, rfl⟩
      rw [← hVw] at HINV HVN HVL HVV0
      obtain ⟨VX, VC, hVV⟩ : ∃ a b, giF ds W = (a, b) := ⟨_, _, rfl⟩
      rw [hVV] at HVV0
      have HEL : Hid (∀ (wq : World) (Aq : Option Addr) (cq : Nat), Below wg.heap.size wg wq → Rd wq Aq n0 (ints V) → Calls Tryd.prog 53 #[.agg #[.slice R N cr], .slice (some ⟨wq.heap.size, 0, none⟩) 1 1] (wq.alloc (.cells #[.slice Aq n0 cq] 22)) (LsPost (wq.alloc (.cells #[.slice Aq n0 cq] 22)) VX.length VX VC)) := Lib.hid (fun wq Aq cq hq ho => by
        have h9 := element_any R _ N cr 1 1 ds _ [V] (wq.alloc (.cells #[.slice Aq n0 cq] 22)) ((hRd.below hq).below (below1 _ _)) hN16 HDL.out HDR.out HGD.out HDD.out (rdT_one wq Aq n0 cq (ints V) 22 ho (by unfold maxLen; omega)) (by omega) rfl (fun k t hk => by
          match k, hk with
          | 0, hk => injection hk with hk; subst hk; rfl
          | k + 1, hk => simp at hk) (fun k => by
          match k with
          | 0 => show V.length ≤ 576; rw [HVL.out]; omega
          | k + 1 => simp) (by rw [show [V].flatten = V by simp, HVL.out]; omega) (by rw [show [V].flatten = V by simp]; exact HVN.out) ((hT2.below hq).below (below1 _ _))
        rw [show [V].flatten = V by simp, ← HVV0.out] at h9
        exact h9)
      have HVV := Lib.hid hVV
      have hC : Below wg.heap.size wg wg.drew := (Below.refl _ _).drew
      clear hVV HVV0 hVw HVN HVL hr0 hm0 ht0 HGD HDD HDR HDL hRT HWS hRd hT2 y0 y1 hbg
      go_wp2_with fail
      go_region_law (first
        | (go_simp; (with_reducible refine (HINV.out _ hC).mono ?_); rintro e wq ⟨Aq, cq, rfl, oq, hq⟩; have hC := hC.trans (hq.mono hC.size); have gbq : Boxed wq w1.heap.size 52 (.slice R N cr) := (hC.block _ gb.lt).trans gb; have gc := gbq.cell; have gcl : ∀ o : Obj, (wq.alloc o).cell? ⟨w1.heap.size, 0, none⟩ = some (.slice R N cr) := fun o => (gbq.alloc o).cell)
        | (go_simp; (with_reducible refine (HEL.out wq Aq cq hC oq.rd).mono ?_); rintro e wr ⟨A7, c7, rfl, o7, hb7⟩; have HOR := Lib.hid o7; have HBA := Lib.hid (HB2.out.trans (hC.mono HB2.out.size)); have HBL := Lib.hid (HBA.out.trans ((below1 wq (.cells #[.slice Aq n0 cq] 22)).mono HBA.out.size)); have HBR := Lib.hid (HBL.out.trans (hb7.mono HBL.out.size)); clear o7 hb7))
      all_goals
        clear gc gcl HEL HINV
        go_wp2_with fail
        go_ret2
        rw [HVV.out]
        exact ⟨A7, c7, rfl, HOR.out.mono HBL.out.size, HBR.out⟩
set_option maxHeartbeats 3200000 in
theorem specGroupInverse (L : Int) (A : Option Addr) (n c : Nat) (xs : List Int) (A1 : Option Addr) (m d : Nat) (us : List Int) (w : World) (h : Rd w A n xs) (hwf : Wf xs) (hL1 : -9223372036854775808 ≤ L) (hL2 : L ≤ 9223372036854775807) (hn : n ≤ maxLen) (h2 : Rd w A1 m us) (hwf2 : Wf us) (hm : m ≤ maxLen) :
    Calls Tryd.prog 32 #[.agg #[.int .i64 L, .slice A n c], .slice A1 m d] w (LsPost w (gA [] giF L xs us).1.length (gA [] giF L xs us).1 (gA [] giF L xs us).2) := by
  have hn2 : n ≤ 9223372036854775807 := by unfold maxLen at hn; omega
  have hm2 : m ≤ 9223372036854775807 := by unfold maxLen at hm; omega
  have hn1 := h.1
  have hm1 := h2.1
  have HB := Lib.hid (below1 w (.cells #[.int .i64 L, .slice A n c] 27))
  have x0 := box_new 27 w L A n c
  have hh := h.below HB.out
  have hh2 := h2.below HB.out
  cases ha : alphB L xs
  · rw [show gA [] giF L xs us = _ from gA1_no ha]
    have HD := Lib.hid (gCode_no L xs us us ha)
    clear ha hn1
    go_enter Tryd.func32, Tryd.ntmps32
    go_wp2_with fail
    refine (l09Code_any L _ _ _ _ _ _ _ _ _ xs us us _ hh hn2 hh2 hm2 hh2 hm2).mono ?_
    rintro e w1 ⟨rfl, hb⟩
    rw [HD.out]
    go_wp2_with fail
    go_ret2
    exact LsPost.of_ans (ans_no 1 (HB.out.trans (hb.mono HB.out.size)))
  · cases hu : sgB L us
    · rw [show gA [] giF L xs us = _ from gA1_bad ha hu]
      have HD := Lib.hid (gCode_bad L xs us us ha (by rw [hu]; rfl))
      clear ha hu hn1
      go_enter Tryd.func32, Tryd.ntmps32
      go_wp2_with fail
      refine (l09Code_any L _ _ _ _ _ _ _ _ _ xs us us _ hh hn2 hh2 hm2 hh2 hm2).mono ?_
      rintro e w1 ⟨rfl, hb⟩
      rw [HD.out]
      go_wp2_with fail
      go_ret2
      exact LsPost.of_ans (ans_no 2 (HB.out.trans (hb.mono HB.out.size)))
    · have HD := Lib.hid (gCode_yes L xs us us ha (by rw [hu]; rfl))
      obtain ⟨rs, rfl, rfl, h8, hr, hrel, hl, hd, hxs⟩ := alphB_nats L xs n hn1 ha
      have HANS := Lib.hid (show gA [] giF (n : Int) (ints rs) us = _ from gA1_yes rs hxs ha hu)
      have HU := Lib.hid hu
      have HDEP := (depB_iff rs n hl hr).1 hd
      obtain ⟨ds, hds⟩ : ∃ ds, ds = dblR rs := ⟨_, rfl⟩
      obtain ⟨N, hN⟩ : ∃ N, N = 2 * n := ⟨_, rfl⟩
      have HDL : Hid (ds.length = N) := Lib.hid (by rw [hds, dbl_len, hl, hN])
      have HDR : Hid (∀ i, ds.getD i 0 < 2 ^ N) := Lib.hid (by rw [hds, hN, ← hl]; exact dbl_lt rs)
      have HGD : Hid (GD (RDep ds) N) := Lib.hid (by rw [hds, hN]; exact dbl_gd rs n hl hr HDEP)
      have hN16 : N ≤ 16 := by omega
      have hum : us.length ≤ 24 := sgB_len (by exact HU.out)
      have HWN : Hid (∀ x, x ∈ us.map inN → x < N) := Lib.hid (by rw [hN]; exact sgB_nats (by exact HU.out))
      have HWA : Hid (∀ s, s ∈ us → sgB1 8 s = true) := Lib.hid (fun s hs => sgB1_mono n s h8 (sgB_all (L := (n : Int)) (by exact HU.out) s hs))
      have HDB : Hid (∀ ww : World, Rd ww A n (ints rs) → Calls Tryd.prog 51 #[.agg #[.int .i64 (n : Int), .slice A n c]] ww (MakesG ww (N : Int) N (ints ds))) := Lib.hid (fun ww hw => by rw [hN, hds]; exact l09Double_any A n c rs ww hw h8 hl hr)
      have HIN : Hid (∀ ww : World, Rd ww A1 m us → Calls Tryd.prog 52 #[.slice A1 m d] ww (MakesE 2 ww m (ints (us.map inN)))) := Lib.hid (fun ww hw => l09In_any A1 m d us ww hw (by omega) HWA.out)
      obtain ⟨W, hW⟩ : ∃ W, W = us.map inN := ⟨_, rfl⟩
      have HWL : Hid (W.length = m) := Lib.hid (by rw [hW, List.length_map]; exact hm1)
      rw [← hW] at HWN HANS
      rw [← hW] at HIN
      rw [← hds] at HANS
      rw [HANS.out]
      clear hds hW hN
      go_enter Tryd.func32, Tryd.ntmps32
      go_wp2_with fail
      refine (l09Code_any (n : Int) _ _ _ _ _ _ _ _ _ (ints rs) us us _ hh hn2 hh2 hm2 hh2 hm2).mono ?_
      rintro e w1 ⟨rfl, hb⟩
      rw [HD.out]
      have x1 := x0.next hb
      have y0 := x1.c0
      have y1 := x1.c1
      have HB1 := Lib.hid (HB.out.trans (hb.mono HB.out.size))
      have hrd := hh.below hb
      have hr2 := hh2.below hb
      clear hb hh hh2 h h2 x0 hr hd hrel hu ha
      have HVN : Hid (∀ x, x ∈ invW W → x < N) := Lib.hid (invW_lt HGD.out HWN.out)
      have HVL : Hid ((invW W).length = m) := Lib.hid (by rw [invW_len, HWL.out])
      have HBK : Hid (∀ (ww : World) (AI : Option Addr) (cI : Nat), Rd ww AI m (ints W) → Calls Tryd.prog 54 #[.slice AI m cI] ww (MakesE 2 ww m (ints (invW W)))) := Lib.hid (fun ww AI cI k1 => l09Back_any AI m cI W ww k1 (by omega) (fun x hx => by have := HWN.out x hx; omega))
      have HVV0 : Hid (giF ds W = eF ds (redW (RDep ds) (invW W))) := Lib.hid rfl
      obtain ⟨V, hVw⟩ : ∃ V, V = invW W := ⟨_, rfl⟩
      rw [← hVw] at HVN HVL HBK HVV0
      have HVV : Hid (giF ds W = ((nfR ds (redW (RDep ds) V)).map outI, 0)) := Lib.hid (by rw [HVV0.out]; exact eF_yes ds _ (Nat.le_trans (redW_len _) (by rw [HVL.out]; omega)))
      have HNL : Hid ((nfR ds (redW (RDep ds) V)).length ≤ 24) := Lib.hid (Nat.le_trans (nfR_len ds _) (Nat.le_trans (redW_len _) (by rw [HVL.out]; omega)))
      have HN48 : Hid (∀ x, x ∈ nfR ds (redW (RDep ds) V) → x < 48) := Lib.hid (fun x hx => by have := nfR_ltG ds _ x hx; have := HDL.out; omega)
      have HRD : Hid (∀ (ww : World) (AD AI : Option Addr) (cD cI : Nat), Rd ww AD N (ints ds) → Rd ww AI m (ints V) → Calls Tryd.prog 50 #[.agg #[.int .i64 (N : Int), .slice AD N cD], .slice AI m cI] ww (MakesE 2 ww (nfR ds (redW (RDep ds) V)).length (ints (nfR ds (redW (RDep ds) V))))) := Lib.hid (fun ww AD AI cD cI k1 k2 => l09Reduce_any AD AI N cD m cI ds V ww k1 hN16 HDL.out HDR.out HGD.out k2 (by omega) HVN.out)
      obtain ⟨Z, hZ⟩ : ∃ Z, Z = nfR ds (redW (RDep ds) V) := ⟨_, rfl⟩
      rw [← hZ] at HNL HN48 HRD HVV
      obtain ⟨Zo, hZo⟩ : ∃ Zo, Zo = Z.map outI := ⟨_, rfl⟩
      obtain ⟨zl, hzl⟩ : ∃ zl, zl = Z.length := ⟨_, rfl⟩
      have HZL : Hid (Zo.length = zl) := Lib.hid (by rw [hZo, hzl]; exact List.length_map ..)
      have HOT : Hid (∀ (ww : World) (AN : Option Addr) (cN : Nat), Rd ww AN zl (ints Z) → Calls Tryd.prog 49 #[.slice AN zl cN] ww (MakesE 2 ww zl Zo)) := Lib.hid (fun ww AN cN k1 => by rw [hZo]; exact l09Out_any AN zl cN Z ww k1 (by rw [hzl]; have := HNL.out; omega) HN48.out)
      rw [← hZo] at HVV
      rw [← hzl] at HRD
      clear hZ hZo hzl HNL HN48 hVw HVV0
      have HDO := Lib.hid (HDB.out w1 hrd)
      clear HDB
      go_wp2_with fail
      refine HDO.out.mono ?_
      rintro e w2 ⟨AD, cD, rfl, oD, hbD⟩
      have HI2 := Lib.hid (HIN.out w2 (hr2.below hbD))
      have HBD := Lib.hid (HB1.out.trans (hbD.mono HB1.out.size))
      go_wp2_with fail
      refine HI2.out.mono ?_
      rintro e w3 ⟨AI, cI, rfl, oI, hbI⟩
      have HB3 := Lib.hid (HBD.out.trans (hbI.mono HBD.out.size))
      have hD3 := oD.rd.below hbI
      have HK3 := Lib.hid (HBK.out w3 AI cI oI.rd)
      go_wp2_with fail
      refine HK3.out.mono ?_
      rintro e w4 ⟨AK, cK, rfl, oK, hbK⟩
      have HB4 := Lib.hid (HB3.out.trans (hbK.mono HB3.out.size))
      have HR3 := Lib.hid (HRD.out w4 AD AK cD cK (hD3.below hbK) oK.rd)
      go_wp2_with fail
      refine HR3.out.mono ?_
      rintro e w5 ⟨AN, cN, rfl, oN, hbN⟩
      have HB5 := Lib.hid (HB4.out.trans (hbN.mono HB4.out.size))
      have HO4 := Lib.hid (HOT.out w5 AN cN oN.rd)
      go_wp2_with fail
      refine HO4.out.mono ?_
      rintro e w6 ⟨AO, cO, rfl, oO, hbO⟩
      go_wp2_with fail
      go_ret2
      rw [HVV.out]
      show LsPost w Zo.length Zo 0 _ _
      rw [HZL.out]
      exact ⟨AO, cO, rfl, oO.mono HB5.out.size, HB5.out.trans (hbO.mono HB5.out.size)⟩
end Go.Proofs.YtbleimcajpelhaaDoor
