/-
  Graph groups: the model's side of GroupProduct, both sides of AreGroupEqual and IsSignedWord.
-/
import Derived.Test.YtbleimcajpelhaaDoorGrF
namespace Go.Proofs.YtbleimcajpelhaaDoor
open Go Go.RowKit
set_option linter.unusedVariables false
set_option linter.unusedSimpArgs false
set_option maxRecDepth 100000

set_option maxHeartbeats 3200000 in
theorem specGroupProduct (L : Int) (A : Option Addr) (n c : Nat) (xs : List Int) (A1 : Option Addr) (m d : Nat) (us : List Int) (B1 : Option Addr) (q f : Nat) (ts : List Int) (w : World) (h : Rd w A n xs) (hwf : Wf xs) (hL1 : -9223372036854775808 ≤ L) (hL2 : L ≤ 9223372036854775807) (hn : n ≤ maxLen) (h2 : Rd w A1 m us) (hwf2 : Wf us) (hm : m ≤ maxLen) (h3 : Rd w B1 q ts) (hwf3 : Wf ts) (hq : q ≤ maxLen) :
    Calls Tryd.prog 30 #[.agg #[.int .i64 L, .slice A n c], .slice A1 m d, .slice B1 q f] w (LsPost w (gA2 [] gpF L xs us ts).1.length (gA2 [] gpF L xs us ts).1 (gA2 [] gpF L xs us ts).2) := by
  have hn2 : n ≤ 9223372036854775807 := by unfold maxLen at hn; omega
  have hm2 : m ≤ 9223372036854775807 := by unfold maxLen at hm; omega
  have hq2 : q ≤ 9223372036854775807 := by unfold maxLen at hq; omega
  have hn1 := h.1
  have hm1 := h2.1
  have hq1 := h3.1
  have HB := Lib.hid (below1 w (.cells #[.int .i64 L, .slice A n c] 27))
  have x0 := box_new 27 w L A n c
  have hh := h.below HB.out
  have hh2 := h2.below HB.out
  have hh3 := h3.below HB.out
  cases ha : alphB L xs
  · rw [show gA2 [] gpF L xs us ts = _ from gA2_no ha]
    have HD := Lib.hid (gCode_no L xs us ts ha)
    clear ha hn1
    go_enter Tryd.func30, Tryd.ntmps30
    go_wp2_with fail
    refine (l09Code_any L _ _ _ _ _ _ _ _ _ xs us ts _ hh hn2 hh2 hm2 hh3 hq2).mono ?_
    rintro e w1 ⟨rfl, hb⟩
    rw [HD.out]
    go_wp2_with fail
    go_ret2
    exact LsPost.of_ans (ans_no 1 (HB.out.trans (hb.mono HB.out.size)))
  · cases hu : (sgB L us && sgB L ts)
    · rw [show gA2 [] gpF L xs us ts = _ from gA2_bad ha hu]
      have HD := Lib.hid (gCode_bad L xs us ts ha hu)
      clear ha hu hn1
      go_enter Tryd.func30, Tryd.ntmps30
      go_wp2_with fail
      refine (l09Code_any L _ _ _ _ _ _ _ _ _ xs us ts _ hh hn2 hh2 hm2 hh3 hq2).mono ?_
      rintro e w1 ⟨rfl, hb⟩
      rw [HD.out]
      go_wp2_with fail
      go_ret2
      exact LsPost.of_ans (ans_no 2 (HB.out.trans (hb.mono HB.out.size)))
    · have HD := Lib.hid (gCode_yes L xs us ts ha hu)
      obtain ⟨rs, rfl, rfl, h8, hr, hrel, hl, hd, hxs⟩ := alphB_nats L xs n hn1 ha
      have HANS := Lib.hid (show gA2 [] gpF (n : Int) (ints rs) us ts = _ from gA2_yes rs hxs ha hu)
      have HU := Lib.hid hu
      have HDEP := (depB_iff rs n hl hr).1 hd
      obtain ⟨ds, hds⟩ : ∃ ds, ds = dblR rs := ⟨_, rfl⟩
      obtain ⟨N, hN⟩ : ∃ N, N = 2 * n := ⟨_, rfl⟩
      have HDL : Hid (ds.length = N) := Lib.hid (by rw [hds, dbl_len, hl, hN])
      have HDR : Hid (∀ i, ds.getD i 0 < 2 ^ N) := Lib.hid (by rw [hds, hN, ← hl]; exact dbl_lt rs)
      have HGD : Hid (GD (RDep ds) N) := Lib.hid (by rw [hds, hN]; exact dbl_gd rs n hl hr HDEP)
      have hN16 : N ≤ 16 := by omega
      have hum : us.length ≤ 24 := sgB_len (by have := HU.out; rw [Bool.and_eq_true] at this; exact this.1)
      have HWN : Hid (∀ x, x ∈ us.map inN → x < N) := Lib.hid (by rw [hN]; exact sgB_nats (by have := HU.out; rw [Bool.and_eq_true] at this; exact this.1))
      have HWA : Hid (∀ s, s ∈ us → sgB1 8 s = true) := Lib.hid (fun s hs => sgB1_mono n s h8 (sgB_all (L := (n : Int)) (by have := HU.out; rw [Bool.and_eq_true] at this; exact this.1) s hs))
      have htm : ts.length ≤ 24 := sgB_len (by have := HU.out; rw [Bool.and_eq_true] at this; exact this.2)
      have HVN : Hid (∀ x, x ∈ ts.map inN → x < N) := Lib.hid (by rw [hN]; exact sgB_nats (by have := HU.out; rw [Bool.and_eq_true] at this; exact this.2))
      have HVA : Hid (∀ s, s ∈ ts → sgB1 8 s = true) := Lib.hid (fun s hs => sgB1_mono n s h8 (sgB_all (L := (n : Int)) (by have := HU.out; rw [Bool.and_eq_true] at this; exact this.2) s hs))
      have HDB : Hid (∀ ww : World, Rd ww A n (ints rs) → Calls Tryd.prog 51 #[.agg #[.int .i64 (n : Int), .slice A n c]] ww (MakesG ww (N : Int) N (ints ds))) := Lib.hid (fun ww hw => by rw [hN, hds]; exact l09Double_any A n c rs ww hw h8 hl hr)
      have HIN : Hid (∀ ww : World, Rd ww A1 m us → Calls Tryd.prog 52 #[.slice A1 m d] ww (MakesE 2 ww m (ints (us.map inN)))) := Lib.hid (fun ww hw => l09In_any A1 m d us ww hw (by omega) HWA.out)
      have HIN2 : Hid (∀ ww : World, Rd ww B1 q ts → Calls Tryd.prog 52 #[.slice B1 q f] ww (MakesE 2 ww q (ints (ts.map inN)))) := Lib.hid (fun ww hw => l09In_any B1 q f ts ww hw (by omega) HVA.out)
      obtain ⟨W, hW⟩ : ∃ W, W = us.map inN := ⟨_, rfl⟩
      have HWL : Hid (W.length = m) := Lib.hid (by rw [hW, List.length_map]; exact hm1)
      rw [← hW] at HWN HANS
      obtain ⟨V, hV⟩ : ∃ V, V = ts.map inN := ⟨_, rfl⟩
      have HVL : Hid (V.length = q) := Lib.hid (by rw [hV, List.length_map]; exact hq1)
      rw [← hV] at HVN HANS
      rw [← hW] at HIN
      rw [← hV] at HIN2
      rw [← hds] at HANS
      rw [HANS.out]
      clear hds hW hN hV
      go_enter Tryd.func30, Tryd.ntmps30
      go_wp2_with fail
      refine (l09Code_any (n : Int) _ _ _ _ _ _ _ _ _ (ints rs) us ts _ hh hn2 hh2 hm2 hh3 hq2).mono ?_
      rintro e w1 ⟨rfl, hb⟩
      rw [HD.out]
      have x1 := x0.next hb
      have y0 := x1.c0
      have y1 := x1.c1
      have HB1 := Lib.hid (HB.out.trans (hb.mono HB.out.size))
      have hrd := hh.below hb
      have hr2 := hh2.below hb
      have hr3 := hh3.below hb
      clear hb hh hh2 h h2 x0 hr hd hrel hu ha
      have HXN : Hid (∀ x, x ∈ W ++ V → x < N) := Lib.hid (fun x hx => by rcases List.mem_append.1 hx with h1 | h1; exact HWN.out x h1; exact HVN.out x h1)
      have HXI : Hid (ints W ++ ints V = ints (W ++ V)) := Lib.hid (ints_appC W V).symm
      have HXL : Hid ((W ++ V).length = m + q) := Lib.hid (by rw [List.length_append, HWL.out, HVL.out])
      have HVV0 : Hid (gpF ds W V = eF ds (redW (RDep ds) (W ++ V))) := Lib.hid rfl
      obtain ⟨X, hX⟩ : ∃ X, X = W ++ V := ⟨_, rfl⟩
      rw [← hX] at HXN HXI HXL HVV0
      have HRN : Hid (∀ x, x ∈ redW (RDep ds) X → x < N) := Lib.hid (redW_lt HXN.out)
      have HNE : Hid ((nfR ds (redW (RDep ds) X)).length = (redW (RDep ds) X).length) := Lib.hid (nfR_lenG ds _ N HDL.out HGD.out HRN.out)
      have HN48 : Hid (∀ x, x ∈ nfR ds (redW (RDep ds) X) → x < 48) := Lib.hid (fun x hx => by have := nfR_ltG ds _ x hx; have := HDL.out; omega)
      have HNL : Hid ((nfR ds (redW (RDep ds) X)).length ≤ 48) := Lib.hid (by rw [HNE.out]; exact Nat.le_trans (redW_len _) (by rw [HXL.out]; omega))
      have HRD : Hid (∀ (ww : World) (AD AI : Option Addr) (cD cI : Nat), Rd ww AD N (ints ds) → Rd ww AI (m + q) (ints X) → Calls Tryd.prog 50 #[.agg #[.int .i64 (N : Int), .slice AD N cD], .slice AI (m + q) cI] ww (MakesE 2 ww (nfR ds (redW (RDep ds) X)).length (ints (nfR ds (redW (RDep ds) X))))) := Lib.hid (fun ww AD AI cD cI k1 k2 => l09Reduce_any AD AI N cD (m + q) cI ds X ww k1 hN16 HDL.out HDR.out HGD.out k2 (by omega) HXN.out)
      obtain ⟨rl, hrl⟩ : ∃ rl, rl = redW (RDep ds) X := ⟨_, rfl⟩
      rw [← hrl] at HNE HN48 HNL HRD HVV0
      have HVY : Hid (rl.length ≤ 24 → gpF ds W V = ((nfR ds rl).map outI, 0)) := Lib.hid (fun h => by rw [HVV0.out]; exact eF_yes ds rl h)
      have HVN2 : Hid (24 < rl.length → gpF ds W V = ([], 3)) := Lib.hid (fun h => by rw [HVV0.out]; exact eF_long ds rl h)
      obtain ⟨Z, hZ⟩ : ∃ Z, Z = nfR ds rl := ⟨_, rfl⟩
      rw [← hZ] at HNL HN48 HRD HVY HNE
      obtain ⟨Zo, hZo⟩ : ∃ Zo, Zo = Z.map outI := ⟨_, rfl⟩
      obtain ⟨zl, hzl⟩ : ∃ zl, zl = Z.length := ⟨_, rfl⟩
      have HZL : Hid (Zo.length = zl) := Lib.hid (by rw [hZo, hzl]; exact List.length_map ..)
      have HOT : Hid (∀ (ww : World) (AN : Option Addr) (cN : Nat), Rd ww AN zl (ints Z) → Calls Tryd.prog 49 #[.slice AN zl cN] ww (MakesE 2 ww zl Zo)) := Lib.hid (fun ww AN cN k1 => by rw [hZo]; exact l09Out_any AN zl cN Z ww k1 (by rw [hzl]; have := HNL.out; omega) HN48.out)
      rw [← hZo] at HVY
      rw [← hzl] at HRD HNE
      have HVY : Hid (zl ≤ 24 → gpF ds W V = (Zo, 0)) := Lib.hid (fun h => HVY.out (by rw [← HNE.out]; exact h))
      have HVN2 : Hid (24 < zl → gpF ds W V = ([], 3)) := Lib.hid (fun h => HVN2.out (by rw [← HNE.out]; exact h))
      clear hZ hZo hzl HNL HN48 hrl hX HVV0 HNE HRN HXN
      have HDO := Lib.hid (HDB.out w1 hrd)
      clear HDB
      go_wp2_with fail
      refine HDO.out.mono ?_
      rintro e w2 ⟨AD, cD, rfl, oD, hbD⟩
      have HI2 := Lib.hid (HIN.out w2 (hr2.below hbD))
      have HBD := Lib.hid (HB1.out.trans (hbD.mono HB1.out.size))
      go_wp2_with fail
      refine HI2.out.mono ?_
      rintro e w3 ⟨AI, cI, rfl, oI, hbI⟩
      have HB3 := Lib.hid (HBD.out.trans (hbI.mono HBD.out.size))
      have hD3 := oD.rd.below hbI
      have HI4 := Lib.hid (HIN2.out w3 ((hr3.below hbD).below hbI))
      go_wp2_with fail
      refine HI4.out.mono ?_
      rintro e w4 ⟨AV, cV, rfl, oV, hbV⟩
      have HB4 := Lib.hid (HB3.out.trans (hbV.mono HB3.out.size))
      have oI4 := oI.below hbV
      have oD4 := (oD.below hbI).below hbV
      have hb24 : w2.heap.size ≤ w4.heap.size := Nat.le_trans hbI.size hbV.size
      have hml9 : m + q ≤ maxLen := by unfold maxLen; omega
      have hby9 : (m + q) * 8 ≤ 140737488355328 := by omega
      go_wp2_with (at_builtin; refine wpList_append_rdI rfl _ _ rfl w2.heap.size AI m cI (ints W) rfl oI4 AV q cV (ints V) rfl oV.rd hml9 hby9 hb24 ?_; intro A5 c5 w5 o5 hg5; rw [HXI.out] at o5)
      have oD5 := oD4.apart hg5 (fun k hk e => by have := (oD.lt k hk).2; have := (oI.lt _ (ownBlock_map' e)).1; omega)
      have HB5 := Lib.hid (HB4.out.grown hg5 HB4.out.size (fun r hr => by have := (oI.lt _ (ownBlock_map' hr)).1; have := HBD.out.size; omega))
      have HR5 := Lib.hid (HRD.out w5 AD A5 cD c5 oD5.rd o5.rd)
      clear o5 oD5 hg5 oI4 oD4
      go_wp2_with fail
      refine HR5.out.mono ?_
      rintro e w6 ⟨AN, cN, rfl, oN, hbN⟩
      have HB6 := Lib.hid (HB5.out.trans (hbN.mono HB5.out.size))
      by_cases hz : 24 < zl
      · have HVZ := Lib.hid (HVN2.out hz)
        have hI : (24 : Int) < (zl : Int) := by omega
        go_wp2_with fail
        go_ret2
        rw [HVZ.out]
        exact LsPost.of_ans (ans_no 3 HB6.out)
      · have HVZ := Lib.hid (HVY.out (by omega))
        have hI : (zl : Int) ≤ 24 := by omega
        have HO4 := Lib.hid (HOT.out w6 AN cN oN.rd)
        go_wp2_with fail
        refine HO4.out.mono ?_
        rintro e w7 ⟨AO, cO, rfl, oO, hbO⟩
        go_wp2_with fail
        go_ret2
        rw [HVZ.out]
        show LsPost w Zo.length Zo 0 _ _
        rw [HZL.out]
        exact ⟨AO, cO, rfl, oO.mono HB6.out.size, HB6.out.trans (hbO.mono HB6.out.size)⟩
set_option maxHeartbeats 3200000 in
theorem specAreGroupEqual (L : Int) (A : Option Addr) (n c : Nat) (xs : List Int) (A1 : Option Addr) (m d : Nat) (us : List Int) (B1 : Option Addr) (q f : Nat) (ts : List Int) (w : World) (h : Rd w A n xs) (hwf : Wf xs) (hL1 : -9223372036854775808 ≤ L) (hL2 : L ≤ 9223372036854775807) (hn : n ≤ maxLen) (h2 : Rd w A1 m us) (hwf2 : Wf us) (hm : m ≤ maxLen) (h3 : Rd w B1 q ts) (hwf3 : Wf ts) (hq : q ≤ maxLen) :
    Calls Tryd.prog 28 #[.agg #[.int .i64 L, .slice A n c], .slice A1 m d, .slice B1 q f] w (fun e w' => e = .returned (.tuple #[.bool (gA2 false geF L xs us ts).1, .int .i64 (gA2 false geF L xs us ts).2]) ∧ Below w.heap.size w w') := by
  have hn2 : n ≤ 9223372036854775807 := by unfold maxLen at hn; omega
  have hm2 : m ≤ 9223372036854775807 := by unfold maxLen at hm; omega
  have hq2 : q ≤ 9223372036854775807 := by unfold maxLen at hq; omega
  have hn1 := h.1
  have hm1 := h2.1
  have hq1 := h3.1
  have HB := Lib.hid (below1 w (.cells #[.int .i64 L, .slice A n c] 27))
  have x0 := box_new 27 w L A n c
  have hh := h.below HB.out
  have hh2 := h2.below HB.out
  have hh3 := h3.below HB.out
  cases ha : alphB L xs
  · rw [show gA2 false geF L xs us ts = _ from gA2_no ha]
    have HD := Lib.hid (gCode_no L xs us ts ha)
    clear ha hn1
    go_enter Tryd.func28, Tryd.ntmps28
    go_wp2_with fail
    refine (l09Code_any L _ _ _ _ _ _ _ _ _ xs us ts _ hh hn2 hh2 hm2 hh3 hq2).mono ?_
    rintro e w1 ⟨rfl, hb⟩
    rw [HD.out]
    go_wp2_with fail
    go_ret2
    exact ⟨rfl, HB.out.trans (hb.mono HB.out.size)⟩
  · cases hu : (sgB L us && sgB L ts)
    · rw [show gA2 false geF L xs us ts = _ from gA2_bad ha hu]
      have HD := Lib.hid (gCode_bad L xs us ts ha hu)
      clear ha hu hn1
      go_enter Tryd.func28, Tryd.ntmps28
      go_wp2_with fail
      refine (l09Code_any L _ _ _ _ _ _ _ _ _ xs us ts _ hh hn2 hh2 hm2 hh3 hq2).mono ?_
      rintro e w1 ⟨rfl, hb⟩
      rw [HD.out]
      go_wp2_with fail
      go_ret2
      exact ⟨rfl, HB.out.trans (hb.mono HB.out.size)⟩
    · have HD := Lib.hid (gCode_yes L xs us ts ha hu)
      obtain ⟨rs, rfl, rfl, h8, hr, hrel, hl, hd, hxs⟩ := alphB_nats L xs n hn1 ha
      have HANS := Lib.hid (show gA2 false geF (n : Int) (ints rs) us ts = _ from gA2_yes rs hxs ha hu)
      have HU := Lib.hid hu
      have HDEP := (depB_iff rs n hl hr).1 hd
      obtain ⟨ds, hds⟩ : ∃ ds, ds = dblR rs := ⟨_, rfl⟩
      obtain ⟨N, hN⟩ : ∃ N, N = 2 * n := ⟨_, rfl⟩
      have HDL : Hid (ds.length = N) := Lib.hid (by rw [hds, dbl_len, hl, hN])
      have HDR : Hid (∀ i, ds.getD i 0 < 2 ^ N) := Lib.hid (by rw [hds, hN, ← hl]; exact dbl_lt rs)
      have HGD : Hid (GD (RDep ds) N) := Lib.hid (by rw [hds, hN]; exact dbl_gd rs n hl hr HDEP)
      have hN16 : N ≤ 16 := by omega
      have hum : us.length ≤ 24 := sgB_len (by have := HU.out; rw [Bool.and_eq_true] at this; exact this.1)
      have HWN : Hid (∀ x, x ∈ us.map inN → x < N) := Lib.hid (by rw [hN]; exact sgB_nats (by have := HU.out; rw [Bool.and_eq_true] at this; exact this.1))
      have HWA : Hid (∀ s, s ∈ us → sgB1 8 s = true) := Lib.hid (fun s hs => sgB1_mono n s h8 (sgB_all (L := (n : Int)) (by have := HU.out; rw [Bool.and_eq_true] at this; exact this.1) s hs))
      have htm : ts.length ≤ 24 := sgB_len (by have := HU.out; rw [Bool.and_eq_true] at this; exact this.2)
      have HVN : Hid (∀ x, x ∈ ts.map inN → x < N) := Lib.hid (by rw [hN]; exact sgB_nats (by have := HU.out; rw [Bool.and_eq_true] at this; exact this.2))
      have HVA : Hid (∀ s, s ∈ ts → sgB1 8 s = true) := Lib.hid (fun s hs => sgB1_mono n s h8 (sgB_all (L := (n : Int)) (by have := HU.out; rw [Bool.and_eq_true] at this; exact this.2) s hs))
      have HDB : Hid (∀ ww : World, Rd ww A n (ints rs) → Calls Tryd.prog 51 #[.agg #[.int .i64 (n : Int), .slice A n c]] ww (MakesG ww (N : Int) N (ints ds))) := Lib.hid (fun ww hw => by rw [hN, hds]; exact l09Double_any A n c rs ww hw h8 hl hr)
      have HIN : Hid (∀ ww : World, Rd ww A1 m us → Calls Tryd.prog 52 #[.slice A1 m d] ww (MakesE 2 ww m (ints (us.map inN)))) := Lib.hid (fun ww hw => l09In_any A1 m d us ww hw (by omega) HWA.out)
      have HIN2 : Hid (∀ ww : World, Rd ww B1 q ts → Calls Tryd.prog 52 #[.slice B1 q f] ww (MakesE 2 ww q (ints (ts.map inN)))) := Lib.hid (fun ww hw => l09In_any B1 q f ts ww hw (by omega) HVA.out)
      obtain ⟨W, hW⟩ : ∃ W, W = us.map inN := ⟨_, rfl⟩
      have HWL : Hid (W.length = m) := Lib.hid (by rw [hW, List.length_map]; exact hm1)
      rw [← hW] at HWN HANS
      obtain ⟨V, hV⟩ : ∃ V, V = ts.map inN := ⟨_, rfl⟩
      have HVL : Hid (V.length = q) := Lib.hid (by rw [hV, List.length_map]; exact hq1)
      rw [← hV] at HVN HANS
      rw [← hW] at HIN
      rw [← hV] at HIN2
      rw [← hds] at HANS
      rw [HANS.out]
      clear hds hW hN hV
      go_enter Tryd.func28, Tryd.ntmps28
      go_wp2_with fail
      refine (l09Code_any (n : Int) _ _ _ _ _ _ _ _ _ (ints rs) us ts _ hh hn2 hh2 hm2 hh3 hq2).mono ?_
      rintro e w1 ⟨rfl, hb⟩
      rw [HD.out]
      have x1 := x0.next hb
      have y0 := x1.c0
      have y1 := x1.c1
      have HB1 := Lib.hid (HB.out.trans (hb.mono HB.out.size))
      have hrd := hh.below hb
      have hr2 := hh2.below hb
      have hr3 := hh3.below hb
      clear hb hh hh2 h h2 x0 hr hd hrel hu ha
      have HTN : Hid (∀ x, x ∈ invW V → x < N) := Lib.hid (invW_lt HGD.out HVN.out)
      have HTL : Hid ((invW V).length = q) := Lib.hid (by rw [invW_len, HVL.out])
      have HBK : Hid (∀ (ww : World) (AI : Option Addr) (cI : Nat), Rd ww AI q (ints V) → Calls Tryd.prog 54 #[.slice AI q cI] ww (MakesE 2 ww q (ints (invW V)))) := Lib.hid (fun ww AI cI k1 => l09Back_any AI q cI V ww k1 (by omega) (fun x hx => by have := HVN.out x hx; omega))
      have HVV0 : Hid (geF ds W V = (decide ((redW (RDep ds) (W ++ invW V)).length = 0), 0)) := Lib.hid rfl
      obtain ⟨T, hTT⟩ : ∃ T, T = invW V := ⟨_, rfl⟩
      rw [← hTT] at HTN HTL HBK HVV0
      have HXN : Hid (∀ x, x ∈ W ++ T → x < N) := Lib.hid (fun x hx => by rcases List.mem_append.1 hx with h1 | h1; exact HWN.out x h1; exact HTN.out x h1)
      have HXI : Hid (ints W ++ ints T = ints (W ++ T)) := Lib.hid (ints_appC W T).symm
      have HXL : Hid ((W ++ T).length = m + q) := Lib.hid (by rw [List.length_append, HWL.out, HTL.out])
      obtain ⟨X, hX⟩ : ∃ X, X = W ++ T := ⟨_, rfl⟩
      rw [← hX] at HXN HXI HXL HVV0
      have HRN : Hid (∀ x, x ∈ redW (RDep ds) X → x < N) := Lib.hid (redW_lt HXN.out)
      have HNE : Hid ((nfR ds (redW (RDep ds) X)).length = (redW (RDep ds) X).length) := Lib.hid (nfR_lenG ds _ N HDL.out HGD.out HRN.out)
      have HRD : Hid (∀ (ww : World) (AD AI : Option Addr) (cD cI : Nat), Rd ww AD N (ints ds) → Rd ww AI (m + q) (ints X) → Calls Tryd.prog 50 #[.agg #[.int .i64 (N : Int), .slice AD N cD], .slice AI (m + q) cI] ww (MakesE 2 ww (nfR ds (redW (RDep ds) X)).length (ints (nfR ds (redW (RDep ds) X))))) := Lib.hid (fun ww AD AI cD cI k1 k2 => l09Reduce_any AD AI N cD (m + q) cI ds X ww k1 hN16 HDL.out HDR.out HGD.out k2 (by omega) HXN.out)
      obtain ⟨Z, hZ⟩ : ∃ Z, Z = nfR ds (redW (RDep ds) X) := ⟨_, rfl⟩
      rw [← hZ] at HRD HNE
      obtain ⟨zl, hzl⟩ : ∃ zl, zl = Z.length := ⟨_, rfl⟩
      rw [← hzl] at HRD HNE
      have HVV : Hid (geF ds W V = (((zl : Int) == 0), 0)) := Lib.hid (by
        rw [HVV0.out, ← HNE.out]
        by_cases h0 : zl = 0
        · rw [h0]; rfl
        · rw [decide_eq_false h0, beq_false_of_ne (by omega)])
      clear hZ hzl hX HVV0 HNE HRN HXN hTT
      have HDO := Lib.hid (HDB.out w1 hrd)
      clear HDB
      go_wp2_with fail
      refine HDO.out.mono ?_
      rintro e w2 ⟨AD, cD, rfl, oD, hbD⟩
      have HI2 := Lib.hid (HIN.out w2 (hr2.below hbD))
      have HBD := Lib.hid (HB1.out.trans (hbD.mono HB1.out.size))
      go_wp2_with fail
      refine HI2.out.mono ?_
      rintro e w3 ⟨AI, cI, rfl, oI, hbI⟩
      have HB3 := Lib.hid (HBD.out.trans (hbI.mono HBD.out.size))
      have hD3 := oD.rd.below hbI
      have HI4 := Lib.hid (HIN2.out w3 ((hr3.below hbD).below hbI))
      go_wp2_with fail
      refine HI4.out.mono ?_
      rintro e w4' ⟨AV', cV', rfl, oV', hbV'⟩
      have HB4' := Lib.hid (HB3.out.trans (hbV'.mono HB3.out.size))
      have HK4 := Lib.hid (HBK.out w4' AV' cV' oV'.rd)
      go_wp2_with fail
      refine HK4.out.mono ?_
      rintro e w4 ⟨AV, cV, rfl, oV, hbV⟩
      have HB4 := Lib.hid (HB4'.out.trans (hbV.mono HB4'.out.size))
      have oI4 := (oI.below hbV').below hbV
      have oD4 := ((oD.below hbI).below hbV').below hbV
      have hb24 : w2.heap.size ≤ w4.heap.size := Nat.le_trans hbI.size (Nat.le_trans hbV'.size hbV.size)
      have hml9 : m + q ≤ maxLen := by unfold maxLen; omega
      have hby9 : (m + q) * 8 ≤ 140737488355328 := by omega
      go_wp2_with (at_builtin; refine wpList_append_rdI rfl _ _ rfl w2.heap.size AI m cI (ints W) rfl oI4 AV q cV (ints T) rfl oV.rd hml9 hby9 hb24 ?_; intro A5 c5 w5 o5 hg5; rw [HXI.out] at o5)
      have oD5 := oD4.apart hg5 (fun k hk e => by have := (oD.lt k hk).2; have := (oI.lt _ (ownBlock_map' e)).1; omega)
      have HB5 := Lib.hid (HB4.out.grown hg5 HB4.out.size (fun r hr => by have := (oI.lt _ (ownBlock_map' hr)).1; have := HBD.out.size; omega))
      have HR5 := Lib.hid (HRD.out w5 AD A5 cD c5 oD5.rd o5.rd)
      clear o5 oD5 hg5 oI4 oD4
      go_wp2_with fail
      refine HR5.out.mono ?_
      rintro e w6 ⟨AN, cN, rfl, oN, hbN⟩
      have HB6 := Lib.hid (HB5.out.trans (hbN.mono HB5.out.size))
      go_wp2_with fail
      go_ret2
      rw [HVV.out]
      exact ⟨rfl, HB6.out⟩
set_option maxHeartbeats 3200000 in
theorem implAreGroupEqual (L : Int) (A : Option Addr) (n c : Nat) (xs : List Int) (A1 : Option Addr) (m d : Nat) (us : List Int) (B1 : Option Addr) (q f : Nat) (ts : List Int) (w : World) (h : Rd w A n xs) (hwf : Wf xs) (hL1 : -9223372036854775808 ≤ L) (hL2 : L ≤ 9223372036854775807) (hn : n ≤ maxLen) (h2 : Rd w A1 m us) (hwf2 : Wf us) (hm : m ≤ maxLen) (h3 : Rd w B1 q ts) (hwf3 : Wf ts) (hq : q ≤ maxLen) (hT : Tab w) :
    Calls Tryd.prog 29 #[.agg #[.int .i64 L, .slice A n c], .slice A1 m d, .slice B1 q f] w (fun e w' => e = .returned (.tuple #[.bool (gA2 false geF L xs us ts).1, .int .i64 (gA2 false geF L xs us ts).2]) ∧ Below w.heap.size w w') := by
  have hn2 : n ≤ 9223372036854775807 := by unfold maxLen at hn; omega
  have hn1 := h.1
  have hm1 := h2.1
  have hq1 := h3.1
  have x0 := box_new 27 w L A n c
  have HB := Lib.hid (below2 w (.cells #[.int .i64 L, .slice A n c] 27) (.cells #[.slice A1 m d, .slice B1 q f] 22))
  have hh := h.below HB.out
  have ht := rdT_box2 w (.cells #[.int .i64 L, .slice A n c] 27) A1 B1 m d q f us ts 22 h2 hm h3 hq
  have hT1 := hT.below HB.out
  have x1 := x0.next (below1 (w.alloc (.cells #[.int .i64 L, .slice A n c] 27)) (.cells #[.slice A1 m d, .slice B1 q f] 22))
  cases ha : alphB L xs
  · rw [show gA2 false geF L xs us ts = _ from gA2_no ha]
    have HA := Lib.hid ha
    clear ha ht hn1
    go_enter Tryd.func29, Tryd.ntmps29
    go_wp2_with fail
    refine (signedIn_no L _ _ _ _ _ _ xs _ hh hwf hL1 hL2 hn2 HA.out hT1).mono ?_
    rintro e w1 ⟨rfl, hb⟩
    have gc := cell_new0 w1 (.slice none 0 0) 52
    have HBG := (HB.out.trans (hb.mono HB.out.size)).alloc (HB.out.trans (hb.mono HB.out.size)).size
    go_wp2_with fail
    go_ret2
    exact ⟨rfl, HBG _⟩
  · cases hu : (sgB L us && sgB L ts)
    · rw [show gA2 false geF L xs us ts = _ from gA2_bad ha hu]
      obtain ⟨rs, rfl, rfl, h8, hr, hrel, hl, hd, _⟩ := alphB_nats L xs n hn1 ha
      have HU := Lib.hid hu
      clear ha hu
      go_enter Tryd.func29, Tryd.ntmps29
      go_wp2_with fail
      refine (signedIn_any _ _ _ _ _ _ rs _ _ hh hwf h8 hl hr hrel hd ht (by omega) hT1).mono ?_
      rw [okG_pair, HU.out]
      rintro e w1 (⟨hok, _⟩ | ⟨hok, rfl, hb⟩)
      · cases hok
      have gc := cell_new0 w1 (.slice none 0 0) 52
      have HBG := (HB.out.trans (hb.mono HB.out.size)).alloc (HB.out.trans (hb.mono HB.out.size)).size
      go_wp2_with fail
      go_ret2
      exact ⟨rfl, HBG _⟩
    · obtain ⟨rs, rfl, rfl, h8, hr, hrel, hl, hd, hxs⟩ := alphB_nats L xs n hn1 ha
      have HANS := Lib.hid (show gA2 false geF (n : Int) (ints rs) us ts = _ from gA2_yes rs hxs ha hu)
      have HU := Lib.hid hu
      have HDEP := (depB_iff rs n hl hr).1 hd
      obtain ⟨ds, hds⟩ : ∃ ds, ds = dblR rs := ⟨_, rfl⟩
      obtain ⟨N, hN⟩ : ∃ N, N = 2 * n := ⟨_, rfl⟩
      have HDL : Hid (ds.length = N) := Lib.hid (by rw [hds, dbl_len, hl, hN])
      have HDR : Hid (∀ i, ds.getD i 0 < 2 ^ N) := Lib.hid (by rw [hds, hN, ← hl]; exact dbl_lt rs)
      have HGD : Hid (GD (RDep ds) N) := Lib.hid (by rw [hds, hN]; exact dbl_gd rs n hl hr HDEP)
      have HDD : Hid (Dep ds) := Lib.hid (by rw [hds]; exact dbl_is rs n hl hr HDEP)
      have hN16 : N ≤ 16 := by omega
      have hum : us.length ≤ 24 := sgB_len (by have := HU.out; rw [Bool.and_eq_true] at this; exact this.1)
      have HWN : Hid (∀ x, x ∈ us.map inN → x < N) := Lib.hid (by rw [hN]; exact sgB_nats (by have := HU.out; rw [Bool.and_eq_true] at this; exact this.1))
      have HWA : Hid (∀ s, s ∈ us → sgB1 8 s = true) := Lib.hid (fun s hs => sgB1_mono n s h8 (sgB_all (L := (n : Int)) (by have := HU.out; rw [Bool.and_eq_true] at this; exact this.1) s hs))
      have htm : ts.length ≤ 24 := sgB_len (by have := HU.out; rw [Bool.and_eq_true] at this; exact this.2)
      have HVN : Hid (∀ x, x ∈ ts.map inN → x < N) := Lib.hid (by rw [hN]; exact sgB_nats (by have := HU.out; rw [Bool.and_eq_true] at this; exact this.2))
      have HVA : Hid (∀ s, s ∈ ts → sgB1 8 s = true) := Lib.hid (fun s hs => sgB1_mono n s h8 (sgB_all (L := (n : Int)) (by have := HU.out; rw [Bool.and_eq_true] at this; exact this.2) s hs))
      obtain ⟨W, hW⟩ : ∃ W, W = us.map inN := ⟨_, rfl⟩
      have HWL : Hid (W.length = m) := Lib.hid (by rw [hW, List.length_map]; exact hm1)
      rw [← hW] at HWN HANS
      obtain ⟨V, hV⟩ : ∃ V, V = ts.map inN := ⟨_, rfl⟩
      have HVL : Hid (V.length = q) := Lib.hid (by rw [hV, List.length_map]; exact hq1)
      rw [← hV] at HVN HANS
      rw [← hds] at HANS
      rw [HANS.out]
      have HDS := Lib.hid hds
      have HWE := Lib.hid hW
      have HVE := Lib.hid hV
      have HNE := Lib.hid hN
      clear hds hW hN hV
      go_enter Tryd.func29, Tryd.ntmps29
      go_wp2_with fail
      refine (signedIn_any _ _ _ _ _ _ rs _ _ hh hwf h8 hl hr hrel hd ht (by omega) hT1).mono ?_
      rw [okG_pair, HU.out]
      rintro e w1 (⟨hok, R, cr, AL, cl, rfl, oR, oS, hb⟩ | ⟨hok, _⟩)
      rotate_left
      · cases hok
      rw [← HDS.out, ← HNE.out] at oR
      rw [← HNE.out]
      obtain ⟨lo, hi, oS⟩ : ∃ lo hi, OwnSS w1 lo hi AL 2 cl [ints W, ints V] := ⟨_, _, by rw [HWE.out, HVE.out]; exact oS⟩
      have gb := Boxed.new w1 52 (.slice R N cr)
      have gc := gb.cell
      have hbg := below1 w1 (.cells #[.slice R N cr] 52)
      have HB1 := Lib.hid (HB.out.trans (hb.mono HB.out.size))
      have HB2 := Lib.hid (HB1.out.trans (hbg.mono HB1.out.size))
      have hRd := oR.rd.below hbg
      obtain ⟨ws, hws, HWS⟩ := rdSS_words (oS.rd (by intro z hz; rcases (by simpa using hz : z = _ ∨ z = _) with rfl | rfl <;> (rw [ints_len]; have := HWL.out; have := HVL.out; unfold maxLen; omega))) [W, V] rfl
      have hT2 := ((hT1.below hb).below hbg)
      have hRT := hws.below hbg
      have y0 := ((x1.next hb).next hbg).c0
      have y1 := ((x1.next hb).next hbg).c1
      clear hr hrel hd hu hws oS hh ht hT1 hT h h2 x0 x1
      obtain ⟨wg, hwg⟩ : ∃ wg, wg = w1.alloc (.cells #[.slice R N cr] 52) := ⟨_, rfl⟩
      rw [← hwg] at gb gc hbg HB2 hRd hT2 hRT y0 y1
      have hgl := gb.lt
      go_wp2_with fail
      rw [← hwg]
      clear hwg oR hb
      obtain ⟨bw, ow, B0, n0, c0, x0, eAL, hbl, ht0, hc0, hr0, hm0⟩ := hRT.at_ (show 0 < 2 by omega)
      have hx0 : x0 = ints W := HWS.out 0 _ ht0
      subst hx0
      have hn0 : n0 = m := by have := hr0.1; rw [ints_len, HWL.out] at this; exact this.symm
      subst hn0
      rw [Nat.add_zero] at hc0
      obtain ⟨bw', ow', B1', n1, c1, x1', eAL', hbl', ht1, hc1, hr1, hm1'⟩ := hRT.at_ (show 1 < 2 by omega)
      have hx1 : x1' = ints V := HWS.out 1 _ ht1
      subst hx1
      have hn1' : n1 = q := by have := hr1.1; rw [ints_len, HVL.out] at this; exact this.symm
      subst hn1'
      subst eAL
      obtain ⟨e1, e2⟩ : bw' = bw ∧ ow' = ow := by injection eAL' with e; injection e with e1 e2 _; exact ⟨e1.symm, e2.symm⟩
      subst e1 e2
      have HINV : Hid (∀ ww : World, Below wg.heap.size wg ww → Calls Tryd.prog 56 #[.slice B1' n1 c1] ww (MakesE 2 ww n1 (ints (invW V)))) := Lib.hid (fun ww hw => inverseOf_any B1' n1 c1 V ww (hr1.below hw) (by omega) (fun x hx => by have := HVN.out x hx; omega))
      have HTN : Hid (∀ x, x ∈ invW V → x < N) := Lib.hid (invW_lt HGD.out HVN.out)
      have HTL : Hid ((invW V).length = n1) := Lib.hid (by rw [invW_len, HVL.out])
      have HVV0 : Hid (geF ds W V = (decide ((redW (RDep ds) (W ++ invW V)).length = 0), 0)) := Lib.hid rfl
      obtain ⟨T, hTT⟩ : ∃ T, T = invW V := ⟨_, rfl⟩
      rw [← hTT] at HINV HTN HTL HVV0
      have HRE : Hid (∀ (wq : World) (Aq : Option Addr) (cq : Nat), Below wg.heap.size wg wq → Rd wq Aq n1 (ints T) → Calls Tryd.prog 55 #[.agg #[.slice R N cr], .slice (some ⟨wq.heap.size, 0, none⟩) 2 2] (wq.alloc (.cells #[.slice B0 n0 c0, .slice Aq n1 cq] 22)) (MakesE 2 (wq.alloc (.cells #[.slice B0 n0 c0, .slice Aq n1 cq] 22)) (redW (RDep ds) (W ++ T)).length (ints (redW (RDep ds) (W ++ T))))) := Lib.hid (fun wq Aq cq hq ho => by
        have h9 := reduced_any R _ N cr 2 2 ds _ [W, T] (wq.alloc (.cells #[.slice B0 n0 c0, .slice Aq n1 cq] 22)) ((hRd.below hq).below (below1 _ _)) hN16 HDL.out HDR.out HGD.out (rdT_two wq B0 Aq n0 c0 n1 cq (ints W) (ints T) 22 (hr0.below hq) (by unfold maxLen; omega) ho (by unfold maxLen; omega)) (by omega) rfl (fun k t hk => by
          match k, hk with
          | 0, hk => injection hk with hk; subst hk; rfl
          | 1, hk => injection hk with hk; subst hk; rfl
          | k + 2, hk => simp at hk) (fun k => by
          match k with
          | 0 => show W.length ≤ 576; rw [HWL.out]; omega
          | 1 => show T.length ≤ 576; rw [HTL.out]; omega
          | k + 2 => simp) (by rw [show [W, T].flatten = W ++ T by simp, List.length_append, HWL.out, HTL.out]; omega) (by rw [show [W, T].flatten = W ++ T by simp]; intro x hx; rcases List.mem_append.1 hx with h1 | h1; exact HWN.out x h1; exact HTN.out x h1)
        rw [show [W, T].flatten = W ++ T by simp] at h9
        exact h9)
      obtain ⟨rl, hrl⟩ : ∃ rl, rl = redW (RDep ds) (W ++ T) := ⟨_, rfl⟩
      rw [← hrl] at HRE HVV0
      obtain ⟨zl, hzl⟩ : ∃ zl, zl = rl.length := ⟨_, rfl⟩
      rw [← hzl] at HRE HVV0
      have HVV : Hid (geF ds W V = (((zl : Int) == 0), 0)) := Lib.hid (by
        rw [HVV0.out]
        by_cases h0 : zl = 0
        · rw [h0]; rfl
        · rw [decide_eq_false h0, beq_false_of_ne (by omega)])
      have hC : Below wg.heap.size wg wg.drew := (Below.refl _ _).drew
      clear hrl hzl HVV0 hTT HTN HTL hr1 hm0 ht0 ht1 hm1' HGD HDD HDR HDL hRT HWS hT2 y0 y1 hbg
      have hcl0 := hc0
      have hcl1 := hc1
      go_wp2_with fail
      go_region_law (first
        | (go_simp; (with_reducible refine (HINV.out _ hC).mono ?_); rintro e wq ⟨Aq, cq, rfl, oq, hq⟩; have hC := hC.trans (hq.mono hC.size); have gbq : Boxed wq w1.heap.size 52 (.slice R N cr) := (hC.block _ gb.lt).trans gb; have gc := gbq.cell; have gcl : ∀ o : Obj, (wq.alloc o).cell? ⟨w1.heap.size, 0, none⟩ = some (.slice R N cr) := fun o => (gbq.alloc o).cell; have hc0 := (hC.cell (p := ⟨bw', ow', none⟩) hbl).trans hcl0; have hc1 := (hC.cell (p := ⟨bw', ow' + 1, none⟩) hbl).trans hcl1)
        | (go_simp; (with_reducible refine (HRE.out wq Aq cq hC oq.rd).mono ?_); rintro e wr ⟨A7, c7, rfl, o7, hb7⟩; have HBA := Lib.hid (HB2.out.trans (hC.mono HB2.out.size)); have HBL := Lib.hid (HBA.out.trans ((below1 wq (.cells #[.slice B0 n0 c0, .slice Aq n1 cq] 22)).mono HBA.out.size)); have HBR := Lib.hid (HBL.out.trans (hb7.mono HBL.out.size)); clear o7 hb7))
      all_goals
        clear gc gcl HRE HINV
        go_wp2_with fail
        go_ret2
        rw [HVV.out]
        exact ⟨rfl, HBR.out⟩
end Go.Proofs.YtbleimcajpelhaaDoor
