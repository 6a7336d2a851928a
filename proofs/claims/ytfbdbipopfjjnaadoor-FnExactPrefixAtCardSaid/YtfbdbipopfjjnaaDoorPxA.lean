/-
  PrefixAt: both sides.
-/
import Derived.Test.YtfbdbipopfjjnaaDoorPxR
import Derived.Test.YtfbdbipopfjjnaaDoorOrA
import Derived.Deep.RegionWith
namespace Go.Proofs.YtfbdbipopfjjnaaDoor
open Go Go.RowKit
set_option linter.unusedVariables false
set_option maxRecDepth 100000

def pxAns (L : Int) (xs us : List Int) (a : Int) : List Int × Int :=
  if wCode L xs us = 0 then (if isMaskB a us.length = true then (if dnB (RDep (xs.map Int.toNat)) (nfR (xs.map Int.toNat) (us.map Int.toNat)) a.toNat = true then (ints (atM (nfR (xs.map Int.toNat) (us.map Int.toNat)) a.toNat us.length), 0) else ([], 5)) else ([], 2)) else ([], wCode L xs us)
theorem pxAns_code (L : Int) (xs us : List Int) (a : Int) (h : ¬ wCode L xs us = 0) : pxAns L xs us a = ([], wCode L xs us) := by unfold pxAns; rw [if_neg h]
theorem pxAns_out (L : Int) (xs us : List Int) (a : Int) (h : wCode L xs us = 0) (h2 : isMaskB a us.length = false) : pxAns L xs us a = ([], 2) := by unfold pxAns; rw [if_pos h, if_neg (by rw [h2]; decide)]
theorem pxAns_no (L : Int) (rs us : List Nat) (k : Nat) (h : wCode L (ints rs) (ints us) = 0) (h2 : isMaskB (k : Int) us.length = true) (h3 : dnB (RDep rs) (nfR rs us) k = false) : pxAns L (ints rs) (ints us) (k : Int) = ([], 5) := by
  unfold pxAns; rw [if_pos h, if_pos (by rw [ints_len]; exact h2), ints_toNat, ints_toNat, if_neg (by show ¬ dnB (RDep rs) (nfR rs us) k = true; rw [h3]; decide)]
theorem pxAns_yes (L : Int) (rs us : List Nat) (k : Nat) (h : wCode L (ints rs) (ints us) = 0) (h2 : isMaskB (k : Int) us.length = true) (h3 : dnB (RDep rs) (nfR rs us) k = true) : pxAns L (ints rs) (ints us) (k : Int) = (ints (atM (nfR rs us) k us.length), 0) := by
  unfold pxAns; rw [if_pos h, if_pos (by rw [ints_len]; exact h2), ints_toNat, ints_toNat, if_pos (show dnB (RDep rs) (nfR rs us) (k : Int).toNat = true from h3), ints_len]; rfl
theorem pxAns_small (L : Int) (xs us : List Int) (a : Int) : (pxAns L xs us a).1.length ≤ 24 := by
  unfold pxAns
  split
  · rename_i h
    split
    · split
      · show (ints _).length ≤ 24
        rw [ints_len]
        refine Nat.le_trans (atM_len _ _ _) ?_
        have := (wCode_zero h).2
        unfold wordB at this
        rw [Bool.and_eq_true, decide_eq_true_eq] at this
        exact this.1
      · show 0 ≤ 24; omega
    · show 0 ≤ 24; omega
  · show 0 ≤ 24; omega
set_option maxHeartbeats 3200000 in
theorem implPrefixAt (L : Int) (A : Option Addr) (n c : Nat) (xs : List Int) (A1 : Option Addr) (m d : Nat) (us : List Int) (a : Int) (w : World) (h : Rd w A n xs) (hwf : Wf xs) (hL1 : -9223372036854775808 ≤ L) (hL2 : L ≤ 9223372036854775807) (hn : n ≤ maxLen) (h2 : Rd w A1 m us) (hwf2 : Wf us) (hm : m ≤ maxLen) (ha1 : -9223372036854775808 ≤ a) (ha2 : a ≤ 9223372036854775807) (hT : Tab w) :
    Calls Tryd.prog 26 #[.agg #[.int .i64 L, .slice A n c], .slice A1 m d, .int .i64 a] w (LsPost w (pxAns L xs us a).1.length (pxAns L xs us a).1 (pxAns L xs us a).2) := by
  have HB := Lib.hid (below1 w (.cells #[.int .i64 L, .slice A n c] 28))
  have x0 := box_new 28 w L A n c
  have hh := h.below HB.out
  have hh2 := h2.below HB.out
  have hT1 := hT.below HB.out
  by_cases hc : wCode L xs us = 0
  · obtain ⟨ha, hu⟩ := wCode_zero hc
    obtain ⟨rs, rfl, rfl, h8, hr, hrel, hl, hd, _⟩ := alphB_nats L xs n h.1 ha
    obtain ⟨vs, rfl, hv24, hvn⟩ := wordB_nats n us hu
    have hm1 : vs.length = m := by have := h2.1; rw [ints_len] at this; exact this
    have hm24 : m ≤ 24 := by omega
    cases hmk : isMaskB a (m : Int)
    · rw [show pxAns (n : Int) (ints rs) (ints vs) a = _ from pxAns_out (n : Int) (ints rs) (ints vs) a hc (by rw [ints_len, hm1]; exact hmk)]
      have HPI := Lib.hid (positionsIn_yes A n c rs A1 m d vs _ hh hwf h8 hr hrel hl hd hh2 hm24 hvn hu hT1)
      have HRL := Lib.hid hl
      have HVL := Lib.hid hm1
      have HVN := Lib.hid hvn
      have HDEP := Lib.hid ((depB_iff rs n hl hr).1 hd)
      clear ha hu hl hm1 hd hr hrel hc hvn hwf hwf2 hh hh2 x0 h h2
      have HMK := Lib.hid hmk
      clear hmk
      go_enter Tryd.func26, Tryd.ntmps26
      go_wp2_with fail
      refine HPI.out.mono ?_
      rintro e w1 ⟨g, A5, c5, rfl, hg, x, hrd, hb⟩
      have z0 := x.c0
      go_wp2_with fail
      refine (isMask_any a (m : Int) ha1 ha2 _).mono ?_
      rintro e w' ⟨rfl, rfl⟩
      rw [HMK.out]
      go_wp2_with fail
      go_ret2
      exact LsPost.of_ans (ans_no 2 (HB.out.trans (hb.mono HB.out.size)))
    · have HMK := Lib.hid hmk
      rw [isMaskB_in a m hm24, decide_eq_true_eq] at hmk
      obtain ⟨k, rfl⟩ := Int.eq_ofNat_of_zero_le hmk.1
      have hkm : k < 2 ^ m := by have := hmk.2; omega
      clear hmk
      obtain ⟨bd, hbd⟩ : ∃ bd, bd = dnB (RDep rs) (nfR rs vs) k := ⟨_, rfl⟩
      have HBD := Lib.hid hbd
      cases bd
      · rw [show pxAns (n : Int) (ints rs) (ints vs) (k : Int) = _ from pxAns_no (n : Int) rs vs k hc (by rw [hm1]; exact HMK.out) hbd.symm]
        have HPI := Lib.hid (positionsIn_yes A n c rs A1 m d vs _ hh hwf h8 hr hrel hl hd hh2 hm24 hvn hu hT1)
        have HRL := Lib.hid hl
        have HVL := Lib.hid hm1
        have HVN := Lib.hid hvn
        have HDEP := Lib.hid ((depB_iff rs n hl hr).1 hd)
        clear hbd ha hu hl hm1 hd hr hrel hc hvn hwf hwf2 hh hh2 x0 h h2
        obtain ⟨nf, hnf⟩ : ∃ nf, nf = nfR rs vs := ⟨_, rfl⟩
        rw [← hnf] at HPI HBD
        clear hnf
        go_enter Tryd.func26, Tryd.ntmps26
        go_wp2_with fail
        refine HPI.out.mono ?_
        rintro e w1 ⟨g, A5, c5, rfl, hg, x, hrd, hb⟩
        have z0 := x.c0
        have HB1 := Lib.hid (HB.out.trans (hb.mono HB.out.size))
        have HDS := Lib.hid (isDownset_any g m c5 k A5 (RDep rs) nf w1 x hm24 hkm (hT1.below hb))
        rw [← HBD.out] at HDS
        clear x hrd hg hb
        go_wp2_with fail
        refine (isMask_any (k : Int) (m : Int) ha1 ha2 _).mono ?_
        rintro e w' ⟨rfl, rfl⟩
        rw [HMK.out]
        go_wp2_with fail
        refine HDS.out.mono ?_
        rintro e w2 ⟨rfl, hb2⟩
        go_wp2_with fail
        go_ret2
        exact LsPost.of_ans (ans_no 5 (HB1.out.trans (hb2.mono HB1.out.size)))
      · rw [show pxAns (n : Int) (ints rs) (ints vs) (k : Int) = _ from pxAns_yes (n : Int) rs vs k hc (by rw [hm1]; exact HMK.out) hbd.symm]
        have HPI := Lib.hid (positionsIn_yes A n c rs A1 m d vs _ hh hwf h8 hr hrel hl hd hh2 hm24 hvn hu hT1)
        have HRL := Lib.hid hl
        have HVL := Lib.hid hm1
        have HVN := Lib.hid hvn
        have HDEP := Lib.hid ((depB_iff rs n hl hr).1 hd)
        clear hbd ha hu hl hm1 hd hr hrel hc hvn hwf hwf2 hh hh2 x0 h h2
        obtain ⟨nf, hnf⟩ : ∃ nf, nf = nfR rs vs := ⟨_, rfl⟩
        rw [HVL.out]
        rw [← hnf] at HPI HBD ⊢
        clear hnf
        go_enter Tryd.func26, Tryd.ntmps26
        go_wp2_with fail
        refine HPI.out.mono ?_
        rintro e w1 ⟨g, A5, c5, rfl, hg, x, hrd, hb⟩
        have z0 := x.c0
        have HB1 := Lib.hid (HB.out.trans (hb.mono HB.out.size))
        have HT1 := Lib.hid (hT1.below hb)
        have HDS := Lib.hid (isDownset_any g m c5 k A5 (RDep rs) nf w1 x hm24 hkm HT1.out)
        rw [← HBD.out] at HDS
        have HX := Lib.hid x
        have HRD := Lib.hid hrd
        clear x hrd hg hb
        go_wp2_with fail
        refine (isMask_any (k : Int) (m : Int) ha1 ha2 _).mono ?_
        rintro e w' ⟨rfl, rfl⟩
        rw [HMK.out]
        go_wp2_with fail
        refine HDS.out.mono ?_
        rintro e w2 ⟨rfl, hb2⟩
        have HLO := Lib.hid (lettersOf_any g m c5 k A5 _ _ nf w2 (HX.out.next hb2) (HRD.out.below hb2) hm24 hkm (HT1.out.below hb2))
        have HB2 := Lib.hid (HB1.out.trans (hb2.mono HB1.out.size))
        obtain ⟨zs, hzs⟩ : ∃ zs, zs = atM nf k m := ⟨_, rfl⟩
        rw [← hzs] at HLO
        have HZS := Lib.hid hzs
        obtain ⟨q, hq⟩ : ∃ q, q = zs.length := ⟨_, rfl⟩
        rw [← hq] at HLO
        clear hb2 hzs hq z0
        go_wp2_with fail
        refine HLO.out.mono ?_
        rintro e w3 ⟨A6, c6, rfl, ho6, hb6⟩
        go_wp2_with fail
        go_ret2
        rw [← HZS.out]
        exact LsPost.of_ans (ans_yes ho6.len (ho6.mono HB2.out.size) (HB2.out.trans (hb6.mono HB2.out.size)))
  · rw [show pxAns L xs us a = _ from pxAns_code _ _ _ _ hc]
    have HPI := Lib.hid (positionsIn_no L A n c xs A1 m d us _ hh hwf hL1 hL2 hn hh2 hwf2 hm hT1 hc)
    obtain ⟨C, hC⟩ : ∃ C, C = wCode L xs us := ⟨_, rfl⟩
    rw [← hC] at hc HPI ⊢
    have hq1 : (C != 0) = true := by simpa using hc
    have hq2 : (C == 0) = false := by simpa using hc
    clear hC hc
    go_enter Tryd.func26, Tryd.ntmps26
    go_wp2_with fail
    refine HPI.out.mono ?_
    rintro e w1 ⟨rfl, hb⟩
    go_wp2_with fail
    go_ret2
    exact LsPost.of_ans (ans_no C (HB.out.trans (hb.mono HB.out.size)))
set_option maxHeartbeats 3200000 in
theorem specPrefixAt (L : Int) (A : Option Addr) (n c : Nat) (xs : List Int) (A1 : Option Addr) (m d : Nat) (us : List Int) (a : Int) (w : World) (h : Rd w A n xs) (hwf : Wf xs) (hL1 : -9223372036854775808 ≤ L) (hL2 : L ≤ 9223372036854775807) (hn : n ≤ maxLen) (h2 : Rd w A1 m us) (hwf2 : Wf us) (hm : m ≤ maxLen) (ha1 : -9223372036854775808 ≤ a) (ha2 : a ≤ 9223372036854775807) :
    Calls Tryd.prog 25 #[.agg #[.int .i64 L, .slice A n c], .slice A1 m d, .int .i64 a] w (LsPost w (pxAns L xs us a).1.length (pxAns L xs us a).1 (pxAns L xs us a).2) := by
  have HB := Lib.hid (below1 w (.cells #[.int .i64 L, .slice A n c] 28))
  have x0 := box_new 28 w L A n c
  have hh := h.below HB.out
  have hh2 := h2.below HB.out
  by_cases hc : wCode L xs us = 0
  · obtain ⟨ha, hu⟩ := wCode_zero hc
    obtain ⟨rs, rfl, rfl, h8, hr, hrel, hl, hd, _⟩ := alphB_nats L xs n h.1 ha
    obtain ⟨vs, rfl, hv24, hvn⟩ := wordB_nats n us hu
    have hm1 : vs.length = m := by have := h2.1; rw [ints_len] at this; exact this
    have hm24 : m ≤ 24 := by omega
    have hn62 : m ≤ 62 := by omega
    obtain ⟨F, hF⟩ : ∃ F, F = 2 ^ m - 1 := ⟨_, rfl⟩
    have HFU : Hid (∀ ww : World, Calls Tryd.prog 57 #[.int .i64 (m : Int)] ww fun e w' => e = .returned (.int .i64 (F : Int)) ∧ ww = w') := Lib.hid (by rw [hF]; exact fun ww => full_any m hn62 ww)
    have HIM : Hid (decide ((0 : Int) ≤ a ∧ a ≤ (F : Int)) = isMaskB a (m : Int)) := Lib.hid (by rw [isMaskB_in a m hm24, decide_eq_decide, hF]; have := p2_pos m; omega)
    clear hF
    cases hmk : isMaskB a (m : Int)
    · rw [show pxAns (n : Int) (ints rs) (ints vs) a = _ from pxAns_out (n : Int) (ints rs) (ints vs) a hc (by rw [ints_len, hm1]; exact hmk)]
      have HPI := Lib.hid (l04Code_yes A n c rs A1 m d vs _ hh h8 hr hl hh2 hm24 hvn hc)
      have HRL := Lib.hid hl
      have HVL := Lib.hid hm1
      have HVN := Lib.hid hvn
      have HDEP := Lib.hid ((depB_iff rs n hl hr).1 hd)
      clear ha hu hl hm1 hd hr hrel hc hvn hwf hwf2 h h2
      rw [hmk] at HIM
      clear hmk
      go_enter Tryd.func25, Tryd.ntmps25
      go_wp2_with fail
      refine HPI.out.mono ?_
      rintro e w1 ⟨A5, c5, A6, c6, rfl, ho5, ho6, hb⟩
      have HB1 := Lib.hid (HB.out.trans (hb.mono HB.out.size))
      go_wp2_with fail
      refine (HFU.out _).mono ?_
      rintro e w' ⟨rfl, rfl⟩
      go_wp2_with fail
      refine (in_any a 0 (F : Int) _).mono ?_
      rintro e w' ⟨rfl, rfl⟩
      rw [HIM.out]
      go_wp2_with fail
      go_ret2
      exact LsPost.of_ans (ans_no 2 HB1.out)
    · rw [hmk] at HIM
      have HMK := Lib.hid hmk
      rw [isMaskB_in a m hm24, decide_eq_true_eq] at hmk
      obtain ⟨k, rfl⟩ := Int.eq_ofNat_of_zero_le hmk.1
      have hkm : k < 2 ^ m := by have := hmk.2; omega
      clear hmk
      obtain ⟨bd, hbd⟩ : ∃ bd, bd = dnB (RDep rs) (nfR rs vs) k := ⟨_, rfl⟩
      have HUP : Hid (bd = upB (RDep rs) (nfR rs vs) m k) := Lib.hid (by rw [hbd]; exact dn_up _ _ m k hm24 hkm)
      cases bd
      · rw [show pxAns (n : Int) (ints rs) (ints vs) (k : Int) = _ from pxAns_no (n : Int) rs vs k hc (by rw [hm1]; exact HMK.out) hbd.symm]
        have HPI := Lib.hid (l04Code_yes A n c rs A1 m d vs _ hh h8 hr hl hh2 hm24 hvn hc)
        have HRL := Lib.hid hl
        have HVL := Lib.hid hm1
        have HVN := Lib.hid hvn
        have HDEP := Lib.hid ((depB_iff rs n hl hr).1 hd)
        clear hbd ha hu hl hm1 hd hr hrel hc hvn hwf hwf2 h h2
        go_enter Tryd.func25, Tryd.ntmps25
        go_wp2_with fail
        refine HPI.out.mono ?_
        rintro e w1 ⟨A5, c5, A6, c6, rfl, ho5, ho6, hb⟩
        have HB1 := Lib.hid (HB.out.trans (hb.mono HB.out.size))
        have HDS := Lib.hid (l04Down_any A6 m c6 k (RDep rs) (nfR rs vs) w1 ho6.rd hm24 hkm)
        rw [← HUP.out] at HDS
        clear ho5 ho6 hb
        go_wp2_with fail
        refine (HFU.out _).mono ?_
        rintro e w' ⟨rfl, rfl⟩
        go_wp2_with fail
        refine (in_any (k : Int) 0 (F : Int) _).mono ?_
        rintro e w' ⟨rfl, rfl⟩
        rw [HIM.out]
        go_wp2_with fail
        refine HDS.out.mono ?_
        rintro e w' ⟨rfl, rfl⟩
        go_wp2_with fail
        go_ret2
        exact LsPost.of_ans (ans_no 5 HB1.out)
      · rw [show pxAns (n : Int) (ints rs) (ints vs) (k : Int) = _ from pxAns_yes (n : Int) rs vs k hc (by rw [hm1]; exact HMK.out) hbd.symm]
        have HSY := Lib.hid (rdep_sym rs n hl hr ((depB_iff rs n hl hr).1 hd))
        have HRF : Hid (∀ a, a < n → RDep rs a a = true) := Lib.hid fun a h9 => ((depB_iff rs n hl hr).1 hd).1 a (by omega)
        have HR := Lib.hid hr
        have HNF2 : Hid ((nfR rs vs).length = m → nfM (RDep rs) n (atM (nfR rs vs) k m) = atM (nfR rs vs) k m) := Lib.hid fun h9 => by
          have hdn : Down (RDep rs) (nfR rs vs) m k := (dnB_iff _ _ m k hm24 hkm).1 hbd.symm
          unfold nfR at h9 hdn ⊢
          rw [hl] at h9 hdn ⊢
          exact at_nf HSY.out HRF.out hm1 hvn hdn h9
        have HNL : Hid (∀ x, x ∈ nfR rs vs → x < n) := Lib.hid fun x hx => by have := nfR_lt rs vs x hx; omega
        rw [hm1]
        have hhx := h.below HB.out
        have HPI := Lib.hid (l04Code_yes A n c rs A1 m d vs _ hh h8 hr hl hh2 hm24 hvn hc)
        have HRL := Lib.hid hl
        have HVL := Lib.hid hm1
        have HVN := Lib.hid hvn
        have HDEP := Lib.hid ((depB_iff rs n hl hr).1 hd)
        clear hbd ha hu hl hm1 hd hr hrel hc hvn hwf hwf2 h h2
        obtain ⟨nf, hnf⟩ : ∃ nf, nf = nfR rs vs := ⟨_, rfl⟩
        rw [← hnf] at HPI HUP HNF2 HNL ⊢
        clear hnf hh hh2
        obtain ⟨w0, hw0⟩ : ∃ w0, w.alloc (.cells #[.int .i64 (n : Int), .slice A n c] 28) = w0 := ⟨_, rfl⟩
        rw [hw0] at HB HPI x0 hhx
        have yy0 := x0.c0
        have yy1 := x0.c1
        obtain ⟨zs, hzs⟩ : ∃ zs, zs = atM nf k m := ⟨_, rfl⟩
        have hzl : zs.length ≤ 24 := by rw [hzs]; exact Nat.le_trans (atM_len _ _ _) hm24
        go_enter Tryd.func25, Tryd.ntmps25
        go_wp2_with fail
        refine HPI.out.mono ?_
        rintro e w1 ⟨A5, c5, A6, c6, rfl, ho5, ho6, hb⟩
        have HB1 := Lib.hid (HB.out.trans (hb.mono HB.out.size))
        have HDS := Lib.hid (l04Down_any A6 m c6 k (RDep rs) nf w1 ho6.rd hm24 hkm)
        rw [← HUP.out] at HDS
        have hnl : nf.length = m := by have := ho5.len; rw [ints_len] at this; exact this
        have hx1 := x0.next hb
        have hdr : Below w1.heap.size w1 w1.drew := (Below.refl _ _).drew
        have HAT : Hid (∀ ww, Below w1.heap.size w1 ww → Calls Tryd.prog 60 #[.slice A5 m c5, .int .i64 (k : Int)] ww (MakesE 2 ww zs.length (ints zs))) := Lib.hid fun ww hw => by rw [hzs]; exact l04At_any A5 m c5 k nf ww (ho5.rd.below hw) hm24 hkm
        have HZN := HNF2.out hnl
        rw [← hzs] at HZN
        have HZR : Hid (∀ p, p < zs.length → zs.getD p 0 < n) := Lib.hid fun p hp => by
          have h9 : zs.getD p 0 ∈ zs := by rw [List.getD_eq_getElem?_getD, List.getElem?_eq_getElem hp]; exact List.getElem_mem _
          rw [hzs] at h9 ⊢
          exact atM_lt nf k n m (fun q hq => in_getD HNL.out q (by omega)) _ h9
        have HNO : Hid (∀ ww A2 c2, Below w1.heap.size w1 ww → Rd ww A2 zs.length (ints zs) → Calls Tryd.prog 59 #[.agg #[.int .i64 (n : Int), .slice A n c], .slice A2 zs.length c2] ww (MakesE 2 ww zs.length (ints zs))) := Lib.hid fun ww A2 c2 hw h2 => by
          have h9 := l03Normal_any A A2 n c zs.length c2 rs zs ww ((hhx.below hb).below hw) (by omega) HR.out h2 hzl HZR.out
          rw [HZN] at h9
          exact h9
        have HZS := Lib.hid hzs
        obtain ⟨q, hq⟩ : ∃ q, q = zs.length := ⟨_, rfl⟩
        rw [← hq] at HAT HNO
        have y0 := hx1.c0
        have y1 := hx1.c1
        clear ho5 ho6 hb hzs hzl hq HZN hnl
        go_wp2_with fail
        refine (HFU.out _).mono ?_
        rintro e w' ⟨rfl, rfl⟩
        go_wp2_with fail
        refine (in_any (k : Int) 0 (F : Int) _).mono ?_
        rintro e w' ⟨rfl, rfl⟩
        rw [HIM.out]
        go_wp2_with fail
        refine HDS.out.mono ?_
        rintro e w' ⟨rfl, rfl⟩
        go_wp2_with fail
        go_region_with (first
          | (go_at_call 60; refine (HAT.out _ hdr).mono ?_; rintro e w2 ⟨A2, c2, rfl, ho2, hb2⟩; have hb12 := hdr.trans (hb2.mono hdr.size); have z0 := (hx1.next hb12).c0; have z1 := (hx1.next hb12).c1)
          | (go_at_call 59; refine (HNO.out _ _ _ hb12 ho2.rd).mono ?_; rintro e w3 ⟨A3, c3, rfl, ho3, hb3⟩))
        all_goals (
          go_wp2_with fail
          go_ret2
          rw [← HZS.out]
          have hb13 := hb12.trans (hb3.mono hb12.size)
          exact LsPost.of_ans (ans_yes ho3.len (ho3.mono (by have := HB1.out.size; have := hb12.size; omega)) (HB1.out.trans (hb13.mono HB1.out.size))))
  · rw [show pxAns L xs us a = _ from pxAns_code _ _ _ _ hc]
    have HPI := Lib.hid (l04Code_no L A n c xs A1 m d us _ hh hn hh2 hm hc)
    obtain ⟨C, hC⟩ : ∃ C, C = wCode L xs us := ⟨_, rfl⟩
    rw [← hC] at hc HPI ⊢
    have hq1 : (C != 0) = true := by simpa using hc
    have hq2 : (C == 0) = false := by simpa using hc
    clear hC hc
    go_enter Tryd.func25, Tryd.ntmps25
    go_wp2_with fail
    refine HPI.out.mono ?_
    rintro e w1 ⟨rfl, hb⟩
    go_wp2_with fail
    go_ret2
    exact LsPost.of_ans (ans_no C (HB.out.trans (hb.mono HB.out.size)))
end Go.Proofs.YtfbdbipopfjjnaaDoor
