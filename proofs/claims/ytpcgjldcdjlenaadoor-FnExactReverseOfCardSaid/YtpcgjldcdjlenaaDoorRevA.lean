/-
  ReverseOf: both sides.
-/
import Derived.Test.YtpcgjldcdjlenaaDoorBack
import Derived.Deep.RegionWith
namespace Go.Proofs.YtpcgjldcdjlenaaDoor
open Go Go.RowKit
set_option linter.unusedVariables false
set_option maxRecDepth 100000

def rvR (rs us : List Nat) : List Nat := nfR rs us.reverse
def rvAns (L : Int) (xs us : List Int) : List Int × Int := wAns rvR L xs us
theorem rvAns_small (L : Int) (xs us : List Int) : (rvAns L xs us).1.length ≤ 24 := wAns_small _ 24 (fun rs us _ h => Nat.le_trans (nfR_len rs us.reverse) (by rw [List.length_reverse]; exact h)) L xs us
set_option maxHeartbeats 3200000 in
theorem implReverseOf (L : Int) (A : Option Addr) (n c : Nat) (xs : List Int) (A1 : Option Addr) (m d : Nat) (us : List Int) (w : World) (h : Rd w A n xs) (hwf : Wf xs) (hL1 : -9223372036854775808 ≤ L) (hL2 : L ≤ 9223372036854775807) (hn : n ≤ maxLen) (h2 : Rd w A1 m us) (hwf2 : Wf us) (hm : m ≤ maxLen) (hT : Tab w) :
    Calls Tryd.prog 26 #[.agg #[.int .i64 L, .slice A n c], .slice A1 m d] w (LsPost w (rvAns L xs us).1.length (rvAns L xs us).1 (rvAns L xs us).2) := by
  have hn2 : n ≤ 9223372036854775807 := by unfold maxLen at hn; omega
  have hn1 := h.1
  have hm1 := h2.1
  have HB := Lib.hid (below2 w (.cells #[.int .i64 L, .slice A n c] 28) (.cells #[.slice A1 m d] 22))
  have hh := h.below HB.out
  have ht := rdT_box w (.cells #[.int .i64 L, .slice A n c] 28) A1 m d us 22 h2 hm
  have hh2 := h2.below HB.out
  have hT1 := hT.below HB.out
  cases ha : alphB L xs
  · rw [show rvAns L xs us = _ from wAns_no _ L xs us ha]
    have HA := Lib.hid ha
    clear ha ht hn1
    go_enter Tryd.func26, Tryd.ntmps26
    go_wp2_with fail
    refine (dependenceWith_no L _ _ _ _ _ _ xs [] _ hh hwf hL1 hL2 hn2 HA.out hT1).mono ?_
    rintro e w1 ⟨rfl, hb⟩
    go_wp2_with fail
    go_ret2
    exact LsPost.of_ans (ans_no 1 (HB.out.trans (hb.mono HB.out.size)))
  · cases hu : wordB L us
    · rw [show rvAns L xs us = _ from wAns_bad _ L xs us ha hu]
      obtain ⟨rs, rfl, rfl, h8, hr, hrel, hl, hd, _⟩ := alphB_nats L xs n hn1 ha
      have HU := Lib.hid hu
      clear ha hu
      go_enter Tryd.func26, Tryd.ntmps26
      go_wp2_with fail
      refine (dependenceWith_any _ _ _ _ _ _ rs _ _ hh hwf h8 hr hrel hd ht (by omega) hT1).mono ?_
      rw [okT_one, HU.out]
      rintro e w1 (⟨hok, _⟩ | ⟨hok, rfl, hb⟩)
      · cases hok
      go_wp2_with fail
      go_ret2
      exact LsPost.of_ans (ans_no 2 (HB.out.trans (hb.mono HB.out.size)))
    · obtain ⟨rs, rfl, rfl, h8, hr, hrel, hl, hd, _⟩ := alphB_nats L xs n hn1 ha
      obtain ⟨vs, rfl, hv24, hvn⟩ := wordB_nats n us hu
      rw [show rvAns (n : Int) (ints rs) (ints vs) = _ from wAns_yes _ (n : Int) rs vs ha hu]
      have HU := Lib.hid hu
      have HDEP := Lib.hid ((depB_iff rs n hl hr).1 hd)
      rw [ints_len] at hm1
      have hm24 : m ≤ 24 := by omega
      have HM := Lib.hid hm1
      clear ha hu hl hm1
      go_enter Tryd.func26, Tryd.ntmps26
      go_wp2_with fail
      refine (dependenceWith_any _ _ _ _ _ _ rs _ _ hh hwf h8 hr hrel hd ht (by omega) hT1).mono ?_
      rw [okT_one, HU.out]
      rintro e w1 (⟨hok, A2, c2, rfl, ho, hb⟩ | ⟨hok, _⟩)
      rotate_left
      · cases hok
      have HB1 := Lib.hid (HB.out.trans (hb.mono HB.out.size))
      have hr2 := hh2.below hb
      have hrd := ho.rd
      have hT2 := hT1.below hb
      clear ho hb hok ht hh hh2 hT1 hT h h2
      have HLR : Hid (rs.length = n) := Lib.hid (by have := hrd.1; rw [ints_len] at this; exact this)
      have HLU : Hid (vs.reverse.length = m) := Lib.hid (by rw [List.length_reverse]; exact HM.out)
      have HVR : Hid (∀ p, p < m → vs.reverse.getD p 0 < n) := Lib.hid fun p hp => in_getD (n := n) (vs := vs.reverse) (fun u hu => hvn u (List.mem_reverse.1 hu)) p (by rw [HLU.out]; exact hp)
      have HR63 : Hid (∀ i, rs.getD i 0 < 9223372036854775808) := Lib.hid fun i => lt63 (by omega) (hr i)
      go_wp2_with fail
      refine (clone64_any A1 m d (ints vs) _ hr2 hm24).mono ?_
      rintro e w2 ⟨A3, c3, rfl, ho3, hb3⟩
      have HREV := Lib.hid (rev_any w1.heap.size m c3 A3 vs w2 ho3 (by omega))
      go_wp2_with fail
      refine HREV.out.mono ?_
      rintro e w3 ⟨rfl, ho4, hg4⟩
      have hb4 : Below w1.heap.size w1 w3 := hb3.grown hg4 hb3.size (fun r hr => (ho3.lt r hr).1)
      have HRD := Lib.hid (hrd.below hb4)
      have HRW := Lib.hid ho4.rd
      have HTT := Lib.hid (hT2.below hb4)
      have HBW := Lib.hid (HB1.out.trans (hb4.mono HB1.out.size))
      clear hb3 ho3 hg4 hb4 ho4 hrd hr2 hT2
      go_wp2_with fail
      refine (traceOf_any A2 A3 n m c2 c3 rs vs.reverse _ HRD.out HRW.out hm24 (by omega) HVR.out HR63.out HTT.out).mono ?_
      rintro e w5 ⟨A5, c5, B5, d5, es, rfl, hp, hs, h1, h2, -, -, hb5⟩
      have HNF := Lib.hid (nf_from A5 B5 c5 d5 m n rs vs.reverse es w5 HLR.out hr HDEP.out HLU.out HVR.out hm24 hp hs h1 h2 (HTT.out.below hb5))
      have HB5 := Lib.hid (HBW.out.trans (hb5.mono HBW.out.size))
      clear hp hs h1 h2 hb5
      go_wp2_with fail
      refine HNF.out.mono ?_
      rintro e w6 ⟨A6, c6, rfl, ho6, hb6⟩
      go_wp2_with fail
      go_ret2
      exact LsPost.of_ans (ans_yes ho6.len (ho6.mono HB5.out.size) (HB5.out.trans (hb6.mono HB5.out.size)))
set_option maxHeartbeats 1600000 in
theorem specReverseOf (L : Int) (A : Option Addr) (n c : Nat) (xs : List Int) (A1 : Option Addr) (m d : Nat) (us : List Int) (w : World) (h : Rd w A n xs) (hwf : Wf xs) (hL1 : -9223372036854775808 ≤ L) (hL2 : L ≤ 9223372036854775807) (hn : n ≤ maxLen) (h2 : Rd w A1 m us) (hwf2 : Wf us) (hm : m ≤ maxLen) :
    Calls Tryd.prog 25 #[.agg #[.int .i64 L, .slice A n c], .slice A1 m d] w (LsPost w (rvAns L xs us).1.length (rvAns L xs us).1 (rvAns L xs us).2) := by
  have hn2 : n ≤ 9223372036854775807 := by unfold maxLen at hn; omega
  have hm2 : m ≤ 9223372036854775807 := by unfold maxLen at hm; omega
  have hn1 := h.1
  have hm1 := h2.1
  have HB := Lib.hid (below1 w (.cells #[.int .i64 L, .slice A n c] 28))
  have x0 := box_new 28 w L A n c
  have hh := h.below HB.out
  have hh2 := h2.below HB.out
  have HC := Lib.hid (wCode_two L xs us)
  cases ha : alphB L xs
  · rw [show rvAns L xs us = _ from wAns_no _ L xs us ha]
    have HD := Lib.hid (wCode_no L xs us ha)
    clear ha hn1
    go_enter Tryd.func25, Tryd.ntmps25
    go_wp2_with fail
    refine (l03Code_any L _ _ _ _ _ _ _ _ _ xs us us _ hh hn2 hh2 hm2 hh2 hm2).mono ?_
    rintro e w1 ⟨rfl, hb⟩
    rw [HC.out, HD.out]
    go_wp2_with fail
    go_ret2
    exact LsPost.of_ans (ans_no 1 (HB.out.trans (hb.mono HB.out.size)))
  · cases hu : wordB L us
    · rw [show rvAns L xs us = _ from wAns_bad _ L xs us ha hu]
      have HD := Lib.hid (wCode_bad L xs us ha hu)
      clear ha hu hn1
      go_enter Tryd.func25, Tryd.ntmps25
      go_wp2_with fail
      refine (l03Code_any L _ _ _ _ _ _ _ _ _ xs us us _ hh hn2 hh2 hm2 hh2 hm2).mono ?_
      rintro e w1 ⟨rfl, hb⟩
      rw [HC.out, HD.out]
      go_wp2_with fail
      go_ret2
      exact LsPost.of_ans (ans_no 2 (HB.out.trans (hb.mono HB.out.size)))
    · have HD := Lib.hid (wCode_yes L xs us ha hu)
      obtain ⟨rs, rfl, rfl, h8, hr, hrel, hl, hd, _⟩ := alphB_nats L xs n hn1 ha
      obtain ⟨vs, rfl, hv24, hvn⟩ := wordB_nats n us hu
      rw [show rvAns (n : Int) (ints rs) (ints vs) = _ from wAns_yes _ (n : Int) rs vs ha hu]
      rw [ints_len] at hm1
      have hm24 : m ≤ 24 := by omega
      have HDEP := Lib.hid ((depB_iff rs n hl hr).1 hd)
      clear ha hu hl hm1
      go_enter Tryd.func25, Tryd.ntmps25
      go_wp2_with fail
      refine (l03Code_any (n : Int) _ _ _ _ _ _ _ _ _ (ints rs) (ints vs) (ints vs) _ hh hn2 hh2 hm2 hh2 hm2).mono ?_
      rintro e w1 ⟨rfl, hb⟩
      rw [HC.out, HD.out]
      have y0 := (x0.next hb).c0
      have y1 := (x0.next hb).c1
      have HB1 := Lib.hid (HB.out.trans (hb.mono HB.out.size))
      have HLU : Hid (vs.length = m) := Lib.hid (by have := h2.1; rw [ints_len] at this; exact this)
      have HNR : Hid (nfM (RDep rs) n vs.reverse = rvR rs vs) := Lib.hid (by unfold rvR nfR; rw [show rs.length = n by have := h.1; rw [ints_len] at this; exact this])
      have HVR : Hid (∀ p, p < m → vs.reverse.getD p 0 < n) := Lib.hid fun p hp => in_getD (n := n) (vs := vs.reverse) (fun u hu => hvn u (List.mem_reverse.1 hu)) p (by rw [List.length_reverse, HLU.out]; exact hp)
      have hx1 := x0.next hb
      have hh1 := hh.below hb
      have hu1 := hh2.below hb
      have hdr : Below w1.heap.size w1 w1.drew := (Below.refl _ _).drew
      have HBK : Hid (∀ ww, Below w1.heap.size w1 ww → Calls Tryd.prog 52 #[.slice A1 m d] ww (MakesE 2 ww m (ints vs.reverse))) := Lib.hid fun ww hw => back_any A1 m d vs ww (hu1.below hw) (by omega)
      have HNO : Hid (∀ ww A2 c2, Below w1.heap.size w1 ww → Rd ww A2 m (ints vs.reverse) → Calls Tryd.prog 49 #[.agg #[.int .i64 (n : Int), .slice A n c], .slice A2 m c2] ww (MakesE 2 ww m (ints (rvR rs vs)))) := Lib.hid fun ww A2 c2 hw h2 => by
        rw [← HNR.out]; exact l03Normal_any A A2 n c m c2 rs vs.reverse ww (hh1.below hw) (by omega) hr h2 hm24 HVR.out
      clear hh hh2 hh1 hu1
      go_wp2_with fail
      go_region_with (first
        | (go_at_call 52; refine (HBK.out _ hdr).mono ?_; rintro e w2 ⟨A2, c2, rfl, ho2, hb2⟩; have hb12 := hdr.trans (hb2.mono hdr.size); have z0 := (hx1.next hb12).c0; have z1 := (hx1.next hb12).c1)
        | (go_at_call 49; refine (HNO.out _ _ _ hb12 ho2.rd).mono ?_; rintro e w3 ⟨A3, c3, rfl, ho3, hb3⟩))
      all_goals (
        go_wp2_with fail
        go_ret2
        have hb13 := hb12.trans (hb3.mono hb12.size)
        exact LsPost.of_ans (ans_yes ho3.len (ho3.mono (by have := HB1.out.size; have := hb12.size; omega)) (HB1.out.trans (hb13.mono HB1.out.size))))
end Go.Proofs.YtpcgjldcdjlenaaDoor
