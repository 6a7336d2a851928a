/-
  OrderOf: both sides.
-/
import Derived.Test.YtpcgjldcdjlenaaDoorPos
import Derived.Test.YtpcgjldcdjlenaaDoorWInt
namespace Go.Proofs.YtpcgjldcdjlenaaDoor
open Go Go.RowKit
set_option linter.unusedVariables false
set_option maxRecDepth 100000

def ordR (rs us : List Nat) : List Nat := ordM (RDep rs) (nfR rs us) us.length
def ordAns (L : Int) (xs us : List Int) : List Int × Int := wAns ordR L xs us
theorem ordAns_small (L : Int) (xs us : List Int) : (ordAns L xs us).1.length ≤ 24 := wAns_small _ 24 (fun rs us _ h => by unfold ordR; rw [ordM_len]; exact h) L xs us
theorem wAns_code (f : List Nat → List Nat → List Nat) (L : Int) (xs us : List Int) (h : ¬ wCode L xs us = 0) : wAns f L xs us = ([], wCode L xs us) := by unfold wAns; rw [if_neg h]
theorem wInt_code (f : List Nat → List Nat → Int) (L : Int) (xs us : List Int) (h : ¬ wCode L xs us = 0) : wInt f L xs us = (0, wCode L xs us) := by unfold wInt; rw [if_neg h]
set_option maxHeartbeats 3200000 in
theorem implOrderOf (L : Int) (A : Option Addr) (n c : Nat) (xs : List Int) (A1 : Option Addr) (m d : Nat) (us : List Int) (w : World) (h : Rd w A n xs) (hwf : Wf xs) (hL1 : -9223372036854775808 ≤ L) (hL2 : L ≤ 9223372036854775807) (hn : n ≤ maxLen) (h2 : Rd w A1 m us) (hwf2 : Wf us) (hm : m ≤ maxLen) (hT : Tab w) :
    Calls Tryd.prog 38 #[.agg #[.int .i64 L, .slice A n c], .slice A1 m d] w (LsPost w (ordAns L xs us).1.length (ordAns L xs us).1 (ordAns L xs us).2) := by
  have HB := Lib.hid (below1 w (.cells #[.int .i64 L, .slice A n c] 28))
  have x0 := box_new 28 w L A n c
  have hh := h.below HB.out
  have hh2 := h2.below HB.out
  have hT1 := hT.below HB.out
  by_cases hc : wCode L xs us = 0
  · obtain ⟨ha, hu⟩ := wCode_zero hc
    obtain ⟨rs, rfl, rfl, h8, hr, hrel, hl, hd, _⟩ := alphB_nats L xs n h.1 ha
    obtain ⟨vs, rfl, hv24, hvn⟩ := wordB_nats n us hu
    have hm1 : vs.length = m := by have := h2.1; rw [ints_len] at this; exact this
    have hm24 : m ≤ 24 := by omega
    rw [show ordAns (n : Int) (ints rs) (ints vs) = _ from wAns_yes _ (n : Int) rs vs ha hu]
    have HPI := Lib.hid (positionsIn_yes A n c rs A1 m d vs _ hh hwf h8 hr hrel hl hd hh2 hm24 hvn hu hT1)
    have HRL := Lib.hid hl
    have HVL := Lib.hid hm1
    have HVN := Lib.hid hvn
    have HDEP := Lib.hid ((depB_iff rs n hl hr).1 hd)
    clear ha hu hl hm1 hd hr hrel hc hvn hwf hwf2 hh hh2 x0 h h2
    obtain ⟨nf, hnf⟩ : ∃ nf, nf = nfR rs vs := ⟨_, rfl⟩
    have HNF := Lib.hid hnf
    rw [← hnf] at HPI
    clear hnf
    go_enter Tryd.func38, Tryd.ntmps38
    go_wp2_with fail
    refine HPI.out.mono ?_
    rintro e w1 ⟨g, A5, c5, rfl, hg, x, hrd, hb⟩
    have HB1 := Lib.hid (HB.out.trans (hb.mono HB.out.size))
    have HOA := Lib.hid (order_any g m c5 A5 _ _ w1 x hm24)
    have HX := Lib.hid x
    clear x hg hrd hb
    go_wp2_with fail
    refine HOA.out.mono ?_
    rintro e w2 ⟨rfl, hb2⟩
    have HMA := Lib.hid (masksOf_any (some ⟨g, 25, none⟩) m 24 _ w2 (((HX.out.next hb2).rdh m hm24)) (by omega))
    have HB2 := Lib.hid (HB1.out.trans (hb2.mono HB1.out.size))
    clear hb2
    go_wp2_with fail
    refine HMA.out.mono ?_
    rintro e w3 ⟨A6, c6, rfl, ho6, hb6⟩
    go_wp2_with fail
    go_ret2
    have e9 : ordR rs vs = (List.range m).map (upW (RDep rs) nf m) := by unfold ordR; rw [HVL.out, ← HNF.out]; rfl
    rw [e9]
    exact LsPost.of_ans (ans_yes ho6.len (ho6.mono HB2.out.size) (HB2.out.trans (hb6.mono HB2.out.size)))
  · rw [show ordAns L xs us = _ from wAns_code _ L xs us hc]
    have HPI := Lib.hid (positionsIn_no L A n c xs A1 m d us _ hh hwf hL1 hL2 hn hh2 hwf2 hm hT1 hc)
    obtain ⟨C, hC⟩ : ∃ C, C = wCode L xs us := ⟨_, rfl⟩
    rw [← hC] at hc HPI ⊢
    have hq1 : (C != 0) = true := by simpa using hc
    have hq2 : (C == 0) = false := by simpa using hc
    clear hC hc
    go_enter Tryd.func38, Tryd.ntmps38
    go_wp2_with fail
    refine HPI.out.mono ?_
    rintro e w1 ⟨rfl, hb⟩
    go_wp2_with fail
    go_ret2
    exact LsPost.of_ans (ans_no C (HB.out.trans (hb.mono HB.out.size)))
set_option maxHeartbeats 3200000 in
theorem specOrderOf (L : Int) (A : Option Addr) (n c : Nat) (xs : List Int) (A1 : Option Addr) (m d : Nat) (us : List Int) (w : World) (h : Rd w A n xs) (hwf : Wf xs) (hL1 : -9223372036854775808 ≤ L) (hL2 : L ≤ 9223372036854775807) (hn : n ≤ maxLen) (h2 : Rd w A1 m us) (hwf2 : Wf us) (hm : m ≤ maxLen) :
    Calls Tryd.prog 37 #[.agg #[.int .i64 L, .slice A n c], .slice A1 m d] w (LsPost w (ordAns L xs us).1.length (ordAns L xs us).1 (ordAns L xs us).2) := by
  have HB := Lib.hid (below1 w (.cells #[.int .i64 L, .slice A n c] 28))
  have x0 := box_new 28 w L A n c
  have hh := h.below HB.out
  have hh2 := h2.below HB.out
  by_cases hc : wCode L xs us = 0
  · obtain ⟨ha, hu⟩ := wCode_zero hc
    obtain ⟨rs, rfl, rfl, h8, hr, hrel, hl, hd, _⟩ := alphB_nats L xs n h.1 ha
    obtain ⟨vs, rfl, hv24, hvn⟩ := wordB_nats n us hu
    have hm1 : vs.length = m := by have := h2.1; rw [ints_len] at this; exact this
    have hm24 : m ≤ 24 := by omega
    rw [show ordAns (n : Int) (ints rs) (ints vs) = _ from wAns_yes _ (n : Int) rs vs ha hu]
    have HPI := Lib.hid (l04Code_yes A n c rs A1 m d vs _ hh h8 hr hl hh2 hm24 hvn hc)
    have HRL := Lib.hid hl
    have HVL := Lib.hid hm1
    have HVN := Lib.hid hvn
    have HDEP := Lib.hid ((depB_iff rs n hl hr).1 hd)
    clear ha hu hl hm1 hd hr hrel hc hvn hwf hwf2 h h2
    obtain ⟨nf, hnf⟩ : ∃ nf, nf = nfR rs vs := ⟨_, rfl⟩
    have HNF := Lib.hid hnf
    rw [← hnf] at HPI
    clear hnf
    go_enter Tryd.func37, Tryd.ntmps37
    go_wp2_with fail
    refine HPI.out.mono ?_
    rintro e w1 ⟨A5, c5, A6, c6, rfl, ho5, ho6, hb⟩
    go_wp2_with fail
    go_ret2
    have e9 : ordR rs vs = ordM (RDep rs) nf m := by unfold ordR; rw [HVL.out, ← HNF.out]
    rw [e9]
    exact LsPost.of_ans (ans_yes ho6.len (ho6.mono HB.out.size) (HB.out.trans (hb.mono HB.out.size)))
  · rw [show ordAns L xs us = _ from wAns_code _ L xs us hc]
    have HPI := Lib.hid (l04Code_no L A n c xs A1 m d us _ hh hn hh2 hm hc)
    obtain ⟨C, hC⟩ : ∃ C, C = wCode L xs us := ⟨_, rfl⟩
    rw [← hC] at hc HPI ⊢
    have hq1 : (C != 0) = true := by simpa using hc
    have hq2 : (C == 0) = false := by simpa using hc
    clear hC hc
    go_enter Tryd.func37, Tryd.ntmps37
    go_wp2_with fail
    refine HPI.out.mono ?_
    rintro e w1 ⟨rfl, hb⟩
    go_wp2_with fail
    go_ret2
    exact LsPost.of_ans (ans_no C (HB.out.trans (hb.mono HB.out.size)))
end Go.Proofs.YtpcgjldcdjlenaaDoor
