/-
  WidthOf, CountPrefixes: both sides.
-/
import Derived.Test.YtfbdbipopfjjnaaDoorWcR
import Derived.Test.YtfbdbipopfjjnaaDoorWInt
namespace Go.Proofs.YtfbdbipopfjjnaaDoor
open Go Go.RowKit
set_option linter.unusedVariables false
set_option maxRecDepth 100000

def wdN (rs us : List Nat) : Nat := widS (RDep rs) (nfR rs us) us.length (2 ^ us.length - 1)
def cpN (rs us : List Nat) : Nat := cntS (RDep rs) (nfR rs us) us.length (2 ^ us.length - 1)
def wdR (rs us : List Nat) : Int := ((wdN rs us : Nat) : Int)
def cpR (rs us : List Nat) : Int := ((cpN rs us : Nat) : Int)
def wdAns (L : Int) (xs us : List Int) : Int × Int := wInt wdR L xs us
def cpAns (L : Int) (xs us : List Int) : Int × Int := wInt cpR L xs us
set_option maxHeartbeats 3200000 in
theorem implWidthOf (L : Int) (A : Option Addr) (n c : Nat) (xs : List Int) (A1 : Option Addr) (m d : Nat) (us : List Int) (w : World) (h : Rd w A n xs) (hwf : Wf xs) (hL1 : -9223372036854775808 ≤ L) (hL2 : L ≤ 9223372036854775807) (hn : n ≤ maxLen) (h2 : Rd w A1 m us) (hwf2 : Wf us) (hm : m ≤ maxLen) (hT : Tab w) :
    Calls Tryd.prog 39 #[.agg #[.int .i64 L, .slice A n c], .slice A1 m d] w (fun e w' => e = .returned (.tuple #[.int .i64 (wdAns L xs us).1, .int .i64 (wdAns L xs us).2]) ∧ Below w.heap.size w w') := by
  have HB := Lib.hid (below1 w (.cells #[.int .i64 L, .slice A n c] 28))
  have x0 := box_new 28 w L A n c
  have hh := h.below HB.out
  have hh2 := h2.below HB.out
  have hT1 := hT.below HB.out
  by_cases hc : wCode L xs us = 0
  · obtain ⟨ha, hu⟩ := wCode_zero hc
    obtain ⟨rs, rfl, rfl, h8, hr, hrel, hl, hd, _⟩ := alphB_nats L xs n h.1 ha
    obtain ⟨vs, rfl, hv24, hvn⟩ := wordB_nats n us hu
    have hm1 : vs.length = m := by have := h2.1; rw [ints_len] at this; exact this
    have hm24 : m ≤ 24 := by omega
    rw [show wdAns (n : Int) (ints rs) (ints vs) = _ from wInt_yes _ (n : Int) rs vs ha hu]
    obtain ⟨V, hV⟩ : ∃ V, V = wdN rs vs := ⟨_, rfl⟩
    rw [show wdR rs vs = (V : Int) from by rw [hV]; rfl]
    have HV := Lib.hid hV
    clear hV
    have HPI := Lib.hid (positionsIn_yes A n c rs A1 m d vs _ hh hwf h8 hr hrel hl hd hh2 hm24 hvn hu hT1)
    have HRL := Lib.hid hl
    have HVL := Lib.hid hm1
    have HVN := Lib.hid hvn
    have HDEP := Lib.hid ((depB_iff rs n hl hr).1 hd)
    clear ha hu hl hm1 hd hr hrel hc hvn hwf hwf2 hh hh2 x0 h h2
    obtain ⟨nf, hnf⟩ : ∃ nf, nf = nfR rs vs := ⟨_, rfl⟩
    have HNF := Lib.hid hnf
    rw [← hnf] at HPI
    clear hnf
    go_enter Tryd.func39, Tryd.ntmps39
    go_wp2_with fail
    refine HPI.out.mono ?_
    rintro e w1 ⟨g, A5, c5, rfl, hg, x, hrd, hb⟩
    have HB1 := Lib.hid (HB.out.trans (hb.mono HB.out.size))
    have HE : Hid (widS (RDep rs) nf m (2 ^ m - 1) = V) := Lib.hid (by rw [HV.out]; unfold wdN; rw [← HNF.out, HVL.out])
    have HOA := Lib.hid (oall_any g m c5 A5 (fun _ => 0) (fun _ => 0) w1 x.c0 hm24)
    have HWI := Lib.hid (width_any g m c5 A5 (RDep rs) nf hm24 (2 ^ m - 1) (by have := p2_pos m; omega) w1 x (hT1.below hb))
    rw [HE.out] at HWI
    obtain ⟨F, hF⟩ : ∃ F, F = 2 ^ m - 1 := ⟨_, rfl⟩
    rw [← hF] at HOA HWI
    clear hF x hrd hg hb
    go_wp2_with fail
    refine HOA.out.mono ?_
    rintro e w' ⟨rfl, rfl⟩
    go_wp2_with fail
    refine HWI.out.mono ?_
    rintro e w2 ⟨rfl, hb2⟩
    go_wp2_with fail
    go_ret2
    exact ⟨rfl, HB1.out.trans (hb2.mono HB1.out.size)⟩
  · rw [show wdAns L xs us = _ from wInt_code _ L xs us hc]
    have HPI := Lib.hid (positionsIn_no L A n c xs A1 m d us _ hh hwf hL1 hL2 hn hh2 hwf2 hm hT1 hc)
    obtain ⟨C, hC⟩ : ∃ C, C = wCode L xs us := ⟨_, rfl⟩
    rw [← hC] at hc HPI ⊢
    have hq1 : (C != 0) = true := by simpa using hc
    have hq2 : (C == 0) = false := by simpa using hc
    clear hC hc
    go_enter Tryd.func39, Tryd.ntmps39
    go_wp2_with fail
    refine HPI.out.mono ?_
    rintro e w1 ⟨rfl, hb⟩
    go_wp2_with fail
    go_ret2
    exact ⟨rfl, HB.out.trans (hb.mono HB.out.size)⟩
set_option maxHeartbeats 3200000 in
theorem specWidthOf (L : Int) (A : Option Addr) (n c : Nat) (xs : List Int) (A1 : Option Addr) (m d : Nat) (us : List Int) (w : World) (h : Rd w A n xs) (hwf : Wf xs) (hL1 : -9223372036854775808 ≤ L) (hL2 : L ≤ 9223372036854775807) (hn : n ≤ maxLen) (h2 : Rd w A1 m us) (hwf2 : Wf us) (hm : m ≤ maxLen) :
    Calls Tryd.prog 38 #[.agg #[.int .i64 L, .slice A n c], .slice A1 m d] w (fun e w' => e = .returned (.tuple #[.int .i64 (wdAns L xs us).1, .int .i64 (wdAns L xs us).2]) ∧ Below w.heap.size w w') := by
  have HB := Lib.hid (below1 w (.cells #[.int .i64 L, .slice A n c] 28))
  have x0 := box_new 28 w L A n c
  have hh := h.below HB.out
  have hh2 := h2.below HB.out
  by_cases hc : wCode L xs us = 0
  · obtain ⟨ha, hu⟩ := wCode_zero hc
    obtain ⟨rs, rfl, rfl, h8, hr, hrel, hl, hd, _⟩ := alphB_nats L xs n h.1 ha
    obtain ⟨vs, rfl, hv24, hvn⟩ := wordB_nats n us hu
    have hm1 : vs.length = m := by have := h2.1; rw [ints_len] at this; exact this
    have hm24 : m ≤ 24 := by omega
    rw [show wdAns (n : Int) (ints rs) (ints vs) = _ from wInt_yes _ (n : Int) rs vs ha hu]
    obtain ⟨V, hV⟩ : ∃ V, V = wdN rs vs := ⟨_, rfl⟩
    rw [show wdR rs vs = (V : Int) from by rw [hV]; rfl]
    have HV := Lib.hid hV
    clear hV
    have HPI := Lib.hid (l04Code_yes A n c rs A1 m d vs _ hh h8 hr hl hh2 hm24 hvn hc)
    have HRL := Lib.hid hl
    have HVL := Lib.hid hm1
    have HVN := Lib.hid hvn
    have HDEP := Lib.hid ((depB_iff rs n hl hr).1 hd)
    clear ha hu hl hm1 hd hr hrel hc hvn hwf hwf2 h h2
    obtain ⟨nf, hnf⟩ : ∃ nf, nf = nfR rs vs := ⟨_, rfl⟩
    have HNF := Lib.hid hnf
    rw [← hnf] at HPI
    clear hnf
    go_enter Tryd.func38, Tryd.ntmps38
    go_wp2_with fail
    refine HPI.out.mono ?_
    rintro e w1 ⟨A5, c5, A6, c6, rfl, ho5, ho6, hb⟩
    have HB1 := Lib.hid (HB.out.trans (hb.mono HB.out.size))
    have HE : Hid (widS (RDep rs) nf m (2 ^ m - 1) = V) := Lib.hid (by rw [HV.out]; unfold wdN; rw [← HNF.out, HVL.out])
    have HWI : Hid (Calls Tryd.prog 82 #[.slice A6 m c6, .int .i64 0, .int .i64 0] w1 fun e w' => e = .returned (.int .i64 (V : Int)) ∧ w1 = w') := Lib.hid (by have h9 := l04Width_any A6 m c6 (RDep rs) nf w1 ho6.rd hm24 m 0 (Nat.le_refl _) (p2_pos m); rw [Nat.sub_self, widD_full, HE.out] at h9; exact h9)
    clear ho5 ho6 hb
    go_wp2_with fail
    refine HWI.out.mono ?_
    rintro e w' ⟨rfl, rfl⟩
    go_wp2_with fail
    go_ret2
    exact ⟨rfl, HB1.out⟩
  · rw [show wdAns L xs us = _ from wInt_code _ L xs us hc]
    have HPI := Lib.hid (l04Code_no L A n c xs A1 m d us _ hh hn hh2 hm hc)
    obtain ⟨C, hC⟩ : ∃ C, C = wCode L xs us := ⟨_, rfl⟩
    rw [← hC] at hc HPI ⊢
    have hq1 : (C != 0) = true := by simpa using hc
    have hq2 : (C == 0) = false := by simpa using hc
    clear hC hc
    go_enter Tryd.func38, Tryd.ntmps38
    go_wp2_with fail
    refine HPI.out.mono ?_
    rintro e w1 ⟨rfl, hb⟩
    go_wp2_with fail
    go_ret2
    exact ⟨rfl, HB.out.trans (hb.mono HB.out.size)⟩
set_option maxHeartbeats 3200000 in
theorem implCountPrefixes (L : Int) (A : Option Addr) (n c : Nat) (xs : List Int) (A1 : Option Addr) (m d : Nat) (us : List Int) (w : World) (h : Rd w A n xs) (hwf : Wf xs) (hL1 : -9223372036854775808 ≤ L) (hL2 : L ≤ 9223372036854775807) (hn : n ≤ maxLen) (h2 : Rd w A1 m us) (hwf2 : Wf us) (hm : m ≤ maxLen) (hT : Tab w) :
    Calls Tryd.prog 41 #[.agg #[.int .i64 L, .slice A n c], .slice A1 m d] w (fun e w' => e = .returned (.tuple #[.int .i64 (cpAns L xs us).1, .int .i64 (cpAns L xs us).2]) ∧ Below w.heap.size w w') := by
  have HB := Lib.hid (below1 w (.cells #[.int .i64 L, .slice A n c] 28))
  have x0 := box_new 28 w L A n c
  have hh := h.below HB.out
  have hh2 := h2.below HB.out
  have hT1 := hT.below HB.out
  by_cases hc : wCode L xs us = 0
  · obtain ⟨ha, hu⟩ := wCode_zero hc
    obtain ⟨rs, rfl, rfl, h8, hr, hrel, hl, hd, _⟩ := alphB_nats L xs n h.1 ha
    obtain ⟨vs, rfl, hv24, hvn⟩ := wordB_nats n us hu
    have hm1 : vs.length = m := by have := h2.1; rw [ints_len] at this; exact this
    have hm24 : m ≤ 24 := by omega
    rw [show cpAns (n : Int) (ints rs) (ints vs) = _ from wInt_yes _ (n : Int) rs vs ha hu]
    obtain ⟨V, hV⟩ : ∃ V, V = cpN rs vs := ⟨_, rfl⟩
    rw [show cpR rs vs = (V : Int) from by rw [hV]; rfl]
    have HV := Lib.hid hV
    clear hV
    have HPI := Lib.hid (positionsIn_yes A n c rs A1 m d vs _ hh hwf h8 hr hrel hl hd hh2 hm24 hvn hu hT1)
    have HRL := Lib.hid hl
    have HVL := Lib.hid hm1
    have HVN := Lib.hid hvn
    have HDEP := Lib.hid ((depB_iff rs n hl hr).1 hd)
    clear ha hu hl hm1 hd hr hrel hc hvn hwf hwf2 hh hh2 x0 h h2
    obtain ⟨nf, hnf⟩ : ∃ nf, nf = nfR rs vs := ⟨_, rfl⟩
    have HNF := Lib.hid hnf
    rw [← hnf] at HPI
    clear hnf
    go_enter Tryd.func41, Tryd.ntmps41
    go_wp2_with fail
    refine HPI.out.mono ?_
    rintro e w1 ⟨g, A5, c5, rfl, hg, x, hrd, hb⟩
    have HB1 := Lib.hid (HB.out.trans (hb.mono HB.out.size))
    have HE : Hid (cntS (RDep rs) nf m (2 ^ m - 1) = V) := Lib.hid (by rw [HV.out]; unfold cpN; rw [← HNF.out, HVL.out])
    have HOA := Lib.hid (oall_any g m c5 A5 (fun _ => 0) (fun _ => 0) w1 x.c0 hm24)
    have HWI := Lib.hid (count_any g m c5 A5 (RDep rs) nf hm24 (2 ^ m - 1) (by have := p2_pos m; omega) w1 x (hT1.below hb))
    rw [HE.out] at HWI
    obtain ⟨F, hF⟩ : ∃ F, F = 2 ^ m - 1 := ⟨_, rfl⟩
    rw [← hF] at HOA HWI
    clear hF x hrd hg hb
    go_wp2_with fail
    refine HOA.out.mono ?_
    rintro e w' ⟨rfl, rfl⟩
    go_wp2_with fail
    refine HWI.out.mono ?_
    rintro e w2 ⟨rfl, q, rfl⟩
    go_wp2_with fail
    go_ret2
    exact ⟨rfl, HB1.out.trans ((below_drewN (Below.refl _ _) q).mono HB1.out.size)⟩
  · rw [show cpAns L xs us = _ from wInt_code _ L xs us hc]
    have HPI := Lib.hid (positionsIn_no L A n c xs A1 m d us _ hh hwf hL1 hL2 hn hh2 hwf2 hm hT1 hc)
    obtain ⟨C, hC⟩ : ∃ C, C = wCode L xs us := ⟨_, rfl⟩
    rw [← hC] at hc HPI ⊢
    have hq1 : (C != 0) = true := by simpa using hc
    have hq2 : (C == 0) = false := by simpa using hc
    clear hC hc
    go_enter Tryd.func41, Tryd.ntmps41
    go_wp2_with fail
    refine HPI.out.mono ?_
    rintro e w1 ⟨rfl, hb⟩
    go_wp2_with fail
    go_ret2
    exact ⟨rfl, HB.out.trans (hb.mono HB.out.size)⟩
set_option maxHeartbeats 3200000 in
theorem specCountPrefixes (L : Int) (A : Option Addr) (n c : Nat) (xs : List Int) (A1 : Option Addr) (m d : Nat) (us : List Int) (w : World) (h : Rd w A n xs) (hwf : Wf xs) (hL1 : -9223372036854775808 ≤ L) (hL2 : L ≤ 9223372036854775807) (hn : n ≤ maxLen) (h2 : Rd w A1 m us) (hwf2 : Wf us) (hm : m ≤ maxLen) :
    Calls Tryd.prog 40 #[.agg #[.int .i64 L, .slice A n c], .slice A1 m d] w (fun e w' => e = .returned (.tuple #[.int .i64 (cpAns L xs us).1, .int .i64 (cpAns L xs us).2]) ∧ Below w.heap.size w w') := by
  have HB := Lib.hid (below1 w (.cells #[.int .i64 L, .slice A n c] 28))
  have x0 := box_new 28 w L A n c
  have hh := h.below HB.out
  have hh2 := h2.below HB.out
  by_cases hc : wCode L xs us = 0
  · obtain ⟨ha, hu⟩ := wCode_zero hc
    obtain ⟨rs, rfl, rfl, h8, hr, hrel, hl, hd, _⟩ := alphB_nats L xs n h.1 ha
    obtain ⟨vs, rfl, hv24, hvn⟩ := wordB_nats n us hu
    have hm1 : vs.length = m := by have := h2.1; rw [ints_len] at this; exact this
    have hm24 : m ≤ 24 := by omega
    rw [show cpAns (n : Int) (ints rs) (ints vs) = _ from wInt_yes _ (n : Int) rs vs ha hu]
    obtain ⟨V, hV⟩ : ∃ V, V = cpN rs vs := ⟨_, rfl⟩
    rw [show cpR rs vs = (V : Int) from by rw [hV]; rfl]
    have HV := Lib.hid hV
    clear hV
    have HPI := Lib.hid (l04Code_yes A n c rs A1 m d vs _ hh h8 hr hl hh2 hm24 hvn hc)
    have HRL := Lib.hid hl
    have HVL := Lib.hid hm1
    have HVN := Lib.hid hvn
    have HDEP := Lib.hid ((depB_iff rs n hl hr).1 hd)
    clear ha hu hl hm1 hd hr hrel hc hvn hwf hwf2 h h2
    obtain ⟨nf, hnf⟩ : ∃ nf, nf = nfR rs vs := ⟨_, rfl⟩
    have HNF := Lib.hid hnf
    rw [← hnf] at HPI
    clear hnf
    go_enter Tryd.func40, Tryd.ntmps40
    go_wp2_with fail
    refine HPI.out.mono ?_
    rintro e w1 ⟨A5, c5, A6, c6, rfl, ho5, ho6, hb⟩
    have HB1 := Lib.hid (HB.out.trans (hb.mono HB.out.size))
    have HE : Hid (cntS (RDep rs) nf m (2 ^ m - 1) = V) := Lib.hid (by rw [HV.out]; unfold cpN; rw [← HNF.out, HVL.out])
    have HWI : Hid (Calls Tryd.prog 85 #[.slice A6 m c6, .int .i64 (m : Int), .int .i64 0, .int .i64 0] w1 fun e w' => e = .returned (.int .i64 (V : Int)) ∧ w1 = w') := Lib.hid (by have h9 := l04CountDown_any A6 m c6 (RDep rs) nf w1 ho6.rd hm24 m 0 0 (Nat.le_refl _) (by decide) (by decide) (fun j _ => Nat.zero_testBit j); rw [cntD_full, HE.out] at h9; exact h9)
    clear ho5 ho6 hb
    go_wp2_with fail
    refine HWI.out.mono ?_
    rintro e w' ⟨rfl, rfl⟩
    go_wp2_with fail
    go_ret2
    exact ⟨rfl, HB1.out⟩
  · rw [show cpAns L xs us = _ from wInt_code _ L xs us hc]
    have HPI := Lib.hid (l04Code_no L A n c xs A1 m d us _ hh hn hh2 hm hc)
    obtain ⟨C, hC⟩ : ∃ C, C = wCode L xs us := ⟨_, rfl⟩
    rw [← hC] at hc HPI ⊢
    have hq1 : (C != 0) = true := by simpa using hc
    have hq2 : (C == 0) = false := by simpa using hc
    clear hC hc
    go_enter Tryd.func40, Tryd.ntmps40
    go_wp2_with fail
    refine HPI.out.mono ?_
    rintro e w1 ⟨rfl, hb⟩
    go_wp2_with fail
    go_ret2
    exact ⟨rfl, HB.out.trans (hb.mono HB.out.size)⟩
end Go.Proofs.YtfbdbipopfjjnaaDoor
