/-
  LeftQuotient: both sides.
-/
import Derived.Test.YtmooanfcedgfnaaDoorDvA
namespace Go.Proofs.YtmooanfcedgfnaaDoor
open Go Go.RowKit
set_option linter.unusedVariables false
set_option maxRecDepth 100000

def lqF (rs us ts : List Nat) : List Nat × Int := match cutM (RDep rs) us ts with | none => ([], 4) | some r => (nfR rs r, 0)
theorem lqF_no (rs us ts : List Nat) (h : cutM (RDep rs) us ts = none) : lqF rs us ts = ([], 4) := by unfold lqF; rw [h]
theorem lqF_yes (rs us ts r : List Nat) (h : cutM (RDep rs) us ts = some r) : lqF rs us ts = (nfR rs r, 0) := by unfold lqF; rw [h]
theorem lqF_small (L : Int) (xs us ts : List Int) : (dL lqF L xs us ts).1.length ≤ 24 := dL_small lqF 24 (fun rs us ts _ h => by
  cases hc : cutM (RDep rs) us ts with
  | none => rw [lqF_no _ _ _ hc]; exact Nat.zero_le _
  | some r => rw [lqF_yes _ _ _ _ hc]; exact Nat.le_trans (nfR_len rs r) (Nat.le_trans (cut_len _ _ _ _ hc).1 h)) L xs us ts
theorem cmp_left (D : Nat → Nat → Bool) (us vs r : List Nat) (h : cutM D us vs = some r) : (cmpM D us vs).2.2 = r := by unfold cmpM; rw [cmp_cut D us [] vs r h]
set_option maxHeartbeats 3200000 in
theorem implLeftQuotient (L : Int) (A : Option Addr) (n c : Nat) (xs : List Int) (A1 : Option Addr) (m d : Nat) (us : List Int) (B1 : Option Addr) (q f : Nat) (ts : List Int) (w : World) (h : Rd w A n xs) (hwf : Wf xs) (hL1 : -9223372036854775808 ≤ L) (hL2 : L ≤ 9223372036854775807) (hn : n ≤ maxLen) (h2 : Rd w A1 m us) (hwf2 : Wf us) (hm : m ≤ maxLen) (h3 : Rd w B1 q ts) (hwf3 : Wf ts) (hq : q ≤ maxLen) (hcm : m ≤ d) (hcq : q ≤ f) (hT : Tab w) :
    Calls Tryd.prog 28 #[.agg #[.int .i64 L, .slice A n c], .slice A1 m d, .slice B1 q f] w (LsPost w (dL lqF L xs us ts).1.length (dL lqF L xs us ts).1 (dL lqF L xs us ts).2) := by
  have hn2 : n ≤ 9223372036854775807 := by unfold maxLen at hn; omega
  have hn1 := h.1
  have hm1 := h2.1
  have hq1 := h3.1
  have HB := Lib.hid (below2 w (.cells #[.int .i64 L, .slice A n c] 28) (.cells #[.slice A1 m d, .slice B1 q f] 22))
  have hh := h.below HB.out
  have ht := rdT_box2 w (.cells #[.int .i64 L, .slice A n c] 28) A1 B1 m d q f us ts 22 h2 hm h3 hq
  have hh2 := h2.below HB.out
  have hh3 := h3.below HB.out
  have hT1 := hT.below HB.out
  cases ha : alphB L xs
  · rw [show dL lqF L xs us ts = _ from dL_no lqF L xs us ts ha]
    have HA := Lib.hid ha
    clear ha ht hn1
    go_enter Tryd.func28, Tryd.ntmps28
    go_wp2_with fail
    refine (dependenceWith_no L _ _ _ _ _ _ xs [] _ hh hwf hL1 hL2 hn2 HA.out hT1).mono ?_
    rintro e w1 ⟨rfl, hb⟩
    go_wp2_with fail
    go_ret2
    exact LsPost.of_ans (ans_no 1 (HB.out.trans (hb.mono HB.out.size)))
  · cases hu : (wordB L us && wordB L ts)
    · rw [show dL lqF L xs us ts = _ from dL_bad lqF L xs us ts ha hu]
      obtain ⟨rs, rfl, rfl, h8, hr, hrel, hl, hd, _⟩ := alphB_nats L xs n hn1 ha
      have HU := Lib.hid hu
      clear ha hu
      go_enter Tryd.func28, Tryd.ntmps28
      go_wp2_with fail
      refine (dependenceWith_any _ _ _ _ _ _ rs _ _ hh hwf h8 hr hrel hd ht (by omega) hT1).mono ?_
      rw [okT_pair, HU.out]
      rintro e w1 (⟨hok, _⟩ | ⟨hok, rfl, hb⟩)
      · cases hok
      go_wp2_with fail
      go_ret2
      exact LsPost.of_ans (ans_no 2 (HB.out.trans (hb.mono HB.out.size)))
    · obtain ⟨rs, rfl, rfl, h8, hr, hrel, hl, hd, _⟩ := alphB_nats L xs n hn1 ha
      have hu' := hu
      rw [Bool.and_eq_true] at hu'
      obtain ⟨vs, rfl, hv24, hvn⟩ := wordB_nats n us hu'.1
      obtain ⟨ys, rfl, hy24, hyn⟩ := wordB_nats n ts hu'.2
      rw [show dL lqF (n : Int) (ints rs) (ints vs) (ints ys) = _ from dL_yes lqF (n : Int) rs vs ys ha hu]
      have HU := Lib.hid hu
      have HDEP := Lib.hid ((depB_iff rs n hl hr).1 hd)
      rw [ints_len] at hm1 hq1
      have hm24 : m ≤ 24 := by omega
      have hq24 : q ≤ 24 := by omega
      have HLU := Lib.hid hm1
      have HLQ := Lib.hid hq1
      have HLR := Lib.hid hl
      have HR := Lib.hid hr
      have HVM := Lib.hid hvn
      have HYM := Lib.hid hyn
      have HSY : Hid (∀ a b, RDep rs a b = RDep rs b a) := Lib.hid (rdep_sym rs n hl hr HDEP.out)
      have HRE : Hid (∀ a, a < n → RDep rs a a = true) := Lib.hid fun a ha9 => HDEP.out.1 a (by rw [HLR.out]; exact ha9)
      have HR63 : Hid (∀ i, rs.getD i 0 < 9223372036854775808) := Lib.hid fun i => lt63 (by omega) (hr i)
      clear ha hu hu' hl hm1 hq1
      go_enter Tryd.func28, Tryd.ntmps28
      go_wp2_with fail
      refine (dependenceWith_any _ _ _ _ _ _ rs _ _ hh hwf h8 hr hrel hd ht (by omega) hT1).mono ?_
      rw [okT_pair, HU.out]
      rintro e w1 (⟨hok, A2, c2, rfl, ho, hb⟩ | ⟨hok, _⟩)
      rotate_left
      · cases hok
      have HB1 := Lib.hid (HB.out.trans (hb.mono HB.out.size))
      have hr2 := hh2.below hb
      have hr3 := hh3.below hb
      have hrd := ho.rd
      have hT2 := hT1.below hb
      have h24 : n ≤ 24 := by omega
      clear ho hb hok ht hh hh2 hh3 hT1 hT h h2 h3 hr hvn hyn hd hrel
      have HQU := Lib.hid (quotient_any A2 A1 B1 n c2 m d q f rs vs ys w1 hrd h24 HR.out HSY.out HRE.out hr2 (by omega) HVM.out hr3 (by omega) hcq HYM.out)
      cases hcut : cutM (RDep rs) vs ys
      · have HA := Lib.hid (lqF_no rs vs ys hcut)
        have HI : Hid ((cutM (RDep rs) vs ys).isSome = false) := Lib.hid (by rw [hcut]; rfl)
        clear hcut
        go_wp2_with fail
        refine HQU.out.mono ?_
        rintro e w2 ⟨A3, c3, rfl, hr4, hle4, hb2⟩
        rw [HI.out]
        go_wp2_with fail
        go_ret2
        rw [HA.out]
        exact LsPost.of_ans (ans_no 4 (HB1.out.trans (hb2.mono HB1.out.size)))
      · rename_i r
        have HA := Lib.hid (lqF_yes rs vs ys r hcut)
        have HI : Hid ((cutM (RDep rs) vs ys).isSome = true) := Lib.hid (by rw [hcut]; rfl)
        have HC := Lib.hid (cmp_left (RDep rs) vs ys r hcut)
        have hcl := cut_len _ _ _ _ hcut
        obtain ⟨k, hk⟩ : ∃ k, k = r.length := ⟨_, rfl⟩
        have HLK : Hid (r.length = k) := Lib.hid hk.symm
        have hk24 : k ≤ 24 := by have := HLQ.out; omega
        have HRK : Hid (∀ p, p < k → r.getD p 0 < n) := Lib.hid fun p hp => in_getD (fun x hx => HYM.out x (hcl.2 x hx)) p (by rw [HLK.out]; exact hp)
        clear hcut hcl
        go_wp2_with fail
        refine HQU.out.mono ?_
        rintro e w2 ⟨A3, c3, rfl, hr4, hle4, hb2⟩
        rw [HC.out] at hr4
        rw [HI.out, HC.out, HLK.out]
        rw [HLK.out] at hr4
        have HB2 := Lib.hid (HB1.out.trans (hb2.mono HB1.out.size))
        have hrd3 := hrd.below hb2
        have hT3 := hT2.below hb2
        clear hk
        have HT1 := Lib.hid (traceOf_any A2 A3 n k c2 c3 rs r _ hrd3 hr4 hk24 h24 HRK.out HR63.out hT3)
        go_wp2_with fail
        refine HT1.out.mono ?_
        rintro e v1 ⟨E1, g1, F1, k1, es1, rfl, hp, hs, h1, h2, -, -, ha1⟩
        have HN1 := Lib.hid (nf_from E1 F1 g1 k1 k n rs r es1 v1 HLR.out HR.out HDEP.out HLK.out HRK.out hk24 hp hs h1 h2 ((hT3).below ha1))
        clear hp hs h1 h2
        go_wp2_with fail
        refine HN1.out.mono ?_
        rintro e u1 ⟨G1, l1, rfl, ho1, hb1⟩
        go_wp2_with fail
        go_ret2
        rw [HA.out]
        have HZ := HB2.out.trans (ha1.mono HB2.out.size)
        exact LsPost.of_ans (ans_yes ho1.len (ho1.mono HZ.size) (HZ.trans (hb1.mono HZ.size)))
set_option maxHeartbeats 1600000 in
theorem specLeftQuotient (L : Int) (A : Option Addr) (n c : Nat) (xs : List Int) (A1 : Option Addr) (m d : Nat) (us : List Int) (B1 : Option Addr) (q f : Nat) (ts : List Int) (w : World) (h : Rd w A n xs) (hwf : Wf xs) (hL1 : -9223372036854775808 ≤ L) (hL2 : L ≤ 9223372036854775807) (hn : n ≤ maxLen) (h2 : Rd w A1 m us) (hwf2 : Wf us) (hm : m ≤ maxLen) (h3 : Rd w B1 q ts) (hwf3 : Wf ts) (hq : q ≤ maxLen) :
    Calls Tryd.prog 27 #[.agg #[.int .i64 L, .slice A n c], .slice A1 m d, .slice B1 q f] w (LsPost w (dL lqF L xs us ts).1.length (dL lqF L xs us ts).1 (dL lqF L xs us ts).2) := by
  have hn2 : n ≤ 9223372036854775807 := by unfold maxLen at hn; omega
  have hm2 : m ≤ 9223372036854775807 := by unfold maxLen at hm; omega
  have hq2 : q ≤ 9223372036854775807 := by unfold maxLen at hq; omega
  have hn1 := h.1
  have hm1 := h2.1
  have hq1 := h3.1
  have HB := Lib.hid (below1 w (.cells #[.int .i64 L, .slice A n c] 28))
  have x0 := box_new 28 w L A n c
  have hh := h.below HB.out
  have hh2 := h2.below HB.out
  have hh3 := h3.below HB.out
  have HCD := Lib.hid (l03Code_any L A A1 B1 n c m d q f xs us ts _ hh hn2 hh2 hm2 hh3 hq2)
  cases ha : alphB L xs
  · rw [show dL lqF L xs us ts = _ from dL_no lqF L xs us ts ha]
    have HD := Lib.hid (wCode2_no L xs us ts ha)
    clear ha hn1
    go_enter Tryd.func27, Tryd.ntmps27
    go_wp2_with fail
    refine HCD.out.mono ?_
    rintro e w1 ⟨rfl, hb⟩
    rw [HD.out]
    go_wp2_with fail
    go_ret2
    exact LsPost.of_ans (ans_no 1 (HB.out.trans (hb.mono HB.out.size)))
  · cases hu : (wordB L us && wordB L ts)
    · rw [show dL lqF L xs us ts = _ from dL_bad lqF L xs us ts ha hu]
      have HD := Lib.hid (wCode2_bad L xs us ts ha hu)
      clear ha hu hn1
      go_enter Tryd.func27, Tryd.ntmps27
      go_wp2_with fail
      refine HCD.out.mono ?_
      rintro e w1 ⟨rfl, hb⟩
      rw [HD.out]
      go_wp2_with fail
      go_ret2
      exact LsPost.of_ans (ans_no 2 (HB.out.trans (hb.mono HB.out.size)))
    · have HD := Lib.hid (wCode2_yes L xs us ts ha hu)
      obtain ⟨rs, rfl, rfl, h8, hr, hrel, hl, hd, _⟩ := alphB_nats L xs n hn1 ha
      have hu' := hu
      rw [Bool.and_eq_true] at hu'
      obtain ⟨vs, rfl, hv24, hvn⟩ := wordB_nats n us hu'.1
      obtain ⟨ys, rfl, hy24, hyn⟩ := wordB_nats n ts hu'.2
      rw [show dL lqF (n : Int) (ints rs) (ints vs) (ints ys) = _ from dL_yes lqF (n : Int) rs vs ys ha hu]
      rw [ints_len] at hm1 hq1
      have HDEP := Lib.hid ((depB_iff rs n hl hr).1 hd)
      have HLU := Lib.hid hm1
      have HLQ := Lib.hid hq1
      have HLR := Lib.hid hl
      have HR := Lib.hid hr
      have HVM := Lib.hid hvn
      have HYM := Lib.hid hyn
      have HSY : Hid (∀ a b, RDep rs a b = RDep rs b a) := Lib.hid (rdep_sym rs n hl hr HDEP.out)
      have HRE : Hid (∀ a, a < n → RDep rs a a = true) := Lib.hid fun a ha9 => HDEP.out.1 a (by rw [HLR.out]; exact ha9)
      have HNR : Hid (∀ ws, nfM (RDep rs) n ws = nfR rs ws) := Lib.hid (fun ws => by unfold nfR; rw [HLR.out])
      have hm24 : m ≤ 24 := by omega
      have hq24 : q ≤ 24 := by omega
      have h24 : n ≤ 24 := by omega
      clear ha hu hu' hl hm1 hq1 hr hvn hyn hd hrel
      go_enter Tryd.func27, Tryd.ntmps27
      go_wp2_with fail
      refine HCD.out.mono ?_
      rintro e w1 ⟨rfl, hb⟩
      rw [HD.out]
      have y0 := (x0.next hb).c0
      have y1 := (x0.next hb).c1
      have x1 := x0.next hb
      have HB1 := Lib.hid (HB.out.trans (hb.mono HB.out.size))
      have hrd := hh.below hb
      have hr2 := hh2.below hb
      have hr3 := hh3.below hb
      clear hh hh2 hh3 h h2 h3 hb x0
      have HCU := Lib.hid (l05Cut_any A A1 B1 n c m d q f rs vs ys w1 hrd h24 HR.out hr2 (by omega) hr3 (by omega) HVM.out HYM.out)
      cases hcut : cutM (RDep rs) vs ys
      · have HA := Lib.hid (lqF_no rs vs ys hcut)
        have HI : Hid ((cutM (RDep rs) vs ys).isSome = false) := Lib.hid (by rw [hcut]; rfl)
        clear hcut
        go_wp2_with fail
        refine HCU.out.mono ?_
        rintro e w2 ⟨A3, N3, c3, rfl, hr4, hN4, hle4, hb2⟩
        rw [HI.out]
        go_wp2_with fail
        go_ret2
        rw [HA.out]
        exact LsPost.of_ans (ans_no 4 (HB1.out.trans (hb2.mono HB1.out.size)))
      · rename_i r
        have HA := Lib.hid (lqF_yes rs vs ys r hcut)
        have HI : Hid ((cutM (RDep rs) vs ys).isSome = true) := Lib.hid (by rw [hcut]; rfl)
        have HC : Hid ((cutM (RDep rs) vs ys).getD [] = r) := Lib.hid (by rw [hcut]; rfl)
        have hcl := cut_len _ _ _ _ hcut
        have hk24 : r.length ≤ 24 := by have := HLQ.out; omega
        have HRK : Hid (∀ p, p < r.length → r.getD p 0 < n) := Lib.hid fun p hp => in_getD (fun x hx => HYM.out x (hcl.2 x hx)) p hp
        clear hcut hcl
        go_wp2_with fail
        refine HCU.out.mono ?_
        rintro e w2 ⟨A3, N3, c3, rfl, hr4, hN4, hle4, hb2⟩
        rw [HC.out] at hr4 hN4
        rw [HI.out]
        have HB2 := Lib.hid (HB1.out.trans (hb2.mono HB1.out.size))
        have HL3 := Lib.hid (l03Normal_any A A3 n c N3 c3 rs r w2 (hrd.below hb2) h24 HR.out hr4 (by omega) (by rw [hN4]; exact HRK.out))
        rw [HNR.out] at HL3
        have z0 := (x1.next hb2).c0
        have z1 := (x1.next hb2).c1
        clear y0 y1 hN4
        go_wp2_with fail
        refine HL3.out.mono ?_
        rintro e w3 ⟨A4, c4, rfl, ho4, hb4⟩
        go_wp2_with fail
        go_ret2
        rw [HA.out]
        exact LsPost.of_ans (ans_yes ho4.len (ho4.mono HB2.out.size) (HB2.out.trans (hb4.mono HB2.out.size)))
end Go.Proofs.YtmooanfcedgfnaaDoor
