/-
  AreSameTrace: both sides.
-/
import Derived.Test.YtokikilfmglhhaaDoorSame
import Derived.Test.YtokikilfmglhhaaDoorEq64
import Derived.Test.YtokikilfmglhhaaDoorNfA
namespace Go.Proofs.YtokikilfmglhhaaDoor
open Go Go.RowKit
set_option linter.unusedVariables false
set_option maxRecDepth 100000

def stAns (L : Int) (xs us ts : List Int) : Bool × Int := if wCode2 L xs us ts = 0 then (decide (nfR (xs.map Int.toNat) (us.map Int.toNat) = nfR (xs.map Int.toNat) (ts.map Int.toNat)), 0) else (false, wCode2 L xs us ts)
theorem stAns_no (L : Int) (xs us ts : List Int) (h : alphB L xs = false) : stAns L xs us ts = (false, 1) := by
  have e : wCode2 L xs us ts = 1 := by unfold wCode2; rw [if_neg (by rw [h]; decide)]
  unfold stAns; rw [e]; rfl
theorem stAns_bad (L : Int) (xs us ts : List Int) (h : alphB L xs = true) (h2 : (wordB L us && wordB L ts) = false) : stAns L xs us ts = (false, 2) := by
  have e : wCode2 L xs us ts = 2 := by unfold wCode2; rw [if_pos h, if_neg (by rw [h2]; decide)]
  unfold stAns; rw [e]; rfl
theorem stAns_yes (L : Int) (rs us ts : List Nat) (h : alphB L (ints rs) = true) (h2 : (wordB L (ints us) && wordB L (ints ts)) = true) : stAns L (ints rs) (ints us) (ints ts) = (decide (nfR rs us = nfR rs ts), 0) := by
  have e : wCode2 L (ints rs) (ints us) (ints ts) = 0 := by unfold wCode2; rw [if_pos h, if_pos h2]
  unfold stAns; rw [if_pos e, ints_toNat, ints_toNat, ints_toNat]
theorem wCode2_no (L : Int) (xs us ts : List Int) (h : alphB L xs = false) : wCode2 L xs us ts = 1 := by unfold wCode2; rw [if_neg (by rw [h]; decide)]
theorem wCode2_bad (L : Int) (xs us ts : List Int) (h : alphB L xs = true) (h2 : (wordB L us && wordB L ts) = false) : wCode2 L xs us ts = 2 := by unfold wCode2; rw [if_pos h, if_neg (by rw [h2]; decide)]
theorem wCode2_yes (L : Int) (xs us ts : List Int) (h : alphB L xs = true) (h2 : (wordB L us && wordB L ts) = true) : wCode2 L xs us ts = 0 := by unfold wCode2; rw [if_pos h, if_pos h2]
theorem okT_pair (L : Int) (t1 t2 : Option Addr × Nat × Nat × List Int) : okT L [t1, t2] = (wordB L t1.2.2.2 && wordB L t2.2.2.2) := by simp [okT]
set_option maxHeartbeats 3200000 in
theorem implAreSameTrace (L : Int) (A : Option Addr) (n c : Nat) (xs : List Int) (A1 : Option Addr) (m d : Nat) (us : List Int) (B1 : Option Addr) (q f : Nat) (ts : List Int) (w : World) (h : Rd w A n xs) (hwf : Wf xs) (hL1 : -9223372036854775808 ≤ L) (hL2 : L ≤ 9223372036854775807) (hn : n ≤ maxLen) (h2 : Rd w A1 m us) (hwf2 : Wf us) (hm : m ≤ maxLen) (h3 : Rd w B1 q ts) (hwf3 : Wf ts) (hq : q ≤ maxLen) (hT : Tab w) :
    Calls Tryd.prog 14 #[.agg #[.int .i64 L, .slice A n c], .slice A1 m d, .slice B1 q f] w (fun e w' => e = .returned (.tuple #[.bool (stAns L xs us ts).1, .int .i64 (stAns L xs us ts).2]) ∧ Below w.heap.size w w') := by
  have hn2 : n ≤ 9223372036854775807 := by unfold maxLen at hn; omega
  have hn1 := h.1
  have hm1 := h2.1
  have hq1 := h3.1
  have HB := Lib.hid (below2 w (.cells #[.int .i64 L, .slice A n c] 24) (.cells #[.slice A1 m d, .slice B1 q f] 22))
  have hh := h.below HB.out
  have ht := rdT_box2 w (.cells #[.int .i64 L, .slice A n c] 24) A1 B1 m d q f us ts 22 h2 hm h3 hq
  have hh2 := h2.below HB.out
  have hh3 := h3.below HB.out
  have hT1 := hT.below HB.out
  cases ha : alphB L xs
  · rw [show stAns L xs us ts = _ from stAns_no L xs us ts ha]
    have HA := Lib.hid ha
    clear ha ht hn1
    go_enter Tryd.func14, Tryd.ntmps14
    go_wp2_with fail
    refine (dependenceWith_no L _ _ _ _ _ _ xs [] _ hh hwf hL1 hL2 hn2 HA.out hT1).mono ?_
    rintro e w1 ⟨rfl, hb⟩
    go_wp2_with fail
    go_ret2
    exact ⟨rfl, HB.out.trans (hb.mono HB.out.size)⟩
  · cases hu : (wordB L us && wordB L ts)
    · rw [show stAns L xs us ts = _ from stAns_bad L xs us ts ha hu]
      obtain ⟨rs, rfl, rfl, h8, hr, hrel, hl, hd, _⟩ := alphB_nats L xs n hn1 ha
      have HU := Lib.hid hu
      clear ha hu
      go_enter Tryd.func14, Tryd.ntmps14
      go_wp2_with fail
      refine (dependenceWith_any _ _ _ _ _ _ rs _ _ hh hwf h8 hr hrel hd ht (by omega) hT1).mono ?_
      rw [okT_pair, HU.out]
      rintro e w1 (⟨hok, _⟩ | ⟨hok, rfl, hb⟩)
      · cases hok
      go_wp2_with fail
      go_ret2
      exact ⟨rfl, HB.out.trans (hb.mono HB.out.size)⟩
    · obtain ⟨rs, rfl, rfl, h8, hr, hrel, hl, hd, _⟩ := alphB_nats L xs n hn1 ha
      have hu' := hu
      rw [Bool.and_eq_true] at hu'
      obtain ⟨vs, rfl, hv24, hvn⟩ := wordB_nats n us hu'.1
      obtain ⟨ys, rfl, hy24, hyn⟩ := wordB_nats n ts hu'.2
      rw [show stAns (n : Int) (ints rs) (ints vs) (ints ys) = _ from stAns_yes (n : Int) rs vs ys ha hu]
      have HU := Lib.hid hu
      have HDEP := Lib.hid ((depB_iff rs n hl hr).1 hd)
      rw [ints_len] at hm1 hq1
      have hm24 : m ≤ 24 := by omega
      have hq24 : q ≤ 24 := by omega
      have HLU := Lib.hid hm1
      have HLQ := Lib.hid hq1
      have HLR := Lib.hid hl
      have HVR : Hid (∀ p, p < m → vs.getD p 0 < n) := Lib.hid fun p hp => in_getD hvn p (by rw [HLU.out]; exact hp)
      have HYR : Hid (∀ p, p < q → ys.getD p 0 < n) := Lib.hid fun p hp => in_getD hyn p (by rw [HLQ.out]; exact hp)
      have HR63 : Hid (∀ i, rs.getD i 0 < 9223372036854775808) := Lib.hid fun i => lt63 (by omega) (hr i)
      clear ha hu hu' hl hm1 hq1
      go_enter Tryd.func14, Tryd.ntmps14
      go_wp2_with fail
      refine (dependenceWith_any _ _ _ _ _ _ rs _ _ hh hwf h8 hr hrel hd ht (by omega) hT1).mono ?_
      rw [okT_pair, HU.out]
      rintro e w1 (⟨hok, A2, c2, rfl, ho, hb⟩ | ⟨hok, _⟩)
      rotate_left
      · cases hok
      have HB1 := Lib.hid (HB.out.trans (hb.mono HB.out.size))
      have hr2 := hh2.below hb
      have hr3 := hh3.below hb
      have hrd := ho.rd
      have hT2 := hT1.below hb
      have HT1 := Lib.hid (traceOf_any A2 A1 n m c2 d rs vs _ hrd hr2 hm24 (by omega) HVR.out HR63.out hT2)
      clear ho hb hok ht hh hh2 hh3 hT1 hT h h2 h3
      go_wp2_with fail
      refine HT1.out.mono ?_
      rintro e w5 ⟨A5, c5, B5, d5, es, rfl, hp, hs, h1, h2, -, -, hb5⟩
      have HN1 := Lib.hid (nf_from A5 B5 c5 d5 m n rs vs es w5 HLR.out hr HDEP.out HLU.out HVR.out hm24 hp hs h1 h2 (hT2.below hb5))
      clear hp hs h1 h2
      go_wp2_with fail
      refine HN1.out.mono ?_
      rintro e w6 ⟨A6, c6, rfl, ho6, hb6⟩
      have hb16 := hb5.trans (hb6.mono hb5.size)
      have HT2 := Lib.hid (traceOf_any A2 B1 n q c2 f rs ys _ (hrd.below hb16) (hr3.below hb16) hq24 (by omega) HYR.out HR63.out (hT2.below hb16))
      clear HT1 HN1
      go_wp2_with fail
      refine HT2.out.mono ?_
      rintro e w7 ⟨A7, c7, B7, d7, es7, rfl, hp, hs, h1, h2, -, -, hb7⟩
      have hb17 := hb16.trans (hb7.mono hb16.size)
      have HN2 := Lib.hid (nf_from A7 B7 c7 d7 q n rs ys es7 w7 HLR.out hr HDEP.out HLQ.out HYR.out hq24 hp hs h1 h2 (hT2.below hb17))
      clear hp hs h1 h2 HT2
      go_wp2_with fail
      refine HN2.out.mono ?_
      rintro e w8 ⟨A8, c8, rfl, ho8, hb8⟩
      have hb18 := hb17.trans (hb8.mono hb17.size)
      have HEQ := Lib.hid (equal64_two A6 A8 m q c6 c8 (ints (nfR rs vs)) (ints (nfR rs ys)) w8 ((ho6.rd.below hb7).below hb8) ho8.rd (by omega))
      clear HN2
      go_wp2_with fail
      refine HEQ.out.mono ?_
      rintro e w9 ⟨rfl, hb9⟩
      have HE : Hid (decide (ints (nfR rs vs) = ints (nfR rs ys)) = decide (nfR rs vs = nfR rs ys)) := Lib.hid (by rw [decide_eq_decide]; exact ints_inj _ _)
      rw [HE.out]
      have hb19 := hb18.trans (hb9.mono hb18.size)
      go_wp2_with fail
      go_ret2
      exact ⟨rfl, HB1.out.trans (hb19.mono HB1.out.size)⟩
set_option maxHeartbeats 1600000 in
theorem specAreSameTrace (L : Int) (A : Option Addr) (n c : Nat) (xs : List Int) (A1 : Option Addr) (m d : Nat) (us : List Int) (B1 : Option Addr) (q f : Nat) (ts : List Int) (w : World) (h : Rd w A n xs) (hwf : Wf xs) (hL1 : -9223372036854775808 ≤ L) (hL2 : L ≤ 9223372036854775807) (hn : n ≤ maxLen) (h2 : Rd w A1 m us) (hwf2 : Wf us) (hm : m ≤ maxLen) (h3 : Rd w B1 q ts) (hwf3 : Wf ts) (hq : q ≤ maxLen) :
    Calls Tryd.prog 15 #[.agg #[.int .i64 L, .slice A n c], .slice A1 m d, .slice B1 q f] w (fun e w' => e = .returned (.tuple #[.bool (stAns L xs us ts).1, .int .i64 (stAns L xs us ts).2]) ∧ Below w.heap.size w w') := by
  have hn2 : n ≤ 9223372036854775807 := by unfold maxLen at hn; omega
  have hm2 : m ≤ 9223372036854775807 := by unfold maxLen at hm; omega
  have hq2 : q ≤ 9223372036854775807 := by unfold maxLen at hq; omega
  have hn1 := h.1
  have hm1 := h2.1
  have hq1 := h3.1
  have HB := Lib.hid (below1 w (.cells #[.int .i64 L, .slice A n c] 24))
  have x0 := box_new 24 w L A n c
  have hh := h.below HB.out
  have hh2 := h2.below HB.out
  have hh3 := h3.below HB.out
  have HCD := Lib.hid (l03Code_any L A A1 B1 n c m d q f xs us ts _ hh hn2 hh2 hm2 hh3 hq2)
  cases ha : alphB L xs
  · rw [show stAns L xs us ts = _ from stAns_no L xs us ts ha]
    have HD := Lib.hid (wCode2_no L xs us ts ha)
    clear ha hn1
    go_enter Tryd.func15, Tryd.ntmps15
    go_wp2_with fail
    refine HCD.out.mono ?_
    rintro e w1 ⟨rfl, hb⟩
    rw [HD.out]
    go_wp2_with fail
    go_ret2
    exact ⟨rfl, HB.out.trans (hb.mono HB.out.size)⟩
  · cases hu : (wordB L us && wordB L ts)
    · rw [show stAns L xs us ts = _ from stAns_bad L xs us ts ha hu]
      have HD := Lib.hid (wCode2_bad L xs us ts ha hu)
      clear ha hu hn1
      go_enter Tryd.func15, Tryd.ntmps15
      go_wp2_with fail
      refine HCD.out.mono ?_
      rintro e w1 ⟨rfl, hb⟩
      rw [HD.out]
      go_wp2_with fail
      go_ret2
      exact ⟨rfl, HB.out.trans (hb.mono HB.out.size)⟩
    · have HD := Lib.hid (wCode2_yes L xs us ts ha hu)
      obtain ⟨rs, rfl, rfl, h8, hr, hrel, hl, hd, _⟩ := alphB_nats L xs n hn1 ha
      have hu' := hu
      rw [Bool.and_eq_true] at hu'
      obtain ⟨vs, rfl, hv24, hvn⟩ := wordB_nats n us hu'.1
      obtain ⟨ys, rfl, hy24, hyn⟩ := wordB_nats n ts hu'.2
      rw [show stAns (n : Int) (ints rs) (ints vs) (ints ys) = _ from stAns_yes (n : Int) rs vs ys ha hu]
      rw [ints_len] at hm1 hq1
      have hdep := (depB_iff rs n hl hr).1 hd
      have HSN : Hid (takeB (RDep rs) vs ys = decide (nfR rs vs = nfR rs ys)) := Lib.hid (by
        unfold nfR
        rw [hl]
        exact same_nf (rdep_sym rs n hl hr hdep) (fun a ha9 => hdep.1 a (by omega)) vs ys hvn hyn)
      have hm24 : m ≤ 24 := by omega
      have hq24 : q ≤ 24 := by omega
      clear ha hu hu' hl hm1 hq1 hdep
      go_enter Tryd.func15, Tryd.ntmps15
      go_wp2_with fail
      refine HCD.out.mono ?_
      rintro e w1 ⟨rfl, hb⟩
      rw [HD.out]
      have y0 := (x0.next hb).c0
      have y1 := (x0.next hb).c1
      have HB1 := Lib.hid (HB.out.trans (hb.mono HB.out.size))
      have HSA := Lib.hid (l03Same_any A A1 B1 n c m d q f rs vs ys w1 (hh.below hb) (by omega) hr (hh2.below hb) hm24 (hh3.below hb) hq24 hvn hyn)
      go_wp2_with fail
      refine HSA.out.mono ?_
      rintro e w2 ⟨rfl, hb2⟩
      rw [HSN.out]
      go_wp2_with fail
      go_ret2
      exact ⟨rfl, HB1.out.trans (hb2.mono HB1.out.size)⟩
end Go.Proofs.YtokikilfmglhhaaDoor
