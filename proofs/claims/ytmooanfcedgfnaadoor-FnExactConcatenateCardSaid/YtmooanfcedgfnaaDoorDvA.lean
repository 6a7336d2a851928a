/-
  AreIndependent, IsPrefix: both sides.
-/
import Derived.Test.YtmooanfcedgfnaaDoorDv1
namespace Go.Proofs.YtmooanfcedgfnaaDoor
open Go Go.RowKit
set_option linter.unusedVariables false
set_option maxRecDepth 100000

/-- Answers of an alphabet and two words. -/
def dB (f : List Nat → List Nat → List Nat → Bool) (L : Int) (xs us ts : List Int) : Bool × Int := if wCode2 L xs us ts = 0 then (f (xs.map Int.toNat) (us.map Int.toNat) (ts.map Int.toNat), 0) else (false, wCode2 L xs us ts)
theorem dB_no (f : List Nat → List Nat → List Nat → Bool) (L : Int) (xs us ts : List Int) (h : alphB L xs = false) : dB f L xs us ts = (false, 1) := by
  have e := wCode2_no L xs us ts h
  unfold dB; rw [e]; rfl
theorem dB_bad (f : List Nat → List Nat → List Nat → Bool) (L : Int) (xs us ts : List Int) (h : alphB L xs = true) (h2 : (wordB L us && wordB L ts) = false) : dB f L xs us ts = (false, 2) := by
  have e := wCode2_bad L xs us ts h h2
  unfold dB; rw [e]; rfl
theorem dB_yes (f : List Nat → List Nat → List Nat → Bool) (L : Int) (rs us ts : List Nat) (h : alphB L (ints rs) = true) (h2 : (wordB L (ints us) && wordB L (ints ts)) = true) : dB f L (ints rs) (ints us) (ints ts) = (f rs us ts, 0) := by
  have e := wCode2_yes L (ints rs) (ints us) (ints ts) h h2
  unfold dB; rw [if_pos e, ints_toNat, ints_toNat, ints_toNat]
def dL (f : List Nat → List Nat → List Nat → List Nat × Int) (L : Int) (xs us ts : List Int) : List Int × Int := if wCode2 L xs us ts = 0 then (ints (f (xs.map Int.toNat) (us.map Int.toNat) (ts.map Int.toNat)).1, (f (xs.map Int.toNat) (us.map Int.toNat) (ts.map Int.toNat)).2) else ([], wCode2 L xs us ts)
theorem dL_no (f : List Nat → List Nat → List Nat → List Nat × Int) (L : Int) (xs us ts : List Int) (h : alphB L xs = false) : dL f L xs us ts = ([], 1) := by
  have e := wCode2_no L xs us ts h
  unfold dL; rw [e]; rfl
theorem dL_bad (f : List Nat → List Nat → List Nat → List Nat × Int) (L : Int) (xs us ts : List Int) (h : alphB L xs = true) (h2 : (wordB L us && wordB L ts) = false) : dL f L xs us ts = ([], 2) := by
  have e := wCode2_bad L xs us ts h h2
  unfold dL; rw [e]; rfl
theorem dL_yes (f : List Nat → List Nat → List Nat → List Nat × Int) (L : Int) (rs us ts : List Nat) (h : alphB L (ints rs) = true) (h2 : (wordB L (ints us) && wordB L (ints ts)) = true) : dL f L (ints rs) (ints us) (ints ts) = (ints (f rs us ts).1, (f rs us ts).2) := by
  have e := wCode2_yes L (ints rs) (ints us) (ints ts) h h2
  unfold dL; rw [if_pos e, ints_toNat, ints_toNat, ints_toNat]
theorem dL_small (f : List Nat → List Nat → List Nat → List Nat × Int) (b : Nat) (hf : ∀ rs us ts, us.length ≤ 24 → ts.length ≤ 24 → (f rs us ts).1.length ≤ b) (L : Int) (xs us ts : List Int) : (dL f L xs us ts).1.length ≤ b := by
  unfold dL
  by_cases h : wCode2 L xs us ts = 0
  · rw [if_pos h, ints_len]
    have h2 : (wordB L us && wordB L ts) = true := by
      unfold wCode2 at h
      split at h
      · split at h
        · assumption
        · cases h
      · cases h
    rw [Bool.and_eq_true] at h2
    unfold wordB at h2
    rw [Bool.and_eq_true, decide_eq_true_eq, Bool.and_eq_true, decide_eq_true_eq] at h2
    exact hf _ _ _ (by rw [List.length_map]; exact h2.1.1) (by rw [List.length_map]; exact h2.2.1)
  · rw [if_neg h]; exact Nat.zero_le _
def aiF (rs us ts : List Nat) : Bool := indM (RDep rs) us ts
def ipF (rs us ts : List Nat) : Bool := (cutM (RDep rs) us ts).isSome
set_option maxHeartbeats 3200000 in
theorem implAreIndependent (L : Int) (A : Option Addr) (n c : Nat) (xs : List Int) (A1 : Option Addr) (m d : Nat) (us : List Int) (B1 : Option Addr) (q f : Nat) (ts : List Int) (w : World) (h : Rd w A n xs) (hwf : Wf xs) (hL1 : -9223372036854775808 ≤ L) (hL2 : L ≤ 9223372036854775807) (hn : n ≤ maxLen) (h2 : Rd w A1 m us) (hwf2 : Wf us) (hm : m ≤ maxLen) (h3 : Rd w B1 q ts) (hwf3 : Wf ts) (hq : q ≤ maxLen) (hcm : m ≤ d) (hcq : q ≤ f) (hT : Tab w) :
    Calls Tryd.prog 32 #[.agg #[.int .i64 L, .slice A n c], .slice A1 m d, .slice B1 q f] w (fun e w' => e = .returned (.tuple #[.bool (dB aiF L xs us ts).1, .int .i64 (dB aiF L xs us ts).2]) ∧ Below w.heap.size w w') := by
  have hn2 : n ≤ 9223372036854775807 := by unfold maxLen at hn; omega
  have hn1 := h.1
  have hm1 := h2.1
  have hq1 := h3.1
  have HB := Lib.hid (below2 w (.cells #[.int .i64 L, .slice A n c] 28) (.cells #[.slice A1 m d, .slice B1 q f] 22))
  have hh := h.below HB.out
  have ht := rdT_box2 w (.cells #[.int .i64 L, .slice A n c] 28) A1 B1 m d q f us ts 22 h2 hm h3 hq
  have hh2 := h2.below HB.out
  have hh3 := h3.below HB.out
  have hT1 := hT.below HB.out
  cases ha : alphB L xs
  · rw [show dB aiF L xs us ts = _ from dB_no aiF L xs us ts ha]
    have HA := Lib.hid ha
    clear ha ht hn1
    go_enter Tryd.func32, Tryd.ntmps32
    go_wp2_with fail
    refine (dependenceWith_no L _ _ _ _ _ _ xs [] _ hh hwf hL1 hL2 hn2 HA.out hT1).mono ?_
    rintro e w1 ⟨rfl, hb⟩
    go_wp2_with fail
    go_ret2
    exact ⟨rfl, HB.out.trans (hb.mono HB.out.size)⟩
  · cases hu : (wordB L us && wordB L ts)
    · rw [show dB aiF L xs us ts = _ from dB_bad aiF L xs us ts ha hu]
      obtain ⟨rs, rfl, rfl, h8, hr, hrel, hl, hd, _⟩ := alphB_nats L xs n hn1 ha
      have HU := Lib.hid hu
      clear ha hu
      go_enter Tryd.func32, Tryd.ntmps32
      go_wp2_with fail
      refine (dependenceWith_any _ _ _ _ _ _ rs _ _ hh hwf h8 hr hrel hd ht (by omega) hT1).mono ?_
      rw [okT_pair, HU.out]
      rintro e w1 (⟨hok, _⟩ | ⟨hok, rfl, hb⟩)
      · cases hok
      go_wp2_with fail
      go_ret2
      exact ⟨rfl, HB.out.trans (hb.mono HB.out.size)⟩
    · obtain ⟨rs, rfl, rfl, h8, hr, hrel, hl, hd, _⟩ := alphB_nats L xs n hn1 ha
      have hu' := hu
      rw [Bool.and_eq_true] at hu'
      obtain ⟨vs, rfl, hv24, hvn⟩ := wordB_nats n us hu'.1
      obtain ⟨ys, rfl, hy24, hyn⟩ := wordB_nats n ts hu'.2
      rw [show dB aiF (n : Int) (ints rs) (ints vs) (ints ys) = _ from dB_yes aiF (n : Int) rs vs ys ha hu]
      have HU := Lib.hid hu
      have HDEP := Lib.hid ((depB_iff rs n hl hr).1 hd)
      rw [ints_len] at hm1 hq1
      have hm24 : m ≤ 24 := by omega
      have hq24 : q ≤ 24 := by omega
      have HLU := Lib.hid hm1
      have HLQ := Lib.hid hq1
      have HLR := Lib.hid hl
      have HR := Lib.hid hr
      have HVM := Lib.hid hvn
      have HYM := Lib.hid hyn
      have HSY : Hid (∀ a b, RDep rs a b = RDep rs b a) := Lib.hid (rdep_sym rs n hl hr HDEP.out)
      have HRE : Hid (∀ a, a < n → RDep rs a a = true) := Lib.hid fun a ha9 => HDEP.out.1 a (by rw [HLR.out]; exact ha9)
      have HR63 : Hid (∀ i, rs.getD i 0 < 9223372036854775808) := Lib.hid fun i => lt63 (by omega) (hr i)
      clear ha hu hu' hl hm1 hq1
      go_enter Tryd.func32, Tryd.ntmps32
      go_wp2_with fail
      refine (dependenceWith_any _ _ _ _ _ _ rs _ _ hh hwf h8 hr hrel hd ht (by omega) hT1).mono ?_
      rw [okT_pair, HU.out]
      rintro e w1 (⟨hok, A2, c2, rfl, ho, hb⟩ | ⟨hok, _⟩)
      rotate_left
      · cases hok
      have HB1 := Lib.hid (HB.out.trans (hb.mono HB.out.size))
      have hr2 := hh2.below hb
      have hr3 := hh3.below hb
      have hrd := ho.rd
      have hT2 := hT1.below hb
      have h24 : n ≤ 24 := by omega
      clear ho hb hok ht hh hh2 hh3 hT1 hT h h2 h3 hr hvn hyn hd hrel
      have HAI := Lib.hid (areIndependent_any A2 A1 B1 n c2 m d q f rs vs ys w1 hrd h24 HR.out hr2 (by omega) HVM.out hr3 (by omega) HYM.out)
      go_wp2_with fail
      refine HAI.out.mono ?_
      rintro e w2 ⟨rfl, rfl⟩
      go_wp2_with fail
      go_ret2
      exact ⟨rfl, HB1.out⟩
set_option maxHeartbeats 1600000 in
theorem specAreIndependent (L : Int) (A : Option Addr) (n c : Nat) (xs : List Int) (A1 : Option Addr) (m d : Nat) (us : List Int) (B1 : Option Addr) (q f : Nat) (ts : List Int) (w : World) (h : Rd w A n xs) (hwf : Wf xs) (hL1 : -9223372036854775808 ≤ L) (hL2 : L ≤ 9223372036854775807) (hn : n ≤ maxLen) (h2 : Rd w A1 m us) (hwf2 : Wf us) (hm : m ≤ maxLen) (h3 : Rd w B1 q ts) (hwf3 : Wf ts) (hq : q ≤ maxLen) :
    Calls Tryd.prog 31 #[.agg #[.int .i64 L, .slice A n c], .slice A1 m d, .slice B1 q f] w (fun e w' => e = .returned (.tuple #[.bool (dB aiF L xs us ts).1, .int .i64 (dB aiF L xs us ts).2]) ∧ Below w.heap.size w w') := by
  have hn2 : n ≤ 9223372036854775807 := by unfold maxLen at hn; omega
  have hm2 : m ≤ 9223372036854775807 := by unfold maxLen at hm; omega
  have hq2 : q ≤ 9223372036854775807 := by unfold maxLen at hq; omega
  have hn1 := h.1
  have hm1 := h2.1
  have hq1 := h3.1
  have HB := Lib.hid (below1 w (.cells #[.int .i64 L, .slice A n c] 28))
  have x0 := box_new 28 w L A n c
  have hh := h.below HB.out
  have hh2 := h2.below HB.out
  have hh3 := h3.below HB.out
  have HCD := Lib.hid (l03Code_any L A A1 B1 n c m d q f xs us ts _ hh hn2 hh2 hm2 hh3 hq2)
  cases ha : alphB L xs
  · rw [show dB aiF L xs us ts = _ from dB_no aiF L xs us ts ha]
    have HD := Lib.hid (wCode2_no L xs us ts ha)
    clear ha hn1
    go_enter Tryd.func31, Tryd.ntmps31
    go_wp2_with fail
    refine HCD.out.mono ?_
    rintro e w1 ⟨rfl, hb⟩
    rw [HD.out]
    go_wp2_with fail
    go_ret2
    exact ⟨rfl, HB.out.trans (hb.mono HB.out.size)⟩
  · cases hu : (wordB L us && wordB L ts)
    · rw [show dB aiF L xs us ts = _ from dB_bad aiF L xs us ts ha hu]
      have HD := Lib.hid (wCode2_bad L xs us ts ha hu)
      clear ha hu hn1
      go_enter Tryd.func31, Tryd.ntmps31
      go_wp2_with fail
      refine HCD.out.mono ?_
      rintro e w1 ⟨rfl, hb⟩
      rw [HD.out]
      go_wp2_with fail
      go_ret2
      exact ⟨rfl, HB.out.trans (hb.mono HB.out.size)⟩
    · have HD := Lib.hid (wCode2_yes L xs us ts ha hu)
      obtain ⟨rs, rfl, rfl, h8, hr, hrel, hl, hd, _⟩ := alphB_nats L xs n hn1 ha
      have hu' := hu
      rw [Bool.and_eq_true] at hu'
      obtain ⟨vs, rfl, hv24, hvn⟩ := wordB_nats n us hu'.1
      obtain ⟨ys, rfl, hy24, hyn⟩ := wordB_nats n ts hu'.2
      rw [show dB aiF (n : Int) (ints rs) (ints vs) (ints ys) = _ from dB_yes aiF (n : Int) rs vs ys ha hu]
      rw [ints_len] at hm1 hq1
      have HDEP := Lib.hid ((depB_iff rs n hl hr).1 hd)
      have HLU := Lib.hid hm1
      have HLQ := Lib.hid hq1
      have HLR := Lib.hid hl
      have HR := Lib.hid hr
      have HVM := Lib.hid hvn
      have HYM := Lib.hid hyn
      have HSY : Hid (∀ a b, RDep rs a b = RDep rs b a) := Lib.hid (rdep_sym rs n hl hr HDEP.out)
      have HRE : Hid (∀ a, a < n → RDep rs a a = true) := Lib.hid fun a ha9 => HDEP.out.1 a (by rw [HLR.out]; exact ha9)
      have HNR : Hid (∀ ws, nfM (RDep rs) n ws = nfR rs ws) := Lib.hid (fun ws => by unfold nfR; rw [HLR.out])
      have hm24 : m ≤ 24 := by omega
      have hq24 : q ≤ 24 := by omega
      have h24 : n ≤ 24 := by omega
      clear ha hu hu' hl hm1 hq1 hr hvn hyn hd hrel
      go_enter Tryd.func31, Tryd.ntmps31
      go_wp2_with fail
      refine HCD.out.mono ?_
      rintro e w1 ⟨rfl, hb⟩
      rw [HD.out]
      have y0 := (x0.next hb).c0
      have y1 := (x0.next hb).c1
      have x1 := x0.next hb
      have HB1 := Lib.hid (HB.out.trans (hb.mono HB.out.size))
      have hrd := hh.below hb
      have hr2 := hh2.below hb
      have hr3 := hh3.below hb
      clear hh hh2 hh3 h h2 h3 hb x0
      have HAI := Lib.hid (l05Independent_any A A1 B1 n c m d q f rs vs ys w1 hrd h24 HR.out hr2 (by omega) hr3 (by omega) HVM.out HYM.out)
      go_wp2_with fail
      refine HAI.out.mono ?_
      rintro e w2 ⟨rfl, hb2⟩
      go_wp2_with fail
      go_ret2
      exact ⟨rfl, HB1.out.trans (hb2.mono HB1.out.size)⟩
set_option maxHeartbeats 3200000 in
theorem implIsPrefix (L : Int) (A : Option Addr) (n c : Nat) (xs : List Int) (A1 : Option Addr) (m d : Nat) (us : List Int) (B1 : Option Addr) (q f : Nat) (ts : List Int) (w : World) (h : Rd w A n xs) (hwf : Wf xs) (hL1 : -9223372036854775808 ≤ L) (hL2 : L ≤ 9223372036854775807) (hn : n ≤ maxLen) (h2 : Rd w A1 m us) (hwf2 : Wf us) (hm : m ≤ maxLen) (h3 : Rd w B1 q ts) (hwf3 : Wf ts) (hq : q ≤ maxLen) (hcm : m ≤ d) (hcq : q ≤ f) (hT : Tab w) :
    Calls Tryd.prog 26 #[.agg #[.int .i64 L, .slice A n c], .slice A1 m d, .slice B1 q f] w (fun e w' => e = .returned (.tuple #[.bool (dB ipF L xs us ts).1, .int .i64 (dB ipF L xs us ts).2]) ∧ Below w.heap.size w w') := by
  have hn2 : n ≤ 9223372036854775807 := by unfold maxLen at hn; omega
  have hn1 := h.1
  have hm1 := h2.1
  have hq1 := h3.1
  have HB := Lib.hid (below2 w (.cells #[.int .i64 L, .slice A n c] 28) (.cells #[.slice A1 m d, .slice B1 q f] 22))
  have hh := h.below HB.out
  have ht := rdT_box2 w (.cells #[.int .i64 L, .slice A n c] 28) A1 B1 m d q f us ts 22 h2 hm h3 hq
  have hh2 := h2.below HB.out
  have hh3 := h3.below HB.out
  have hT1 := hT.below HB.out
  cases ha : alphB L xs
  · rw [show dB ipF L xs us ts = _ from dB_no ipF L xs us ts ha]
    have HA := Lib.hid ha
    clear ha ht hn1
    go_enter Tryd.func26, Tryd.ntmps26
    go_wp2_with fail
    refine (dependenceWith_no L _ _ _ _ _ _ xs [] _ hh hwf hL1 hL2 hn2 HA.out hT1).mono ?_
    rintro e w1 ⟨rfl, hb⟩
    go_wp2_with fail
    go_ret2
    exact ⟨rfl, HB.out.trans (hb.mono HB.out.size)⟩
  · cases hu : (wordB L us && wordB L ts)
    · rw [show dB ipF L xs us ts = _ from dB_bad ipF L xs us ts ha hu]
      obtain ⟨rs, rfl, rfl, h8, hr, hrel, hl, hd, _⟩ := alphB_nats L xs n hn1 ha
      have HU := Lib.hid hu
      clear ha hu
      go_enter Tryd.func26, Tryd.ntmps26
      go_wp2_with fail
      refine (dependenceWith_any _ _ _ _ _ _ rs _ _ hh hwf h8 hr hrel hd ht (by omega) hT1).mono ?_
      rw [okT_pair, HU.out]
      rintro e w1 (⟨hok, _⟩ | ⟨hok, rfl, hb⟩)
      · cases hok
      go_wp2_with fail
      go_ret2
      exact ⟨rfl, HB.out.trans (hb.mono HB.out.size)⟩
    · obtain ⟨rs, rfl, rfl, h8, hr, hrel, hl, hd, _⟩ := alphB_nats L xs n hn1 ha
      have hu' := hu
      rw [Bool.and_eq_true] at hu'
      obtain ⟨vs, rfl, hv24, hvn⟩ := wordB_nats n us hu'.1
      obtain ⟨ys, rfl, hy24, hyn⟩ := wordB_nats n ts hu'.2
      rw [show dB ipF (n : Int) (ints rs) (ints vs) (ints ys) = _ from dB_yes ipF (n : Int) rs vs ys ha hu]
      have HU := Lib.hid hu
      have HDEP := Lib.hid ((depB_iff rs n hl hr).1 hd)
      rw [ints_len] at hm1 hq1
      have hm24 : m ≤ 24 := by omega
      have hq24 : q ≤ 24 := by omega
      have HLU := Lib.hid hm1
      have HLQ := Lib.hid hq1
      have HLR := Lib.hid hl
      have HR := Lib.hid hr
      have HVM := Lib.hid hvn
      have HYM := Lib.hid hyn
      have HSY : Hid (∀ a b, RDep rs a b = RDep rs b a) := Lib.hid (rdep_sym rs n hl hr HDEP.out)
      have HRE : Hid (∀ a, a < n → RDep rs a a = true) := Lib.hid fun a ha9 => HDEP.out.1 a (by rw [HLR.out]; exact ha9)
      have HR63 : Hid (∀ i, rs.getD i 0 < 9223372036854775808) := Lib.hid fun i => lt63 (by omega) (hr i)
      clear ha hu hu' hl hm1 hq1
      go_enter Tryd.func26, Tryd.ntmps26
      go_wp2_with fail
      refine (dependenceWith_any _ _ _ _ _ _ rs _ _ hh hwf h8 hr hrel hd ht (by omega) hT1).mono ?_
      rw [okT_pair, HU.out]
      rintro e w1 (⟨hok, A2, c2, rfl, ho, hb⟩ | ⟨hok, _⟩)
      rotate_left
      · cases hok
      have HB1 := Lib.hid (HB.out.trans (hb.mono HB.out.size))
      have hr2 := hh2.below hb
      have hr3 := hh3.below hb
      have hrd := ho.rd
      have hT2 := hT1.below hb
      have h24 : n ≤ 24 := by omega
      clear ho hb hok ht hh hh2 hh3 hT1 hT h h2 h3 hr hvn hyn hd hrel
      have HQU := Lib.hid (quotient_any A2 A1 B1 n c2 m d q f rs vs ys w1 hrd h24 HR.out HSY.out HRE.out hr2 (by omega) HVM.out hr3 (by omega) hcq HYM.out)
      go_wp2_with fail
      refine HQU.out.mono ?_
      rintro e w2 ⟨A3, c3, rfl, hr4, hle4, hb2⟩
      go_wp2_with fail
      go_ret2
      exact ⟨rfl, HB1.out.trans (hb2.mono HB1.out.size)⟩
set_option maxHeartbeats 1600000 in
theorem specIsPrefix (L : Int) (A : Option Addr) (n c : Nat) (xs : List Int) (A1 : Option Addr) (m d : Nat) (us : List Int) (B1 : Option Addr) (q f : Nat) (ts : List Int) (w : World) (h : Rd w A n xs) (hwf : Wf xs) (hL1 : -9223372036854775808 ≤ L) (hL2 : L ≤ 9223372036854775807) (hn : n ≤ maxLen) (h2 : Rd w A1 m us) (hwf2 : Wf us) (hm : m ≤ maxLen) (h3 : Rd w B1 q ts) (hwf3 : Wf ts) (hq : q ≤ maxLen) :
    Calls Tryd.prog 25 #[.agg #[.int .i64 L, .slice A n c], .slice A1 m d, .slice B1 q f] w (fun e w' => e = .returned (.tuple #[.bool (dB ipF L xs us ts).1, .int .i64 (dB ipF L xs us ts).2]) ∧ Below w.heap.size w w') := by
  have hn2 : n ≤ 9223372036854775807 := by unfold maxLen at hn; omega
  have hm2 : m ≤ 9223372036854775807 := by unfold maxLen at hm; omega
  have hq2 : q ≤ 9223372036854775807 := by unfold maxLen at hq; omega
  have hn1 := h.1
  have hm1 := h2.1
  have hq1 := h3.1
  have HB := Lib.hid (below1 w (.cells #[.int .i64 L, .slice A n c] 28))
  have x0 := box_new 28 w L A n c
  have hh := h.below HB.out
  have hh2 := h2.below HB.out
  have hh3 := h3.below HB.out
  have HCD := Lib.hid (l03Code_any L A A1 B1 n c m d q f xs us ts _ hh hn2 hh2 hm2 hh3 hq2)
  cases ha : alphB L xs
  · rw [show dB ipF L xs us ts = _ from dB_no ipF L xs us ts ha]
    have HD := Lib.hid (wCode2_no L xs us ts ha)
    clear ha hn1
    go_enter Tryd.func25, Tryd.ntmps25
    go_wp2_with fail
    refine HCD.out.mono ?_
    rintro e w1 ⟨rfl, hb⟩
    rw [HD.out]
    go_wp2_with fail
    go_ret2
    exact ⟨rfl, HB.out.trans (hb.mono HB.out.size)⟩
  · cases hu : (wordB L us && wordB L ts)
    · rw [show dB ipF L xs us ts = _ from dB_bad ipF L xs us ts ha hu]
      have HD := Lib.hid (wCode2_bad L xs us ts ha hu)
      clear ha hu hn1
      go_enter Tryd.func25, Tryd.ntmps25
      go_wp2_with fail
      refine HCD.out.mono ?_
      rintro e w1 ⟨rfl, hb⟩
      rw [HD.out]
      go_wp2_with fail
      go_ret2
      exact ⟨rfl, HB.out.trans (hb.mono HB.out.size)⟩
    · have HD := Lib.hid (wCode2_yes L xs us ts ha hu)
      obtain ⟨rs, rfl, rfl, h8, hr, hrel, hl, hd, _⟩ := alphB_nats L xs n hn1 ha
      have hu' := hu
      rw [Bool.and_eq_true] at hu'
      obtain ⟨vs, rfl, hv24, hvn⟩ := wordB_nats n us hu'.1
      obtain ⟨ys, rfl, hy24, hyn⟩ := wordB_nats n ts hu'.2
      rw [show dB ipF (n : Int) (ints rs) (ints vs) (ints ys) = _ from dB_yes ipF (n : Int) rs vs ys ha hu]
      rw [ints_len] at hm1 hq1
      have HDEP := Lib.hid ((depB_iff rs n hl hr).1 hd)
      have HLU := Lib.hid hm1
      have HLQ := Lib.hid hq1
      have HLR := Lib.hid hl
      have HR := Lib.hid hr
      have HVM := Lib.hid hvn
      have HYM := Lib.hid hyn
      have HSY : Hid (∀ a b, RDep rs a b = RDep rs b a) := Lib.hid (rdep_sym rs n hl hr HDEP.out)
      have HRE : Hid (∀ a, a < n → RDep rs a a = true) := Lib.hid fun a ha9 => HDEP.out.1 a (by rw [HLR.out]; exact ha9)
      have HNR : Hid (∀ ws, nfM (RDep rs) n ws = nfR rs ws) := Lib.hid (fun ws => by unfold nfR; rw [HLR.out])
      have hm24 : m ≤ 24 := by omega
      have hq24 : q ≤ 24 := by omega
      have h24 : n ≤ 24 := by omega
      clear ha hu hu' hl hm1 hq1 hr hvn hyn hd hrel
      go_enter Tryd.func25, Tryd.ntmps25
      go_wp2_with fail
      refine HCD.out.mono ?_
      rintro e w1 ⟨rfl, hb⟩
      rw [HD.out]
      have y0 := (x0.next hb).c0
      have y1 := (x0.next hb).c1
      have x1 := x0.next hb
      have HB1 := Lib.hid (HB.out.trans (hb.mono HB.out.size))
      have hrd := hh.below hb
      have hr2 := hh2.below hb
      have hr3 := hh3.below hb
      clear hh hh2 hh3 h h2 h3 hb x0
      have HCU := Lib.hid (l05Cut_any A A1 B1 n c m d q f rs vs ys w1 hrd h24 HR.out hr2 (by omega) hr3 (by omega) HVM.out HYM.out)
      go_wp2_with fail
      refine HCU.out.mono ?_
      rintro e w2 ⟨A3, N3, c3, rfl, hr4, hN4, hle4, hb2⟩
      go_wp2_with fail
      go_ret2
      exact ⟨rfl, HB1.out.trans (hb2.mono HB1.out.size)⟩
end Go.Proofs.YtmooanfcedgfnaaDoor
