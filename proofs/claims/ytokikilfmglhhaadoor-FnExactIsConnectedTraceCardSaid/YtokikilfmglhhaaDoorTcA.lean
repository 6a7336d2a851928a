/-
  TraceComponents, IsConnectedTrace: both sides.
-/
import Derived.Test.YtokikilfmglhhaaDoorTcP
import Derived.Test.YtokikilfmglhhaaDoorTcS
import Derived.Test.YtokikilfmglhhaaDoorPpA
namespace Go.Proofs.YtokikilfmglhhaaDoor
open Go Go.RowKit
set_option linter.unusedVariables false
set_option maxRecDepth 100000

/-- Answers of an alphabet and a word that are true or false. -/
def wBA (f : List Nat → List Nat → Bool) (L : Int) (xs us : List Int) : Bool × Int := if wCode L xs us = 0 then (f (xs.map Int.toNat) (us.map Int.toNat), 0) else (false, wCode L xs us)
theorem wBA_no (f : List Nat → List Nat → Bool) (L : Int) (xs us : List Int) (h : alphB L xs = false) : wBA f L xs us = (false, 1) := by
  have e : wCode L xs us = 1 := by unfold wCode; rw [if_neg (by rw [h]; decide)]
  unfold wBA; rw [e]; rfl
theorem wBA_bad (f : List Nat → List Nat → Bool) (L : Int) (xs us : List Int) (h : alphB L xs = true) (h2 : wordB L us = false) : wBA f L xs us = (false, 2) := by
  have e : wCode L xs us = 2 := by unfold wCode; rw [if_pos h, if_neg (by rw [h2]; decide)]
  unfold wBA; rw [e]; rfl
theorem wBA_yes (f : List Nat → List Nat → Bool) (L : Int) (rs us : List Nat) (h : alphB L (ints rs) = true) (h2 : wordB L (ints us) = true) : wBA f L (ints rs) (ints us) = (f rs us, 0) := by
  have e : wCode L (ints rs) (ints us) = 0 := by unfold wCode; rw [if_pos h, if_pos h2]
  unfold wBA; rw [if_pos e, ints_toNat, ints_toNat]
def tcR (rs us : List Nat) : List (List Int) := tcL rs us (prtL rs rs.length (ltM us) rs.length)
def icF (rs us : List Nat) : Bool := decide ((prtL rs rs.length (ltM us) rs.length).length = 1)
theorem tcL_sum (rs us : List Nat) : ∀ ps, sumL (tcL rs us ps) ≤ ps.length * us.length
  | [] => Nat.zero_le _
  | p :: ps => by
    show (ints (nfR rs (prjS us p))).length + sumL (tcL rs us ps) ≤ _
    have h1 := tcL_sum rs us ps
    have h2 := nfR_len rs (prjS us p)
    have h3 := prjS_len us p
    rw [ints_len, List.length_cons, Nat.succ_mul]
    omega
theorem tcL_len (rs us ps : List Nat) : (tcL rs us ps).length = ps.length := by unfold tcL; rw [List.length_map]
theorem tcAns_small (L : Int) (xs us : List Int) : (lssAns tcR L xs us).1.length ≤ 4608 ∧ sumL (lssAns tcR L xs us).1 ≤ 4608 := by
  refine lssAns_small tcR 4608 (fun rs us h1 h2 => ?_) L xs us
  have h3 := prtL_len rs rs.length (ltM us) rs.length
  have h4 := tcL_sum rs us (prtL rs rs.length (ltM us) rs.length)
  have h5 : (prtL rs rs.length (ltM us) rs.length).length * us.length ≤ 8 * 24 := Nat.mul_le_mul (by omega) h2
  unfold tcR
  rw [tcL_len]
  exact ⟨by omega, by omega⟩
set_option maxHeartbeats 3200000 in
theorem implTraceComponents (L : Int) (A : Option Addr) (n c : Nat) (xs : List Int) (A1 : Option Addr) (m d : Nat) (us : List Int) (w : World) (h : Rd w A n xs) (hwf : Wf xs) (hL1 : -9223372036854775808 ≤ L) (hL2 : L ≤ 9223372036854775807) (hn : n ≤ maxLen) (h2 : Rd w A1 m us) (hwf2 : Wf us) (hm : m ≤ maxLen) (hT : Tab w) :
    Calls Tryd.prog 46 #[.agg #[.int .i64 L, .slice A n c], .slice A1 m d] w (LssPost w (lssAns tcR L xs us).1.length (lssAns tcR L xs us).1 (lssAns tcR L xs us).2) := by
  have hn2 : n ≤ 9223372036854775807 := by unfold maxLen at hn; omega
  have hn1 := h.1
  have hm1 := h2.1
  have x0 := box_new 24 w L A n c
  have HB := Lib.hid (below2 w (.cells #[.int .i64 L, .slice A n c] 24) (.cells #[.slice A1 m d] 22))
  have hh := h.below HB.out
  have ht := rdT_box w (.cells #[.int .i64 L, .slice A n c] 24) A1 m d us 22 h2 hm
  have hh2 := h2.below HB.out
  have hT1 := hT.below HB.out
  have x1 := x0.next (below1 (w.alloc (.cells #[.int .i64 L, .slice A n c] 24)) (.cells #[.slice A1 m d] 22))
  cases ha : alphB L xs
  · rw [lssAns_no tcR L xs us ha]
    have HA := Lib.hid ha
    clear ha ht hn1
    go_enter Tryd.func46, Tryd.ntmps46
    go_wp2_with fail
    refine (dependenceWith_no L _ _ _ _ _ _ xs [] _ hh hwf hL1 hL2 hn2 HA.out hT1).mono ?_
    rintro e w1 ⟨rfl, hb⟩
    go_wp2_with fail
    go_ret2
    exact lssPost_no (HB.out.trans (hb.mono HB.out.size))
  · cases hu : wordB L us
    · rw [lssAns_bad tcR L xs us ha hu]
      obtain ⟨rs, rfl, rfl, h8, hr, hrel, hl, hd, _⟩ := alphB_nats L xs n hn1 ha
      have HU := Lib.hid hu
      clear ha hu
      go_enter Tryd.func46, Tryd.ntmps46
      go_wp2_with fail
      refine (dependenceWith_any _ _ _ _ _ _ rs _ _ hh hwf h8 hr hrel hd ht (by omega) hT1).mono ?_
      rw [okT_one, HU.out]
      rintro e w1 (⟨hok, _⟩ | ⟨hok, rfl, hb⟩)
      · cases hok
      go_wp2_with fail
      go_ret2
      exact lssPost_no (HB.out.trans (hb.mono HB.out.size))
    · obtain ⟨rs, rfl, rfl, h8, hr, hrel, hl, hd, _⟩ := alphB_nats L xs n hn1 ha
      obtain ⟨vs, rfl, hv24, hvn⟩ := wordB_nats n us hu
      have HU := Lib.hid hu
      rw [ints_len] at hm1
      have hm24 : m ≤ 24 := by omega
      rw [lssAns_yes tcR (n : Int) rs vs ha hu]
      have HDEP := Lib.hid ((depB_iff rs n hl hr).1 hd)
      have HLV := Lib.hid hm1
      have HLR := Lib.hid hl
      have HR := Lib.hid hr
      have HVM := Lib.hid hvn
      have HSY : Hid (∀ a b, RDep rs a b = RDep rs b a) := Lib.hid (rdep_sym rs n hl hr HDEP.out)
      have HRE : Hid (∀ a, a < n → RDep rs a a = true) := Lib.hid fun a ha9 => HDEP.out.1 a (by rw [HLR.out]; exact ha9)
      have HR63 : Hid (∀ i, rs.getD i 0 < 9223372036854775808) := Lib.hid fun i => lt63 (by omega) (hr i)
      clear ha hu hl hm1
      go_enter Tryd.func46, Tryd.ntmps46
      go_wp2_with fail
      refine (dependenceWith_any _ _ _ _ _ _ rs _ _ hh hwf h8 hr hrel hd ht (by omega) hT1).mono ?_
      rw [okT_one, HU.out]
      rintro e w1 (⟨hok, A2, c2, rfl, ho, hb⟩ | ⟨hok, _⟩)
      rotate_left
      · cases hok
      have y0 := (x1.next hb).c0
      have y1 := (x1.next hb).c1
      have HB1 := Lib.hid (HB.out.trans (hb.mono HB.out.size))
      have hr2 := hh2.below hb
      have hrd := ho.rd
      have hT2 := hT1.below hb
      have h24 : n ≤ 24 := by omega
      clear ho hb hok ht hh hh2 hT1 hT h h2 x0 x1 hr hvn hd hrel
      have HZ : Hid (tcR rs vs = tcL rs vs (prtL rs n (ltM vs) n)) := Lib.hid (by unfold tcR; rw [HLR.out])
      have HZL : Hid ((tcL rs vs (prtL rs n (ltM vs) n)).length = (prtL rs n (ltM vs) n).length) := Lib.hid (tcL_len _ _ _)
      have HPQ := Lib.hid (components_any A2 n c2 rs A1 m d vs w1 hrd HLR.out h8 HR.out HDEP.out hr2 hm24 HVM.out hT2)
      obtain ⟨zs, hzs⟩ : ∃ zs, zs = tcL rs vs (prtL rs n (ltM vs) n) := ⟨_, rfl⟩
      obtain ⟨N, hN⟩ : ∃ N, N = (prtL rs n (ltM vs) n).length := ⟨_, rfl⟩
      rw [← hzs, ← hN] at HPQ HZL
      rw [← hzs] at HZ
      clear hzs hN
      go_wp2_with fail
      refine HPQ.out.mono ?_
      rintro e w2 ⟨A3, c3, rfl, ho3, hb3⟩
      go_wp2_with fail
      go_ret2
      rw [HZ.out]
      exact lssPost_yes HZL.out ho3 HB1.out hb3
set_option maxHeartbeats 3200000 in
theorem specTraceComponents (L : Int) (A : Option Addr) (n c : Nat) (xs : List Int) (A1 : Option Addr) (m d : Nat) (us : List Int) (w : World) (h : Rd w A n xs) (hwf : Wf xs) (hL1 : -9223372036854775808 ≤ L) (hL2 : L ≤ 9223372036854775807) (hn : n ≤ maxLen) (h2 : Rd w A1 m us) (hwf2 : Wf us) (hm : m ≤ maxLen) :
    Calls Tryd.prog 45 #[.agg #[.int .i64 L, .slice A n c], .slice A1 m d] w (LssPost w (lssAns tcR L xs us).1.length (lssAns tcR L xs us).1 (lssAns tcR L xs us).2) := by
  have hn2 : n ≤ 9223372036854775807 := by unfold maxLen at hn; omega
  have hm2 : m ≤ 9223372036854775807 := by unfold maxLen at hm; omega
  have hn1 := h.1
  have hm1 := h2.1
  have HB := Lib.hid (below1 w (.cells #[.int .i64 L, .slice A n c] 24))
  have x0 := box_new 24 w L A n c
  have hh := h.below HB.out
  have hh2 := h2.below HB.out
  have HC := Lib.hid (wCode_two L xs us)
  cases ha : alphB L xs
  · rw [lssAns_no tcR L xs us ha]
    have HD := Lib.hid (wCode_no L xs us ha)
    clear ha hn1
    go_enter Tryd.func45, Tryd.ntmps45
    go_wp2_with fail
    refine (l03Code_any L _ _ _ _ _ _ _ _ _ xs us us _ hh hn2 hh2 hm2 hh2 hm2).mono ?_
    rintro e w1 ⟨rfl, hb⟩
    rw [HC.out, HD.out]
    go_wp2_with fail
    go_ret2
    exact lssPost_no (HB.out.trans (hb.mono HB.out.size))
  · cases hu : wordB L us
    · rw [lssAns_bad tcR L xs us ha hu]
      have HD := Lib.hid (wCode_bad L xs us ha hu)
      clear ha hu hn1
      go_enter Tryd.func45, Tryd.ntmps45
      go_wp2_with fail
      refine (l03Code_any L _ _ _ _ _ _ _ _ _ xs us us _ hh hn2 hh2 hm2 hh2 hm2).mono ?_
      rintro e w1 ⟨rfl, hb⟩
      rw [HC.out, HD.out]
      go_wp2_with fail
      go_ret2
      exact lssPost_no (HB.out.trans (hb.mono HB.out.size))
    · have HD := Lib.hid (wCode_yes L xs us ha hu)
      obtain ⟨rs, rfl, rfl, h8, hr, hrel, hl, hd, _⟩ := alphB_nats L xs n hn1 ha
      obtain ⟨vs, rfl, hv24, hvn⟩ := wordB_nats n us hu
      rw [ints_len] at hm1
      have hm24 : m ≤ 24 := by omega
      rw [lssAns_yes tcR (n : Int) rs vs ha hu]
      have HDEP := Lib.hid ((depB_iff rs n hl hr).1 hd)
      have HLV := Lib.hid hm1
      have HLR := Lib.hid hl
      have HR := Lib.hid hr
      have HVM := Lib.hid hvn
      have HSY : Hid (∀ a b, RDep rs a b = RDep rs b a) := Lib.hid (rdep_sym rs n hl hr HDEP.out)
      have HRE : Hid (∀ a, a < n → RDep rs a a = true) := Lib.hid fun a ha9 => HDEP.out.1 a (by rw [HLR.out]; exact ha9)
      have HNR : Hid (∀ ws, nfM (RDep rs) n ws = nfR rs ws) := Lib.hid (fun ws => by unfold nfR; rw [HLR.out])
      clear ha hu hl hm1
      go_enter Tryd.func45, Tryd.ntmps45
      go_wp2_with fail
      refine (l03Code_any (n : Int) _ _ _ _ _ _ _ _ _ (ints rs) (ints vs) (ints vs) _ hh hn2 hh2 hm2 hh2 hm2).mono ?_
      rintro e w1 ⟨rfl, hb⟩
      rw [HC.out, HD.out]
      have x1 := x0.next hb
      have y0 := x1.c0
      have y1 := x1.c1
      have HB1 := Lib.hid (HB.out.trans (hb.mono HB.out.size))
      have hrd := hh.below hb
      have hr2 := hh2.below hb
      have h24 : n ≤ 24 := by omega
      clear hb hh hh2 h h2 x0 hr hvn hd hrel
      have HZ : Hid (tcR rs vs = tcL rs vs (prtL rs n (ltM vs) n)) := Lib.hid (by unfold tcR; rw [HLR.out])
      have HZL : Hid ((tcL rs vs (prtL rs n (ltM vs) n)).length = (prtL rs n (ltM vs) n).length) := Lib.hid (tcL_len _ _ _)
      have HPQ := Lib.hid (l07Parts_any A n c rs A1 m d vs w1 hrd HLR.out h8 HR.out HDEP.out hr2 hm24 HVM.out)
      obtain ⟨zs, hzs⟩ : ∃ zs, zs = tcL rs vs (prtL rs n (ltM vs) n) := ⟨_, rfl⟩
      obtain ⟨N, hN⟩ : ∃ N, N = (prtL rs n (ltM vs) n).length := ⟨_, rfl⟩
      rw [← hzs, ← hN] at HPQ HZL
      rw [← hzs] at HZ
      clear hzs hN
      go_wp2_with fail
      refine HPQ.out.mono ?_
      rintro e w2 ⟨A3, c3, rfl, ho3, hb3⟩
      go_wp2_with fail
      go_ret2
      rw [HZ.out]
      exact lssPost_yes HZL.out ho3 HB1.out hb3
set_option maxHeartbeats 3200000 in
theorem implIsConnectedTrace (L : Int) (A : Option Addr) (n c : Nat) (xs : List Int) (A1 : Option Addr) (m d : Nat) (us : List Int) (w : World) (h : Rd w A n xs) (hwf : Wf xs) (hL1 : -9223372036854775808 ≤ L) (hL2 : L ≤ 9223372036854775807) (hn : n ≤ maxLen) (h2 : Rd w A1 m us) (hwf2 : Wf us) (hm : m ≤ maxLen) (hT : Tab w) :
    Calls Tryd.prog 44 #[.agg #[.int .i64 L, .slice A n c], .slice A1 m d] w (fun e w' => e = .returned (.tuple #[.bool (wBA icF L xs us).1, .int .i64 (wBA icF L xs us).2]) ∧ Below w.heap.size w w') := by
  have hn2 : n ≤ 9223372036854775807 := by unfold maxLen at hn; omega
  have hn1 := h.1
  have hm1 := h2.1
  have x0 := box_new 24 w L A n c
  have HB := Lib.hid (below2 w (.cells #[.int .i64 L, .slice A n c] 24) (.cells #[.slice A1 m d] 22))
  have hh := h.below HB.out
  have ht := rdT_box w (.cells #[.int .i64 L, .slice A n c] 24) A1 m d us 22 h2 hm
  have hh2 := h2.below HB.out
  have hT1 := hT.below HB.out
  have x1 := x0.next (below1 (w.alloc (.cells #[.int .i64 L, .slice A n c] 24)) (.cells #[.slice A1 m d] 22))
  cases ha : alphB L xs
  · rw [wBA_no icF L xs us ha]
    have HA := Lib.hid ha
    clear ha ht hn1
    go_enter Tryd.func44, Tryd.ntmps44
    go_wp2_with fail
    refine (dependenceWith_no L _ _ _ _ _ _ xs [] _ hh hwf hL1 hL2 hn2 HA.out hT1).mono ?_
    rintro e w1 ⟨rfl, hb⟩
    go_wp2_with fail
    go_ret2
    exact ⟨rfl, HB.out.trans (hb.mono HB.out.size)⟩
  · cases hu : wordB L us
    · rw [wBA_bad icF L xs us ha hu]
      obtain ⟨rs, rfl, rfl, h8, hr, hrel, hl, hd, _⟩ := alphB_nats L xs n hn1 ha
      have HU := Lib.hid hu
      clear ha hu
      go_enter Tryd.func44, Tryd.ntmps44
      go_wp2_with fail
      refine (dependenceWith_any _ _ _ _ _ _ rs _ _ hh hwf h8 hr hrel hd ht (by omega) hT1).mono ?_
      rw [okT_one, HU.out]
      rintro e w1 (⟨hok, _⟩ | ⟨hok, rfl, hb⟩)
      · cases hok
      go_wp2_with fail
      go_ret2
      exact ⟨rfl, HB.out.trans (hb.mono HB.out.size)⟩
    · obtain ⟨rs, rfl, rfl, h8, hr, hrel, hl, hd, _⟩ := alphB_nats L xs n hn1 ha
      obtain ⟨vs, rfl, hv24, hvn⟩ := wordB_nats n us hu
      have HU := Lib.hid hu
      rw [ints_len] at hm1
      have hm24 : m ≤ 24 := by omega
      rw [wBA_yes icF (n : Int) rs vs ha hu]
      have HDEP := Lib.hid ((depB_iff rs n hl hr).1 hd)
      have HLV := Lib.hid hm1
      have HLR := Lib.hid hl
      have HR := Lib.hid hr
      have HVM := Lib.hid hvn
      have HSY : Hid (∀ a b, RDep rs a b = RDep rs b a) := Lib.hid (rdep_sym rs n hl hr HDEP.out)
      have HRE : Hid (∀ a, a < n → RDep rs a a = true) := Lib.hid fun a ha9 => HDEP.out.1 a (by rw [HLR.out]; exact ha9)
      have HR63 : Hid (∀ i, rs.getD i 0 < 9223372036854775808) := Lib.hid fun i => lt63 (by omega) (hr i)
      clear ha hu hl hm1
      go_enter Tryd.func44, Tryd.ntmps44
      go_wp2_with fail
      refine (dependenceWith_any _ _ _ _ _ _ rs _ _ hh hwf h8 hr hrel hd ht (by omega) hT1).mono ?_
      rw [okT_one, HU.out]
      rintro e w1 (⟨hok, A2, c2, rfl, ho, hb⟩ | ⟨hok, _⟩)
      rotate_left
      · cases hok
      have y0 := (x1.next hb).c0
      have y1 := (x1.next hb).c1
      have HB1 := Lib.hid (HB.out.trans (hb.mono HB.out.size))
      have hr2 := hh2.below hb
      have hrd := ho.rd
      have hT2 := hT1.below hb
      have h24 : n ≤ 24 := by omega
      clear ho hb hok ht hh hh2 hT1 hT h h2 x0 x1 hr hvn hd hrel
      have HPQ := Lib.hid (components_any A2 n c2 rs A1 m d vs w1 hrd HLR.out h8 HR.out HDEP.out hr2 hm24 HVM.out hT2)
      have HZ : Hid (icF rs vs = ((((prtL rs n (ltM vs) n).length : Nat) : Int) == 1)) := Lib.hid (by
        unfold icF; rw [HLR.out]
        by_cases h0 : (prtL rs n (ltM vs) n).length = 1
        · rw [h0]; rfl
        · have h1 : ¬ (((prtL rs n (ltM vs) n).length : Nat) : Int) = 1 := by omega
          rw [decide_eq_false h0, beq_false_of_ne h1])
      obtain ⟨N, hN⟩ : ∃ N, N = (prtL rs n (ltM vs) n).length := ⟨_, rfl⟩
      rw [← hN] at HPQ HZ
      clear hN
      go_wp2_with fail
      refine HPQ.out.mono ?_
      rintro e w2 ⟨A3, c3, rfl, ho3, hb3⟩
      go_wp2_with fail
      go_ret2
      rw [HZ.out]
      exact ⟨rfl, HB1.out.trans (hb3.mono HB1.out.size)⟩
set_option maxHeartbeats 3200000 in
theorem specIsConnectedTrace (L : Int) (A : Option Addr) (n c : Nat) (xs : List Int) (A1 : Option Addr) (m d : Nat) (us : List Int) (w : World) (h : Rd w A n xs) (hwf : Wf xs) (hL1 : -9223372036854775808 ≤ L) (hL2 : L ≤ 9223372036854775807) (hn : n ≤ maxLen) (h2 : Rd w A1 m us) (hwf2 : Wf us) (hm : m ≤ maxLen) :
    Calls Tryd.prog 43 #[.agg #[.int .i64 L, .slice A n c], .slice A1 m d] w (fun e w' => e = .returned (.tuple #[.bool (wBA icF L xs us).1, .int .i64 (wBA icF L xs us).2]) ∧ Below w.heap.size w w') := by
  have hn2 : n ≤ 9223372036854775807 := by unfold maxLen at hn; omega
  have hm2 : m ≤ 9223372036854775807 := by unfold maxLen at hm; omega
  have hn1 := h.1
  have hm1 := h2.1
  have HB := Lib.hid (below1 w (.cells #[.int .i64 L, .slice A n c] 24))
  have x0 := box_new 24 w L A n c
  have hh := h.below HB.out
  have hh2 := h2.below HB.out
  have HC := Lib.hid (wCode_two L xs us)
  cases ha : alphB L xs
  · rw [wBA_no icF L xs us ha]
    have HD := Lib.hid (wCode_no L xs us ha)
    clear ha hn1
    go_enter Tryd.func43, Tryd.ntmps43
    go_wp2_with fail
    refine (l03Code_any L _ _ _ _ _ _ _ _ _ xs us us _ hh hn2 hh2 hm2 hh2 hm2).mono ?_
    rintro e w1 ⟨rfl, hb⟩
    rw [HC.out, HD.out]
    go_wp2_with fail
    go_ret2
    exact ⟨rfl, HB.out.trans (hb.mono HB.out.size)⟩
  · cases hu : wordB L us
    · rw [wBA_bad icF L xs us ha hu]
      have HD := Lib.hid (wCode_bad L xs us ha hu)
      clear ha hu hn1
      go_enter Tryd.func43, Tryd.ntmps43
      go_wp2_with fail
      refine (l03Code_any L _ _ _ _ _ _ _ _ _ xs us us _ hh hn2 hh2 hm2 hh2 hm2).mono ?_
      rintro e w1 ⟨rfl, hb⟩
      rw [HC.out, HD.out]
      go_wp2_with fail
      go_ret2
      exact ⟨rfl, HB.out.trans (hb.mono HB.out.size)⟩
    · have HD := Lib.hid (wCode_yes L xs us ha hu)
      obtain ⟨rs, rfl, rfl, h8, hr, hrel, hl, hd, _⟩ := alphB_nats L xs n hn1 ha
      obtain ⟨vs, rfl, hv24, hvn⟩ := wordB_nats n us hu
      rw [ints_len] at hm1
      have hm24 : m ≤ 24 := by omega
      rw [wBA_yes icF (n : Int) rs vs ha hu]
      have HDEP := Lib.hid ((depB_iff rs n hl hr).1 hd)
      have HLV := Lib.hid hm1
      have HLR := Lib.hid hl
      have HR := Lib.hid hr
      have HVM := Lib.hid hvn
      have HSY : Hid (∀ a b, RDep rs a b = RDep rs b a) := Lib.hid (rdep_sym rs n hl hr HDEP.out)
      have HRE : Hid (∀ a, a < n → RDep rs a a = true) := Lib.hid fun a ha9 => HDEP.out.1 a (by rw [HLR.out]; exact ha9)
      have HNR : Hid (∀ ws, nfM (RDep rs) n ws = nfR rs ws) := Lib.hid (fun ws => by unfold nfR; rw [HLR.out])
      clear ha hu hl hm1
      go_enter Tryd.func43, Tryd.ntmps43
      go_wp2_with fail
      refine (l03Code_any (n : Int) _ _ _ _ _ _ _ _ _ (ints rs) (ints vs) (ints vs) _ hh hn2 hh2 hm2 hh2 hm2).mono ?_
      rintro e w1 ⟨rfl, hb⟩
      rw [HC.out, HD.out]
      have x1 := x0.next hb
      have y0 := x1.c0
      have y1 := x1.c1
      have HB1 := Lib.hid (HB.out.trans (hb.mono HB.out.size))
      have hrd := hh.below hb
      have hr2 := hh2.below hb
      have h24 : n ≤ 24 := by omega
      clear hb hh hh2 h h2 x0 hr hvn hd hrel
      have HPQ := Lib.hid (l07Parts_any A n c rs A1 m d vs w1 hrd HLR.out h8 HR.out HDEP.out hr2 hm24 HVM.out)
      have HZ : Hid (icF rs vs = ((((prtL rs n (ltM vs) n).length : Nat) : Int) == 1)) := Lib.hid (by
        unfold icF; rw [HLR.out]
        by_cases h0 : (prtL rs n (ltM vs) n).length = 1
        · rw [h0]; rfl
        · have h1 : ¬ (((prtL rs n (ltM vs) n).length : Nat) : Int) = 1 := by omega
          rw [decide_eq_false h0, beq_false_of_ne h1])
      obtain ⟨N, hN⟩ : ∃ N, N = (prtL rs n (ltM vs) n).length := ⟨_, rfl⟩
      rw [← hN] at HPQ HZ
      clear hN
      go_wp2_with fail
      refine HPQ.out.mono ?_
      rintro e w2 ⟨A3, c3, rfl, ho3, hb3⟩
      go_wp2_with fail
      go_ret2
      rw [HZ.out]
      exact ⟨rfl, HB1.out.trans (hb3.mono HB1.out.size)⟩
end Go.Proofs.YtokikilfmglhhaaDoor
