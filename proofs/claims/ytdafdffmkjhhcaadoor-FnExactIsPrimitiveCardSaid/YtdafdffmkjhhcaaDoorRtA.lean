/-
  RootOf, IsPrimitive: both sides.
-/
import Derived.Test.YtdafdffmkjhhcaaDoorRtQ
import Derived.Test.YtdafdffmkjhhcaaDoorRtS
import Derived.OwnWalk
namespace Go.Proofs.YtdafdffmkjhhcaaDoor
open Go Go.RowKit
set_option linter.unusedVariables false
set_option maxRecDepth 100000

/-- Answers of an alphabet and a word that are true or false. -/
def wBA (f : List Nat → List Nat → Bool) (L : Int) (xs us : List Int) : Bool × Int := if wCode L xs us = 0 then (f (xs.map Int.toNat) (us.map Int.toNat), 0) else (false, wCode L xs us)
theorem wBA_no (f : List Nat → List Nat → Bool) (L : Int) (xs us : List Int) (h : alphB L xs = false) : wBA f L xs us = (false, 1) := by
  have e : wCode L xs us = 1 := by unfold wCode; rw [if_neg (by rw [h]; decide)]
  unfold wBA; rw [e]; rfl
theorem wBA_bad (f : List Nat → List Nat → Bool) (L : Int) (xs us : List Int) (h : alphB L xs = true) (h2 : wordB L us = false) : wBA f L xs us = (false, 2) := by
  have e : wCode L xs us = 2 := by unfold wCode; rw [if_pos h, if_neg (by rw [h2]; decide)]
  unfold wBA; rw [e]; rfl
theorem wBA_yes (f : List Nat → List Nat → Bool) (L : Int) (rs us : List Nat) (h : alphB L (ints rs) = true) (h2 : wordB L (ints us) = true) : wBA f L (ints rs) (ints us) = (f rs us, 0) := by
  have e : wCode L (ints rs) (ints us) = 0 := by unfold wCode; rw [if_pos h, if_pos h2]
  unfold wBA; rw [if_pos e, ints_toNat, ints_toNat]
/-- A list of numbers, a number and a code. -/
def LsiPost (w : World) (VN : Nat) (VX : List Int) (K C : Int) (e : Ending) (w' : World) : Prop :=
  ∃ A c, e = .returned (.tuple #[.slice A VN c, .int .i64 K, .int .i64 C]) ∧ Own 2 w' w.heap.size A VN c VX ∧ Below w.heap.size w w'
theorem lsiPost_no {w w1 : World} {C : Int} (hb : Below w.heap.size w w1) : LsiPost w 0 [] 0 C (.returned (.tuple #[.slice none 0 0, .int .i64 0, .int .i64 C])) w1 := ⟨none, 0, rfl, Own.nil _ _ _, hb⟩
theorem lsiPost_yes {w w1 w2 : World} {A' : Option Addr} {c' N : Nat} {ys : List Int} {K : Int} (hl : ys.length = N) (ho : Own 2 w2 w1.heap.size A' N c' ys) (hB : Below w.heap.size w w1) (hb : Below w1.heap.size w1 w2) : LsiPost w ys.length ys K 0 (.returned (.tuple #[.slice A' N c', .int .i64 K, .int .i64 0])) w2 := by
  subst hl
  exact ⟨A', c', rfl, ho.mono hB.size, hB.trans (hb.mono hB.size)⟩
def ipR (rs us : List Nat) : Bool := decide (0 < us.length) && decide ((rtF rs us).2 = 1)
def rtR (rs us : List Nat) : List Int × Int × Int := if us.length = 0 then ([], 0, 5) else (ints (rtF rs us).1, ((rtF rs us).2 : Int), 0)
def rAns (f : List Nat → List Nat → List Int × Int × Int) (L : Int) (xs us : List Int) : List Int × Int × Int := if wCode L xs us = 0 then f (xs.map Int.toNat) (us.map Int.toNat) else ([], 0, wCode L xs us)
theorem rAns_no (f : List Nat → List Nat → List Int × Int × Int) (L : Int) (xs us : List Int) (h : alphB L xs = false) : rAns f L xs us = ([], 0, 1) := by
  have e : wCode L xs us = 1 := by unfold wCode; rw [if_neg (by rw [h]; decide)]
  unfold rAns; rw [e]; rfl
theorem rAns_bad (f : List Nat → List Nat → List Int × Int × Int) (L : Int) (xs us : List Int) (h : alphB L xs = true) (h2 : wordB L us = false) : rAns f L xs us = ([], 0, 2) := by
  have e : wCode L xs us = 2 := by unfold wCode; rw [if_pos h, if_neg (by rw [h2]; decide)]
  unfold rAns; rw [e]; rfl
theorem rAns_yes (f : List Nat → List Nat → List Int × Int × Int) (L : Int) (rs us : List Nat) (h : alphB L (ints rs) = true) (h2 : wordB L (ints us) = true) : rAns f L (ints rs) (ints us) = f rs us := by
  have e : wCode L (ints rs) (ints us) = 0 := by unfold wCode; rw [if_pos h, if_pos h2]
  unfold rAns; rw [if_pos e, ints_toNat, ints_toNat]
theorem rAns_small (L : Int) (xs us : List Int) : (rAns rtR L xs us).1.length ≤ 1048576 := by
  cases ha : alphB L xs
  · rw [rAns_no _ L xs us ha]; exact Nat.zero_le _
  · cases hu : wordB L us
    · rw [rAns_bad _ L xs us ha hu]; exact Nat.zero_le _
    · obtain ⟨rs, rfl, rfl, h8, hr, hrel, hl, hd, _⟩ := alphB_nats L xs xs.length rfl ha
      obtain ⟨vs, rfl, hv24, hvn⟩ := wordB_nats _ us hu
      rw [rAns_yes _ _ rs vs ha hu]
      unfold rtR
      split
      · exact Nat.zero_le _
      · have h9 := (rtGo_len rs vs vs.length).1
        show (ints (rtF rs vs).1).length ≤ _
        rw [ints_len]
        unfold rtF
        omega
theorem isPrimitive_any (R A1 : Option Addr) (n c m d : Nat) (rs vs : List Nat) (w : World) (h : Rd w R n (ints rs)) (hl : rs.length = n) (hn : n ≤ 8) (hr : ∀ i, rs.getD i 0 < 2 ^ n) (hdep : Dep rs) (h2 : Rd w A1 m (ints vs)) (hm : m ≤ 24) (hvs : ∀ x, x ∈ vs → x < n) (hT : Tab w) :
    Calls Tryd.prog 85 #[.slice R n c, .slice A1 m d] w fun e w' => e = .returned (.bool (ipR rs vs)) ∧ Below w.heap.size w w' := by
  have HLV : Hid (vs.length = m) := Lib.hid (by have := h2.1; rw [ints_len] at this; exact this)
  have HZ : Hid (ipR rs vs = (decide (0 < m) && decide ((rtF rs vs).2 = 1))) := Lib.hid (by unfold ipR; rw [HLV.out])
  have HPQ := Lib.hid (root_any R A1 n c m d rs vs w h hl hn hr hdep h2 hm hvs hT)
  obtain ⟨z, hz⟩ : ∃ z, z = rtF rs vs := ⟨_, rfl⟩
  rw [← hz] at HPQ HZ
  clear hz h h2 hl hr hdep hvs
  go_enter Tryd.func85, Tryd.ntmps85
  go_wp2_with fail
  refine HPQ.out.mono ?_
  rintro e w1 ⟨A3, c3, rfl, ho3, hb3⟩
  have HZ2 : Hid (0 < m → ipR rs vs = (((z.2 : Nat) : Int) == 1)) := Lib.hid fun h0 => by
    rw [HZ.out, decide_eq_true h0]
    by_cases h1 : z.2 = 1
    · rw [h1]; rfl
    · have h9 : ¬ ((z.2 : Nat) : Int) = 1 := by omega
      rw [decide_eq_false h1, beq_false_of_ne h9]; rfl
  have HZ3 : Hid (¬ 0 < m → ipR rs vs = false) := Lib.hid fun h0 => by rw [HZ.out, decide_eq_false h0]; rfl
  by_cases h0 : 0 < m
  · have hI : (0 : Int) < (m : Int) := by omega
    go_wp2_with fail
    go_ret
    rw [HZ2.out h0]
    exact ⟨rfl, hb3⟩
  · have hI : ¬ (0 : Int) < (m : Int) := by omega
    go_wp2_with fail
    go_ret
    rw [HZ3.out h0]
    exact ⟨rfl, hb3⟩
set_option maxHeartbeats 3200000 in
theorem implIsPrimitive (L : Int) (A : Option Addr) (n c : Nat) (xs : List Int) (A1 : Option Addr) (m d : Nat) (us : List Int) (w : World) (h : Rd w A n xs) (hwf : Wf xs) (hL1 : -9223372036854775808 ≤ L) (hL2 : L ≤ 9223372036854775807) (hn : n ≤ maxLen) (h2 : Rd w A1 m us) (hwf2 : Wf us) (hm : m ≤ maxLen) (hT : Tab w) :
    Calls Tryd.prog 43 #[.agg #[.int .i64 L, .slice A n c], .slice A1 m d] w (fun e w' => e = .returned (.tuple #[.bool (wBA ipR L xs us).1, .int .i64 (wBA ipR L xs us).2]) ∧ Below w.heap.size w w') := by
  have hn2 : n ≤ 9223372036854775807 := by unfold maxLen at hn; omega
  have hn1 := h.1
  have hm1 := h2.1
  have x0 := box_new 29 w L A n c
  have HB := Lib.hid (below2 w (.cells #[.int .i64 L, .slice A n c] 29) (.cells #[.slice A1 m d] 22))
  have hh := h.below HB.out
  have ht := rdT_box w (.cells #[.int .i64 L, .slice A n c] 29) A1 m d us 22 h2 hm
  have hh2 := h2.below HB.out
  have hT1 := hT.below HB.out
  have x1 := x0.next (below1 (w.alloc (.cells #[.int .i64 L, .slice A n c] 29)) (.cells #[.slice A1 m d] 22))
  cases ha : alphB L xs
  · rw [wBA_no ipR L xs us ha]
    have HA := Lib.hid ha
    clear ha ht hn1
    go_enter Tryd.func43, Tryd.ntmps43
    go_wp2_with fail
    refine (dependenceWith_no L _ _ _ _ _ _ xs [] _ hh hwf hL1 hL2 hn2 HA.out hT1).mono ?_
    rintro e w1 ⟨rfl, hb⟩
    go_wp2_with fail
    go_ret2
    exact ⟨rfl, HB.out.trans (hb.mono HB.out.size)⟩
  · cases hu : wordB L us
    · rw [wBA_bad ipR L xs us ha hu]
      obtain ⟨rs, rfl, rfl, h8, hr, hrel, hl, hd, _⟩ := alphB_nats L xs n hn1 ha
      have HU := Lib.hid hu
      clear ha hu
      go_enter Tryd.func43, Tryd.ntmps43
      go_wp2_with fail
      refine (dependenceWith_any _ _ _ _ _ _ rs _ _ hh hwf h8 hr hrel hd ht (by omega) hT1).mono ?_
      rw [okT_one, HU.out]
      rintro e w1 (⟨hok, _⟩ | ⟨hok, rfl, hb⟩)
      · cases hok
      go_wp2_with fail
      go_ret2
      exact ⟨rfl, HB.out.trans (hb.mono HB.out.size)⟩
    · obtain ⟨rs, rfl, rfl, h8, hr, hrel, hl, hd, _⟩ := alphB_nats L xs n hn1 ha
      obtain ⟨vs, rfl, hv24, hvn⟩ := wordB_nats n us hu
      have HU := Lib.hid hu
      rw [ints_len] at hm1
      have hm24 : m ≤ 24 := by omega
      rw [wBA_yes ipR (n : Int) rs vs ha hu]
      have HDEP := Lib.hid ((depB_iff rs n hl hr).1 hd)
      have HLV := Lib.hid hm1
      have HLR := Lib.hid hl
      have HR := Lib.hid hr
      have HVM := Lib.hid hvn
      have HSY : Hid (∀ a b, RDep rs a b = RDep rs b a) := Lib.hid (rdep_sym rs n hl hr HDEP.out)
      have HRE : Hid (∀ a, a < n → RDep rs a a = true) := Lib.hid fun a ha9 => HDEP.out.1 a (by rw [HLR.out]; exact ha9)
      have HR63 : Hid (∀ i, rs.getD i 0 < 9223372036854775808) := Lib.hid fun i => lt63 (by omega) (hr i)
      clear ha hu hl hm1
      go_enter Tryd.func43, Tryd.ntmps43
      go_wp2_with fail
      refine (dependenceWith_any _ _ _ _ _ _ rs _ _ hh hwf h8 hr hrel hd ht (by omega) hT1).mono ?_
      rw [okT_one, HU.out]
      rintro e w1 (⟨hok, A2, c2, rfl, ho, hb⟩ | ⟨hok, _⟩)
      rotate_left
      · cases hok
      have y0 := (x1.next hb).c0
      have y1 := (x1.next hb).c1
      have HB1 := Lib.hid (HB.out.trans (hb.mono HB.out.size))
      have hr2 := hh2.below hb
      have hrd := ho.rd
      have hT2 := hT1.below hb
      have h24 : n ≤ 24 := by omega
      clear ho hb hok ht hh hh2 hT1 hT h h2 x0 x1 hr hvn hd hrel
      have HPQ := Lib.hid (isPrimitive_any A2 A1 n c2 m d rs vs w1 hrd HLR.out h8 HR.out HDEP.out hr2 hm24 HVM.out hT2)
      obtain ⟨z, hz⟩ : ∃ z, z = ipR rs vs := ⟨_, rfl⟩
      rw [← hz] at HPQ
      have HZ := Lib.hid hz
      clear hz
      go_wp2_with fail
      refine HPQ.out.mono ?_
      rintro e w2 ⟨rfl, hb3⟩
      go_wp2_with fail
      go_ret2
      rw [← HZ.out]
      exact ⟨rfl, HB1.out.trans (hb3.mono HB1.out.size)⟩
set_option maxHeartbeats 3200000 in
theorem specIsPrimitive (L : Int) (A : Option Addr) (n c : Nat) (xs : List Int) (A1 : Option Addr) (m d : Nat) (us : List Int) (w : World) (h : Rd w A n xs) (hwf : Wf xs) (hL1 : -9223372036854775808 ≤ L) (hL2 : L ≤ 9223372036854775807) (hn : n ≤ maxLen) (h2 : Rd w A1 m us) (hwf2 : Wf us) (hm : m ≤ maxLen) :
    Calls Tryd.prog 42 #[.agg #[.int .i64 L, .slice A n c], .slice A1 m d] w (fun e w' => e = .returned (.tuple #[.bool (wBA ipR L xs us).1, .int .i64 (wBA ipR L xs us).2]) ∧ Below w.heap.size w w') := by
  have hn2 : n ≤ 9223372036854775807 := by unfold maxLen at hn; omega
  have hm2 : m ≤ 9223372036854775807 := by unfold maxLen at hm; omega
  have hn1 := h.1
  have hm1 := h2.1
  have HB := Lib.hid (below1 w (.cells #[.int .i64 L, .slice A n c] 29))
  have x0 := box_new 29 w L A n c
  have hh := h.below HB.out
  have hh2 := h2.below HB.out
  have HC := Lib.hid (wCode_two L xs us)
  cases ha : alphB L xs
  · rw [wBA_no ipR L xs us ha]
    have HD := Lib.hid (wCode_no L xs us ha)
    clear ha hn1
    go_enter Tryd.func42, Tryd.ntmps42
    go_wp2_with fail
    refine (l03Code_any L _ _ _ _ _ _ _ _ _ xs us us _ hh hn2 hh2 hm2 hh2 hm2).mono ?_
    rintro e w1 ⟨rfl, hb⟩
    rw [HC.out, HD.out]
    go_wp2_with fail
    go_ret2
    exact ⟨rfl, HB.out.trans (hb.mono HB.out.size)⟩
  · cases hu : wordB L us
    · rw [wBA_bad ipR L xs us ha hu]
      have HD := Lib.hid (wCode_bad L xs us ha hu)
      clear ha hu hn1
      go_enter Tryd.func42, Tryd.ntmps42
      go_wp2_with fail
      refine (l03Code_any L _ _ _ _ _ _ _ _ _ xs us us _ hh hn2 hh2 hm2 hh2 hm2).mono ?_
      rintro e w1 ⟨rfl, hb⟩
      rw [HC.out, HD.out]
      go_wp2_with fail
      go_ret2
      exact ⟨rfl, HB.out.trans (hb.mono HB.out.size)⟩
    · have HD := Lib.hid (wCode_yes L xs us ha hu)
      obtain ⟨rs, rfl, rfl, h8, hr, hrel, hl, hd, _⟩ := alphB_nats L xs n hn1 ha
      obtain ⟨vs, rfl, hv24, hvn⟩ := wordB_nats n us hu
      rw [ints_len] at hm1
      have hm24 : m ≤ 24 := by omega
      rw [wBA_yes ipR (n : Int) rs vs ha hu]
      have HDEP := Lib.hid ((depB_iff rs n hl hr).1 hd)
      have HLV := Lib.hid hm1
      have HLR := Lib.hid hl
      have HR := Lib.hid hr
      have HVM := Lib.hid hvn
      have HSY : Hid (∀ a b, RDep rs a b = RDep rs b a) := Lib.hid (rdep_sym rs n hl hr HDEP.out)
      have HRE : Hid (∀ a, a < n → RDep rs a a = true) := Lib.hid fun a ha9 => HDEP.out.1 a (by rw [HLR.out]; exact ha9)
      have HNR : Hid (∀ ws, nfM (RDep rs) n ws = nfR rs ws) := Lib.hid (fun ws => by unfold nfR; rw [HLR.out])
      clear ha hu hl hm1
      go_enter Tryd.func42, Tryd.ntmps42
      go_wp2_with fail
      refine (l03Code_any (n : Int) _ _ _ _ _ _ _ _ _ (ints rs) (ints vs) (ints vs) _ hh hn2 hh2 hm2 hh2 hm2).mono ?_
      rintro e w1 ⟨rfl, hb⟩
      rw [HC.out, HD.out]
      have x1 := x0.next hb
      have y0 := x1.c0
      have y1 := x1.c1
      have HB1 := Lib.hid (HB.out.trans (hb.mono HB.out.size))
      have hrd := hh.below hb
      have hr2 := hh2.below hb
      have h24 : n ≤ 24 := by omega
      clear hb hh hh2 h h2 x0 hr hvn hd hrel
      have HPQ := Lib.hid (l07Root_any A A1 n c m d rs vs w1 hrd HLR.out h8 HR.out HDEP.out hr2 hm24 HVM.out)
      have HZ : Hid (ipR rs vs = (decide (0 < m) && decide ((rtF rs vs).2 = 1))) := Lib.hid (by unfold ipR; rw [show vs.length = m from by first | exact HLV.out | exact HLV.out.symm])
      obtain ⟨z, hz⟩ : ∃ z, z = rtF rs vs := ⟨_, rfl⟩
      rw [← hz] at HPQ HZ
      clear hz
      have HZ2 : Hid (¬ m = 0 → ipR rs vs = (((z.2 : Nat) : Int) == 1)) := Lib.hid fun h0 => by
        rw [HZ.out, decide_eq_true (show 0 < m by omega)]
        by_cases h1 : z.2 = 1
        · rw [h1]; rfl
        · have h9 : ¬ ((z.2 : Nat) : Int) = 1 := by omega
          rw [decide_eq_false h1, beq_false_of_ne h9]; rfl
      have HZ3 : Hid (m = 0 → ipR rs vs = false) := Lib.hid fun h0 => by rw [HZ.out, decide_eq_false (show ¬ 0 < m by omega)]; rfl
      clear HZ
      by_cases h0 : m = 0
      · have hI : (m : Int) = 0 := by omega
        go_wp2_with fail
        go_ret2
        rw [HZ3.out h0]
        exact ⟨rfl, HB1.out⟩
      · have hI : ¬ (m : Int) = 0 := by omega
        go_wp2_with fail
        refine HPQ.out.mono ?_
        rintro e w2 ⟨A3, c3, rfl, ho3, hb3⟩
        go_wp2_with fail
        go_ret2
        rw [HZ2.out h0]
        exact ⟨rfl, HB1.out.trans (hb3.mono HB1.out.size)⟩
set_option maxHeartbeats 3200000 in
theorem implRootOf (L : Int) (A : Option Addr) (n c : Nat) (xs : List Int) (A1 : Option Addr) (m d : Nat) (us : List Int) (w : World) (h : Rd w A n xs) (hwf : Wf xs) (hL1 : -9223372036854775808 ≤ L) (hL2 : L ≤ 9223372036854775807) (hn : n ≤ maxLen) (h2 : Rd w A1 m us) (hwf2 : Wf us) (hm : m ≤ maxLen) (hT : Tab w) :
    Calls Tryd.prog 41 #[.agg #[.int .i64 L, .slice A n c], .slice A1 m d] w (LsiPost w (rAns rtR L xs us).1.length (rAns rtR L xs us).1 (rAns rtR L xs us).2.1 (rAns rtR L xs us).2.2) := by
  have hn2 : n ≤ 9223372036854775807 := by unfold maxLen at hn; omega
  have hn1 := h.1
  have hm1 := h2.1
  have x0 := box_new 29 w L A n c
  have HB := Lib.hid (below2 w (.cells #[.int .i64 L, .slice A n c] 29) (.cells #[.slice A1 m d] 22))
  have hh := h.below HB.out
  have ht := rdT_box w (.cells #[.int .i64 L, .slice A n c] 29) A1 m d us 22 h2 hm
  have hh2 := h2.below HB.out
  have hT1 := hT.below HB.out
  have x1 := x0.next (below1 (w.alloc (.cells #[.int .i64 L, .slice A n c] 29)) (.cells #[.slice A1 m d] 22))
  cases ha : alphB L xs
  · rw [rAns_no rtR L xs us ha]
    have HA := Lib.hid ha
    clear ha ht hn1
    go_enter Tryd.func41, Tryd.ntmps41
    go_wp2_with fail
    refine (dependenceWith_no L _ _ _ _ _ _ xs [] _ hh hwf hL1 hL2 hn2 HA.out hT1).mono ?_
    rintro e w1 ⟨rfl, hb⟩
    go_wp2_with fail
    go_ret3
    exact lsiPost_no (HB.out.trans (hb.mono HB.out.size))
  · cases hu : wordB L us
    · rw [rAns_bad rtR L xs us ha hu]
      obtain ⟨rs, rfl, rfl, h8, hr, hrel, hl, hd, _⟩ := alphB_nats L xs n hn1 ha
      have HU := Lib.hid hu
      clear ha hu
      go_enter Tryd.func41, Tryd.ntmps41
      go_wp2_with fail
      refine (dependenceWith_any _ _ _ _ _ _ rs _ _ hh hwf h8 hr hrel hd ht (by omega) hT1).mono ?_
      rw [okT_one, HU.out]
      rintro e w1 (⟨hok, _⟩ | ⟨hok, rfl, hb⟩)
      · cases hok
      go_wp2_with fail
      go_ret3
      exact lsiPost_no (HB.out.trans (hb.mono HB.out.size))
    · obtain ⟨rs, rfl, rfl, h8, hr, hrel, hl, hd, _⟩ := alphB_nats L xs n hn1 ha
      obtain ⟨vs, rfl, hv24, hvn⟩ := wordB_nats n us hu
      have HU := Lib.hid hu
      rw [ints_len] at hm1
      have hm24 : m ≤ 24 := by omega
      rw [rAns_yes rtR (n : Int) rs vs ha hu]
      have HDEP := Lib.hid ((depB_iff rs n hl hr).1 hd)
      have HLV := Lib.hid hm1
      have HLR := Lib.hid hl
      have HR := Lib.hid hr
      have HVM := Lib.hid hvn
      have HSY : Hid (∀ a b, RDep rs a b = RDep rs b a) := Lib.hid (rdep_sym rs n hl hr HDEP.out)
      have HRE : Hid (∀ a, a < n → RDep rs a a = true) := Lib.hid fun a ha9 => HDEP.out.1 a (by rw [HLR.out]; exact ha9)
      have HR63 : Hid (∀ i, rs.getD i 0 < 9223372036854775808) := Lib.hid fun i => lt63 (by omega) (hr i)
      clear ha hu hl hm1
      go_enter Tryd.func41, Tryd.ntmps41
      go_wp2_with fail
      refine (dependenceWith_any _ _ _ _ _ _ rs _ _ hh hwf h8 hr hrel hd ht (by omega) hT1).mono ?_
      rw [okT_one, HU.out]
      rintro e w1 (⟨hok, A2, c2, rfl, ho, hb⟩ | ⟨hok, _⟩)
      rotate_left
      · cases hok
      have y0 := (x1.next hb).c0
      have y1 := (x1.next hb).c1
      have HB1 := Lib.hid (HB.out.trans (hb.mono HB.out.size))
      have hr2 := hh2.below hb
      have hrd := ho.rd
      have hT2 := hT1.below hb
      have h24 : n ≤ 24 := by omega
      clear ho hb hok ht hh hh2 hT1 hT h h2 x0 x1 hr hvn hd hrel
      have HPQ := Lib.hid (root_any A2 A1 n c2 m d rs vs w1 hrd HLR.out h8 HR.out HDEP.out hr2 hm24 HVM.out hT2)
      have HZ2 : Hid (¬ m = 0 → rtR rs vs = (ints (rtF rs vs).1, ((rtF rs vs).2 : Int), 0)) := Lib.hid fun h0 => by unfold rtR; rw [if_neg (by rw [show vs.length = m from by first | exact HLV.out | exact HLV.out.symm]; exact h0)]
      have HZ3 : Hid (m = 0 → rtR rs vs = ([], 0, 5)) := Lib.hid fun h0 => by unfold rtR; rw [if_pos (by rw [show vs.length = m from by first | exact HLV.out | exact HLV.out.symm]; exact h0)]
      obtain ⟨z, hz⟩ : ∃ z, z = rtF rs vs := ⟨_, rfl⟩
      rw [← hz] at HPQ HZ2
      clear hz
      by_cases h0 : m = 0
      · have hI : (m : Int) = 0 := by omega
        go_wp2_with fail
        go_ret3
        rw [HZ3.out h0]
        exact lsiPost_no HB1.out
      · have hI : ¬ (m : Int) = 0 := by omega
        go_wp2_with fail
        refine HPQ.out.mono ?_
        rintro e w2 ⟨A3, c3, rfl, ho3, hb3⟩
        go_wp2_with fail
        go_ret3
        rw [HZ2.out h0]
        exact lsiPost_yes (by rw [ints_len]) ho3 HB1.out hb3
set_option maxHeartbeats 3200000 in
theorem specRootOf (L : Int) (A : Option Addr) (n c : Nat) (xs : List Int) (A1 : Option Addr) (m d : Nat) (us : List Int) (w : World) (h : Rd w A n xs) (hwf : Wf xs) (hL1 : -9223372036854775808 ≤ L) (hL2 : L ≤ 9223372036854775807) (hn : n ≤ maxLen) (h2 : Rd w A1 m us) (hwf2 : Wf us) (hm : m ≤ maxLen) :
    Calls Tryd.prog 40 #[.agg #[.int .i64 L, .slice A n c], .slice A1 m d] w (LsiPost w (rAns rtR L xs us).1.length (rAns rtR L xs us).1 (rAns rtR L xs us).2.1 (rAns rtR L xs us).2.2) := by
  have hn2 : n ≤ 9223372036854775807 := by unfold maxLen at hn; omega
  have hm2 : m ≤ 9223372036854775807 := by unfold maxLen at hm; omega
  have hn1 := h.1
  have hm1 := h2.1
  have HB := Lib.hid (below1 w (.cells #[.int .i64 L, .slice A n c] 29))
  have x0 := box_new 29 w L A n c
  have hh := h.below HB.out
  have hh2 := h2.below HB.out
  have HC := Lib.hid (wCode_two L xs us)
  cases ha : alphB L xs
  · rw [rAns_no rtR L xs us ha]
    have HD := Lib.hid (wCode_no L xs us ha)
    clear ha hn1
    go_enter Tryd.func40, Tryd.ntmps40
    go_wp2_with fail
    refine (l03Code_any L _ _ _ _ _ _ _ _ _ xs us us _ hh hn2 hh2 hm2 hh2 hm2).mono ?_
    rintro e w1 ⟨rfl, hb⟩
    rw [HC.out, HD.out]
    go_wp2_with fail
    go_ret3
    exact lsiPost_no (HB.out.trans (hb.mono HB.out.size))
  · cases hu : wordB L us
    · rw [rAns_bad rtR L xs us ha hu]
      have HD := Lib.hid (wCode_bad L xs us ha hu)
      clear ha hu hn1
      go_enter Tryd.func40, Tryd.ntmps40
      go_wp2_with fail
      refine (l03Code_any L _ _ _ _ _ _ _ _ _ xs us us _ hh hn2 hh2 hm2 hh2 hm2).mono ?_
      rintro e w1 ⟨rfl, hb⟩
      rw [HC.out, HD.out]
      go_wp2_with fail
      go_ret3
      exact lsiPost_no (HB.out.trans (hb.mono HB.out.size))
    · have HD := Lib.hid (wCode_yes L xs us ha hu)
      obtain ⟨rs, rfl, rfl, h8, hr, hrel, hl, hd, _⟩ := alphB_nats L xs n hn1 ha
      obtain ⟨vs, rfl, hv24, hvn⟩ := wordB_nats n us hu
      rw [ints_len] at hm1
      have hm24 : m ≤ 24 := by omega
      rw [rAns_yes rtR (n : Int) rs vs ha hu]
      have HDEP := Lib.hid ((depB_iff rs n hl hr).1 hd)
      have HLV := Lib.hid hm1
      have HLR := Lib.hid hl
      have HR := Lib.hid hr
      have HVM := Lib.hid hvn
      have HSY : Hid (∀ a b, RDep rs a b = RDep rs b a) := Lib.hid (rdep_sym rs n hl hr HDEP.out)
      have HRE : Hid (∀ a, a < n → RDep rs a a = true) := Lib.hid fun a ha9 => HDEP.out.1 a (by rw [HLR.out]; exact ha9)
      have HNR : Hid (∀ ws, nfM (RDep rs) n ws = nfR rs ws) := Lib.hid (fun ws => by unfold nfR; rw [HLR.out])
      clear ha hu hl hm1
      go_enter Tryd.func40, Tryd.ntmps40
      go_wp2_with fail
      refine (l03Code_any (n : Int) _ _ _ _ _ _ _ _ _ (ints rs) (ints vs) (ints vs) _ hh hn2 hh2 hm2 hh2 hm2).mono ?_
      rintro e w1 ⟨rfl, hb⟩
      rw [HC.out, HD.out]
      have x1 := x0.next hb
      have y0 := x1.c0
      have y1 := x1.c1
      have HB1 := Lib.hid (HB.out.trans (hb.mono HB.out.size))
      have hrd := hh.below hb
      have hr2 := hh2.below hb
      have h24 : n ≤ 24 := by omega
      clear hb hh hh2 h h2 x0 hr hvn hd hrel
      have HPQ := Lib.hid (l07Root_any A A1 n c m d rs vs w1 hrd HLR.out h8 HR.out HDEP.out hr2 hm24 HVM.out)
      have HZ2 : Hid (¬ m = 0 → rtR rs vs = (ints (rtF rs vs).1, ((rtF rs vs).2 : Int), 0)) := Lib.hid fun h0 => by unfold rtR; rw [if_neg (by rw [show vs.length = m from by first | exact HLV.out | exact HLV.out.symm]; exact h0)]
      have HZ3 : Hid (m = 0 → rtR rs vs = ([], 0, 5)) := Lib.hid fun h0 => by unfold rtR; rw [if_pos (by rw [show vs.length = m from by first | exact HLV.out | exact HLV.out.symm]; exact h0)]
      obtain ⟨z, hz⟩ : ∃ z, z = rtF rs vs := ⟨_, rfl⟩
      rw [← hz] at HPQ HZ2
      clear hz
      by_cases h0 : m = 0
      · have hI : (m : Int) = 0 := by omega
        go_wp2_with fail
        go_ret3
        rw [HZ3.out h0]
        exact lsiPost_no HB1.out
      · have hI : ¬ (m : Int) = 0 := by omega
        go_wp2_with fail
        refine HPQ.out.mono ?_
        rintro e w2 ⟨A3, c3, rfl, ho3, hb3⟩
        go_wp2_with fail
        go_ret3
        rw [HZ2.out h0]
        exact lsiPost_yes (by rw [ints_len]) ho3 HB1.out hb3
end Go.Proofs.YtdafdffmkjhhcaaDoor
