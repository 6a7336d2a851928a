/-
  FnSameTraces: for every list of bytes the law answers true.
-/
import Derived.Test.YtcojodkcpemfdaaDoorM9
import Derived.Test.YtcojodkcpemfdaaDoorM8
import Derived.Test.YtcojodkcpemfdaaDoorM6
import Derived.Test.YtcojodkcpemfdaaDoorM3
namespace Go.Proofs.YtcojodkcpemfdaaDoor
open Go.RowKit
set_option linter.unusedVariables false
set_option maxRecDepth 100000

/-- The three facts that the law asks about. -/
theorem forms_same (rs vs ys : List Nat) (n : Nat) (hl : rs.length = n) (h8 : n ≤ 8) (hr : ∀ i, rs.getD i 0 < 2 ^ n) (hdep : Dep rs) (hv : ∀ x, x ∈ vs → x < n) (hy : ∀ x, x ∈ ys → x < n) (S : Bool) (hS : S = decide (nfR rs vs = nfR rs ys)) :
    decide (ints (nfR rs vs) = ints (nfR rs ys)) = S ∧ decide (ints (foM rs vs) = ints (foM rs ys)) = S ∧ decide (ppR rs vs = ppR rs ys) = S := by
  have hsym : ∀ a b, RDep rs a b = RDep rs b a := rdep_sym rs n hl hr hdep
  have href : ∀ a, a < n → RDep rs a a = true := fun a ha => hdep.1 a (by omega)
  have h1 := eqv_iff_nf hsym href vs ys hv hy
  have h2 := foM_iff rs n (by omega) hsym href vs ys hv hy
  have h3 := ppL_iff rs n hl (by omega) hr hsym vs ys
  have hN : ∀ ws, nfM (RDep rs) n ws = nfR rs ws := fun ws => by unfold nfR; rw [hl]
  have hP : ∀ ws, ppL ws (pairsL rs n) = ppR rs ws := fun ws => by unfold ppR; rw [hl]
  rw [hN, hN] at h1
  rw [hP, hP] at h3
  subst hS
  refine ⟨?_, ?_, ?_⟩
  · rw [decide_eq_decide]; exact ints_injs _ _
  · rw [decide_eq_decide, ints_injs, h2, h1]
  · rw [decide_eq_decide, h3, h1]
set_option maxHeartbeats 6400000 in
theorem walkSameTraces (A0 : Option Addr) (n0 c0 : Nat) (bs : List Int) (w : World) (h0 : RdB w A0 n0 bs) (hwf0 : WfB bs) (hl0 : n0 ≤ maxLen) (hT0 : Tab w) :
    Calls Tryd.prog 11 #[.slice A0 n0 c0] w fun e w' => e = .returned (.bool true) ∧ Below w.heap.size w w' := by
  by_cases hn0 : n0 ≤ 4096
  rotate_left
  · have hbig : decide ((4096 : Int) < (n0 : Int)) = true := decide_eq_true (by omega)
    go_enter Tryd.func11, Tryd.ntmps11
    go_wp2_with fail
    refine (bigD_any A0 n0 c0 w).mono ?_
    rintro e w' ⟨rfl, rfl⟩
    go_wp2_with fail
    go_ret
    exact ⟨rfl, Below.refl _ _⟩
  have hbig : decide ((4096 : Int) < (n0 : Int)) = false := decide_eq_false (by omega)
  have HD := Lib.hid (dDrawAreSameTrace_any A0 n0 c0 bs w h0 hwf0 hn0)
  go_enter Tryd.func11, Tryd.ntmps11
  go_wp2_with fail
  refine (bigD_any A0 n0 c0 w).mono ?_
  rintro e w' ⟨rfl, rfl⟩
  go_wp2_with fail
  refine HD.out.mono ?_
  rintro e wd ⟨L, n, c, A, xs, m, d, A1, us, q, f, B1, ts, rfl, ⟨hL1, hL2⟩, hN9, hwf, h, hwf2, hm25, h2, hwf3, hq25, h3, _, b0⟩
  have hT := hT0.below b0
  have hn : n ≤ maxLen := by unfold maxLen; omega
  have hm : m ≤ maxLen := by unfold maxLen; omega
  have hq : q ≤ maxLen := by unfold maxLen; omega
  have hn2 : n ≤ 9223372036854775807 := by omega
  have hm2 : m ≤ 9223372036854775807 := by omega
  have hq2 : q ≤ 9223372036854775807 := by omega
  have HB := Lib.hid (below1 wd (.cells #[.int .i64 L, .slice A n c] 29))
  have x0 := box_new 29 wd L A n c
  have y0 := x0.c0
  have y1 := x0.c1
  clear HD h0 hT0 hbig
  have HW1 := Lib.hid fun (ww : World) (hw : Below wd.heap.size wd ww) => implAreSameTrace L A n c xs A1 m d us B1 q f ts ww (h.below hw) hwf hL1 hL2 hn (h2.below hw) hwf2 hm (h3.below hw) hwf3 hq (hT.below hw)
  have HW2 := Lib.hid fun (ww : World) (hw : Below wd.heap.size wd ww) => specAreSameTrace L A n c xs A1 m d us B1 q f ts ww (h.below hw) hwf hL1 hL2 hn (h2.below hw) hwf2 hm (h3.below hw) hwf3 hq
  have hm1 := h2.1
  have hq1 := h3.1
  have hn1 := h.1
  cases ha : alphB L xs
  · rw [stAns_no L xs us ts ha] at HW1 HW2
    clear ha
    go_wp2_with fail
    refine (HW1.out _ HB.out).mono ?_
    rintro e w1 ⟨rfl, hb1⟩
    have HB1 := Lib.hid (HB.out.trans (hb1.mono HB.out.size))
    have x1 := x0.next hb1
    have z0 := x1.c0
    have z1 := x1.c1
    go_wp2_with fail
    refine (HW2.out _ HB1.out).mono ?_
    rintro e w2 ⟨rfl, hb2⟩
    have HB2 := Lib.hid (HB1.out.trans (hb2.mono HB1.out.size))
    go_wp2_with fail
    go_ret
    exact ⟨rfl, b0.trans (HB2.out.mono b0.size)⟩
  cases hu : (wordB L us && wordB L ts)
  · rw [stAns_bad L xs us ts ha hu] at HW1 HW2
    clear ha hu
    go_wp2_with fail
    refine (HW1.out _ HB.out).mono ?_
    rintro e w1 ⟨rfl, hb1⟩
    have HB1 := Lib.hid (HB.out.trans (hb1.mono HB.out.size))
    have x1 := x0.next hb1
    have z0 := x1.c0
    have z1 := x1.c1
    go_wp2_with fail
    refine (HW2.out _ HB1.out).mono ?_
    rintro e w2 ⟨rfl, hb2⟩
    have HB2 := Lib.hid (HB1.out.trans (hb2.mono HB1.out.size))
    go_wp2_with fail
    go_ret
    exact ⟨rfl, b0.trans (HB2.out.mono b0.size)⟩
  have HW3 := Lib.hid fun (ww : World) (hw : Below wd.heap.size wd ww) => implNormalForm L A n c xs A1 m d us ww (h.below hw) hwf hL1 hL2 hn (h2.below hw) hwf2 hm (hT.below hw)
  have HW4 := Lib.hid fun (ww : World) (hw : Below wd.heap.size wd ww) => implNormalForm L A n c xs B1 q f ts ww (h.below hw) hwf hL1 hL2 hn (h3.below hw) hwf3 hq (hT.below hw)
  have HW5 := Lib.hid fun (ww : World) (hw : Below wd.heap.size wd ww) => implFoataForm L A n c xs A1 m d us ww (h.below hw) hwf hL1 hL2 hn (h2.below hw) hwf2 hm (hT.below hw)
  have HW6 := Lib.hid fun (ww : World) (hw : Below wd.heap.size wd ww) => implFoataForm L A n c xs B1 q f ts ww (h.below hw) hwf hL1 hL2 hn (h3.below hw) hwf3 hq (hT.below hw)
  have HW7 := Lib.hid fun (ww : World) (hw : Below wd.heap.size wd ww) => implPairProjections L A n c xs A1 m d us ww (h.below hw) hwf hL1 hL2 hn (h2.below hw) hwf2 hm (hT.below hw)
  have HW8 := Lib.hid fun (ww : World) (hw : Below wd.heap.size wd ww) => implPairProjections L A n c xs B1 q f ts ww (h.below hw) hwf hL1 hL2 hn (h3.below hw) hwf3 hq (hT.below hw)
  have hsm1 := ppAns_small L xs us
  have hsm2 := ppAns_small L xs ts
  obtain ⟨rs, rfl, rfl, h8, hr, hrel, hl, hd, _⟩ := alphB_nats L xs n hn1 ha
  have hu' := hu
  rw [Bool.and_eq_true] at hu'
  obtain ⟨vs, rfl, hv24, hvn⟩ := wordB_nats n us hu'.1
  obtain ⟨ys, rfl, hy24, hyn⟩ := wordB_nats n ts hu'.2
  rw [stAns_yes (n : Int) rs vs ys ha hu] at HW1 HW2
  rw [show nfAns (n : Int) (ints rs) (ints vs) = _ from wAns_yes _ (n : Int) rs vs ha hu'.1] at HW3
  rw [show nfAns (n : Int) (ints rs) (ints ys) = _ from wAns_yes _ (n : Int) rs ys ha hu'.2] at HW4
  rw [show foAns (n : Int) (ints rs) (ints vs) = _ from wAns_yes _ (n : Int) rs vs ha hu'.1] at HW5
  rw [show foAns (n : Int) (ints rs) (ints ys) = _ from wAns_yes _ (n : Int) rs ys ha hu'.2] at HW6
  rw [show ppAns (n : Int) (ints rs) (ints vs) = _ from lssAns_yes ppR (n : Int) rs vs ha hu'.1] at HW7 hsm1
  rw [show ppAns (n : Int) (ints rs) (ints ys) = _ from lssAns_yes ppR (n : Int) rs ys ha hu'.2] at HW8 hsm2
  obtain ⟨S, hS⟩ : ∃ S, S = decide (nfR rs vs = nfR rs ys) := ⟨_, rfl⟩
  have hf := forms_same rs vs ys n hl h8 hr ((depB_iff rs n hl hr).1 hd) hvn hyn S hS
  rw [← hS] at HW1 HW2
  have hk1 := nfR_len rs vs
  have hk2 := nfR_len rs ys
  have hk3 := foM_len rs vs
  have hk4 := foM_len rs ys
  obtain ⟨X3, e3⟩ : ∃ X, X = ints (nfR rs vs) := ⟨_, rfl⟩
  obtain ⟨X4, e4⟩ : ∃ X, X = ints (nfR rs ys) := ⟨_, rfl⟩
  obtain ⟨X5, e5⟩ : ∃ X, X = ints (foM rs vs) := ⟨_, rfl⟩
  obtain ⟨X6, e6⟩ : ∃ X, X = ints (foM rs ys) := ⟨_, rfl⟩
  obtain ⟨X7, e7⟩ : ∃ X, X = ppR rs vs := ⟨_, rfl⟩
  obtain ⟨X8, e8⟩ : ∃ X, X = ppR rs ys := ⟨_, rfl⟩
  rw [← e3] at HW3
  rw [← e4] at HW4
  rw [← e5] at HW5
  rw [← e6] at HW6
  rw [← e7] at HW7 hsm1
  rw [← e8] at HW8 hsm2
  rw [← e3, ← e4, ← e5, ← e6, ← e7, ← e8] at hf
  have hm24 : m ≤ 24 := by rw [ints_len] at hm1; omega
  have hq24 : q ≤ 24 := by rw [ints_len] at hq1; omega
  obtain ⟨K3, k3⟩ : ∃ K, K = X3.length := ⟨_, rfl⟩
  obtain ⟨K4, k4⟩ : ∃ K, K = X4.length := ⟨_, rfl⟩
  obtain ⟨K5, k5⟩ : ∃ K, K = X5.length := ⟨_, rfl⟩
  obtain ⟨K6, k6⟩ : ∃ K, K = X6.length := ⟨_, rfl⟩
  obtain ⟨K7, k7⟩ : ∃ K, K = X7.length := ⟨_, rfl⟩
  obtain ⟨K8, k8⟩ : ∃ K, K = X8.length := ⟨_, rfl⟩
  have HV3 : Hid (∀ ww : World, Below wd.heap.size wd ww → Calls Tryd.prog 48 #[.agg #[.int .i64 (n : Int), .slice A n c], .slice A1 m d] ww fun e w' => ∃ G k, e = .returned (.tuple #[.slice G K3 k, .int .i64 0]) ∧ Own 2 w' ww.heap.size G K3 k X3 ∧ Below ww.heap.size ww w') := Lib.hid (by rw [k3]; exact HW3.out)
  have HV4 : Hid (∀ ww : World, Below wd.heap.size wd ww → Calls Tryd.prog 48 #[.agg #[.int .i64 (n : Int), .slice A n c], .slice B1 q f] ww fun e w' => ∃ G k, e = .returned (.tuple #[.slice G K4 k, .int .i64 0]) ∧ Own 2 w' ww.heap.size G K4 k X4 ∧ Below ww.heap.size ww w') := Lib.hid (by rw [k4]; exact HW4.out)
  have HV5 : Hid (∀ ww : World, Below wd.heap.size wd ww → Calls Tryd.prog 49 #[.agg #[.int .i64 (n : Int), .slice A n c], .slice A1 m d] ww fun e w' => ∃ G k, e = .returned (.tuple #[.slice G K5 k, .int .i64 0]) ∧ Own 2 w' ww.heap.size G K5 k X5 ∧ Below ww.heap.size ww w') := Lib.hid (by rw [k5]; exact HW5.out)
  have HV6 : Hid (∀ ww : World, Below wd.heap.size wd ww → Calls Tryd.prog 49 #[.agg #[.int .i64 (n : Int), .slice A n c], .slice B1 q f] ww fun e w' => ∃ G k, e = .returned (.tuple #[.slice G K6 k, .int .i64 0]) ∧ Own 2 w' ww.heap.size G K6 k X6 ∧ Below ww.heap.size ww w') := Lib.hid (by rw [k6]; exact HW6.out)
  have HV7 : Hid (∀ ww : World, Below wd.heap.size wd ww → Calls Tryd.prog 50 #[.agg #[.int .i64 (n : Int), .slice A n c], .slice A1 m d] ww fun e w' => ∃ G k, e = .returned (.tuple #[.slice G K7 k, .int .i64 0]) ∧ OwnSS w' ww.heap.size w'.heap.size G K7 k X7 ∧ Below ww.heap.size ww w') := Lib.hid (by rw [k7]; exact HW7.out)
  have HV8 : Hid (∀ ww : World, Below wd.heap.size wd ww → Calls Tryd.prog 50 #[.agg #[.int .i64 (n : Int), .slice A n c], .slice B1 q f] ww fun e w' => ∃ G k, e = .returned (.tuple #[.slice G K8 k, .int .i64 0]) ∧ OwnSS w' ww.heap.size w'.heap.size G K8 k X8 ∧ Below ww.heap.size ww w') := Lib.hid (by rw [k8]; exact HW8.out)
  have hK3 : K3 ≤ 24 := by rw [k3, e3, ints_len]; omega
  have hK5 : K5 ≤ 24 := by rw [k5, e5, ints_len]; omega
  have hK7 : K7 ≤ 4608 := by rw [k7]; exact hsm1.1
  have HM7 : Hid (∀ z, z ∈ X7 → z.length ≤ maxLen) := Lib.hid fun z hz => Nat.le_trans (len_sumL X7 z hz) (Nat.le_trans hsm1.2 (by unfold maxLen; decide))
  have HM8 : Hid (∀ z, z ∈ X8 → z.length ≤ maxLen) := Lib.hid fun z hz => Nat.le_trans (len_sumL X8 z hz) (Nat.le_trans hsm2.2 (by unfold maxLen; decide))
  have HF1 := Lib.hid hf.1
  have HF2 := Lib.hid hf.2.1
  have HF3 := Lib.hid hf.2.2
  clear hf hS e3 e4 e5 e6 e7 e8 k3 k4 k5 k6 k7 k8 hk1 hk2 hk3 hk4 hsm1 hsm2 HW3 HW4 HW5 HW6 HW7 HW8 ha hu hu' hvn hyn hd hrel hr hl h h2 h3 hwf hwf2 hwf3 hm1 hq1 hn1 hT
  have hne : (S != S) = false := by cases S <;> rfl
  have heq : (S == S) = true := by cases S <;> rfl
  go_wp2_with fail
  refine (HW1.out _ HB.out).mono ?_
  rintro e w1 ⟨rfl, hb1⟩
  have HB1 := Lib.hid (HB.out.trans (hb1.mono HB.out.size))
  have x1 := x0.next hb1
  have z10 := x1.c0
  have z11 := x1.c1
  clear hb1
  go_wp2_with fail
  refine (HW2.out _ HB1.out).mono ?_
  rintro e w2 ⟨rfl, hb2⟩
  have HB2 := Lib.hid (HB1.out.trans (hb2.mono HB1.out.size))
  have x2 := x1.next hb2
  have z20 := x2.c0
  have z21 := x2.c1
  clear hb2
  go_wp2_with fail
  refine (HV3.out _ HB2.out).mono ?_
  rintro e w3 ⟨G3, j3, rfl, o3, hb3⟩
  have HB3 := Lib.hid (HB2.out.trans (hb3.mono HB2.out.size))
  have x3 := x2.next hb3
  have z30 := x3.c0
  have z31 := x3.c1
  have r3 := o3.rd
  clear hb3 o3
  go_wp2_with fail
  refine (HV4.out _ HB3.out).mono ?_
  rintro e w4 ⟨G4, j4, rfl, o4, hb4⟩
  have HB4 := Lib.hid (HB3.out.trans (hb4.mono HB3.out.size))
  have x4 := x3.next hb4
  have z40 := x4.c0
  have z41 := x4.c1
  have r34 := r3.below hb4
  have r4 := o4.rd
  clear hb4 o4 r3
  go_wp2_with fail
  refine (HV5.out _ HB4.out).mono ?_
  rintro e w5 ⟨G5, j5, rfl, o5, hb5⟩
  have HB5 := Lib.hid (HB4.out.trans (hb5.mono HB4.out.size))
  have x5 := x4.next hb5
  have z50 := x5.c0
  have z51 := x5.c1
  have r35 := r34.below hb5
  have r45 := r4.below hb5
  have r5 := o5.rd
  clear hb5 o5 r34 r4
  go_wp2_with fail
  refine (HV6.out _ HB5.out).mono ?_
  rintro e w6 ⟨G6, j6, rfl, o6, hb6⟩
  have HB6 := Lib.hid (HB5.out.trans (hb6.mono HB5.out.size))
  have x6 := x5.next hb6
  have z60 := x6.c0
  have z61 := x6.c1
  have r36 := r35.below hb6
  have r46 := r45.below hb6
  have r56 := r5.below hb6
  have r6 := o6.rd
  clear hb6 o6 r35 r45 r5
  go_wp2_with fail
  refine (HV7.out _ HB6.out).mono ?_
  rintro e w7 ⟨G7, j7, rfl, o7, hb7⟩
  have HB7 := Lib.hid (HB6.out.trans (hb7.mono HB6.out.size))
  have x7 := x6.next hb7
  have z70 := x7.c0
  have z71 := x7.c1
  have r37 := r36.below hb7
  have r47 := r46.below hb7
  have r57 := r56.below hb7
  have r67 := r6.below hb7
  have r7 := o7.rd HM7.out
  clear hb7 o7 r36 r46 r56 r6
  go_wp2_with fail
  refine (HV8.out _ HB7.out).mono ?_
  rintro e w8 ⟨G8, j8, rfl, o8, hb8⟩
  have HB8 := Lib.hid (HB7.out.trans (hb8.mono HB7.out.size))
  have r38 := r37.below hb8
  have r48 := r47.below hb8
  have r58 := r57.below hb8
  have r68 := r67.below hb8
  have r78 := r7.below hb8
  have r8 := o8.rd HM8.out
  have HL1 := Lib.hid (likeInts_any _ _ _ _ j3 j4 X3 X4 _ r38 r48 (by omega))
  rw [HF1.out] at HL1
  clear hb8 o8 r37 r47 r57 r67 r7
  go_wp2_with fail
  refine HL1.out.mono ?_
  rintro e w9 ⟨rfl, hb9⟩
  have HB9 := Lib.hid (HB8.out.trans (hb9.mono HB8.out.size))
  have HL2 := Lib.hid (likeInts_any _ _ _ _ j5 j6 X5 X6 _ (r58.below hb9) (r68.below hb9) (by omega))
  rw [HF2.out] at HL2
  have r79 := r78.below hb9
  have r89 := r8.below hb9
  clear hb9 r38 r48 r58 r68 r78 r8
  go_wp2_with fail
  refine HL2.out.mono ?_
  rintro e w10 ⟨rfl, hb10⟩
  have HB10 := Lib.hid (HB9.out.trans (hb10.mono HB9.out.size))
  have HL3 := Lib.hid (likeRows_any _ _ _ _ j7 j8 X7 X8 _ (r79.below hb10) (r89.below hb10) (by omega))
  rw [HF3.out] at HL3
  go_wp2_with fail
  refine HL3.out.mono ?_
  rintro e w11 ⟨rfl, hb11⟩
  go_wp2_with fail
  go_ret
  exact ⟨rfl, b0.trans ((HB10.out.trans (hb11.mono HB10.out.size)).mono b0.size)⟩
end Go.Proofs.YtcojodkcpemfdaaDoor
