/-
  Graph groups: both sides of IsSignedWord and IsPositive.
-/
import Derived.Test.YtbleimcajpelhaaDoorGrF
namespace Go.Proofs.YtbleimcajpelhaaDoor
open Go Go.RowKit
set_option linter.unusedVariables false
set_option linter.unusedSimpArgs false
set_option maxRecDepth 100000

theorem gB_no {L : Int} {xs us : List Int} (h : alphB L xs = false) : gB L xs us = false := by unfold gB; rw [h]; rfl
theorem gB_bad {L : Int} {xs us : List Int} (h : alphB L xs = true) (h2 : sgB L us = false) : gB L xs us = false := by unfold gB; rw [h, h2]; rfl
theorem gB_yes {L : Int} {xs us : List Int} (h : alphB L xs = true) (h2 : sgB L us = true) : gB L xs us = true := by unfold gB; rw [h, h2]; rfl
set_option maxHeartbeats 3200000 in
theorem implIsSignedWord (L : Int) (A : Option Addr) (n c : Nat) (xs : List Int) (A1 : Option Addr) (m d : Nat) (us : List Int) (w : World) (h : Rd w A n xs) (hwf : Wf xs) (hL1 : -9223372036854775808 ≤ L) (hL2 : L ≤ 9223372036854775807) (hn : n ≤ maxLen) (h2 : Rd w A1 m us) (hwf2 : Wf us) (hm : m ≤ maxLen) (hT : Tab w) :
    Calls Tryd.prog 18 #[.agg #[.int .i64 L, .slice A n c], .slice A1 m d] w (fun e w' => e = .returned (.bool (gB L xs us)) ∧ Below w.heap.size w w') := by
  have hn2 : n ≤ 9223372036854775807 := by unfold maxLen at hn; omega
  have hn1 := h.1
  have hm1 := h2.1
  have x0 := box_new 27 w L A n c
  have HB := Lib.hid (below2 w (.cells #[.int .i64 L, .slice A n c] 27) (.cells #[.slice A1 m d] 22))
  have hh := h.below HB.out
  have ht := rdT_box w (.cells #[.int .i64 L, .slice A n c] 27) A1 m d us 22 h2 hm
  have hT1 := hT.below HB.out
  have x1 := x0.next (below1 (w.alloc (.cells #[.int .i64 L, .slice A n c] 27)) (.cells #[.slice A1 m d] 22))
  cases ha : alphB L xs
  · rw [show gB L xs us = _ from gB_no ha]
    have HA := Lib.hid ha
    clear ha ht hn1
    go_enter Tryd.func18, Tryd.ntmps18
    go_wp2_with fail
    refine (signedIn_no L _ _ _ _ _ _ xs _ hh hwf hL1 hL2 hn2 HA.out hT1).mono ?_
    rintro e w1 ⟨rfl, hb⟩
    have gc := cell_new0 w1 (.slice none 0 0) 52
    have HBG := (HB.out.trans (hb.mono HB.out.size)).alloc (HB.out.trans (hb.mono HB.out.size)).size
    go_wp2_with fail
    go_ret
    exact ⟨rfl, HBG _⟩
  · cases hu : sgB L us
    · rw [show gB L xs us = _ from gB_bad ha hu]
      obtain ⟨rs, rfl, rfl, h8, hr, hrel, hl, hd, _⟩ := alphB_nats L xs n hn1 ha
      have HU := Lib.hid hu
      clear ha hu
      go_enter Tryd.func18, Tryd.ntmps18
      go_wp2_with fail
      refine (signedIn_any _ _ _ _ _ _ rs _ _ hh hwf h8 hl hr hrel hd ht (by omega) hT1).mono ?_
      rw [okG_one, HU.out]
      rintro e w1 (⟨hok, _⟩ | ⟨hok, rfl, hb⟩)
      · cases hok
      have gc := cell_new0 w1 (.slice none 0 0) 52
      have HBG := (HB.out.trans (hb.mono HB.out.size)).alloc (HB.out.trans (hb.mono HB.out.size)).size
      go_wp2_with fail
      go_ret
      exact ⟨rfl, HBG _⟩
    · obtain ⟨rs, rfl, rfl, h8, hr, hrel, hl, hd, hxs⟩ := alphB_nats L xs n hn1 ha
      have HANS := Lib.hid (show gB (n : Int) (ints rs) us = _ from gB_yes ha hu)
      have HU := Lib.hid hu
      have HDEP := (depB_iff rs n hl hr).1 hd
      obtain ⟨ds, hds⟩ : ∃ ds, ds = dblR rs := ⟨_, rfl⟩
      obtain ⟨N, hN⟩ : ∃ N, N = 2 * n := ⟨_, rfl⟩
      have HDL : Hid (ds.length = N) := Lib.hid (by rw [hds, dbl_len, hl, hN])
      have HDR : Hid (∀ i, ds.getD i 0 < 2 ^ N) := Lib.hid (by rw [hds, hN, ← hl]; exact dbl_lt rs)
      have HGD : Hid (GD (RDep ds) N) := Lib.hid (by rw [hds, hN]; exact dbl_gd rs n hl hr HDEP)
      have HDD : Hid (Dep ds) := Lib.hid (by rw [hds]; exact dbl_is rs n hl hr HDEP)
      have hN16 : N ≤ 16 := by omega
      have hum : us.length ≤ 24 := sgB_len (by exact HU.out)
      have HWN : Hid (∀ x, x ∈ us.map inN → x < N) := Lib.hid (by rw [hN]; exact sgB_nats (by exact HU.out))
      have HWA : Hid (∀ s, s ∈ us → sgB1 8 s = true) := Lib.hid (fun s hs => sgB1_mono n s h8 (sgB_all (L := (n : Int)) (by exact HU.out) s hs))
      obtain ⟨W, hW⟩ : ∃ W, W = us.map inN := ⟨_, rfl⟩
      have HWL : Hid (W.length = m) := Lib.hid (by rw [hW, List.length_map]; exact hm1)
      rw [← hW] at HWN
      rw [HANS.out]
      have HDS := Lib.hid hds
      have HWE := Lib.hid hW
      have HNE := Lib.hid hN
      clear hds hW hN
      go_enter Tryd.func18, Tryd.ntmps18
      go_wp2_with fail
      refine (signedIn_any _ _ _ _ _ _ rs _ _ hh hwf h8 hl hr hrel hd ht (by omega) hT1).mono ?_
      rw [okG_one, HU.out]
      rintro e w1 (⟨hok, R, cr, AL, cl, rfl, oR, oS, hb⟩ | ⟨hok, _⟩)
      rotate_left
      · cases hok
      rw [← HDS.out, ← HNE.out] at oR
      rw [← HNE.out]
      obtain ⟨lo, hi, oS⟩ : ∃ lo hi, OwnSS w1 lo hi AL 1 cl [ints W] := ⟨_, _, by rw [HWE.out]; exact oS⟩
      have gb := Boxed.new w1 52 (.slice R N cr)
      have gc := gb.cell
      have hbg := below1 w1 (.cells #[.slice R N cr] 52)
      have HB1 := Lib.hid (HB.out.trans (hb.mono HB.out.size))
      have HB2 := Lib.hid (HB1.out.trans (hbg.mono HB1.out.size))
      have hRd := oR.rd.below hbg
      obtain ⟨ws, hws, HWS⟩ := rdSS_words (oS.rd (by intro z hz; obtain rfl := (by simpa using hz : z = _); rw [ints_len, HWL.out]; unfold maxLen; omega)) [W] rfl
      have hT2 := ((hT1.below hb).below hbg)
      have hRT := hws.below hbg
      have y0 := ((x1.next hb).next hbg).c0
      have y1 := ((x1.next hb).next hbg).c1
      clear hr hrel hd hu hws oS hh ht hT1 hT h h2 x0 x1
      obtain ⟨wg, hwg⟩ : ∃ wg, wg = w1.alloc (.cells #[.slice R N cr] 52) := ⟨_, rfl⟩
      rw [← hwg] at gb gc hbg HB2 hRd hT2 hRT y0 y1
      have hgl := gb.lt
      go_wp2_with fail
      rw [← hwg]
      clear hwg oR hb
      go_wp2_with fail
      go_ret
      exact ⟨rfl, HB2.out⟩
set_option maxHeartbeats 1600000 in
theorem l09Is_any (L : Int) (A : Option Addr) (n c : Nat) (xs : List Int) (A1 : Option Addr) (m d : Nat) (us : List Int) (w : World) (h : Rd w A n xs) (hn : n ≤ 9223372036854775807) (h2 : Rd w A1 m us) (hm : m ≤ 9223372036854775807) :
    Calls Tryd.prog 45 #[.agg #[.int .i64 L, .slice A n c], .slice A1 m d] w fun e w' => e = .returned (.bool (gB L xs us)) ∧ Below w.heap.size w w' := by
  have HB := Lib.hid (below1 w (.cells #[.int .i64 L, .slice A n c] 27))
  have x0 := box_new 27 w L A n c
  have hh := h.below HB.out
  have hh2 := h2.below HB.out
  cases ha : alphB L xs
  · have HA := Lib.hid ha
    have HG : Hid (gB L xs us = false) := Lib.hid (gB_no ha)
    clear ha
    go_enter Tryd.func45, Tryd.ntmps45
    go_wp2_with fail
    refine (l02Is_any L _ _ _ xs _ hh hn).mono ?_
    rintro e w1 ⟨rfl, hb⟩
    rw [HA.out]
    go_wp2_with fail
    go_ret
    exact ⟨ret_b _ _ HG.out.symm, HB.out.trans (hb.mono HB.out.size)⟩
  · have HA := Lib.hid ha
    obtain ⟨hl0, hl8⟩ := alphB_L8 L xs ha
    have HG : Hid (gB L xs us = sgB L us) := Lib.hid (by unfold gB; rw [ha]; rfl)
    clear ha
    go_enter Tryd.func45, Tryd.ntmps45
    go_wp2_with fail
    refine (l02Is_any L _ _ _ xs _ hh hn).mono ?_
    rintro e w1 ⟨rfl, hb⟩
    rw [HA.out]
    have y0 := (x0.next hb).c0
    have HB1 := Lib.hid (HB.out.trans (hb.mono HB.out.size))
    go_wp2_with fail
    refine (l09Word_any L _ _ _ us _ (hh2.below hb) hm hl0 hl8).mono ?_
    rintro e w' ⟨rfl, rfl⟩
    go_wp2_with fail
    go_ret
    exact ⟨ret_b _ _ HG.out.symm, HB1.out⟩
theorem specIsSignedWord (L : Int) (A : Option Addr) (n c : Nat) (xs : List Int) (A1 : Option Addr) (m d : Nat) (us : List Int) (w : World) (h : Rd w A n xs) (hwf : Wf xs) (hL1 : -9223372036854775808 ≤ L) (hL2 : L ≤ 9223372036854775807) (hn : n ≤ maxLen) (h2 : Rd w A1 m us) (hwf2 : Wf us) (hm : m ≤ maxLen) :
    Calls Tryd.prog 15 #[.agg #[.int .i64 L, .slice A n c], .slice A1 m d] w (fun e w' => e = .returned (.bool (gB L xs us)) ∧ Below w.heap.size w w') := by
  have hn2 : n ≤ 9223372036854775807 := by unfold maxLen at hn; omega
  have hm2 : m ≤ 9223372036854775807 := by unfold maxLen at hm; omega
  have HB := Lib.hid (below1 w (.cells #[.int .i64 L, .slice A n c] 27))
  have x0 := box_new 27 w L A n c
  have y0 := x0.c0
  have y1 := x0.c1
  have HI := Lib.hid (l09Is_any L A n c xs A1 m d us _ (h.below HB.out) hn2 (h2.below HB.out) hm2)
  go_enter Tryd.func15, Tryd.ntmps15
  go_wp2_with fail
  refine HI.out.mono ?_
  rintro e w1 ⟨rfl, hb⟩
  go_wp2_with fail
  go_ret
  exact ⟨rfl, HB.out.trans (hb.mono HB.out.size)⟩
def negB (a : Nat) : Bool := a % 2 == 1
def ipF (ds W : List Nat) : Bool × Int := (!(redW (RDep ds) W).any negB, 0)
theorem any_eqv {D : Nat → Nat → Bool} {N : Nat} (g : GD D N) (p : Nat → Bool) {u v : List Nat} (hu : ∀ x, x ∈ u → x < N) (hv : ∀ x, x ∈ v → x < N) (h : Eqv D u v) : u.any p = v.any p := by
  rw [Bool.eq_iff_iff, List.any_eq_true, List.any_eq_true]
  exact ⟨fun ⟨x, h1, h2⟩ => ⟨x, (h.mem (g.ref x (hu x h1))).1 h1, h2⟩, fun ⟨x, h1, h2⟩ => ⟨x, (h.mem (g.ref x (hv x h1))).2 h1, h2⟩⟩
theorem outI_neg (a : Nat) : decide (outI a < 0) = negB a := by
  unfold negB
  by_cases h : a % 2 = 0
  · rw [outI_even h, h, decide_eq_false (by omega)]; rfl
  · rw [outI_odd h, show a % 2 = 1 by omega, decide_eq_true (by omega)]; rfl
set_option maxHeartbeats 3200000 in
theorem implIsPositive (L : Int) (A : Option Addr) (n c : Nat) (xs : List Int) (A1 : Option Addr) (m d : Nat) (us : List Int) (w : World) (h : Rd w A n xs) (hwf : Wf xs) (hL1 : -9223372036854775808 ≤ L) (hL2 : L ≤ 9223372036854775807) (hn : n ≤ maxLen) (h2 : Rd w A1 m us) (hwf2 : Wf us) (hm : m ≤ maxLen) (hT : Tab w) :
    Calls Tryd.prog 37 #[.agg #[.int .i64 L, .slice A n c], .slice A1 m d] w (fun e w' => e = .returned (.tuple #[.bool (gA false ipF L xs us).1, .int .i64 (gA false ipF L xs us).2]) ∧ Below w.heap.size w w') := by
  have hn2 : n ≤ 9223372036854775807 := by unfold maxLen at hn; omega
  have hn1 := h.1
  have hm1 := h2.1
  have x0 := box_new 27 w L A n c
  have HB := Lib.hid (below2 w (.cells #[.int .i64 L, .slice A n c] 27) (.cells #[.slice A1 m d] 22))
  have hh := h.below HB.out
  have ht := rdT_box w (.cells #[.int .i64 L, .slice A n c] 27) A1 m d us 22 h2 hm
  have hT1 := hT.below HB.out
  have x1 := x0.next (below1 (w.alloc (.cells #[.int .i64 L, .slice A n c] 27)) (.cells #[.slice A1 m d] 22))
  cases ha : alphB L xs
  · rw [show gA false ipF L xs us = _ from gA1_no ha]
    have HA := Lib.hid ha
    clear ha ht hn1
    go_enter Tryd.func37, Tryd.ntmps37
    go_wp2_with fail
    refine (signedIn_no L _ _ _ _ _ _ xs _ hh hwf hL1 hL2 hn2 HA.out hT1).mono ?_
    rintro e w1 ⟨rfl, hb⟩
    have gc := cell_new0 w1 (.slice none 0 0) 52
    have HBG := (HB.out.trans (hb.mono HB.out.size)).alloc (HB.out.trans (hb.mono HB.out.size)).size
    go_wp2_with fail
    go_ret2
    exact ⟨rfl, HBG _⟩
  · cases hu : sgB L us
    · rw [show gA false ipF L xs us = _ from gA1_bad ha hu]
      obtain ⟨rs, rfl, rfl, h8, hr, hrel, hl, hd, _⟩ := alphB_nats L xs n hn1 ha
      have HU := Lib.hid hu
      clear ha hu
      go_enter Tryd.func37, Tryd.ntmps37
      go_wp2_with fail
      refine (signedIn_any _ _ _ _ _ _ rs _ _ hh hwf h8 hl hr hrel hd ht (by omega) hT1).mono ?_
      rw [okG_one, HU.out]
      rintro e w1 (⟨hok, _⟩ | ⟨hok, rfl, hb⟩)
      · cases hok
      have gc := cell_new0 w1 (.slice none 0 0) 52
      have HBG := (HB.out.trans (hb.mono HB.out.size)).alloc (HB.out.trans (hb.mono HB.out.size)).size
      go_wp2_with fail
      go_ret2
      exact ⟨rfl, HBG _⟩
    · obtain ⟨rs, rfl, rfl, h8, hr, hrel, hl, hd, hxs⟩ := alphB_nats L xs n hn1 ha
      have HANS := Lib.hid (show gA false ipF (n : Int) (ints rs) us = _ from gA1_yes rs hxs ha hu)
      have HU := Lib.hid hu
      have HDEP := (depB_iff rs n hl hr).1 hd
      obtain ⟨ds, hds⟩ : ∃ ds, ds = dblR rs := ⟨_, rfl⟩
      obtain ⟨N, hN⟩ : ∃ N, N = 2 * n := ⟨_, rfl⟩
      have HDL : Hid (ds.length = N) := Lib.hid (by rw [hds, dbl_len, hl, hN])
      have HDR : Hid (∀ i, ds.getD i 0 < 2 ^ N) := Lib.hid (by rw [hds, hN, ← hl]; exact dbl_lt rs)
      have HGD : Hid (GD (RDep ds) N) := Lib.hid (by rw [hds, hN]; exact dbl_gd rs n hl hr HDEP)
      have HDD : Hid (Dep ds) := Lib.hid (by rw [hds]; exact dbl_is rs n hl hr HDEP)
      have hN16 : N ≤ 16 := by omega
      have hum : us.length ≤ 24 := sgB_len (by exact HU.out)
      have HWN : Hid (∀ x, x ∈ us.map inN → x < N) := Lib.hid (by rw [hN]; exact sgB_nats (by exact HU.out))
      have HWA : Hid (∀ s, s ∈ us → sgB1 8 s = true) := Lib.hid (fun s hs => sgB1_mono n s h8 (sgB_all (L := (n : Int)) (by exact HU.out) s hs))
      obtain ⟨W, hW⟩ : ∃ W, W = us.map inN := ⟨_, rfl⟩
      have HWL : Hid (W.length = m) := Lib.hid (by rw [hW, List.length_map]; exact hm1)
      rw [← hW] at HWN HANS
      rw [← hds] at HANS
      rw [HANS.out]
      have HDS := Lib.hid hds
      have HWE := Lib.hid hW
      have HNE := Lib.hid hN
      clear hds hW hN
      go_enter Tryd.func37, Tryd.ntmps37
      go_wp2_with fail
      refine (signedIn_any _ _ _ _ _ _ rs _ _ hh hwf h8 hl hr hrel hd ht (by omega) hT1).mono ?_
      rw [okG_one, HU.out]
      rintro e w1 (⟨hok, R, cr, AL, cl, rfl, oR, oS, hb⟩ | ⟨hok, _⟩)
      rotate_left
      · cases hok
      rw [← HDS.out, ← HNE.out] at oR
      rw [← HNE.out]
      obtain ⟨lo, hi, oS⟩ : ∃ lo hi, OwnSS w1 lo hi AL 1 cl [ints W] := ⟨_, _, by rw [HWE.out]; exact oS⟩
      have gb := Boxed.new w1 52 (.slice R N cr)
      have gc := gb.cell
      have hbg := below1 w1 (.cells #[.slice R N cr] 52)
      have HB1 := Lib.hid (HB.out.trans (hb.mono HB.out.size))
      have HB2 := Lib.hid (HB1.out.trans (hbg.mono HB1.out.size))
      have hRd := oR.rd.below hbg
      obtain ⟨ws, hws, HWS⟩ := rdSS_words (oS.rd (by intro z hz; obtain rfl := (by simpa using hz : z = _); rw [ints_len, HWL.out]; unfold maxLen; omega)) [W] rfl
      have hT2 := ((hT1.below hb).below hbg)
      have hRT := hws.below hbg
      have y0 := ((x1.next hb).next hbg).c0
      have y1 := ((x1.next hb).next hbg).c1
      clear hr hrel hd hu hws oS hh ht hT1 hT h h2 x0 x1
      obtain ⟨wg, hwg⟩ : ∃ wg, wg = w1.alloc (.cells #[.slice R N cr] 52) := ⟨_, rfl⟩
      rw [← hwg] at gb gc hbg HB2 hRd hT2 hRT y0 y1
      have hgl := gb.lt
      go_wp2_with fail
      rw [← hwg]
      clear hwg oR hb
      have HRE : Hid (Calls Tryd.prog 55 #[.agg #[.slice R N cr], .slice AL 1 cl] wg (MakesE 2 wg (redW (RDep ds) W).length (ints (redW (RDep ds) W)))) := Lib.hid (by
        have h9 := reduced_any R AL N cr 1 cl ds ws [W] wg hRd hN16 HDL.out HDR.out HGD.out hRT (by omega) rfl HWS.out (fun k => by
          match k with
          | 0 => show W.length ≤ 576; rw [HWL.out]; omega
          | k + 1 => simp) (by rw [show [W].flatten = W by simp, HWL.out]; omega) (by rw [show [W].flatten = W by simp]; exact HWN.out)
        rw [show [W].flatten = W by simp] at h9
        exact h9)
      have HLE : Hid ((redW (RDep ds) W).length ≤ 24) := Lib.hid (Nat.le_trans (redW_len _) (by rw [HWL.out]; omega))
      have HVV0 : Hid (ipF ds W = (!(redW (RDep ds) W).any negB, 0)) := Lib.hid rfl
      obtain ⟨rl, hrl⟩ : ∃ rl, rl = redW (RDep ds) W := ⟨_, rfl⟩
      rw [← hrl] at HRE HLE HVV0
      obtain ⟨zl, hzl⟩ : ∃ zl, zl = rl.length := ⟨_, rfl⟩
      rw [← hzl] at HRE HLE
      have eg : ∀ args w, (callFunc 48 args).run Tryd.prog w = .ok (.enter 48 args) w := fun args w => Go.MuLone.run_callFunc_enter (P := Tryd.prog) Tryd.func48 (by kernel_rfl) rfl args w
      have HCF : Hid (∀ (ww : World) (Aq : Option Addr) (cq : Nat), Rd ww Aq zl (ints rl) → Calls Tryd.prog 63 #[.slice Aq zl cq, .func (.func 48) #[] #[]] ww fun e w' => e = .returned (.bool (rl.any negB)) ∧ ww = w') := Lib.hid (fun ww Aq cq k1 => by
        have h9 := containsFuncI_any (fun x => negB x.toNat) 48 #[] Aq zl cq (ints rl) ww k1 (by have := HLE.out; omega) eg (fun x hx => by
          unfold ints at hx
          obtain ⟨a, _, rfl⟩ := List.mem_map.1 hx
          exact isNegative_any a ww)
        have e9 : (ints rl).any (fun x => negB x.toNat) = rl.any negB := by unfold ints; rw [List.any_map]; rfl
        rw [e9] at h9; exact h9)
      obtain ⟨bb, hbb⟩ : ∃ bb, bb = rl.any negB := ⟨_, rfl⟩
      rw [← hbb] at HCF HVV0
      clear hrl hzl hbb eg
      go_wp2_with fail
      refine HRE.out.mono ?_
      rintro e w3 ⟨A3, c3, rfl, o3, hb3⟩
      have HC3 := Lib.hid (HCF.out w3 A3 c3 o3.rd)
      go_wp2_with fail
      refine HC3.out.mono ?_
      rintro e w4 ⟨rfl, rfl⟩
      go_wp2_with fail
      go_ret2
      rw [HVV0.out]
      exact ⟨rfl, HB2.out.trans (hb3.mono HB2.out.size)⟩
theorem ip_no {L : Int} {xs us : List Int} (h : (gA [] gfF L xs us).2 ≠ 0) : gA false ipF L xs us = (false, (gA [] gfF L xs us).2) := by
  cases ha : alphB L xs
  · rw [gA1_no ha, gA1_no ha]
  · cases hu : sgB L us
    · rw [gA1_bad ha hu, gA1_bad ha hu]
    · exfalso
      apply h
      rw [gA1_yes _ rfl ha hu]
      unfold gfF
      rw [eF_yes _ _ (Nat.le_trans (redW_len _) (by rw [List.length_map]; exact sgB_len hu))]
theorem ip_yes {L : Int} {xs us : List Int} (h : (gA [] gfF L xs us).2 = 0) : gA false ipF L xs us = (!((gA [] gfF L xs us).1.any fun x => decide (x < 0)), 0) := by
  cases ha : alphB L xs
  · rw [gA1_no ha] at h; cases h
  · cases hu : sgB L us
    · rw [gA1_bad ha hu] at h; cases h
    · obtain ⟨rs, rfl, rfl, h8, hr, hrel, hl, hd, hxs⟩ := alphB_nats L xs xs.length rfl ha
      rw [ints_len, hl] at hu ⊢
      rw [gA1_yes rs hxs (by rw [ints_len] at ha; rw [hl] at ha; exact ha) hu, gA1_yes rs hxs (by rw [ints_len] at ha; rw [hl] at ha; exact ha) hu]
      have HDEP := (depB_iff rs rs.length rfl (by rw [hl]; exact hr)).1 hd
      have g := dbl_gd rs rs.length rfl (by rw [hl]; exact hr) HDEP
      have hWN := sgB_nats hu
      unfold ipF gfF
      rw [eF_yes _ _ (Nat.le_trans (redW_len _) (by rw [List.length_map]; exact sgB_len hu))]
      have hE : Eqv (RDep (dblR rs)) (nfR (dblR rs) (redW (RDep (dblR rs)) (us.map inN))) (redW (RDep (dblR rs)) (us.map inN)) := by
        unfold nfR nfM; rw [dbl_len]; exact nfGo_eqv g.sym g.ref _ _ rfl (redW_lt (by rw [hl]; exact hWN))
      have h2 := any_eqv g negB (fun x hx => by have := nfR_ltG _ _ x hx; rwa [dbl_len] at this) (redW_lt (by rw [hl]; exact hWN)) hE
      rw [← h2, List.any_map]
      congr 2
      congr 1
      funext a
      exact (outI_neg a).symm
set_option maxHeartbeats 1600000 in
theorem specIsPositive (L : Int) (A : Option Addr) (n c : Nat) (xs : List Int) (A1 : Option Addr) (m d : Nat) (us : List Int) (w : World) (h : Rd w A n xs) (hwf : Wf xs) (hL1 : -9223372036854775808 ≤ L) (hL2 : L ≤ 9223372036854775807) (hn : n ≤ maxLen) (h2 : Rd w A1 m us) (hwf2 : Wf us) (hm : m ≤ maxLen) :
    Calls Tryd.prog 36 #[.agg #[.int .i64 L, .slice A n c], .slice A1 m d] w (fun e w' => e = .returned (.tuple #[.bool (gA false ipF L xs us).1, .int .i64 (gA false ipF L xs us).2]) ∧ Below w.heap.size w w') := by
  have HB := Lib.hid (below1 w (.cells #[.int .i64 L, .slice A n c] 27))
  have x0 := box_new 27 w L A n c
  have y0 := x0.c0
  have y1 := x0.c1
  have HGF := Lib.hid (specGroupForm L A n c xs A1 m d us _ (h.below HB.out) hwf hL1 hL2 hn (h2.below HB.out) hwf2 hm)
  have HNO := Lib.hid (ip_no (L := L) (xs := xs) (us := us))
  have HYE := Lib.hid (ip_yes (L := L) (xs := xs) (us := us))
  have HSM := Lib.hid (gfF_small L xs us)
  obtain ⟨ZX, ZC, hZ⟩ : ∃ a b, gA [] gfF L xs us = (a, b) := ⟨_, _, rfl⟩
  rw [hZ] at HGF HNO HYE HSM
  obtain ⟨zl, hzl⟩ : ∃ zl, zl = ZX.length := ⟨_, rfl⟩
  have HZL := Lib.hid hzl
  have HSM : Hid (zl ≤ 24) := Lib.hid (by rw [hzl]; exact HSM.out)
  have HGF : Hid (Calls Tryd.prog 26 #[.agg #[.int .i64 L, .slice A n c], .slice A1 m d] (w.alloc (.cells #[.int .i64 L, .slice A n c] 27)) (LsPost (w.alloc (.cells #[.int .i64 L, .slice A n c] 27)) zl ZX ZC)) := Lib.hid (by rw [hzl]; exact HGF.out)
  clear hZ hzl
  go_enter Tryd.func36, Tryd.ntmps36
  go_wp2_with fail
  refine HGF.out.mono ?_
  rintro e w1 ⟨A3, c3, rfl, o3, hb3⟩
  have HB1 := Lib.hid (HB.out.trans (hb3.mono HB.out.size))
  by_cases hc : ZC = 0
  · have HV := Lib.hid (HYE.out hc)
    have hl24 := HSM.out
    go_wp2_with fail
    go_loop [8] (fun i => ∃ k : Nat, k ≤ zl ∧ i = .int .i64 k ∧ (ZX.take k).any (fun x => decide (x < 0)) = false) (fun i => zl - (intOf i).toNat)
    case atStart => exact ⟨0, Nat.zero_le _, rfl, rfl⟩
    case round =>
      obtain ⟨k, hk, rfl, hall⟩ := hrel
      have HAL := Lib.hid hall
      clear hall
      by_cases hlt : k < zl
      · obtain ⟨b, off, x, rfl, hbs, hx, hcx⟩ := o3.rd.at_ hlt
        have HX := Lib.hid hx
        clear hx
        by_cases hneg : x < 0
        · have HAN : Hid (ZX.any (fun x => decide (x < 0)) = true) := Lib.hid (List.any_eq_true.2 ⟨x, List.mem_of_getElem? HX.out, decide_eq_true hneg⟩)
          go_wp2_with fail
          go_ret2
          rw [HV.out]
          exact ⟨by rw [HAN.out]; rfl, HB1.out⟩
        · have HNX : Hid ((ZX.take (k + 1)).any (fun x => decide (x < 0)) = false) := Lib.hid (by
            rw [List.take_add_one, HX.out, List.any_append, HAL.out]
            simp; omega)
          go_wp2_with fail
          go_round
          case rel => exact ⟨k + 1, by omega, by go_num, HNX.out⟩
          case measure => simp [intOf]; omega
      · have hke : k = zl := by omega
        subst hke
        have HAN : Hid (ZX.any (fun x => decide (x < 0)) = false) := Lib.hid (by have := HAL.out; rwa [List.take_of_length_le (by rw [← HZL.out]; exact Nat.le_refl _)] at this)
        go_wp2_with fail
        go_ret2
        rw [HV.out]
        exact ⟨by rw [HAN.out]; rfl, HB1.out⟩
  · have HV := Lib.hid (HNO.out hc)
    go_wp2_with fail
    go_ret2
    rw [HV.out]
    exact ⟨rfl, HB1.out⟩
end Go.Proofs.YtbleimcajpelhaaDoor
