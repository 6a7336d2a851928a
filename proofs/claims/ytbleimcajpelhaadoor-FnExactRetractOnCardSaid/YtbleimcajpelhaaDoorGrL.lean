/-
  Graph groups: both sides of RetractOn.
-/
import Derived.Test.YtbleimcajpelhaaDoorGrF
import Derived.Maps.AppendAt
namespace Go.Proofs.YtbleimcajpelhaaDoor
open Go Go.RowKit
set_option linter.unusedVariables false
set_option linter.unusedSimpArgs false
set_option maxRecDepth 100000

def pjS (us : List Nat) (M : Nat) : List Nat := us.filter fun a => M.testBit a
theorem pjS_len (us : List Nat) (M : Nat) : (pjS us M).length ≤ us.length := List.length_filter_le _ _
theorem pjS_in (us : List Nat) (M k : Nat) (hk : k < us.length) (h : M.testBit (us.getD k 0) = true) : pjS (us.take (k + 1)) M = pjS (us.take k) M ++ [us.getD k 0] := by
  unfold pjS
  rw [List.take_add_one, List.getElem?_eq_getElem hk, List.filter_append]
  rw [List.getD_eq_getElem?_getD, List.getElem?_eq_getElem hk] at h ⊢
  have h' : M.testBit us[k] = true := h
  simp [h']
theorem pjS_out (us : List Nat) (M k : Nat) (hk : k < us.length) (h : M.testBit (us.getD k 0) = false) : pjS (us.take (k + 1)) M = pjS (us.take k) M := by
  unfold pjS
  rw [List.take_add_one, List.getElem?_eq_getElem hk, List.filter_append]
  rw [List.getD_eq_getElem?_getD, List.getElem?_eq_getElem hk] at h
  have h' : M.testBit us[k] = false := h
  simp [h']
set_option maxHeartbeats 1600000 in
theorem projection16_any (A : Option Addr) (m c M : Nat) (us : List Nat) (w : World) (h : Rd w A m (ints us)) (hm : m ≤ 24) (hM : M < 9223372036854775808) (hus : ∀ p, p < m → us.getD p 0 < 16) :
    Calls Tryd.prog 61 #[.slice A m c, .int .i64 (M : Int)] w (MakesE 2 w (pjS us M).length (ints (pjS us M))) := by
  obtain ⟨i0, hi, hz0, hz1, hz2⟩ := info_parts info_int
  have HL : Hid (us.length = m) := Lib.hid (by have := h.1; rw [ints_len] at this; exact this)
  have HUS := Lib.hid hus
  clear hus
  go_enter Tryd.func61, Tryd.ntmps61
  go_wp2_with fail
  go_loopw [5, 10] (fun p q wr => ∃ (k N : Nat) (A1 : Option Addr) (c1 : Nat), k ≤ m ∧ N ≤ k ∧ p = .slice A1 N c1 ∧ q = .int .i64 (k : Int) ∧ N = (pjS (us.take k) M).length ∧ Own 2 wr w.heap.size A1 N c1 (ints (pjS (us.take k) M)) ∧ Below w.heap.size w wr) (fun _ q _ => m - (intOf q).toNat)
  case atStart => exact ⟨0, 0, _, 0, Nat.zero_le _, Nat.le_refl _, rfl, rfl, rfl, Own.nil _ _ _, Below.refl _ _⟩
  case round =>
    obtain ⟨k, N, A1, c1, hk, hNk, rfl, rfl, hN, ho, hb⟩ := hrel
    have HN := Lib.hid hN
    clear hN
    by_cases hlt : k < m
    · obtain ⟨b, off, x, rfl, hbs, hx, hcx⟩ := (h.below hb).at_ hlt
      rw [ints_getD us k (by rw [HL.out]; exact hlt)] at hx
      injection hx with hx
      have hu8 := HUS.out k hlt
      have HIN : Hid (M.testBit (us.getD k 0) = true → pjS (us.take (k + 1)) M = pjS (us.take k) M ++ [us.getD k 0]) := Lib.hid (pjS_in us M k (by rw [HL.out]; exact hlt))
      have HOUT : Hid (M.testBit (us.getD k 0) = false → pjS (us.take (k + 1)) M = pjS (us.take k) M) := Lib.hid (pjS_out us M k (by rw [HL.out]; exact hlt))
      obtain ⟨X, hX⟩ : ∃ X, X = us.getD k 0 := ⟨_, rfl⟩
      rw [← hX] at hx hu8 HIN HOUT
      subst hx
      obtain ⟨t, ht⟩ : ∃ t, t = M.testBit X := ⟨_, rfl⟩
      rw [← ht] at HIN HOUT
      have HT : Hid (∀ ww : World, Calls Tryd.prog 94 #[.int .i64 (M : Int), .int .i64 (X : Int)] ww fun e w' => e = .returned (.bool t) ∧ ww = w') := Lib.hid fun ww => by rw [ht]; exact has_any M X hM (by omega) ww
      clear hX ht
      cases t
      · have HO := Lib.hid (HOUT.out rfl)
        clear HOUT HIN
        go_wp2_with fail
        refine (HT.out _).mono ?_
        rintro e w' ⟨rfl, rfl⟩
        go_wp2_with fail
        go_roundw
        case rel => exact ⟨k + 1, N, A1, c1, hlt, by omega, rfl, by go_num, by rw [HO.out]; exact HN.out, by rw [HO.out]; exact ho, hb⟩
        case measure => simp [intOf]; omega
      · have HI := Lib.hid (HIN.out rfl)
        clear HOUT HIN
        have hml : N + 1 ≤ maxLen := by unfold maxLen; omega
        have hby2 : (N + 1) * 8 ≤ 140737488355328 := by omega
        go_wp2_with fail
        refine (HT.out _).mono ?_
        rintro e w' ⟨rfl, rfl⟩
        go_wp2_with (at_builtin; refine wpList_append_own _ rfl _ _ 22 rfl w.heap.size 2 i0 (.int .i64 0) 1 8 Tryd.underlying22 hi hz0 hz1 hz2 rfl (by decide) (.slice A1 N c1) N ((ints (pjS (us.take k) M)).map (Value.int .i64)) rfl (World.ownsRow.alloc ho _) ⟨wr.heap.size, 0, none⟩ 1 1 [.int .i64 (X : Int)] rfl rfl ?c1 ?c2 hml hby2 ?c5 ?_)
        case c1 => exact cell_one_new _ _ _
        case c2 => intro u hu; simp at hu; subst hu; rfl
        case c5 => have := hb.size; simp; omega
        intro v' w2 hown hg _
        rw [ints_snoc_map, ← HI.out] at hown
        have hb2 : Below w.heap.size w w2 := (hb.alloc hb.size _).grown hg (by have := hb.size; simp; omega) (fun r hr => (World.ownsRow.lt ho r hr).1)
        obtain ⟨A2, c2, hv, ho2⟩ := own_shape hown
        rw [hv]
        clear hg hown hv ho hb
        go_wp2_with fail
        go_roundw
        case rel => exact ⟨k + 1, N + 1, A2, c2, hlt, by omega, rfl, by go_num, by rw [HI.out, List.length_append, ← HN.out]; rfl, ho2, hb2⟩
        case measure => simp [intOf]; omega
    · have hkm : k = m := by omega
      subst hkm
      have HTK : Hid (us.take k = us) := Lib.hid (List.take_of_length_le (by rw [HL.out]; exact Nat.le_refl _))
      go_wp2_with fail
      go_ret
      rw [HTK.out] at HN ho
      obtain rfl := HN.out
      exact ⟨A1, c1, rfl, ho, hb⟩

def rtF (k : Int) (ds W : List Nat) : List Int × Int := if isMaskB k ((ds.length / 2 : Nat) : Int) = true then eF ds (redW (RDep ds) (pjS W (sgL (bitsOf k.toNat)))) else ([], 2)
theorem rtF_small (k : Int) (L : Int) (xs us : List Int) : (gA [] (rtF k) L xs us).1.length ≤ 24 := by
  unfold gA; split
  · split
    · unfold rtF; split
      · exact eF_len _ _
      · exact Nat.zero_le _
    · exact Nat.zero_le _
  · exact Nat.zero_le _
theorem pjS_sub (us : List Nat) (S : Nat) : ∀ x, x ∈ pjS us S → x ∈ us := fun x hx => (List.mem_filter.1 hx).1
theorem mask_nat (k : Int) (n : Nat) (h8 : n ≤ 8) (h : isMaskB k (n : Int) = true) : ∃ M : Nat, k = (M : Int) ∧ M < 2 ^ n ∧ M < 256 := by
  rw [isMaskB_in k n (by omega), decide_eq_true_eq] at h
  have h2 : 2 ^ n ≤ 2 ^ 8 := Nat.pow_le_pow_right (by decide) h8
  exact ⟨k.toNat, by omega, by omega, by omega⟩
theorem sgL_bit16 (M x : Nat) (hx : x < 16) : (sgL (bitsOf M)).testBit x = M.testBit (x / 2) := by
  rw [Bool.eq_iff_iff, sgL_bit, bitsOf_mem]
  exact ⟨fun h => h.2, fun h => ⟨by omega, h⟩⟩
theorem block_map (A : Option Addr) (n c : Nat) : (Value.slice A n c).ownBlock = A.map (·.block) := by cases A <;> rfl
set_option maxHeartbeats 3200000 in
theorem implRetractOn (L : Int) (A : Option Addr) (n c : Nat) (xs : List Int) (A1 : Option Addr) (m d : Nat) (us : List Int) (k : Int) (w : World) (h : Rd w A n xs) (hwf : Wf xs) (hL1 : -9223372036854775808 ≤ L) (hL2 : L ≤ 9223372036854775807) (hn : n ≤ maxLen) (h2 : Rd w A1 m us) (hwf2 : Wf us) (hm : m ≤ maxLen) (hk1 : -9223372036854775808 ≤ k) (hk2 : k ≤ 9223372036854775807) (hT : Tab w) :
    Calls Tryd.prog 35 #[.agg #[.int .i64 L, .slice A n c], .slice A1 m d, .int .i64 k] w (LsPost w (gA [] (rtF k) L xs us).1.length (gA [] (rtF k) L xs us).1 (gA [] (rtF k) L xs us).2) := by
  have hn2 : n ≤ 9223372036854775807 := by unfold maxLen at hn; omega
  have hn1 := h.1
  have hm1 := h2.1
  have x0 := box_new 27 w L A n c
  have HB := Lib.hid (below2 w (.cells #[.int .i64 L, .slice A n c] 27) (.cells #[.slice A1 m d] 22))
  have hh := h.below HB.out
  have ht := rdT_box w (.cells #[.int .i64 L, .slice A n c] 27) A1 m d us 22 h2 hm
  have hT1 := hT.below HB.out
  have x1 := x0.next (below1 (w.alloc (.cells #[.int .i64 L, .slice A n c] 27)) (.cells #[.slice A1 m d] 22))
  cases ha : alphB L xs
  · rw [show gA [] (rtF k) L xs us = _ from gA1_no ha]
    have HA := Lib.hid ha
    clear ha ht hn1
    go_enter Tryd.func35, Tryd.ntmps35
    go_wp2_with fail
    refine (signedIn_no L _ _ _ _ _ _ xs _ hh hwf hL1 hL2 hn2 HA.out hT1).mono ?_
    rintro e w1 ⟨rfl, hb⟩
    have gc := cell_new0 w1 (.slice none 0 0) 52
    have HBG := (HB.out.trans (hb.mono HB.out.size)).alloc (HB.out.trans (hb.mono HB.out.size)).size
    go_wp2_with fail
    go_ret2
    exact LsPost.of_ans (ans_no 1 (HBG _))
  · cases hu : sgB L us
    · rw [show gA [] (rtF k) L xs us = _ from gA1_bad ha hu]
      obtain ⟨rs, rfl, rfl, h8, hr, hrel, hl, hd, _⟩ := alphB_nats L xs n hn1 ha
      have HU := Lib.hid hu
      clear ha hu
      go_enter Tryd.func35, Tryd.ntmps35
      go_wp2_with fail
      refine (signedIn_any _ _ _ _ _ _ rs _ _ hh hwf h8 hl hr hrel hd ht (by omega) hT1).mono ?_
      rw [okG_one, HU.out]
      rintro e w1 (⟨hok, _⟩ | ⟨hok, rfl, hb⟩)
      · cases hok
      have gc := cell_new0 w1 (.slice none 0 0) 52
      have HBG := (HB.out.trans (hb.mono HB.out.size)).alloc (HB.out.trans (hb.mono HB.out.size)).size
      go_wp2_with fail
      go_ret2
      exact LsPost.of_ans (ans_no 2 (HBG _))
    · obtain ⟨rs, rfl, rfl, h8, hr, hrel, hl, hd, hxs⟩ := alphB_nats L xs n hn1 ha
      have HANS := Lib.hid (show gA [] (rtF k) (n : Int) (ints rs) us = _ from gA1_yes rs hxs ha hu)
      have HU := Lib.hid hu
      have HDEP := (depB_iff rs n hl hr).1 hd
      obtain ⟨ds, hds⟩ : ∃ ds, ds = dblR rs := ⟨_, rfl⟩
      obtain ⟨N, hN⟩ : ∃ N, N = 2 * n := ⟨_, rfl⟩
      have HDL : Hid (ds.length = N) := Lib.hid (by rw [hds, dbl_len, hl, hN])
      have HDR : Hid (∀ i, ds.getD i 0 < 2 ^ N) := Lib.hid (by rw [hds, hN, ← hl]; exact dbl_lt rs)
      have HGD : Hid (GD (RDep ds) N) := Lib.hid (by rw [hds, hN]; exact dbl_gd rs n hl hr HDEP)
      have HDD : Hid (Dep ds) := Lib.hid (by rw [hds]; exact dbl_is rs n hl hr HDEP)
      have hN16 : N ≤ 16 := by omega
      have hum : us.length ≤ 24 := sgB_len (by exact HU.out)
      have HWN : Hid (∀ x, x ∈ us.map inN → x < N) := Lib.hid (by rw [hN]; exact sgB_nats (by exact HU.out))
      have HWA : Hid (∀ s, s ∈ us → sgB1 8 s = true) := Lib.hid (fun s hs => sgB1_mono n s h8 (sgB_all (L := (n : Int)) (by exact HU.out) s hs))
      obtain ⟨W, hW⟩ : ∃ W, W = us.map inN := ⟨_, rfl⟩
      have HWL : Hid (W.length = m) := Lib.hid (by rw [hW, List.length_map]; exact hm1)
      rw [← hW] at HWN HANS
      rw [← hds] at HANS
      rw [HANS.out]
      have HDS := Lib.hid hds
      have HWE := Lib.hid hW
      have HNE := Lib.hid hN
      clear hds hW hN
      go_enter Tryd.func35, Tryd.ntmps35
      go_wp2_with fail
      refine (signedIn_any _ _ _ _ _ _ rs _ _ hh hwf h8 hl hr hrel hd ht (by omega) hT1).mono ?_
      rw [okG_one, HU.out]
      rintro e w1 (⟨hok, R, cr, AL, cl, rfl, oR, oS, hb⟩ | ⟨hok, _⟩)
      rotate_left
      · cases hok
      rw [← HDS.out, ← HNE.out] at oR
      rw [← HNE.out]
      obtain ⟨lo, hi, oS⟩ : ∃ lo hi, OwnSS w1 lo hi AL 1 cl [ints W] := ⟨_, _, by rw [HWE.out]; exact oS⟩
      have gb := Boxed.new w1 52 (.slice R N cr)
      have gc := gb.cell
      have hbg := below1 w1 (.cells #[.slice R N cr] 52)
      have HB1 := Lib.hid (HB.out.trans (hb.mono HB.out.size))
      have HB2 := Lib.hid (HB1.out.trans (hbg.mono HB1.out.size))
      have hRd := oR.rd.below hbg
      obtain ⟨ws, hws, HWS⟩ := rdSS_words (oS.rd (by intro z hz; obtain rfl := (by simpa using hz : z = _); rw [ints_len, HWL.out]; unfold maxLen; omega)) [W] rfl
      have hT2 := ((hT1.below hb).below hbg)
      have hRT := hws.below hbg
      have y0 := ((x1.next hb).next hbg).c0
      have y1 := ((x1.next hb).next hbg).c1
      have yz := ((x1.next hb).next hbg).c0
      clear hr hrel hd hu hws oS hh ht hT1 hT h h2 x0 x1
      obtain ⟨wg, hwg⟩ : ∃ wg, wg = w1.alloc (.cells #[.slice R N cr] 52) := ⟨_, rfl⟩
      rw [← hwg] at gb gc hbg HB2 hRd hT2 hRT y0 y1
      have hgl := gb.lt
      obtain ⟨bw, ow, B0, n0, c0, x0, eAL, hbl, ht0, hc0, hr0, hm0⟩ := hRT.at_ (show 0 < 1 by omega)
      have hx0 : x0 = ints W := HWS.out 0 _ ht0
      subst hx0
      have hn0 : n0 = m := by have := hr0.1; rw [ints_len, HWL.out] at this; exact this.symm
      subst hn0
      rw [Nat.add_zero] at hc0
      subst eAL
      have HN2 : Hid (ds.length / 2 = n) := Lib.hid (by rw [HDL.out, HNE.out]; omega)
      have HV0 : Hid (rtF k ds W = if isMaskB k (n : Int) = true then eF ds (redW (RDep ds) (pjS W (sgL (bitsOf k.toNat)))) else ([], 2)) := Lib.hid (by unfold rtF; rw [HN2.out])
      have HIM : Hid (∀ ww : World, Calls Tryd.prog 60 #[.int .i64 k, .int .i64 (n : Int)] ww fun e w' => e = .returned (.bool (isMaskB k (n : Int))) ∧ ww = w') := Lib.hid (fun ww => isMask_any k n hk1 hk2 ww)
      clear HNE HDS HANS hm0 ht0
      go_wp2_with fail
      rw [← hwg]
      clear hwg oR hb yz
      refine (HIM.out _).mono ?_
      rintro e w9 ⟨rfl, rfl⟩
      clear HIM
      cases hMk : isMaskB k (n : Int)
      · have HVV : Hid (rtF k ds W = ([], 2)) := Lib.hid (by rw [HV0.out, hMk]; rfl)
        clear HV0 hMk
        go_wp2_with fail
        go_ret2
        rw [HVV.out]
        exact LsPost.of_ans (ans_no 2 (HB2.out))
      · obtain ⟨Mk, rfl, hMn, hM256⟩ := mask_nat k n (by omega) hMk
        have HV1 : Hid (rtF (Mk : Int) ds W = eF ds (redW (RDep ds) (pjS W (sgL (bitsOf Mk))))) := Lib.hid (by rw [HV0.out, if_pos hMk]; rfl)
        have HSB : Hid (∀ x, x < 16 → (sgL (bitsOf Mk)).testBit x = Mk.testBit (x / 2)) := Lib.hid (sgL_bit16 Mk)
        have HSL : Hid (sgL (bitsOf Mk) < 65536) := Lib.hid (sgL_lt _ (fun a ha => by
          have h1 := ((bitsOf_mem Mk a).1 ha).2
          rcases Nat.lt_or_ge a 8 with h | h
          · exact h
          · rw [Nat.testBit_lt_two_pow (Nat.lt_of_lt_of_le (show Mk < 2 ^ 8 by omega) (Nat.pow_le_pow_right (by decide) h))] at h1; cases h1))
        have HSS : Hid (∀ ww : World, Below wg.heap.size wg ww → Calls Tryd.prog 62 #[.int .i64 (Mk : Int)] ww fun e w' => e = .returned (.int .i64 ((sgL (bitsOf Mk) : Nat) : Int)) ∧ Below ww.heap.size ww w') := Lib.hid (fun ww hw => setSigned_any Mk hM256 ww (hT2.below hw))
        have HWG : Hid (∀ p, p < n0 → W.getD p 0 < 16) := Lib.hid (fun p hp => by
          rw [List.getD_eq_getElem?_getD]
          cases hx : W[p]? with
          | none => show 0 < 16; decide
          | some x => have := HWN.out x (List.mem_of_getElem? hx); show x < 16; omega)
        obtain ⟨S, hS⟩ : ∃ S, S = sgL (bitsOf Mk) := ⟨_, rfl⟩
        rw [← hS] at HSS HV1 HSL
        have HPR : Hid (∀ ww : World, Below wg.heap.size wg ww → Calls Tryd.prog 61 #[.slice B0 n0 c0, .int .i64 (S : Int)] ww (MakesE 2 ww (pjS W S).length (ints (pjS W S)))) := Lib.hid (fun ww hw => projection16_any B0 n0 c0 S W ww (hr0.below hw) (by omega) (by have := HSL.out; omega) HWG.out)
        have HVN : Hid (∀ x, x ∈ pjS W S → x < N) := Lib.hid (fun x hx => HWN.out x (pjS_sub W S x hx))
        have HVL0 : Hid ((pjS W S).length ≤ 24) := Lib.hid (Nat.le_trans (pjS_len W S) (by rw [HWL.out]; omega))
        obtain ⟨V, hVw⟩ : ∃ V, V = pjS W S := ⟨_, rfl⟩
        rw [← hVw] at HPR HVN HV1 HVL0
        obtain ⟨z0, hz0⟩ : ∃ z0, z0 = V.length := ⟨_, rfl⟩
        have HVL : Hid (V.length = z0) := Lib.hid hz0.symm
        rw [← hz0] at HPR HVL0
        obtain ⟨VX, VC, hVV⟩ : ∃ a b, rtF (Mk : Int) ds W = (a, b) := ⟨_, _, rfl⟩
        rw [hVV] at HV1
        have HEL : Hid (∀ (wq : World) (Aq : Option Addr) (cq : Nat), Below wg.heap.size wg wq → Rd wq Aq z0 (ints V) → Calls Tryd.prog 53 #[.agg #[.slice R N cr], .slice (some ⟨wq.heap.size, 0, none⟩) 1 1] (wq.alloc (.cells #[.slice Aq z0 cq] 22)) (LsPost (wq.alloc (.cells #[.slice Aq z0 cq] 22)) VX.length VX VC)) := Lib.hid (fun wq Aq cq hq ho => by
          have hz24 := HVL0.out
          have h9 := element_any R _ N cr 1 1 ds _ [V] (wq.alloc (.cells #[.slice Aq z0 cq] 22)) ((hRd.below hq).below (below1 _ _)) hN16 HDL.out HDR.out HGD.out HDD.out (rdT_one wq Aq z0 cq (ints V) 22 ho (by unfold maxLen; omega)) (by omega) rfl (fun k t hk => by
            match k, hk with
            | 0, hk => injection hk with hk; subst hk; rfl
            | k + 1, hk => simp at hk) (fun k => by
            match k with
            | 0 => show V.length ≤ 576; rw [HVL.out]; omega
            | k + 1 => simp) (by rw [show [V].flatten = V by simp, HVL.out]; omega) (by rw [show [V].flatten = V by simp]; exact HVN.out) ((hT2.below hq).below (below1 _ _))
          rw [show [V].flatten = V by simp, ← HV1.out] at h9
          exact h9)
        have HVV := Lib.hid hVV
        have hC : Below wg.heap.size wg wg.drew := (Below.refl _ _).drew
        clear hVV HV0 HV1 hVw HVN HVL HVL0 hz0 hS HSB HSL HWG hr0 HGD HDD HDR HDL HWS hRd hT2 y0 y1 hbg hMk hMn
        go_wp2_with fail
        go_region_law (first
          | (go_simp; (with_reducible refine (HSS.out _ hC).mono ?_); rintro e wp ⟨rfl, hp⟩; have hC := hC.trans (hp.mono hC.size); have gbp : Boxed wp w1.heap.size 52 (.slice R N cr) := (hC.block _ gb.lt).trans gb; have gc := gbp.cell; have hcp := (hC.cell (p := ⟨bw, ow, none⟩) hbl).trans hc0)
          | (go_simp; (with_reducible refine (HPR.out _ hC).mono ?_); rintro e wq ⟨Aq, cq, rfl, oq, hq⟩; have hC := hC.trans (hq.mono hC.size); have gbq : Boxed wq w1.heap.size 52 (.slice R N cr) := (hC.block _ gb.lt).trans gb; have gc := gbq.cell; have gcl : ∀ o : Obj, (wq.alloc o).cell? ⟨w1.heap.size, 0, none⟩ = some (.slice R N cr) := fun o => (gbq.alloc o).cell)
          | (go_simp; (with_reducible refine (HEL.out wq Aq cq hC oq.rd).mono ?_); rintro e wr ⟨A7, c7, rfl, o7, hb7⟩; have HOR := Lib.hid o7; have HBA := Lib.hid (HB2.out.trans (hC.mono HB2.out.size)); have HBL := Lib.hid (HBA.out.trans ((below1 wq (.cells #[.slice Aq z0 cq] 22)).mono HBA.out.size)); have HBR := Lib.hid (HBL.out.trans (hb7.mono HBL.out.size)); clear o7 hb7))
        all_goals
          clear gc gcl HEL HSS HPR
          go_wp2_with fail
          go_ret2
          rw [HVV.out]
          exact ⟨A7, c7, rfl, HOR.out.mono HBL.out.size, HBR.out⟩
set_option maxHeartbeats 3200000 in
theorem specRetractOn (L : Int) (A : Option Addr) (n c : Nat) (xs : List Int) (A1 : Option Addr) (m d : Nat) (us : List Int) (k : Int) (w : World) (h : Rd w A n xs) (hwf : Wf xs) (hL1 : -9223372036854775808 ≤ L) (hL2 : L ≤ 9223372036854775807) (hn : n ≤ maxLen) (h2 : Rd w A1 m us) (hwf2 : Wf us) (hm : m ≤ maxLen) (hk1 : -9223372036854775808 ≤ k) (hk2 : k ≤ 9223372036854775807) :
    Calls Tryd.prog 34 #[.agg #[.int .i64 L, .slice A n c], .slice A1 m d, .int .i64 k] w (LsPost w (gA [] (rtF k) L xs us).1.length (gA [] (rtF k) L xs us).1 (gA [] (rtF k) L xs us).2) := by
  have hn2 : n ≤ 9223372036854775807 := by unfold maxLen at hn; omega
  have hm2 : m ≤ 9223372036854775807 := by unfold maxLen at hm; omega
  have hn1 := h.1
  have hm1 := h2.1
  have HB := Lib.hid (below1 w (.cells #[.int .i64 L, .slice A n c] 27))
  have x0 := box_new 27 w L A n c
  have hh := h.below HB.out
  have hh2 := h2.below HB.out
  cases ha : alphB L xs
  · rw [show gA [] (rtF k) L xs us = _ from gA1_no ha]
    have HD := Lib.hid (gCode_no L xs us us ha)
    clear ha hn1
    go_enter Tryd.func34, Tryd.ntmps34
    go_wp2_with fail
    refine (l09Code_any L _ _ _ _ _ _ _ _ _ xs us us _ hh hn2 hh2 hm2 hh2 hm2).mono ?_
    rintro e w1 ⟨rfl, hb⟩
    rw [HD.out]
    go_wp2_with fail
    go_ret2
    exact LsPost.of_ans (ans_no 1 (HB.out.trans (hb.mono HB.out.size)))
  · cases hu : sgB L us
    · rw [show gA [] (rtF k) L xs us = _ from gA1_bad ha hu]
      have HD := Lib.hid (gCode_bad L xs us us ha (by rw [hu]; rfl))
      clear ha hu hn1
      go_enter Tryd.func34, Tryd.ntmps34
      go_wp2_with fail
      refine (l09Code_any L _ _ _ _ _ _ _ _ _ xs us us _ hh hn2 hh2 hm2 hh2 hm2).mono ?_
      rintro e w1 ⟨rfl, hb⟩
      rw [HD.out]
      go_wp2_with fail
      go_ret2
      exact LsPost.of_ans (ans_no 2 (HB.out.trans (hb.mono HB.out.size)))
    · have HD := Lib.hid (gCode_yes L xs us us ha (by rw [hu]; rfl))
      obtain ⟨rs, rfl, rfl, h8, hr, hrel, hl, hd, hxs⟩ := alphB_nats L xs n hn1 ha
      have HANS := Lib.hid (show gA [] (rtF k) (n : Int) (ints rs) us = _ from gA1_yes rs hxs ha hu)
      have HU := Lib.hid hu
      have HDEP := (depB_iff rs n hl hr).1 hd
      obtain ⟨ds, hds⟩ : ∃ ds, ds = dblR rs := ⟨_, rfl⟩
      obtain ⟨N, hN⟩ : ∃ N, N = 2 * n := ⟨_, rfl⟩
      have HDL : Hid (ds.length = N) := Lib.hid (by rw [hds, dbl_len, hl, hN])
      have HDR : Hid (∀ i, ds.getD i 0 < 2 ^ N) := Lib.hid (by rw [hds, hN, ← hl]; exact dbl_lt rs)
      have HGD : Hid (GD (RDep ds) N) := Lib.hid (by rw [hds, hN]; exact dbl_gd rs n hl hr HDEP)
      have hN16 : N ≤ 16 := by omega
      have hum : us.length ≤ 24 := sgB_len (by exact HU.out)
      have HWN : Hid (∀ x, x ∈ us.map inN → x < N) := Lib.hid (by rw [hN]; exact sgB_nats (by exact HU.out))
      have HWA : Hid (∀ s, s ∈ us → sgB1 8 s = true) := Lib.hid (fun s hs => sgB1_mono n s h8 (sgB_all (L := (n : Int)) (by exact HU.out) s hs))
      have HDB : Hid (∀ ww : World, Rd ww A n (ints rs) → Calls Tryd.prog 51 #[.agg #[.int .i64 (n : Int), .slice A n c]] ww (MakesG ww (N : Int) N (ints ds))) := Lib.hid (fun ww hw => by rw [hN, hds]; exact l09Double_any A n c rs ww hw h8 hl hr)
      have HIN : Hid (∀ ww : World, Rd ww A1 m us → Calls Tryd.prog 52 #[.slice A1 m d] ww (MakesE 2 ww m (ints (us.map inN)))) := Lib.hid (fun ww hw => l09In_any A1 m d us ww hw (by omega) HWA.out)
      obtain ⟨W, hW⟩ : ∃ W, W = us.map inN := ⟨_, rfl⟩
      have HWL : Hid (W.length = m) := Lib.hid (by rw [hW, List.length_map]; exact hm1)
      rw [← hW] at HWN HANS
      rw [← hW] at HIN
      rw [← hds] at HANS
      rw [HANS.out]
      have HNE := Lib.hid hN
      clear hds hW hN
      go_enter Tryd.func34, Tryd.ntmps34
      go_wp2_with fail
      refine (l09Code_any (n : Int) _ _ _ _ _ _ _ _ _ (ints rs) us us _ hh hn2 hh2 hm2 hh2 hm2).mono ?_
      rintro e w1 ⟨rfl, hb⟩
      rw [HD.out]
      have x1 := x0.next hb
      have y0 := x1.c0
      have y1 := x1.c1
      have HB1 := Lib.hid (HB.out.trans (hb.mono HB.out.size))
      have hrd := hh.below hb
      have hr2 := hh2.below hb
      clear hb hh hh2 h h2 x0 hr hd hrel hu ha
      have HN2 : Hid (ds.length / 2 = n) := Lib.hid (by rw [HDL.out, HNE.out]; omega)
      have HV0 : Hid (rtF k ds W = if isMaskB k (n : Int) = true then eF ds (redW (RDep ds) (pjS W (sgL (bitsOf k.toNat)))) else ([], 2)) := Lib.hid (by unfold rtF; rw [HN2.out])
      have HFU : Hid (∀ ww : World, Calls Tryd.prog 58 #[.int .i64 (n : Int)] ww fun e w' => e = .returned (.int .i64 ((2 ^ n - 1 : Nat) : Int)) ∧ ww = w') := Lib.hid (fun ww => full_any n (by omega) ww)
      have HIQ : Hid (∀ ww : World, Calls Tryd.prog 57 #[.int .i64 k, .int .i64 0, .int .i64 ((2 ^ n - 1 : Nat) : Int)] ww fun e w' => e = .returned (.bool (isMaskB k (n : Int))) ∧ ww = w') := Lib.hid (fun ww => (in_any k 0 _ ww).mono fun e w' ⟨he, hw⟩ => ⟨by
        rw [he, isMaskB_in k n (by omega)]
        congr 2
        rw [Bool.eq_iff_iff, decide_eq_true_eq, decide_eq_true_eq]
        have : 0 < 2 ^ n := Nat.two_pow_pos n
        omega, hw⟩)
      obtain ⟨P, hP⟩ : ∃ P, P = 2 ^ n - 1 := ⟨_, rfl⟩
      rw [← hP] at HFU HIQ
      clear HNE HANS hP
      cases hMk : isMaskB k (n : Int)
      · have HVV : Hid (rtF k ds W = ([], 2)) := Lib.hid (by rw [HV0.out, hMk]; rfl)
        rw [hMk] at HIQ
        clear HV0 hMk HDB HIN
        go_wp2_with (first | (go_at_call 58; (with_reducible refine (HFU.out _).mono ?_); rintro e w9 ⟨rfl, rfl⟩) | (go_at_call 57; (with_reducible refine (HIQ.out _).mono ?_); rintro e w9 ⟨rfl, rfl⟩))
        go_ret2
        rw [HVV.out]
        exact LsPost.of_ans (ans_no 2 HB1.out)
      · rw [hMk] at HIQ
        obtain ⟨Mk, rfl, hMn, hM256⟩ := mask_nat k n (by omega) hMk
        have HV1 : Hid (rtF (Mk : Int) ds W = eF ds (redW (RDep ds) (pjS W (sgL (bitsOf Mk))))) := Lib.hid (by rw [HV0.out, if_pos hMk]; rfl)
        have HSB : Hid (∀ x, x < 16 → (sgL (bitsOf Mk)).testBit x = Mk.testBit (x / 2)) := Lib.hid (sgL_bit16 Mk)
        have HSL : Hid (sgL (bitsOf Mk) < 65536) := Lib.hid (sgL_lt _ (fun a ha => by
          have h1 := ((bitsOf_mem Mk a).1 ha).2
          rcases Nat.lt_or_ge a 8 with h | h
          · exact h
          · rw [Nat.testBit_lt_two_pow (Nat.lt_of_lt_of_le (show Mk < 2 ^ 8 by omega) (Nat.pow_le_pow_right (by decide) h))] at h1; cases h1))
        obtain ⟨S, hS⟩ : ∃ S, S = sgL (bitsOf Mk) := ⟨_, rfl⟩
        rw [← hS] at HV1 HSB
        have HVN : Hid (∀ x, x ∈ pjS W S → x < N) := Lib.hid (fun x hx => HWN.out x (pjS_sub W S x hx))
        have HVL0 : Hid ((pjS W S).length ≤ 24) := Lib.hid (Nat.le_trans (pjS_len W S) (by rw [HWL.out]; omega))
        have HVV : Hid (rtF (Mk : Int) ds W = ((nfR ds (redW (RDep ds) (pjS W S))).map outI, 0)) := Lib.hid (by rw [HV1.out]; exact eF_yes ds _ (Nat.le_trans (redW_len _) HVL0.out))
        have HNL : Hid ((nfR ds (redW (RDep ds) (pjS W S))).length ≤ 24) := Lib.hid (Nat.le_trans (nfR_len ds _) (Nat.le_trans (redW_len _) HVL0.out))
        have HN48 : Hid (∀ x, x ∈ nfR ds (redW (RDep ds) (pjS W S)) → x < 48) := Lib.hid (fun x hx => by have := nfR_ltG ds _ x hx; have := HDL.out; omega)
        have HRD : Hid (∀ (ww : World) (AD AV : Option Addr) (cD cV : Nat), Rd ww AD N (ints ds) → Rd ww AV (pjS W S).length (ints (pjS W S)) → Calls Tryd.prog 50 #[.agg #[.int .i64 (N : Int), .slice AD N cD], .slice AV (pjS W S).length cV] ww (MakesE 2 ww (nfR ds (redW (RDep ds) (pjS W S))).length (ints (nfR ds (redW (RDep ds) (pjS W S)))))) := Lib.hid (fun ww AD AV cD cV k1 k2 => l09Reduce_any AD AV N cD _ cV ds (pjS W S) ww k1 hN16 HDL.out HDR.out HGD.out k2 (by have := HVL0.out; omega) HVN.out)
        obtain ⟨Z, hZ⟩ : ∃ Z, Z = nfR ds (redW (RDep ds) (pjS W S)) := ⟨_, rfl⟩
        rw [← hZ] at HNL HN48 HRD HVV
        obtain ⟨Zo, hZo⟩ : ∃ Zo, Zo = Z.map outI := ⟨_, rfl⟩
        obtain ⟨zl, hzl⟩ : ∃ zl, zl = Z.length := ⟨_, rfl⟩
        have HZL : Hid (Zo.length = zl) := Lib.hid (by rw [hZo, hzl]; exact List.length_map ..)
        have HOT : Hid (∀ (ww : World) (AN : Option Addr) (cN : Nat), Rd ww AN zl (ints Z) → Calls Tryd.prog 49 #[.slice AN zl cN] ww (MakesE 2 ww zl Zo)) := Lib.hid (fun ww AN cN k1 => by rw [hZo]; exact l09Out_any AN zl cN Z ww k1 (by rw [hzl]; have := HNL.out; omega) HN48.out)
        rw [← hZo] at HVV
        rw [← hzl] at HRD
        have HWG : Hid (∀ p x, W[p]? = some x → x < 16) := Lib.hid (fun p x hx => by have := HWN.out x (List.mem_of_getElem? hx); omega)
        have hMbig : Mk < 9223372036854775808 := by omega
        have hbl : ∀ o : Obj, Below w1.heap.size w1 (w1.alloc o) := fun o => (Below.refl _ _).alloc (Nat.le_refl _) o
        clear hZ hZo hzl HNL HN48 hS HSL HV1 HV0 HVN hMk hMn
        go_wp2_with (first | (go_at_call 58; (with_reducible refine (HFU.out _).mono ?_); rintro e w9 ⟨rfl, rfl⟩) | (go_at_call 57; (with_reducible refine (HIQ.out _).mono ?_); rintro e w9 ⟨rfl, rfl⟩) | fail)
        refine (HIN.out _ (hr2.below (hbl _))).mono ?_
        rintro e w3 ⟨AI, cI, rfl, oI, hbI⟩
        have oA : Own 2 w3 w1.heap.size (some ⟨w1.heap.size, 0, none⟩) 0 0 [] := Own.below (show Own 2 _ w1.heap.size (some ⟨w1.heap.size, 0, none⟩) 0 0 [] from World.ownsRow_lit w1 #[] 0 (Nat.le_refl _) (by unfold maxLen; omega) rfl) hbI
        have hap : ∀ r, AI.map (·.block) = some r → (some (⟨w1.heap.size, 0, none⟩ : Addr)).map (·.block) ≠ some r := fun r hr e => by
          have := (oI.lt r hr).1
          simp at e this
          omega
        have hb3 : Below w1.heap.size w1 w3 := (hbl _).trans (hbI.mono (hbl _).size)
        have oI := oI.mono (hbl _).size
        clear HIN HFU HIQ hbl hbI
        go_wp2_with fail
        go_loopw [9, 11] (fun p q wr => ∃ (k Nn : Nat) (A2 : Option Addr) (c2 : Nat), k ≤ m ∧ Nn ≤ k ∧ p = .slice A2 Nn c2 ∧ q = .int .i64 (k : Int) ∧ Nn = (pjS (W.take k) S).length ∧ Own 2 wr w1.heap.size A2 Nn c2 (ints (pjS (W.take k) S)) ∧ Own 2 wr w1.heap.size AI m cI (ints W) ∧ (∀ r, AI.map (·.block) = some r → A2.map (·.block) ≠ some r) ∧ Below w1.heap.size w1 wr) (fun _ q _ => m - (intOf q).toNat)
        case atStart => exact ⟨0, 0, _, 0, Nat.zero_le _, Nat.le_refl _, rfl, rfl, rfl, oA, oI, hap, hb3⟩
        case round =>
          clear oA hb3 hap oI
          obtain ⟨i, Nn, A2, c2, hk, hNk, rfl, rfl, hN, ho, oI, hap, hb⟩ := hrel
          have HN := Lib.hid hN
          have HAP := Lib.hid hap
          clear hN hap
          obtain ⟨i0, hi, hz0, hz1, hz2⟩ := info_parts info_int
          by_cases hlt : i < m
          · have HOI := Lib.hid oI
            obtain ⟨b, off, x, rfl, hbs, hx, hcx⟩ := oI.rd.at_ hlt
            obtain ⟨X, hX, rfl⟩ := ints_at? W i x hx
            have hX16 := HWG.out i X hX
            have hgd : W.getD i 0 = X := by rw [List.getD_eq_getElem?_getD, hX]; rfl
            have hil : i < W.length := by rw [HWL.out]; exact hlt
            have HIN : Hid (Mk.testBit (X / 2) = true → pjS (W.take (i + 1)) S = pjS (W.take i) S ++ [X]) := Lib.hid (fun h => by rw [← hgd]; exact pjS_in W S i hil (by rw [hgd, HSB.out X hX16]; exact h))
            have HOUT : Hid (Mk.testBit (X / 2) = false → pjS (W.take (i + 1)) S = pjS (W.take i) S) := Lib.hid (fun h => pjS_out W S i hil (by rw [hgd, HSB.out X hX16]; exact h))
            obtain ⟨y, hy⟩ : ∃ y, y = X / 2 := ⟨_, rfl⟩
            have hq : Int.tdiv (X : Int) 2 = (y : Int) := by rw [hy, Int.tdiv_eq_ediv_of_nonneg (by omega)]; omega
            have hy8 : y ≤ 62 := by omega
            rw [← hy] at HIN HOUT
            obtain ⟨t, ht⟩ : ∃ t, t = Mk.testBit y := ⟨_, rfl⟩
            have HT : Hid (∀ ww : World, Calls Tryd.prog 59 #[.int .i64 (Mk : Int), .int .i64 (y : Int)] ww fun e w' => e = .returned (.bool t) ∧ ww = w') := Lib.hid fun ww => by rw [ht]; exact bit_any Mk y hMbig hy8 ww
            rw [← ht] at HIN HOUT
            clear hX ht hx hy hgd hil
            cases t
            · have HO := Lib.hid (HOUT.out rfl)
              clear HOUT HIN
              go_wp2_with fail
              refine (HT.out _).mono ?_
              rintro e w' ⟨rfl, rfl⟩
              go_wp2_with fail
              go_roundw
              case rel => exact ⟨i + 1, Nn, A2, c2, hlt, by omega, rfl, by go_num, by rw [HO.out]; exact HN.out, by rw [HO.out]; exact ho, HOI.out, HAP.out, hb⟩
              case measure => simp [intOf]; omega
            · have HI := Lib.hid (HIN.out rfl)
              clear HOUT HIN
              have hml : Nn + 1 ≤ maxLen := by unfold maxLen; omega
              have hby2 : (Nn + 1) * 8 ≤ 140737488355328 := by omega
              go_wp2_with fail
              refine (HT.out _).mono ?_
              rintro e w' ⟨rfl, rfl⟩
              go_wp2_with (at_builtin; refine wpList_append_own_at _ rfl _ _ 22 rfl w1.heap.size 2 i0 (.int .i64 0) 1 8 Tryd.underlying22 hi hz0 hz1 hz2 rfl (by decide) (.slice A2 Nn c2) Nn ((ints (pjS (W.take i) S)).map (Value.int .i64)) rfl (World.ownsRow.alloc ho _) ⟨wr.heap.size, 0, none⟩ 1 1 [.int .i64 (X : Int)] rfl rfl ?c1 ?c2 hml hby2 ?c5 ?_)
              case c1 => exact cell_one_new _ _ _
              case c2 => intro u hu; simp at hu; subst hu; rfl
              case c5 => have := hb.size; simp; omega
              intro v' w2 hown hg _ hblk
              rw [ints_snoc_map, ← HI.out] at hown
              have hb2 : Below w1.heap.size w1 w2 := (hb.alloc hb.size _).grown hg (by have := hb.size; simp; omega) (fun r hr => (World.ownsRow.lt ho r hr).1)
              obtain ⟨A3, c3, hv, ho2⟩ := own_shape hown
              have oI2 := Own.apart (World.ownsRow.alloc HOI.out _) hg (fun r hr e => HAP.out r hr (by rw [← block_map A2 Nn c2]; exact e))
              have hap2 : ∀ r, (some (⟨b, off, none⟩ : Addr)).map (·.block) = some r → A3.map (·.block) ≠ some r := fun r hr e => by
                rw [hv, block_map, block_map] at hblk
                rcases hblk with h9 | h9
                · exact HAP.out r hr (by rw [← h9]; exact e)
                · rw [e] at h9
                  injection h9 with h9
                  have := (HOI.out.lt r hr).2
                  omega
              rw [hv]
              clear hg hown hv ho hb hblk
              go_wp2_with fail
              go_roundw
              case rel => exact ⟨i + 1, Nn + 1, A3, c3, hlt, by omega, rfl, by go_num, by rw [HI.out, List.length_append, ← HN.out]; rfl, ho2, oI2, hap2, hb2⟩
              case measure => simp [intOf]; omega
          · have hkm : i = m := by omega
            subst hkm
            have HTK : Hid (W.take i = W) := Lib.hid (List.take_of_length_le (by rw [HWL.out]; exact Nat.le_refl _))
            rw [HTK.out] at HN ho
            rw [← HN.out] at HRD
            have HBr := Lib.hid (HB1.out.trans (hb.mono HB1.out.size))
            have q0 := (x1.next hb).c0
            have q1 := (x1.next hb).c1
            have HD3 := Lib.hid (HDB.out _ (hrd.below hb))
            have HO := Lib.hid ho.rd
            clear oI HAP hb ho HDB
            go_wp2_with fail
            refine HD3.out.mono ?_
            rintro e w4 ⟨AD, cD, rfl, oD, hbD⟩
            have HR4 := Lib.hid (HRD.out w4 AD A2 cD c2 oD.rd (HO.out.below hbD))
            go_wp2_with fail
            refine HR4.out.mono ?_
            rintro e w5 ⟨AN, cN, rfl, oN, hbN⟩
            have HO5 := Lib.hid (HOT.out w5 AN cN oN.rd)
            have HB4 := Lib.hid (HBr.out.trans (hbD.mono HBr.out.size))
            have HB5 := Lib.hid (HB4.out.trans (hbN.mono HB4.out.size))
            go_wp2_with fail
            refine HO5.out.mono ?_
            rintro e w6 ⟨AO, cO, rfl, oO, hbO⟩
            go_wp2_with fail
            go_ret2
            rw [HVV.out]
            show LsPost w Zo.length Zo 0 _ _
            rw [HZL.out]
            exact ⟨AO, cO, rfl, oO.mono HB5.out.size, HB5.out.trans (hbO.mono HB5.out.size)⟩
end Go.Proofs.YtbleimcajpelhaaDoor
