/-
  CyclicReduction: both sides.
-/
import Derived.Test.YtdafdffmkjhhcaaDoorGrF
import Derived.Test.YtdafdffmkjhhcaaDoorGrAc
import Derived.Test.YtdafdffmkjhhcaaDoorGrCo
namespace Go.Proofs.YtdafdffmkjhhcaaDoor
open Go Go.RowKit
set_option linter.unusedVariables false
set_option linter.unusedSimpArgs false
set_option maxRecDepth 100000

/-- What a function that answers two lists and a code leaves. -/
def LiiPost (w : World) (VN : Nat) (VX : List Int) (UN : Nat) (UX : List Int) (C : Int) (e : Ending) (w' : World) : Prop :=
  ∃ A c A2 c2, e = .returned (.tuple #[.slice A VN c, .slice A2 UN c2, .int .i64 C]) ∧ Own 2 w' w.heap.size A VN c VX ∧ Own 2 w' w.heap.size A2 UN c2 UX ∧ (∀ r, A.map (·.block) = some r → A2.map (·.block) ≠ some r) ∧ Below w.heap.size w w'
theorem lii_err {w w' : World} (C : Int) (hb : Below w.heap.size w w') : LiiPost w 0 [] 0 [] C (.returned (.tuple #[.slice none 0 0, .slice none 0 0, .int .i64 C])) w' :=
  ⟨none, 0, none, 0, rfl, Own.nil _ _ _, Own.nil _ _ _, fun r h => (by cases h), hb⟩
def cyF (ds W : List Nat) : (List Int × List Int) × Int :=
  (((nfR ds (cycP (RDep ds) ds.length (redW (RDep ds) W).length (redW (RDep ds) W) []).1).map outI, (nfR ds (redW (RDep ds) (cycP (RDep ds) ds.length (redW (RDep ds) W).length (redW (RDep ds) W) []).2)).map outI), 0)
theorem cycP_frame_lt {D : Nat → Nat → Bool} {n : Nat} : ∀ (k : Nat) (w f : List Nat), (∀ x, x ∈ f → x < n) → ∀ x, x ∈ (cycP D n k w f).2 → x < n
  | 0, w, f, hf, x, hx => hf x hx
  | k + 1, w, f, hf, x, hx => by
    cases ho : outL D n w with
    | none => rw [cycP_end ho] at hx; exact hf x hx
    | some a =>
      have eP : cycP D n (k + 1) w f = cycP D n k (turnP D a w) (f ++ [a]) := by
        show (match outL D n w with | none => (w, f) | some a => cycP D n k (turnP D a w) (f ++ [a])) = _
        rw [ho]
      rw [eP] at hx
      refine cycP_frame_lt k _ _ (fun y hy => ?_) x hx
      rcases List.mem_append.1 hy with h1 | h1
      · exact hf y h1
      · rw [List.mem_singleton.1 h1]; exact (outL_some ho).1
theorem cyc_facts {D : Nat → Nat → Bool} {n : Nat} (g : GD D n) {W : List Nat} (hW : ∀ x, x ∈ W → x < n) (h24 : W.length ≤ 24) :
    (cycP D n (redW D W).length (redW D W) []).1.length ≤ 24 ∧ (cycP D n (redW D W).length (redW D W) []).2.length ≤ 24 ∧ (∀ x, x ∈ (cycP D n (redW D W).length (redW D W) []).1 → x < n) ∧ (∀ x, x ∈ (cycP D n (redW D W).length (redW D W) []).2 → x < n) := by
  have hR := redW_rd g hW
  have hN := redW_lt (D := D) hW
  have hl := cycP_len g _ (redW D W) [] hN hR (Nat.le_refl _)
  have h1 := redW_len (D := D) W
  have h2 : ([] : List Nat).length = 0 := rfl
  have hs := cyc_same g (redW D W).length (redW D W) (redW D W) [] hN hN hR hR (Eqv.refl D _)
  exact ⟨by omega, by omega, hs.2.2.2.1, cycP_frame_lt _ _ _ (fun x hx => by cases hx)⟩
theorem cyF_prog (ds W : List Nat) (N : Nat) (hl : ds.length = N) (hgd : GD (RDep ds) N) (hW : ∀ x, x ∈ W → x < N) (h24 : W.length ≤ 24) :
    cyF ds W = (((eF ds (redW (RDep ds) (cycP (RDep ds) N (redW (RDep ds) W).length (redW (RDep ds) W) []).1)).1, (eF ds (redW (RDep ds) (cycP (RDep ds) N (redW (RDep ds) W).length (redW (RDep ds) W) []).2)).1), 0) := by
  obtain ⟨h1, h2, h3, h4⟩ := cyc_facts hgd hW h24
  have hR := redW_rd hgd hW
  have hN := redW_lt (D := RDep ds) hW
  have hs := cyc_same hgd (redW (RDep ds) W).length (redW (RDep ds) W) (redW (RDep ds) W) [] hN hN hR hR (Eqv.refl _ _)
  rw [redW_self _ hs.2.2.1, eF_yes ds _ h1, eF_yes ds _ (Nat.le_trans (redW_len _) h2)]
  unfold cyF
  rw [hl]
theorem cyF_model (ds W : List Nat) (N : Nat) (hN16 : N ≤ 16) (hl : ds.length = N) (hgd : GD (RDep ds) N) (hW : ∀ x, x ∈ W → x < N) (h24 : W.length ≤ 24) :
    cyF ds W = (((nfR ds (cycM (RDep ds) N (nfR ds (redW (RDep ds) W)).length (nfR ds (redW (RDep ds) W)) []).1).map outI, (nfR ds (redW (RDep ds) (cycM (RDep ds) N (nfR ds (redW (RDep ds) W)).length (nfR ds (redW (RDep ds) W)) []).2)).map outI), 0) ∧
    (cycM (RDep ds) N (nfR ds (redW (RDep ds) W)).length (nfR ds (redW (RDep ds) W)) []).1.length ≤ 24 ∧ (nfR ds (redW (RDep ds) (cycM (RDep ds) N (nfR ds (redW (RDep ds) W)).length (nfR ds (redW (RDep ds) W)) []).2)).length ≤ 24 ∧
    (∀ x, x ∈ nfR ds (cycM (RDep ds) N (nfR ds (redW (RDep ds) W)).length (nfR ds (redW (RDep ds) W)) []).1 → x < 48) ∧ (∀ x, x ∈ nfR ds (redW (RDep ds) (cycM (RDep ds) N (nfR ds (redW (RDep ds) W)).length (nfR ds (redW (RDep ds) W)) []).2) → x < 48) := by
  obtain ⟨h1, h2, h3, h4⟩ := cyc_facts hgd hW h24
  have hR := redW_rd hgd hW
  have hN := redW_lt (D := RDep ds) hW
  have hE : Eqv (RDep ds) (nfR ds (redW (RDep ds) W)) (redW (RDep ds) W) := by unfold nfR nfM; rw [hl]; exact nfGo_eqv hgd.sym hgd.ref (redW (RDep ds) W).length (redW (RDep ds) W) rfl hN
  have hNN : ∀ x, x ∈ nfR ds (redW (RDep ds) W) → x < N := fun x hx => by have := nfR_ltG ds _ x hx; omega
  have hRN := rd_eqv hgd _ (redW (RDep ds) W) hN hNN hE.symm hR
  have hlen := nfR_lenG ds (redW (RDep ds) W) N hl hgd hN
  have hs := cyc_same hgd (redW (RDep ds) W).length (redW (RDep ds) W) (nfR ds (redW (RDep ds) W)) [] hN hNN hR hRN hE.symm
  rw [hlen]
  have e1 : nfR ds (cycP (RDep ds) N (redW (RDep ds) W).length (redW (RDep ds) W) []).1 = nfR ds (cycM (RDep ds) N (redW (RDep ds) W).length (nfR ds (redW (RDep ds) W)) []).1 := by
    rw [nfR_sameG ds N hl hgd.sym hgd.ref _ _ h3 hs.2.2.2.2 hs.2.1]
  have hlm := Eqv.len hgd.sym hgd.ref _ _ h3 hs.2.2.2.2 hs.2.1
  refine ⟨?_, by omega, ?_, fun x hx => by have := nfR_ltG ds _ x hx; omega, fun x hx => by have := nfR_ltG ds _ x hx; omega⟩
  · unfold cyF
    rw [hl, e1, hs.1]
  · rw [← hs.1]; exact Nat.le_trans (nfR_len ds _) (Nat.le_trans (redW_len _) h2)
theorem cyF_small (L : Int) (xs us : List Int) : (gA ([], []) cyF L xs us).1.1.length ≤ 24 ∧ (gA ([], []) cyF L xs us).1.2.length ≤ 24 := by
  by_cases ha : alphB L xs = true
  · by_cases hu : sgB L us = true
    · obtain ⟨rs, rfl, rfl, h8, hr, hrel, hl, hd, hxs⟩ := alphB_nats L xs xs.length rfl ha
      rw [gA1_yes rs hxs ha hu]
      have hlr : rs.length = (ints rs).length := hl
      have HDEP := (depB_iff rs _ hl hr).1 hd
      have hgd := dbl_gd rs _ hl hr HDEP
      have hlen : (dblR rs).length = 2 * (ints rs).length := by rw [dbl_len, hl]
      have hW := sgB_nats hu
      have h24 : (us.map inN).length ≤ 24 := by rw [List.length_map]; exact sgB_len hu
      have hc := cyc_facts hgd hW h24
      unfold cyF
      rw [hlen]
      refine ⟨?_, ?_⟩
      · show (List.map _ _).length ≤ 24
        rw [List.length_map]; exact Nat.le_trans (nfR_len _ _) hc.1
      · show (List.map _ _).length ≤ 24
        rw [List.length_map]; exact Nat.le_trans (nfR_len _ _) (Nat.le_trans (redW_len _) hc.2.1)
    · rw [gA1_bad ha (by simpa using hu)]; exact ⟨Nat.zero_le _, Nat.zero_le _⟩
  · rw [gA1_no (by simpa using ha)]; exact ⟨Nat.zero_le _, Nat.zero_le _⟩
set_option maxHeartbeats 6400000 in
theorem implCyclicReduction (L : Int) (A : Option Addr) (n c : Nat) (xs : List Int) (A1 : Option Addr) (m d : Nat) (us : List Int) (w : World) (h : Rd w A n xs) (hwf : Wf xs) (hL1 : -9223372036854775808 ≤ L) (hL2 : L ≤ 9223372036854775807) (hn : n ≤ maxLen) (h2 : Rd w A1 m us) (hwf2 : Wf us) (hm : m ≤ maxLen) (hT : Tab w) :
    Calls Tryd.prog 37 #[.agg #[.int .i64 L, .slice A n c], .slice A1 m d] w (LiiPost w (gA ([], []) cyF L xs us).1.1.length (gA ([], []) cyF L xs us).1.1 (gA ([], []) cyF L xs us).1.2.length (gA ([], []) cyF L xs us).1.2 (gA ([], []) cyF L xs us).2) := by
  have hn2 : n ≤ 9223372036854775807 := by unfold maxLen at hn; omega
  have hn1 := h.1
  have hm1 := h2.1
  have x0 := box_new 29 w L A n c
  have HB := Lib.hid (below2 w (.cells #[.int .i64 L, .slice A n c] 29) (.cells #[.slice A1 m d] 22))
  have hh := h.below HB.out
  have ht := rdT_box w (.cells #[.int .i64 L, .slice A n c] 29) A1 m d us 22 h2 hm
  have hT1 := hT.below HB.out
  have x1 := x0.next (below1 (w.alloc (.cells #[.int .i64 L, .slice A n c] 29)) (.cells #[.slice A1 m d] 22))
  cases ha : alphB L xs
  · rw [show gA ([], []) cyF L xs us = _ from gA1_no ha]
    have HA := Lib.hid ha
    clear ha ht hn1
    go_enter Tryd.func37, Tryd.ntmps37
    go_wp2_with fail
    refine (signedIn_no L _ _ _ _ _ _ xs _ hh hwf hL1 hL2 hn2 HA.out hT1).mono ?_
    rintro e w1 ⟨rfl, hb⟩
    have gc := cell_new0 w1 (.slice none 0 0) 93
    have HBG := (HB.out.trans (hb.mono HB.out.size)).alloc (HB.out.trans (hb.mono HB.out.size)).size
    go_wp2_with fail
    go_ret3
    exact lii_err 1 (HBG _)
  · cases hu : sgB L us
    · rw [show gA ([], []) cyF L xs us = _ from gA1_bad ha hu]
      obtain ⟨rs, rfl, rfl, h8, hr, hrel, hl, hd, _⟩ := alphB_nats L xs n hn1 ha
      have HU := Lib.hid hu
      clear ha hu
      go_enter Tryd.func37, Tryd.ntmps37
      go_wp2_with fail
      refine (signedIn_any _ _ _ _ _ _ rs _ _ hh hwf h8 hl hr hrel hd ht (by omega) hT1).mono ?_
      rw [okG_one, HU.out]
      rintro e w1 (⟨hok, _⟩ | ⟨hok, rfl, hb⟩)
      · cases hok
      have gc := cell_new0 w1 (.slice none 0 0) 93
      have HBG := (HB.out.trans (hb.mono HB.out.size)).alloc (HB.out.trans (hb.mono HB.out.size)).size
      go_wp2_with fail
      go_ret3
      exact lii_err 2 (HBG _)
    · obtain ⟨rs, rfl, rfl, h8, hr, hrel, hl, hd, hxs⟩ := alphB_nats L xs n hn1 ha
      have HANS := Lib.hid (show gA ([], []) cyF (n : Int) (ints rs) us = _ from gA1_yes rs hxs ha hu)
      have HU := Lib.hid hu
      have HDEP := (depB_iff rs n hl hr).1 hd
      obtain ⟨ds, hds⟩ : ∃ ds, ds = dblR rs := ⟨_, rfl⟩
      obtain ⟨N, hN⟩ : ∃ N, N = 2 * n := ⟨_, rfl⟩
      have HDL : Hid (ds.length = N) := Lib.hid (by rw [hds, dbl_len, hl, hN])
      have HDR : Hid (∀ i, ds.getD i 0 < 2 ^ N) := Lib.hid (by rw [hds, hN, ← hl]; exact dbl_lt rs)
      have HGD : Hid (GD (RDep ds) N) := Lib.hid (by rw [hds, hN]; exact dbl_gd rs n hl hr HDEP)
      have HDD : Hid (Dep ds) := Lib.hid (by rw [hds]; exact dbl_is rs n hl hr HDEP)
      have hN16 : N ≤ 16 := by omega
      have hum : us.length ≤ 24 := sgB_len (by exact HU.out)
      have hum' : m ≤ 24 := by omega
      have HWN : Hid (∀ x, x ∈ us.map inN → x < N) := Lib.hid (by rw [hN]; exact sgB_nats (by exact HU.out))
      have HWA : Hid (∀ s, s ∈ us → sgB1 8 s = true) := Lib.hid (fun s hs => sgB1_mono n s h8 (sgB_all (L := (n : Int)) (by exact HU.out) s hs))
      obtain ⟨W, hW⟩ : ∃ W, W = us.map inN := ⟨_, rfl⟩
      have HWL : Hid (W.length = m) := Lib.hid (by rw [hW, List.length_map]; exact hm1)
      rw [← hW] at HWN HANS
      rw [← hds] at HANS
      rw [HANS.out]
      have HDS := Lib.hid hds
      have HWE := Lib.hid hW
      have HNE := Lib.hid hN
      clear hds hW hN
      go_enter Tryd.func37, Tryd.ntmps37
      go_wp2_with fail
      refine (signedIn_any _ _ _ _ _ _ rs _ _ hh hwf h8 hl hr hrel hd ht (by omega) hT1).mono ?_
      rw [okG_one, HU.out]
      rintro e w1 (⟨hok, R, cr, AL, cl, rfl, oR, oS, hb⟩ | ⟨hok, _⟩)
      rotate_left
      · cases hok
      rw [← HDS.out, ← HNE.out] at oR
      rw [← HNE.out]
      obtain ⟨lo, hi, oS⟩ : ∃ lo hi, OwnSS w1 lo hi AL 1 cl [ints W] := ⟨_, _, by rw [HWE.out]; exact oS⟩
      have gb := Boxed.new w1 93 (.slice R N cr)
      have gc := gb.cell
      have hbg := below1 w1 (.cells #[.slice R N cr] 93)
      have HB1 := Lib.hid (HB.out.trans (hb.mono HB.out.size))
      have HB2 := Lib.hid (HB1.out.trans (hbg.mono HB1.out.size))
      have hRd := oR.rd.below hbg
      obtain ⟨ws, hws, HWS⟩ := rdSS_words (oS.rd (by intro z hz; obtain rfl := (by simpa using hz : z = _); rw [ints_len, HWL.out]; unfold maxLen; omega)) [W] rfl
      have hT2 := ((hT1.below hb).below hbg)
      have hRT := hws.below hbg
      have y0 := ((x1.next hb).next hbg).c0
      have y1 := ((x1.next hb).next hbg).c1
      clear hr hrel hd hu hws oS hh ht hT1 hT h h2 x0 x1
      obtain ⟨wg, hwg⟩ : ∃ wg, wg = w1.alloc (.cells #[.slice R N cr] 93) := ⟨_, rfl⟩
      rw [← hwg] at gb gc hbg HB2 hRd hT2 hRT y0 y1
      have hgl := gb.lt
      go_wp2_with fail
      rw [← hwg]
      clear hwg oR hb
      have HVV := Lib.hid (cyF_prog ds W N HDL.out HGD.out HWN.out (by rw [HWL.out]; exact hum'))
      obtain ⟨CE, FE, hCE⟩ : ∃ a b, cycP (RDep ds) N (redW (RDep ds) W).length (redW (RDep ds) W) [] = (a, b) := ⟨_, _, rfl⟩
      have HCR := Lib.hid (fun (ww : World) (hw : Below wg.heap.size wg ww) (A5 : Option Addr) (c5 : Nat) (h5 : Rd ww A5 m (ints W)) => cyclicReduction_any R A5 N cr m c5 ds W ww (hRd.below hw) hN16 HDL.out HDR.out HGD.out h5 (by omega) HWN.out)
      rw [hCE] at HCR HVV
      have HCL := Lib.hid (show CE.length ≤ 24 ∧ FE.length ≤ 24 ∧ (∀ x, x ∈ CE → x < N) ∧ (∀ x, x ∈ FE → x < N) from by
        have h9 := cyc_facts HGD.out HWN.out (show W.length ≤ 24 by rw [HWL.out]; exact hum')
        rw [hCE] at h9; exact h9)
      have HEL : Hid (∀ (ww : World) (A5 : Option Addr) (n5 c5 : Nat) (V : List Nat), Below wg.heap.size wg ww → Rd ww A5 n5 (ints V) → V.length ≤ 24 → (∀ x, x ∈ V → x < N) → Calls Tryd.prog 76 #[.agg #[.slice R N cr], .slice (some ⟨ww.heap.size, 0, none⟩) 1 1] (ww.alloc (.cells #[.slice A5 n5 c5] 22)) (LsPost (ww.alloc (.cells #[.slice A5 n5 c5] 22)) (eF ds (redW (RDep ds) V)).1.length (eF ds (redW (RDep ds) V)).1 (eF ds (redW (RDep ds) V)).2)) := Lib.hid (fun ww A5 n5 c5 V hw h5 hl5 hn5 => by
        have hn9 : V.length = n5 := by have := h5.1; rw [ints_len] at this; exact this
        have h9 := element_any R _ N cr 1 1 ds _ [V] (ww.alloc (.cells #[.slice A5 n5 c5] 22)) ((hRd.below hw).below (below1 _ _)) hN16 HDL.out HDR.out HGD.out HDD.out (rdT_one ww A5 n5 c5 (ints V) 22 h5 (by unfold maxLen; omega)) (by omega) rfl (fun k t hk => by
          match k, hk with
          | 0, hk => injection hk with hk; subst hk; rfl
          | k + 1, hk => simp at hk) (fun k => by
          match k with
          | 0 => show V.length ≤ 576; omega
          | k + 1 => simp) (by rw [show [V].flatten = V by simp]; omega) (by rw [show [V].flatten = V by simp]; exact hn5) ((hT2.below hw).below (below1 _ _))
        rw [show [V].flatten = V by simp] at h9
        exact h9)
      clear hCE
      obtain ⟨bw, offw, q5, m5, cw5, x5, rfl, hbw5, hts5, hcell5, hrd5, -⟩ := hRT.at_ (show 0 < 1 by omega)
      have hx5 : x5 = ints W := HWS.out 0 _ hts5
      subst hx5
      have hm5 : m5 = m := by have := hrd5.1; rw [ints_len, HWL.out] at this; exact this.symm
      subst hm5
      have hcur : Below wg.heap.size wg wg.drew := (Below.refl _ _).drew
      have HGC : Hid (∀ ww, Below wg.heap.size wg ww → ww.cell? ⟨w1.heap.size, 0, none⟩ = some (.slice R N cr) ∧ ww.cell? ⟨bw, offw + 0, none⟩ = some (.slice q5 m5 cw5)) := Lib.hid (fun ww hw => ⟨Boxed.cell (show Boxed ww w1.heap.size 93 (.slice R N cr) from (hw.block _ gb.lt).trans gb), (hw.cell (p := ⟨bw, offw + 0, none⟩) hbw5).trans hcell5⟩)
      have hcd := HGC.out _ hcur
      rw [Nat.add_zero] at HGC hcd
      clear hts5 gc y0 y1 hcell5
      go_wp2_with fail
      go_region_held3 (fun ww => ww.cell? ⟨w1.heap.size, 0, none⟩ = some (.slice R N cr) ∧ ww.cell? ⟨bw, offw, none⟩ = some (.slice q5 m5 cw5)) (first | exact hcd | exact HGC.out _ hcur | go_keep) ((go_at_call 75; (with_reducible refine (HCR.out _ hcur q5 cw5 (hrd5.below hcur)).mono ?_); rintro e w3 ⟨A5, A6, c5, c6, rfl, o5, o6, hb3⟩; have hcz := hcur.size; have hcur := hcur.trans (hb3.mono hcz)))
      all_goals
        have g3 := (HGC.out _ hcur).1
        have HE5 := Lib.hid (HEL.out w3 A5 CE.length c5 CE hcur o5.rd HCL.out.1 HCL.out.2.2.1)
        obtain ⟨Z1, hZ1⟩ : ∃ Z, Z = (eF ds (redW (RDep ds) CE)) := ⟨_, rfl⟩
        rw [← hZ1] at HE5 HVV
        clear hZ1
        go_wp2_with fail
        refine HE5.out.mono ?_
        rintro e w4 ⟨A7, c7, rfl, o7, hb4⟩
        have hb34 := (below1 w3 (.cells #[.slice A5 CE.length c5] 22)).trans (hb4.mono (below1 w3 (.cells #[.slice A5 CE.length c5] 22)).size)
        have hcur4 := hcur.trans (hb34.mono hcur.size)
        have g4 := (HGC.out _ hcur4).1
        have o64 := o6.below hb34
        have o7w := (o7.mono (below1 w3 (.cells #[.slice A5 CE.length c5] 22)).size).mono hcur.size
        have HE6 := Lib.hid (HEL.out w4 A6 FE.length c6 FE hcur4 o64.rd HCL.out.2.1 HCL.out.2.2.2)
        obtain ⟨Z2, hZ2⟩ : ∃ Z, Z = (eF ds (redW (RDep ds) FE)) := ⟨_, rfl⟩
        rw [← hZ2] at HE6 HVV
        clear hZ2
        clear g3
        go_wp2_with fail
        refine HE6.out.mono ?_
        rintro e w5 ⟨A8, c8, rfl, o8, hb5⟩
        have hb45 := (below1 w4 (.cells #[.slice A6 FE.length c6] 22)).trans (hb5.mono (below1 w4 (.cells #[.slice A6 FE.length c6] 22)).size)
        have hap : ∀ r, A7.map (·.block) = some r → A8.map (·.block) ≠ some r := fun r h1 h2 => by
          have h3 := (o7w.lt r h1).2
          have h4 := (o8.lt r h2).1
          have h5 := (below1 w4 (.cells #[.slice A6 FE.length c6] 22)).size
          omega
        have hb9 := HB2.out.trans ((hcur4.trans (hb45.mono hcur4.size)).mono HB2.out.size)
        go_wp2_with fail
        go_ret3
        rw [HVV.out]
        exact ⟨A7, c7, A8, c8, rfl, (o7w.below hb45).mono HB2.out.size, (o8.mono (below1 w4 (.cells #[.slice A6 FE.length c6] 22)).size).mono (HB2.out.trans (hcur4.mono HB2.out.size)).size, hap, hb9⟩
set_option maxHeartbeats 6400000 in
theorem specCyclicReduction (L : Int) (A : Option Addr) (n c : Nat) (xs : List Int) (A1 : Option Addr) (m d : Nat) (us : List Int) (w : World) (h : Rd w A n xs) (hwf : Wf xs) (hL1 : -9223372036854775808 ≤ L) (hL2 : L ≤ 9223372036854775807) (hn : n ≤ maxLen) (h2 : Rd w A1 m us) (hwf2 : Wf us) (hm : m ≤ maxLen) :
    Calls Tryd.prog 36 #[.agg #[.int .i64 L, .slice A n c], .slice A1 m d] w (LiiPost w (gA ([], []) cyF L xs us).1.1.length (gA ([], []) cyF L xs us).1.1 (gA ([], []) cyF L xs us).1.2.length (gA ([], []) cyF L xs us).1.2 (gA ([], []) cyF L xs us).2) := by
  have hn2 : n ≤ 9223372036854775807 := by unfold maxLen at hn; omega
  have hm2 : m ≤ 9223372036854775807 := by unfold maxLen at hm; omega
  have hn1 := h.1
  have hm1 := h2.1
  have HB := Lib.hid (below1 w (.cells #[.int .i64 L, .slice A n c] 29))
  have x0 := box_new 29 w L A n c
  have hh := h.below HB.out
  have hh2 := h2.below HB.out
  cases ha : alphB L xs
  · rw [show gA ([], []) cyF L xs us = _ from gA1_no ha]
    have HD := Lib.hid (gCode_no L xs us us ha)
    clear ha hn1
    go_enter Tryd.func36, Tryd.ntmps36
    go_wp2_with fail
    refine (l09Code_any L _ _ _ _ _ _ _ _ _ xs us us _ hh hn2 hh2 hm2 hh2 hm2).mono ?_
    rintro e w1 ⟨rfl, hb⟩
    rw [HD.out]
    go_wp2_with fail
    go_ret3
    exact lii_err 1 (HB.out.trans (hb.mono HB.out.size))
  · cases hu : sgB L us
    · rw [show gA ([], []) cyF L xs us = _ from gA1_bad ha hu]
      have HD := Lib.hid (gCode_bad L xs us us ha (by rw [hu]; rfl))
      clear ha hu hn1
      go_enter Tryd.func36, Tryd.ntmps36
      go_wp2_with fail
      refine (l09Code_any L _ _ _ _ _ _ _ _ _ xs us us _ hh hn2 hh2 hm2 hh2 hm2).mono ?_
      rintro e w1 ⟨rfl, hb⟩
      rw [HD.out]
      go_wp2_with fail
      go_ret3
      exact lii_err 2 (HB.out.trans (hb.mono HB.out.size))
    · have HD := Lib.hid (gCode_yes L xs us us ha (by rw [hu]; rfl))
      obtain ⟨rs, rfl, rfl, h8, hr, hrel, hl, hd, hxs⟩ := alphB_nats L xs n hn1 ha
      have HANS := Lib.hid (show gA ([], []) cyF (n : Int) (ints rs) us = _ from gA1_yes rs hxs ha hu)
      have HU := Lib.hid hu
      have HDEP := (depB_iff rs n hl hr).1 hd
      obtain ⟨ds, hds⟩ : ∃ ds, ds = dblR rs := ⟨_, rfl⟩
      obtain ⟨N, hN⟩ : ∃ N, N = 2 * n := ⟨_, rfl⟩
      have HDL : Hid (ds.length = N) := Lib.hid (by rw [hds, dbl_len, hl, hN])
      have HDR : Hid (∀ i, ds.getD i 0 < 2 ^ N) := Lib.hid (by rw [hds, hN, ← hl]; exact dbl_lt rs)
      have HGD : Hid (GD (RDep ds) N) := Lib.hid (by rw [hds, hN]; exact dbl_gd rs n hl hr HDEP)
      have hN16 : N ≤ 16 := by omega
      have hum : us.length ≤ 24 := sgB_len (by exact HU.out)
      have HWN : Hid (∀ x, x ∈ us.map inN → x < N) := Lib.hid (by rw [hN]; exact sgB_nats (by exact HU.out))
      have HWA : Hid (∀ s, s ∈ us → sgB1 8 s = true) := Lib.hid (fun s hs => sgB1_mono n s h8 (sgB_all (L := (n : Int)) (by exact HU.out) s hs))
      have HDB : Hid (∀ ww : World, Rd ww A n (ints rs) → Calls Tryd.prog 69 #[.agg #[.int .i64 (n : Int), .slice A n c]] ww (MakesG ww (N : Int) N (ints ds))) := Lib.hid (fun ww hw => by rw [hN, hds]; exact l09Double_any A n c rs ww hw h8 hl hr)
      have HIN : Hid (∀ ww : World, Rd ww A1 m us → Calls Tryd.prog 72 #[.slice A1 m d] ww (MakesE 2 ww m (ints (us.map inN)))) := Lib.hid (fun ww hw => l09In_any A1 m d us ww hw (by omega) HWA.out)
      obtain ⟨W, hW⟩ : ∃ W, W = us.map inN := ⟨_, rfl⟩
      have HWL : Hid (W.length = m) := Lib.hid (by rw [hW, List.length_map]; exact hm1)
      rw [← hW] at HWN HANS
      rw [← hW] at HIN
      rw [← hds] at HANS
      rw [HANS.out]
      clear hds hW hN
      go_enter Tryd.func36, Tryd.ntmps36
      go_wp2_with fail
      refine (l09Code_any (n : Int) _ _ _ _ _ _ _ _ _ (ints rs) us us _ hh hn2 hh2 hm2 hh2 hm2).mono ?_
      rintro e w1 ⟨rfl, hb⟩
      rw [HD.out]
      have x1 := x0.next hb
      have y0 := x1.c0
      have y1 := x1.c1
      have HB1 := Lib.hid (HB.out.trans (hb.mono HB.out.size))
      have hrd := hh.below hb
      have hr2 := hh2.below hb
      clear hb hh hh2 h h2 x0 hr hd hrel hu ha
      have HDO := Lib.hid (HDB.out w1 hrd)
      clear HDB
      have hum' : m ≤ 24 := by omega
      have HRD : Hid (∀ (ww : World) (AD AI : Option Addr) (cD cI : Nat), Rd ww AD N (ints ds) → Rd ww AI m (ints W) → Calls Tryd.prog 71 #[.agg #[.int .i64 (N : Int), .slice AD N cD], .slice AI m cI] ww (MakesE 2 ww (nfR ds (redW (RDep ds) W)).length (ints (nfR ds (redW (RDep ds) W))))) := Lib.hid (fun ww AD AI cD cI k1 k2 => l09Reduce_any AD AI N cD m cI ds W ww k1 hN16 HDL.out HDR.out HGD.out k2 (by omega) HWN.out)
      have HNL : Hid ((nfR ds (redW (RDep ds) W)).length ≤ 24) := Lib.hid (Nat.le_trans (nfR_len ds _) (Nat.le_trans (redW_len _) (by rw [HWL.out]; omega)))
      have HNN : Hid (∀ x, x ∈ nfR ds (redW (RDep ds) W) → x < N) := Lib.hid (fun x hx => by have := nfR_ltG ds _ x hx; have := HDL.out; omega)
      have HVV := Lib.hid (cyF_model ds W N hN16 HDL.out HGD.out HWN.out (by rw [HWL.out]; exact hum'))
      obtain ⟨Z, hZ⟩ : ∃ Z, Z = nfR ds (redW (RDep ds) W) := ⟨_, rfl⟩
      rw [← hZ] at HNL HNN HRD HVV
      obtain ⟨zl, hzl⟩ : ∃ zl, zl = Z.length := ⟨_, rfl⟩
      have HZL := Lib.hid hzl
      rw [← hzl] at HRD HNL HVV
      obtain ⟨CE, FE, hCE⟩ : ∃ a b, cycM (RDep ds) N zl Z [] = (a, b) := ⟨_, _, rfl⟩
      have HCO : Hid (∀ (ww : World) (AD A5 : Option Addr) (cD c5 : Nat), Rd ww AD N (ints ds) → Rd ww A5 zl (ints Z) → Calls Tryd.prog 70 #[.agg #[.int .i64 (N : Int), .slice AD N cD], .slice A5 zl c5] ww fun e w' => ∃ (A1 A2 : Option Addr) (c1 c2 : Nat), e = .returned (.tuple #[.slice A1 CE.length c1, .slice A2 (nfR ds (redW (RDep ds) FE)).length c2]) ∧ Own 2 w' ww.heap.size A1 CE.length c1 (ints (nfR ds CE)) ∧ Own 2 w' ww.heap.size A2 (nfR ds (redW (RDep ds) FE)).length c2 (ints (nfR ds (redW (RDep ds) FE))) ∧ Below ww.heap.size ww w') := Lib.hid (fun ww AD A5 cD c5 k1 k2 => by
        have h9 := l09Core_any AD A5 N cD zl c5 ds Z ww k1 hN16 HDL.out HDR.out HGD.out k2 HNL.out HNN.out
        rw [hCE] at h9; exact h9)
      rw [hCE] at HVV
      have HOT : Hid (∀ (ww : World) (AN : Option Addr) (zn cN : Nat) (V : List Nat), Rd ww AN zn (ints V) → zn ≤ 24 → (∀ x, x ∈ V → x < 48) → Calls Tryd.prog 73 #[.slice AN zn cN] ww (MakesE 2 ww zn (V.map outI))) := Lib.hid (fun ww AN zn cN V k1 hz hv => l09Out_any AN zn cN V ww k1 (by omega) hv)
      obtain ⟨k1, hk1⟩ : ∃ k, k = CE.length := ⟨_, rfl⟩
      obtain ⟨k2, hk2⟩ : ∃ k, k = (nfR ds (redW (RDep ds) FE)).length := ⟨_, rfl⟩
      obtain ⟨Y1, hY1⟩ : ∃ Y, Y = nfR ds CE := ⟨_, rfl⟩
      obtain ⟨Y2, hY2⟩ : ∃ Y, Y = nfR ds (redW (RDep ds) FE) := ⟨_, rfl⟩
      have HVW : Hid (cyF ds W = ((Y1.map outI, Y2.map outI), 0) ∧ k1 ≤ 24 ∧ k2 ≤ 24 ∧ (∀ x, x ∈ Y1 → x < 48) ∧ (∀ x, x ∈ Y2 → x < 48)) := by
        rw [hY1, hY2, hk1, hk2]; exact HVV
      clear HVV
      have HVV := HVW
      clear HVW
      rw [← hk1, ← hk2, ← hY1, ← hY2] at HCO
      clear hZ hzl hCE hk1 hk2 hY1 hY2
      go_wp2_with fail
      refine HDO.out.mono ?_
      rintro e w2 ⟨AD, cD, rfl, oD, hbD⟩
      have xd := box_new 29 w2 (N : Int) AD N cD
      have hbx := below1 w2 (.cells #[.int .i64 (N : Int), .slice AD N cD] 29)
      have oDx := oD.rd.below hbx
      have hrx := (hr2.below hbD).below hbx
      have HB3 := Lib.hid (HB1.out.trans ((hbD.trans (hbx.mono hbD.size)).mono HB1.out.size))
      obtain ⟨wx, hwx⟩ : ∃ wx, wx = w2.alloc (.cells #[.int .i64 (N : Int), .slice AD N cD] 29) := ⟨_, rfl⟩
      rw [← hwx] at xd hbx oDx hrx HB3
      have HWX := Lib.hid hwx
      have hcur : Below wx.heap.size wx wx.drew := (Below.refl _ _).drew
      have HS9 : Hid (∀ w', Below wx.heap.size wx w' → w'.cell? ⟨w2.heap.size, 0, none⟩ = some (.int .i64 (N : Int)) ∧ w'.cell? ⟨w2.heap.size, 1, none⟩ = some (.slice AD N cD)) := Lib.hid (fun w' hw => ⟨(xd.next hw).c0, (xd.next hw).c1⟩)
      have hcd := HS9.out _ hcur
      have HI2 : Hid (∀ ww, Below wx.heap.size wx ww → Calls Tryd.prog 72 #[.slice A1 m d] ww (MakesE 2 ww m (ints W))) := Lib.hid (fun ww hw => HIN.out ww (hrx.below hw))
      clear y0 y1 hwx
      go_wp2_with fail
      rw [← HWX.out]
      go_region_held3 (fun w' => w'.cell? ⟨w2.heap.size, 0, none⟩ = some (.int .i64 (N : Int)) ∧ w'.cell? ⟨w2.heap.size, 1, none⟩ = some (.slice AD N cD)) (first | exact hcd | exact HS9.out _ hcur | go_keep) (first
        | (go_at_call 72; (with_reducible refine (HI2.out _ hcur).mono ?_); rintro e w3 ⟨AI, cI, rfl, oI, hbI⟩; have hcz := hcur.size; have hcur := hcur.trans (hbI.mono hcz))
        | (go_at_call 71; (with_reducible refine (HRD.out _ AD AI cD cI (oDx.below hcur) oI.rd).mono ?_); rintro e w4 ⟨AN, cN, rfl, oN, hbN⟩; have hcz := hcur.size; have hcur := hcur.trans (hbN.mono hcz))
        | (go_at_call 70; (with_reducible refine (HCO.out _ AD AN cD cN (oDx.below hcur) oN.rd).mono ?_); rintro e w5 ⟨A5, A6, c5, c6, rfl, o5, o6, hb5⟩; have hcz := hcur.size; have hcur := hcur.trans (hb5.mono hcz)))
      all_goals
        have HO5 := Lib.hid (HOT.out w5 A5 k1 c5 Y1 o5.rd HVV.out.2.1 HVV.out.2.2.2.1)
        obtain ⟨V1, hV1⟩ : ∃ V, V = Y1.map outI := ⟨_, rfl⟩
        obtain ⟨V2, hV2⟩ : ∃ V, V = Y2.map outI := ⟨_, rfl⟩
        have HVA : Hid (cyF ds W = ((V1, V2), 0)) := by rw [hV1, hV2]; exact Lib.hid HVV.out.1
        have HO6 : Hid (∀ ww, Rd ww A6 k2 (ints Y2) → Calls Tryd.prog 73 #[.slice A6 k2 c6] ww (MakesE 2 ww k2 V2)) := Lib.hid (fun ww hr => by rw [hV2]; exact HOT.out ww A6 k2 c6 Y2 hr HVV.out.2.2.1 HVV.out.2.2.2.2)
        rw [← hV1] at HO5
        clear hV1 hV2
        go_wp2_with fail
        with_reducible refine HO5.out.mono ?_
        rintro e w6 ⟨A7, c7, rfl, o7, hb6⟩
        have HO7 := Lib.hid (HO6.out w6 (o6.below hb6).rd)
        go_wp2_with fail
        with_reducible refine HO7.out.mono ?_
        rintro e w7 ⟨A8, c8, rfl, o8, hb7⟩
        have hap : ∀ r, A7.map (·.block) = some r → A8.map (·.block) ≠ some r := fun r h1 h2 => by
          have h3 := (o7.lt r h1).2
          have h4 := (o8.lt r h2).1
          omega
        have hb57 := hb6.trans (hb7.mono hb6.size)
        have hb9 := HB3.out.trans ((hcur.trans (hb57.mono hcur.size)).mono HB3.out.size)
        have hb95 := (HB3.out.trans (hcur.mono HB3.out.size)).size
        go_wp2_with fail
        go_ret3
        rw [HVA.out]
        have e1 := o7.len
        have e2 := o8.len
        show LiiPost w V1.length V1 V2.length V2 0 _ _
        rw [e1, e2]
        exact ⟨A7, c7, A8, c8, rfl, (o7.mono hb95).below hb7, o8.mono (Nat.le_trans hb95 hb6.size), hap, hb9⟩
end Go.Proofs.YtdafdffmkjhhcaaDoor
