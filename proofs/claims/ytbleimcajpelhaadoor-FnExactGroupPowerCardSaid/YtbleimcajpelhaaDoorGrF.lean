/-
  Graph groups: both sides of IsSignedWord, GroupForm, GroupInverse, GroupProduct, AreGroupEqual.
-/
import Derived.Test.YtbleimcajpelhaaDoorGrE
namespace Go.Proofs.YtbleimcajpelhaaDoor
open Go Go.RowKit
set_option linter.unusedVariables false
set_option linter.unusedSimpArgs false
set_option maxRecDepth 100000

theorem okG_one (L : Int) (t : Option Addr × Nat × Nat × List Int) : okG L [t] = sgB L t.2.2.2 := by simp [okG]
theorem okG_pair (L : Int) (t u : Option Addr × Nat × Nat × List Int) : okG L [t, u] = (sgB L t.2.2.2 && sgB L u.2.2.2) := by simp [okG]
theorem numT_one (t : Option Addr × Nat × Nat × List Int) : numT [t] = [ints (t.2.2.2.map inN)] := rfl
theorem numT_two (t u : Option Addr × Nat × Nat × List Int) : numT [t, u] = [ints (t.2.2.2.map inN), ints (u.2.2.2.map inN)] := rfl
theorem rdSS_words {w : World} {A : Option Addr} {n : Nat} {xss : List (List Int)} (h : RdSS w A n xss) (Ws : List (List Nat)) (he : xss = Ws.map ints) : ∃ ts, RdT w A n ts ∧ Hid (∀ k t, ts[k]? = some t → t.2.2.2 = ints (Ws.getD k [])) := by
  obtain ⟨ts, e, ht⟩ := h
  refine ⟨ts, ht, Lib.hid fun k t hk => ?_⟩
  have h1 : (ts.map (fun t => t.2.2.2))[k]? = some t.2.2.2 := by rw [List.getElem?_map, hk]; rfl
  rw [e, he, List.getElem?_map] at h1
  cases hw : Ws[k]? with
  | none => rw [hw] at h1; cases h1
  | some z => rw [hw] at h1; injection h1 with h1; rw [← h1, List.getD_eq_getElem?_getD, hw]; rfl
theorem eF_yes (ds W : List Nat) (h : W.length ≤ 24) : eF ds W = ((nfR ds W).map outI, 0) := by unfold eF; rw [pF_yes ds W h]
theorem eF_long (ds W : List Nat) (h : 24 < W.length) : eF ds W = ([], 3) := by unfold eF; rw [pF_long ds W h]; rfl
theorem nfR_lenG (ds W : List Nat) (N : Nat) (hl : ds.length = N) (hgd : GD (RDep ds) N) (hW : ∀ x, x ∈ W → x < N) : (nfR ds W).length = W.length := by
  have h1 : Eqv (RDep ds) (nfR ds W) W := by unfold nfR nfM; rw [hl]; exact nfGo_eqv hgd.sym hgd.ref W.length W rfl hW
  exact Eqv.len hgd.sym hgd.ref _ _ (fun x hx => by have := nfR_ltG ds W x hx; omega) hW h1
/-- An answer over an alphabet and signed words: the code of the arguments, else what the doubled relation and the numbers give. -/
def gA {α : Type} (z : α) (f : List Nat → List Nat → α × Int) (L : Int) (xs us : List Int) : α × Int :=
  if alphB L xs = true then (if sgB L us = true then f (dblR (xs.map Int.toNat)) (us.map inN) else (z, 2)) else (z, 1)
def gA2 {α : Type} (z : α) (f : List Nat → List Nat → List Nat → α × Int) (L : Int) (xs us ts : List Int) : α × Int :=
  if alphB L xs = true then (if (sgB L us && sgB L ts) = true then f (dblR (xs.map Int.toNat)) (us.map inN) (ts.map inN) else (z, 2)) else (z, 1)
theorem gA1_no {α : Type} {z : α} {f : List Nat → List Nat → α × Int} {L : Int} {xs us : List Int} (h : alphB L xs = false) : gA z f L xs us = (z, 1) := if_neg (by rw [h]; decide)
theorem gA1_bad {α : Type} {z : α} {f : List Nat → List Nat → α × Int} {L : Int} {xs us : List Int} (h : alphB L xs = true) (h2 : sgB L us = false) : gA z f L xs us = (z, 2) := by unfold gA; rw [if_pos h, if_neg (by rw [h2]; decide)]
theorem gA1_yes {α : Type} {z : α} {f : List Nat → List Nat → α × Int} {L : Int} {xs us : List Int} (rs : List Nat) (hx : xs.map Int.toNat = rs) (h : alphB L xs = true) (h2 : sgB L us = true) : gA z f L xs us = f (dblR rs) (us.map inN) := by unfold gA; rw [if_pos h, if_pos h2, hx]
theorem gA2_no {α : Type} {z : α} {f : List Nat → List Nat → List Nat → α × Int} {L : Int} {xs us ts : List Int} (h : alphB L xs = false) : gA2 z f L xs us ts = (z, 1) := if_neg (by rw [h]; decide)
theorem gA2_bad {α : Type} {z : α} {f : List Nat → List Nat → List Nat → α × Int} {L : Int} {xs us ts : List Int} (h : alphB L xs = true) (h2 : (sgB L us && sgB L ts) = false) : gA2 z f L xs us ts = (z, 2) := by unfold gA2; rw [if_pos h, if_neg (by rw [h2]; decide)]
theorem gA2_yes {α : Type} {z : α} {f : List Nat → List Nat → List Nat → α × Int} {L : Int} {xs us ts : List Int} (rs : List Nat) (hx : xs.map Int.toNat = rs) (h : alphB L xs = true) (h2 : (sgB L us && sgB L ts) = true) : gA2 z f L xs us ts = f (dblR rs) (us.map inN) (ts.map inN) := by unfold gA2; rw [if_pos h, if_pos h2, hx]
def gB (L : Int) (xs us : List Int) : Bool := alphB L xs && sgB L us
theorem gCode_no (L : Int) (xs us ts : List Int) (h : alphB L xs = false) : gCode2 L xs us ts = 1 := if_neg (by rw [h]; decide)
theorem gCode_bad (L : Int) (xs us ts : List Int) (h : alphB L xs = true) (h2 : (sgB L us && sgB L ts) = false) : gCode2 L xs us ts = 2 := by unfold gCode2; rw [if_pos h, if_neg (by rw [h2]; decide)]
theorem gCode_yes (L : Int) (xs us ts : List Int) (h : alphB L xs = true) (h2 : (sgB L us && sgB L ts) = true) : gCode2 L xs us ts = 0 := by unfold gCode2; rw [if_pos h, if_pos h2]
def gfF (ds W : List Nat) : List Int × Int := eF ds (redW (RDep ds) W)
def giF (ds W : List Nat) : List Int × Int := eF ds (redW (RDep ds) (invW W))
def gpF (ds W V : List Nat) : List Int × Int := eF ds (redW (RDep ds) (W ++ V))
def geF (ds W V : List Nat) : Bool × Int := (decide ((redW (RDep ds) (W ++ invW V)).length = 0), 0)
theorem gfF_small (L : Int) (xs us : List Int) : (gA [] gfF L xs us).1.length ≤ 24 := by
  unfold gA; split
  · split
    · exact eF_len _ _
    · exact Nat.zero_le _
  · exact Nat.zero_le _
theorem giF_small (L : Int) (xs us : List Int) : (gA [] giF L xs us).1.length ≤ 24 := by
  unfold gA; split
  · split
    · exact eF_len _ _
    · exact Nat.zero_le _
  · exact Nat.zero_le _
theorem gpF_small (L : Int) (xs us ts : List Int) : (gA2 [] gpF L xs us ts).1.length ≤ 24 := by
  unfold gA2; split
  · split
    · exact eF_len _ _
    · exact Nat.zero_le _
  · exact Nat.zero_le _
set_option maxHeartbeats 3200000 in
theorem implGroupForm (L : Int) (A : Option Addr) (n c : Nat) (xs : List Int) (A1 : Option Addr) (m d : Nat) (us : List Int) (w : World) (h : Rd w A n xs) (hwf : Wf xs) (hL1 : -9223372036854775808 ≤ L) (hL2 : L ≤ 9223372036854775807) (hn : n ≤ maxLen) (h2 : Rd w A1 m us) (hwf2 : Wf us) (hm : m ≤ maxLen) (hT : Tab w) :
    Calls Tryd.prog 27 #[.agg #[.int .i64 L, .slice A n c], .slice A1 m d] w (LsPost w (gA [] gfF L xs us).1.length (gA [] gfF L xs us).1 (gA [] gfF L xs us).2) := by
  have hn2 : n ≤ 9223372036854775807 := by unfold maxLen at hn; omega
  have hn1 := h.1
  have hm1 := h2.1
  have x0 := box_new 27 w L A n c
  have HB := Lib.hid (below2 w (.cells #[.int .i64 L, .slice A n c] 27) (.cells #[.slice A1 m d] 22))
  have hh := h.below HB.out
  have ht := rdT_box w (.cells #[.int .i64 L, .slice A n c] 27) A1 m d us 22 h2 hm
  have hT1 := hT.below HB.out
  have x1 := x0.next (below1 (w.alloc (.cells #[.int .i64 L, .slice A n c] 27)) (.cells #[.slice A1 m d] 22))
  cases ha : alphB L xs
  · rw [show gA [] gfF L xs us = _ from gA1_no ha]
    have HA := Lib.hid ha
    clear ha ht hn1
    go_enter Tryd.func27, Tryd.ntmps27
    go_wp2_with fail
    refine (signedIn_no L _ _ _ _ _ _ xs _ hh hwf hL1 hL2 hn2 HA.out hT1).mono ?_
    rintro e w1 ⟨rfl, hb⟩
    have gc := cell_new0 w1 (.slice none 0 0) 52
    have HBG := (HB.out.trans (hb.mono HB.out.size)).alloc (HB.out.trans (hb.mono HB.out.size)).size
    go_wp2_with fail
    go_ret2
    exact LsPost.of_ans (ans_no 1 (HBG _))
  · cases hu : sgB L us
    · rw [show gA [] gfF L xs us = _ from gA1_bad ha hu]
      obtain ⟨rs, rfl, rfl, h8, hr, hrel, hl, hd, _⟩ := alphB_nats L xs n hn1 ha
      have HU := Lib.hid hu
      clear ha hu
      go_enter Tryd.func27, Tryd.ntmps27
      go_wp2_with fail
      refine (signedIn_any _ _ _ _ _ _ rs _ _ hh hwf h8 hl hr hrel hd ht (by omega) hT1).mono ?_
      rw [okG_one, HU.out]
      rintro e w1 (⟨hok, _⟩ | ⟨hok, rfl, hb⟩)
      · cases hok
      have gc := cell_new0 w1 (.slice none 0 0) 52
      have HBG := (HB.out.trans (hb.mono HB.out.size)).alloc (HB.out.trans (hb.mono HB.out.size)).size
      go_wp2_with fail
      go_ret2
      exact LsPost.of_ans (ans_no 2 (HBG _))
    · obtain ⟨rs, rfl, rfl, h8, hr, hrel, hl, hd, hxs⟩ := alphB_nats L xs n hn1 ha
      have HANS := Lib.hid (show gA [] gfF (n : Int) (ints rs) us = _ from gA1_yes rs hxs ha hu)
      have HU := Lib.hid hu
      have HDEP := (depB_iff rs n hl hr).1 hd
      obtain ⟨ds, hds⟩ : ∃ ds, ds = dblR rs := ⟨_, rfl⟩
      obtain ⟨N, hN⟩ : ∃ N, N = 2 * n := ⟨_, rfl⟩
      have HDL : Hid (ds.length = N) := Lib.hid (by rw [hds, dbl_len, hl, hN])
      have HDR : Hid (∀ i, ds.getD i 0 < 2 ^ N) := Lib.hid (by rw [hds, hN, ← hl]; exact dbl_lt rs)
      have HGD : Hid (GD (RDep ds) N) := Lib.hid (by rw [hds, hN]; exact dbl_gd rs n hl hr HDEP)
      have HDD : Hid (Dep ds) := Lib.hid (by rw [hds]; exact dbl_is rs n hl hr HDEP)
      have hN16 : N ≤ 16 := by omega
      have hum : us.length ≤ 24 := sgB_len (by exact HU.out)
      have HWN : Hid (∀ x, x ∈ us.map inN → x < N) := Lib.hid (by rw [hN]; exact sgB_nats (by exact HU.out))
      have HWA : Hid (∀ s, s ∈ us → sgB1 8 s = true) := Lib.hid (fun s hs => sgB1_mono n s h8 (sgB_all (L := (n : Int)) (by exact HU.out) s hs))
      obtain ⟨W, hW⟩ : ∃ W, W = us.map inN := ⟨_, rfl⟩
      have HWL : Hid (W.length = m) := Lib.hid (by rw [hW, List.length_map]; exact hm1)
      rw [← hW] at HWN HANS
      rw [← hds] at HANS
      rw [HANS.out]
      have HDS := Lib.hid hds
      have HWE := Lib.hid hW
      have HNE := Lib.hid hN
      clear hds hW hN
      go_enter Tryd.func27, Tryd.ntmps27
      go_wp2_with fail
      refine (signedIn_any _ _ _ _ _ _ rs _ _ hh hwf h8 hl hr hrel hd ht (by omega) hT1).mono ?_
      rw [okG_one, HU.out]
      rintro e w1 (⟨hok, R, cr, AL, cl, rfl, oR, oS, hb⟩ | ⟨hok, _⟩)
      rotate_left
      · cases hok
      rw [← HDS.out, ← HNE.out] at oR
      rw [← HNE.out]
      obtain ⟨lo, hi, oS⟩ : ∃ lo hi, OwnSS w1 lo hi AL 1 cl [ints W] := ⟨_, _, by rw [HWE.out]; exact oS⟩
      have gb := Boxed.new w1 52 (.slice R N cr)
      have gc := gb.cell
      have hbg := below1 w1 (.cells #[.slice R N cr] 52)
      have HB1 := Lib.hid (HB.out.trans (hb.mono HB.out.size))
      have HB2 := Lib.hid (HB1.out.trans (hbg.mono HB1.out.size))
      have hRd := oR.rd.below hbg
      obtain ⟨ws, hws, HWS⟩ := rdSS_words (oS.rd (by intro z hz; obtain rfl := (by simpa using hz : z = _); rw [ints_len, HWL.out]; unfold maxLen; omega)) [W] rfl
      have hT2 := ((hT1.below hb).below hbg)
      have hRT := hws.below hbg
      have y0 := ((x1.next hb).next hbg).c0
      have y1 := ((x1.next hb).next hbg).c1
      clear hr hrel hd hu hws oS hh ht hT1 hT h h2 x0 x1
      obtain ⟨wg, hwg⟩ : ∃ wg, wg = w1.alloc (.cells #[.slice R N cr] 52) := ⟨_, rfl⟩
      rw [← hwg] at gb gc hbg HB2 hRd hT2 hRT y0 y1
      have hgl := gb.lt
      go_wp2_with fail
      rw [← hwg]
      clear hwg oR hb
      have HEL : Hid (Calls Tryd.prog 53 #[.agg #[.slice R N cr], .slice AL 1 cl] wg (LsPost wg (gfF ds W).1.length (gfF ds W).1 (gfF ds W).2)) := Lib.hid (by
        have h9 := element_any R AL N cr 1 cl ds ws [W] wg hRd hN16 HDL.out HDR.out HGD.out HDD.out hRT (by omega) rfl HWS.out (fun k => by
          match k with
          | 0 => show W.length ≤ 576; rw [HWL.out]; omega
          | k + 1 => simp) (by rw [show [W].flatten = W by simp]; rw [HWL.out]; omega) (by rw [show [W].flatten = W by simp]; exact HWN.out) hT2
        rw [show [W].flatten = W by simp] at h9
        exact h9)
      obtain ⟨VX, VC, hVV⟩ : ∃ a b, gfF ds W = (a, b) := ⟨_, _, rfl⟩
      rw [hVV] at HEL
      have HVV := Lib.hid hVV
      clear hVV
      go_wp2_with fail
      refine HEL.out.mono ?_
      rintro e w3 ⟨A7, c7, rfl, o7, hb7⟩
      go_wp2_with fail
      go_ret2
      rw [HVV.out]
      exact ⟨A7, c7, rfl, o7.mono HB2.out.size, HB2.out.trans (hb7.mono HB2.out.size)⟩
set_option maxHeartbeats 3200000 in
theorem implGroupProduct (L : Int) (A : Option Addr) (n c : Nat) (xs : List Int) (A1 : Option Addr) (m d : Nat) (us : List Int) (B1 : Option Addr) (q f : Nat) (ts : List Int) (w : World) (h : Rd w A n xs) (hwf : Wf xs) (hL1 : -9223372036854775808 ≤ L) (hL2 : L ≤ 9223372036854775807) (hn : n ≤ maxLen) (h2 : Rd w A1 m us) (hwf2 : Wf us) (hm : m ≤ maxLen) (h3 : Rd w B1 q ts) (hwf3 : Wf ts) (hq : q ≤ maxLen) (hT : Tab w) :
    Calls Tryd.prog 31 #[.agg #[.int .i64 L, .slice A n c], .slice A1 m d, .slice B1 q f] w (LsPost w (gA2 [] gpF L xs us ts).1.length (gA2 [] gpF L xs us ts).1 (gA2 [] gpF L xs us ts).2) := by
  have hn2 : n ≤ 9223372036854775807 := by unfold maxLen at hn; omega
  have hn1 := h.1
  have hm1 := h2.1
  have hq1 := h3.1
  have x0 := box_new 27 w L A n c
  have HB := Lib.hid (below2 w (.cells #[.int .i64 L, .slice A n c] 27) (.cells #[.slice A1 m d, .slice B1 q f] 22))
  have hh := h.below HB.out
  have ht := rdT_box2 w (.cells #[.int .i64 L, .slice A n c] 27) A1 B1 m d q f us ts 22 h2 hm h3 hq
  have hT1 := hT.below HB.out
  have x1 := x0.next (below1 (w.alloc (.cells #[.int .i64 L, .slice A n c] 27)) (.cells #[.slice A1 m d, .slice B1 q f] 22))
  cases ha : alphB L xs
  · rw [show gA2 [] gpF L xs us ts = _ from gA2_no ha]
    have HA := Lib.hid ha
    clear ha ht hn1
    go_enter Tryd.func31, Tryd.ntmps31
    go_wp2_with fail
    refine (signedIn_no L _ _ _ _ _ _ xs _ hh hwf hL1 hL2 hn2 HA.out hT1).mono ?_
    rintro e w1 ⟨rfl, hb⟩
    have gc := cell_new0 w1 (.slice none 0 0) 52
    have HBG := (HB.out.trans (hb.mono HB.out.size)).alloc (HB.out.trans (hb.mono HB.out.size)).size
    go_wp2_with fail
    go_ret2
    exact LsPost.of_ans (ans_no 1 (HBG _))
  · cases hu : (sgB L us && sgB L ts)
    · rw [show gA2 [] gpF L xs us ts = _ from gA2_bad ha hu]
      obtain ⟨rs, rfl, rfl, h8, hr, hrel, hl, hd, _⟩ := alphB_nats L xs n hn1 ha
      have HU := Lib.hid hu
      clear ha hu
      go_enter Tryd.func31, Tryd.ntmps31
      go_wp2_with fail
      refine (signedIn_any _ _ _ _ _ _ rs _ _ hh hwf h8 hl hr hrel hd ht (by omega) hT1).mono ?_
      rw [okG_pair, HU.out]
      rintro e w1 (⟨hok, _⟩ | ⟨hok, rfl, hb⟩)
      · cases hok
      have gc := cell_new0 w1 (.slice none 0 0) 52
      have HBG := (HB.out.trans (hb.mono HB.out.size)).alloc (HB.out.trans (hb.mono HB.out.size)).size
      go_wp2_with fail
      go_ret2
      exact LsPost.of_ans (ans_no 2 (HBG _))
    · obtain ⟨rs, rfl, rfl, h8, hr, hrel, hl, hd, hxs⟩ := alphB_nats L xs n hn1 ha
      have HANS := Lib.hid (show gA2 [] gpF (n : Int) (ints rs) us ts = _ from gA2_yes rs hxs ha hu)
      have HU := Lib.hid hu
      have HDEP := (depB_iff rs n hl hr).1 hd
      obtain ⟨ds, hds⟩ : ∃ ds, ds = dblR rs := ⟨_, rfl⟩
      obtain ⟨N, hN⟩ : ∃ N, N = 2 * n := ⟨_, rfl⟩
      have HDL : Hid (ds.length = N) := Lib.hid (by rw [hds, dbl_len, hl, hN])
      have HDR : Hid (∀ i, ds.getD i 0 < 2 ^ N) := Lib.hid (by rw [hds, hN, ← hl]; exact dbl_lt rs)
      have HGD : Hid (GD (RDep ds) N) := Lib.hid (by rw [hds, hN]; exact dbl_gd rs n hl hr HDEP)
      have HDD : Hid (Dep ds) := Lib.hid (by rw [hds]; exact dbl_is rs n hl hr HDEP)
      have hN16 : N ≤ 16 := by omega
      have hum : us.length ≤ 24 := sgB_len (by have := HU.out; rw [Bool.and_eq_true] at this; exact this.1)
      have HWN : Hid (∀ x, x ∈ us.map inN → x < N) := Lib.hid (by rw [hN]; exact sgB_nats (by have := HU.out; rw [Bool.and_eq_true] at this; exact this.1))
      have HWA : Hid (∀ s, s ∈ us → sgB1 8 s = true) := Lib.hid (fun s hs => sgB1_mono n s h8 (sgB_all (L := (n : Int)) (by have := HU.out; rw [Bool.and_eq_true] at this; exact this.1) s hs))
      have htm : ts.length ≤ 24 := sgB_len (by have := HU.out; rw [Bool.and_eq_true] at this; exact this.2)
      have HVN : Hid (∀ x, x ∈ ts.map inN → x < N) := Lib.hid (by rw [hN]; exact sgB_nats (by have := HU.out; rw [Bool.and_eq_true] at this; exact this.2))
      have HVA : Hid (∀ s, s ∈ ts → sgB1 8 s = true) := Lib.hid (fun s hs => sgB1_mono n s h8 (sgB_all (L := (n : Int)) (by have := HU.out; rw [Bool.and_eq_true] at this; exact this.2) s hs))
      obtain ⟨W, hW⟩ : ∃ W, W = us.map inN := ⟨_, rfl⟩
      have HWL : Hid (W.length = m) := Lib.hid (by rw [hW, List.length_map]; exact hm1)
      rw [← hW] at HWN HANS
      obtain ⟨V, hV⟩ : ∃ V, V = ts.map inN := ⟨_, rfl⟩
      have HVL : Hid (V.length = q) := Lib.hid (by rw [hV, List.length_map]; exact hq1)
      rw [← hV] at HVN HANS
      rw [← hds] at HANS
      rw [HANS.out]
      have HDS := Lib.hid hds
      have HWE := Lib.hid hW
      have HVE := Lib.hid hV
      have HNE := Lib.hid hN
      clear hds hW hN hV
      go_enter Tryd.func31, Tryd.ntmps31
      go_wp2_with fail
      refine (signedIn_any _ _ _ _ _ _ rs _ _ hh hwf h8 hl hr hrel hd ht (by omega) hT1).mono ?_
      rw [okG_pair, HU.out]
      rintro e w1 (⟨hok, R, cr, AL, cl, rfl, oR, oS, hb⟩ | ⟨hok, _⟩)
      rotate_left
      · cases hok
      rw [← HDS.out, ← HNE.out] at oR
      rw [← HNE.out]
      obtain ⟨lo, hi, oS⟩ : ∃ lo hi, OwnSS w1 lo hi AL 2 cl [ints W, ints V] := ⟨_, _, by rw [HWE.out, HVE.out]; exact oS⟩
      have gb := Boxed.new w1 52 (.slice R N cr)
      have gc := gb.cell
      have hbg := below1 w1 (.cells #[.slice R N cr] 52)
      have HB1 := Lib.hid (HB.out.trans (hb.mono HB.out.size))
      have HB2 := Lib.hid (HB1.out.trans (hbg.mono HB1.out.size))
      have hRd := oR.rd.below hbg
      obtain ⟨ws, hws, HWS⟩ := rdSS_words (oS.rd (by intro z hz; rcases (by simpa using hz : z = _ ∨ z = _) with rfl | rfl <;> (rw [ints_len]; have := HWL.out; have := HVL.out; unfold maxLen; omega))) [W, V] rfl
      have hT2 := ((hT1.below hb).below hbg)
      have hRT := hws.below hbg
      have y0 := ((x1.next hb).next hbg).c0
      have y1 := ((x1.next hb).next hbg).c1
      clear hr hrel hd hu hws oS hh ht hT1 hT h h2 x0 x1
      obtain ⟨wg, hwg⟩ : ∃ wg, wg = w1.alloc (.cells #[.slice R N cr] 52) := ⟨_, rfl⟩
      rw [← hwg] at gb gc hbg HB2 hRd hT2 hRT y0 y1
      have hgl := gb.lt
      go_wp2_with fail
      rw [← hwg]
      clear hwg oR hb
      have HEL : Hid (Calls Tryd.prog 53 #[.agg #[.slice R N cr], .slice AL 2 cl] wg (LsPost wg (gpF ds W V).1.length (gpF ds W V).1 (gpF ds W V).2)) := Lib.hid (by
        have h9 := element_any R AL N cr 2 cl ds ws [W, V] wg hRd hN16 HDL.out HDR.out HGD.out HDD.out hRT (by omega) rfl HWS.out (fun k => by
          match k with
          | 0 => show W.length ≤ 576; rw [HWL.out]; omega
          | 1 => show V.length ≤ 576; rw [HVL.out]; omega
          | k + 2 => simp) (by rw [show [W, V].flatten = W ++ V by simp]; rw [List.length_append, HWL.out, HVL.out]; omega) (by rw [show [W, V].flatten = W ++ V by simp]; intro x hx; rcases List.mem_append.1 hx with h1 | h1; exact HWN.out x h1; exact HVN.out x h1) hT2
        rw [show [W, V].flatten = W ++ V by simp] at h9
        exact h9)
      obtain ⟨VX, VC, hVV⟩ : ∃ a b, gpF ds W V = (a, b) := ⟨_, _, rfl⟩
      rw [hVV] at HEL
      have HVV := Lib.hid hVV
      clear hVV
      go_wp2_with fail
      refine HEL.out.mono ?_
      rintro e w3 ⟨A7, c7, rfl, o7, hb7⟩
      go_wp2_with fail
      go_ret2
      rw [HVV.out]
      exact ⟨A7, c7, rfl, o7.mono HB2.out.size, HB2.out.trans (hb7.mono HB2.out.size)⟩
set_option maxHeartbeats 3200000 in
theorem specGroupForm (L : Int) (A : Option Addr) (n c : Nat) (xs : List Int) (A1 : Option Addr) (m d : Nat) (us : List Int) (w : World) (h : Rd w A n xs) (hwf : Wf xs) (hL1 : -9223372036854775808 ≤ L) (hL2 : L ≤ 9223372036854775807) (hn : n ≤ maxLen) (h2 : Rd w A1 m us) (hwf2 : Wf us) (hm : m ≤ maxLen) :
    Calls Tryd.prog 26 #[.agg #[.int .i64 L, .slice A n c], .slice A1 m d] w (LsPost w (gA [] gfF L xs us).1.length (gA [] gfF L xs us).1 (gA [] gfF L xs us).2) := by
  have hn2 : n ≤ 9223372036854775807 := by unfold maxLen at hn; omega
  have hm2 : m ≤ 9223372036854775807 := by unfold maxLen at hm; omega
  have hn1 := h.1
  have hm1 := h2.1
  have HB := Lib.hid (below1 w (.cells #[.int .i64 L, .slice A n c] 27))
  have x0 := box_new 27 w L A n c
  have hh := h.below HB.out
  have hh2 := h2.below HB.out
  cases ha : alphB L xs
  · rw [show gA [] gfF L xs us = _ from gA1_no ha]
    have HD := Lib.hid (gCode_no L xs us us ha)
    clear ha hn1
    go_enter Tryd.func26, Tryd.ntmps26
    go_wp2_with fail
    refine (l09Code_any L _ _ _ _ _ _ _ _ _ xs us us _ hh hn2 hh2 hm2 hh2 hm2).mono ?_
    rintro e w1 ⟨rfl, hb⟩
    rw [HD.out]
    go_wp2_with fail
    go_ret2
    exact LsPost.of_ans (ans_no 1 (HB.out.trans (hb.mono HB.out.size)))
  · cases hu : sgB L us
    · rw [show gA [] gfF L xs us = _ from gA1_bad ha hu]
      have HD := Lib.hid (gCode_bad L xs us us ha (by rw [hu]; rfl))
      clear ha hu hn1
      go_enter Tryd.func26, Tryd.ntmps26
      go_wp2_with fail
      refine (l09Code_any L _ _ _ _ _ _ _ _ _ xs us us _ hh hn2 hh2 hm2 hh2 hm2).mono ?_
      rintro e w1 ⟨rfl, hb⟩
      rw [HD.out]
      go_wp2_with fail
      go_ret2
      exact LsPost.of_ans (ans_no 2 (HB.out.trans (hb.mono HB.out.size)))
    · have HD := Lib.hid (gCode_yes L xs us us ha (by rw [hu]; rfl))
      obtain ⟨rs, rfl, rfl, h8, hr, hrel, hl, hd, hxs⟩ := alphB_nats L xs n hn1 ha
      have HANS := Lib.hid (show gA [] gfF (n : Int) (ints rs) us = _ from gA1_yes rs hxs ha hu)
      have HU := Lib.hid hu
      have HDEP := (depB_iff rs n hl hr).1 hd
      obtain ⟨ds, hds⟩ : ∃ ds, ds = dblR rs := ⟨_, rfl⟩
      obtain ⟨N, hN⟩ : ∃ N, N = 2 * n := ⟨_, rfl⟩
      have HDL : Hid (ds.length = N) := Lib.hid (by rw [hds, dbl_len, hl, hN])
      have HDR : Hid (∀ i, ds.getD i 0 < 2 ^ N) := Lib.hid (by rw [hds, hN, ← hl]; exact dbl_lt rs)
      have HGD : Hid (GD (RDep ds) N) := Lib.hid (by rw [hds, hN]; exact dbl_gd rs n hl hr HDEP)
      have hN16 : N ≤ 16 := by omega
      have hum : us.length ≤ 24 := sgB_len (by exact HU.out)
      have HWN : Hid (∀ x, x ∈ us.map inN → x < N) := Lib.hid (by rw [hN]; exact sgB_nats (by exact HU.out))
      have HWA : Hid (∀ s, s ∈ us → sgB1 8 s = true) := Lib.hid (fun s hs => sgB1_mono n s h8 (sgB_all (L := (n : Int)) (by exact HU.out) s hs))
      have HDB : Hid (∀ ww : World, Rd ww A n (ints rs) → Calls Tryd.prog 51 #[.agg #[.int .i64 (n : Int), .slice A n c]] ww (MakesG ww (N : Int) N (ints ds))) := Lib.hid (fun ww hw => by rw [hN, hds]; exact l09Double_any A n c rs ww hw h8 hl hr)
      have HIN : Hid (∀ ww : World, Rd ww A1 m us → Calls Tryd.prog 52 #[.slice A1 m d] ww (MakesE 2 ww m (ints (us.map inN)))) := Lib.hid (fun ww hw => l09In_any A1 m d us ww hw (by omega) HWA.out)
      obtain ⟨W, hW⟩ : ∃ W, W = us.map inN := ⟨_, rfl⟩
      have HWL : Hid (W.length = m) := Lib.hid (by rw [hW, List.length_map]; exact hm1)
      rw [← hW] at HWN HANS
      rw [← hW] at HIN
      rw [← hds] at HANS
      rw [HANS.out]
      clear hds hW hN
      go_enter Tryd.func26, Tryd.ntmps26
      go_wp2_with fail
      refine (l09Code_any (n : Int) _ _ _ _ _ _ _ _ _ (ints rs) us us _ hh hn2 hh2 hm2 hh2 hm2).mono ?_
      rintro e w1 ⟨rfl, hb⟩
      rw [HD.out]
      have x1 := x0.next hb
      have y0 := x1.c0
      have y1 := x1.c1
      have HB1 := Lib.hid (HB.out.trans (hb.mono HB.out.size))
      have hrd := hh.below hb
      have hr2 := hh2.below hb
      clear hb hh hh2 h h2 x0 hr hd hrel hu ha
      have HDO := Lib.hid (HDB.out w1 hrd)
      clear HDB
      have HVV : Hid (gfF ds W = ((nfR ds (redW (RDep ds) W)).map outI, 0)) := Lib.hid (eF_yes ds _ (Nat.le_trans (redW_len _) (by rw [HWL.out]; omega)))
      have HNL : Hid ((nfR ds (redW (RDep ds) W)).length ≤ 24) := Lib.hid (Nat.le_trans (nfR_len ds _) (Nat.le_trans (redW_len _) (by rw [HWL.out]; omega)))
      have HN48 : Hid (∀ x, x ∈ nfR ds (redW (RDep ds) W) → x < 48) := Lib.hid (fun x hx => by have := nfR_ltG ds _ x hx; have := HDL.out; omega)
      have HRD : Hid (∀ (ww : World) (AD AI : Option Addr) (cD cI : Nat), Rd ww AD N (ints ds) → Rd ww AI m (ints W) → Calls Tryd.prog 50 #[.agg #[.int .i64 (N : Int), .slice AD N cD], .slice AI m cI] ww (MakesE 2 ww (nfR ds (redW (RDep ds) W)).length (ints (nfR ds (redW (RDep ds) W))))) := Lib.hid (fun ww AD AI cD cI k1 k2 => l09Reduce_any AD AI N cD m cI ds W ww k1 hN16 HDL.out HDR.out HGD.out k2 (by omega) HWN.out)
      obtain ⟨Z, hZ⟩ : ∃ Z, Z = nfR ds (redW (RDep ds) W) := ⟨_, rfl⟩
      rw [← hZ] at HNL HN48 HRD HVV
      obtain ⟨Zo, hZo⟩ : ∃ Zo, Zo = Z.map outI := ⟨_, rfl⟩
      obtain ⟨zl, hzl⟩ : ∃ zl, zl = Z.length := ⟨_, rfl⟩
      have HZL : Hid (Zo.length = zl) := Lib.hid (by rw [hZo, hzl]; exact List.length_map ..)
      have HOT : Hid (∀ (ww : World) (AN : Option Addr) (cN : Nat), Rd ww AN zl (ints Z) → Calls Tryd.prog 49 #[.slice AN zl cN] ww (MakesE 2 ww zl Zo)) := Lib.hid (fun ww AN cN k1 => by rw [hZo]; exact l09Out_any AN zl cN Z ww k1 (by rw [hzl]; have := HNL.out; omega) HN48.out)
      rw [← hZo] at HVV
      rw [← hzl] at HRD
      clear hZ hZo hzl HNL HN48
      go_wp2_with fail
      refine HDO.out.mono ?_
      rintro e w2 ⟨AD, cD, rfl, oD, hbD⟩
      have HI2 := Lib.hid (HIN.out w2 (hr2.below hbD))
      go_wp2_with fail
      refine HI2.out.mono ?_
      rintro e w3 ⟨AI, cI, rfl, oI, hbI⟩
      have HR3 := Lib.hid (HRD.out w3 AD AI cD cI (oD.rd.below hbI) oI.rd)
      go_wp2_with fail
      refine HR3.out.mono ?_
      rintro e w4 ⟨AN, cN, rfl, oN, hbN⟩
      have HO4 := Lib.hid (HOT.out w4 AN cN oN.rd)
      go_wp2_with fail
      refine HO4.out.mono ?_
      rintro e w5 ⟨AO, cO, rfl, oO, hbO⟩
      have HB5 := Lib.hid (((HB1.out.trans (hbD.mono HB1.out.size)).trans (hbI.mono (HB1.out.trans (hbD.mono HB1.out.size)).size)).trans (hbN.mono ((HB1.out.trans (hbD.mono HB1.out.size)).trans (hbI.mono (HB1.out.trans (hbD.mono HB1.out.size)).size)).size))
      go_wp2_with fail
      go_ret2
      rw [HVV.out]
      show LsPost w Zo.length Zo 0 _ _
      rw [HZL.out]
      exact ⟨AO, cO, rfl, oO.mono HB5.out.size, HB5.out.trans (hbO.mono HB5.out.size)⟩
end Go.Proofs.YtbleimcajpelhaaDoor
