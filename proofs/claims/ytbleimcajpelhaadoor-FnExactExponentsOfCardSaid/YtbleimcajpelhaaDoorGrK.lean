/-
  Graph groups: both sides of ExponentsOf.
-/
import Derived.Test.YtbleimcajpelhaaDoorGrF
namespace Go.Proofs.YtbleimcajpelhaaDoor
open Go Go.RowKit
set_option linter.unusedVariables false
set_option linter.unusedSimpArgs false
set_option maxRecDepth 100000

/-- What a signed letter adds to the exponent of its letter. -/
def exS (a : Nat) : Int := if a % 2 = 1 then -1 else 1
def exA (E : List Int) (a : Nat) : List Int := E.set (a / 2) (E.getD (a / 2) 0 + exS a)
def exE (n : Nat) (W : List Nat) : List Int := W.foldl exA (List.replicate n 0)
def exF (ds W : List Nat) : List Int × Int := (exE (ds.length / 2) W, 0)
theorem exA_len (E : List Int) (a : Nat) : (exA E a).length = E.length := List.length_set ..
theorem exE_len (n : Nat) (W : List Nat) : (exE n W).length = n := by
  have h : ∀ (W : List Nat) (E : List Int), (W.foldl exA E).length = E.length := by
    intro W
    induction W with
    | nil => intro E; rfl
    | cons a W ih => intro E; rw [List.foldl_cons, ih, exA_len]
  rw [exE, h, List.length_replicate]
theorem exE_snoc (n : Nat) (W : List Nat) (a : Nat) : exE n (W ++ [a]) = (exE n W).set (a / 2) ((exE n W).getD (a / 2) 0 + exS a) := by
  unfold exE; rw [List.foldl_append]; rfl
theorem exA_bd (E : List Int) (a : Nat) (b : Int) (hb : ∀ i, -b ≤ E.getD i 0 ∧ E.getD i 0 ≤ b) (i : Nat) : -(b + 1) ≤ (exA E a).getD i 0 ∧ (exA E a).getD i 0 ≤ b + 1 := by
  have h1 := hb i
  have h2 := hb (a / 2)
  have h3 : exS a = 1 ∨ exS a = -1 := by unfold exS; split <;> simp
  unfold exA
  rw [List.getD_eq_getElem?_getD, List.getElem?_set]
  rw [List.getD_eq_getElem?_getD] at h1
  split
  · split
    · show _ ≤ E.getD (a / 2) 0 + exS a ∧ E.getD (a / 2) 0 + exS a ≤ _
      omega
    · show _ ≤ (0 : Int) ∧ (0 : Int) ≤ _
      omega
  · omega
theorem exE_bd (n : Nat) (W : List Nat) (i : Nat) : -(W.length : Int) ≤ (exE n W).getD i 0 ∧ (exE n W).getD i 0 ≤ (W.length : Int) := by
  have h : ∀ (W : List Nat) (E : List Int) (b : Int), (∀ i, -b ≤ E.getD i 0 ∧ E.getD i 0 ≤ b) → ∀ i, -(b + W.length) ≤ (W.foldl exA E).getD i 0 ∧ (W.foldl exA E).getD i 0 ≤ b + W.length := by
    intro W
    induction W with
    | nil => intro E b hb i; have := hb i; simp only [List.foldl_nil, List.length_nil]; omega
    | cons a W ih =>
      intro E b hb i
      have := ih (exA E a) (b + 1) (exA_bd E a b hb) i
      rw [List.foldl_cons, List.length_cons]
      omega
  have := h W (List.replicate n 0) 0 (fun i => by
    have e : (List.replicate n (0 : Int)).getD i 0 = 0 := by
      rw [List.getD_eq_getElem?_getD, List.getElem?_replicate]; split <;> rfl
    rw [e]; omega) i
  unfold exE; omega
theorem exE_nil (n : Nat) : exE n [] = List.replicate n 0 := rfl
theorem exF_small (L : Int) (xs us : List Int) : (gA [] exF L xs us).1.length ≤ 24 := by
  cases ha : alphB L xs
  · rw [gA1_no ha]; exact Nat.zero_le _
  · cases hu : sgB L us
    · rw [gA1_bad ha hu]; exact Nat.zero_le _
    · rw [gA1_yes _ rfl ha hu]
      obtain ⟨rs, rfl, rfl, h8, hr, hrel, hl, hd, hxs⟩ := alphB_nats L xs xs.length rfl ha
      unfold exF
      rw [exE_len, hxs, dbl_len, hl]
      rw [ints_len, hl] at h8
      omega
theorem own_storedI {E : TypeId} {w : World} {B g : Nat} {n c k : Nat} {es : List Int} (h : Own E w B (some ⟨g, 0, none⟩) n c es) (hk : k < n) :
    w.cell? ⟨g, k, none⟩ = some (.int .i64 (es.getD k 0)) ∧ w.frozen? ⟨g, k, none⟩ = false ∧ (∀ v : Int, Own E (w.setCell ⟨g, k, none⟩ (.int .i64 v)) B (some ⟨g, 0, none⟩) n c (es.set k v)) := by
  have hl : es.length = n := h.len
  exact ⟨h.cell (by rw [List.getD_eq_getElem?_getD, List.getElem?_eq_getElem (by omega : k < es.length)]; rfl), h.frozen k, fun v => h.set_ k v⟩
set_option maxHeartbeats 3200000 in
theorem implExponentsOf (L : Int) (A : Option Addr) (n c : Nat) (xs : List Int) (A1 : Option Addr) (m d : Nat) (us : List Int) (w : World) (h : Rd w A n xs) (hwf : Wf xs) (hL1 : -9223372036854775808 ≤ L) (hL2 : L ≤ 9223372036854775807) (hn : n ≤ maxLen) (h2 : Rd w A1 m us) (hwf2 : Wf us) (hm : m ≤ maxLen) (hT : Tab w) :
    Calls Tryd.prog 22 #[.agg #[.int .i64 L, .slice A n c], .slice A1 m d] w (LsPost w (gA [] exF L xs us).1.length (gA [] exF L xs us).1 (gA [] exF L xs us).2) := by
  have hn2 : n ≤ 9223372036854775807 := by unfold maxLen at hn; omega
  have hn1 := h.1
  have hm1 := h2.1
  have x0 := box_new 27 w L A n c
  have HB := Lib.hid (below2 w (.cells #[.int .i64 L, .slice A n c] 27) (.cells #[.slice A1 m d] 22))
  have hh := h.below HB.out
  have ht := rdT_box w (.cells #[.int .i64 L, .slice A n c] 27) A1 m d us 22 h2 hm
  have hT1 := hT.below HB.out
  have x1 := x0.next (below1 (w.alloc (.cells #[.int .i64 L, .slice A n c] 27)) (.cells #[.slice A1 m d] 22))
  cases ha : alphB L xs
  · rw [show gA [] exF L xs us = _ from gA1_no ha]
    have HA := Lib.hid ha
    clear ha ht hn1
    go_enter Tryd.func22, Tryd.ntmps22
    go_wp2_with fail
    refine (signedIn_no L _ _ _ _ _ _ xs _ hh hwf hL1 hL2 hn2 HA.out hT1).mono ?_
    rintro e w1 ⟨rfl, hb⟩
    have gc := cell_new0 w1 (.slice none 0 0) 52
    have HBG := (HB.out.trans (hb.mono HB.out.size)).alloc (HB.out.trans (hb.mono HB.out.size)).size
    go_wp2_with fail
    go_ret2
    exact LsPost.of_ans (ans_no 1 (HBG _))
  · cases hu : sgB L us
    · rw [show gA [] exF L xs us = _ from gA1_bad ha hu]
      obtain ⟨rs, rfl, rfl, h8, hr, hrel, hl, hd, _⟩ := alphB_nats L xs n hn1 ha
      have HU := Lib.hid hu
      clear ha hu
      go_enter Tryd.func22, Tryd.ntmps22
      go_wp2_with fail
      refine (signedIn_any _ _ _ _ _ _ rs _ _ hh hwf h8 hl hr hrel hd ht (by omega) hT1).mono ?_
      rw [okG_one, HU.out]
      rintro e w1 (⟨hok, _⟩ | ⟨hok, rfl, hb⟩)
      · cases hok
      have gc := cell_new0 w1 (.slice none 0 0) 52
      have HBG := (HB.out.trans (hb.mono HB.out.size)).alloc (HB.out.trans (hb.mono HB.out.size)).size
      go_wp2_with fail
      go_ret2
      exact LsPost.of_ans (ans_no 2 (HBG _))
    · obtain ⟨rs, rfl, rfl, h8, hr, hrel, hl, hd, hxs⟩ := alphB_nats L xs n hn1 ha
      have HANS := Lib.hid (show gA [] exF (n : Int) (ints rs) us = _ from gA1_yes rs hxs ha hu)
      have HU := Lib.hid hu
      have HDEP := (depB_iff rs n hl hr).1 hd
      obtain ⟨ds, hds⟩ : ∃ ds, ds = dblR rs := ⟨_, rfl⟩
      obtain ⟨N, hN⟩ : ∃ N, N = 2 * n := ⟨_, rfl⟩
      have HDL : Hid (ds.length = N) := Lib.hid (by rw [hds, dbl_len, hl, hN])
      have HDR : Hid (∀ i, ds.getD i 0 < 2 ^ N) := Lib.hid (by rw [hds, hN, ← hl]; exact dbl_lt rs)
      have HGD : Hid (GD (RDep ds) N) := Lib.hid (by rw [hds, hN]; exact dbl_gd rs n hl hr HDEP)
      have HDD : Hid (Dep ds) := Lib.hid (by rw [hds]; exact dbl_is rs n hl hr HDEP)
      have hN16 : N ≤ 16 := by omega
      have hum : us.length ≤ 24 := sgB_len (by exact HU.out)
      have HWN : Hid (∀ x, x ∈ us.map inN → x < N) := Lib.hid (by rw [hN]; exact sgB_nats (by exact HU.out))
      have HWA : Hid (∀ s, s ∈ us → sgB1 8 s = true) := Lib.hid (fun s hs => sgB1_mono n s h8 (sgB_all (L := (n : Int)) (by exact HU.out) s hs))
      obtain ⟨W, hW⟩ : ∃ W, W = us.map inN := ⟨_, rfl⟩
      have HWL : Hid (W.length = m) := Lib.hid (by rw [hW, List.length_map]; exact hm1)
      rw [← hW] at HWN HANS
      rw [← hds] at HANS
      rw [HANS.out]
      have HDS := Lib.hid hds
      have HWE := Lib.hid hW
      have HNE := Lib.hid hN
      clear hds hW hN
      go_enter Tryd.func22, Tryd.ntmps22
      go_wp2_with fail
      refine (signedIn_any _ _ _ _ _ _ rs _ _ hh hwf h8 hl hr hrel hd ht (by omega) hT1).mono ?_
      rw [okG_one, HU.out]
      rintro e w1 (⟨hok, R, cr, AL, cl, rfl, oR, oS, hb⟩ | ⟨hok, _⟩)
      rotate_left
      · cases hok
      rw [← HDS.out, ← HNE.out] at oR
      rw [← HNE.out]
      obtain ⟨lo, hi, oS⟩ : ∃ lo hi, OwnSS w1 lo hi AL 1 cl [ints W] := ⟨_, _, by rw [HWE.out]; exact oS⟩
      have gb := Boxed.new w1 52 (.slice R N cr)
      have gc := gb.cell
      have hbg := below1 w1 (.cells #[.slice R N cr] 52)
      have HB1 := Lib.hid (HB.out.trans (hb.mono HB.out.size))
      have HB2 := Lib.hid (HB1.out.trans (hbg.mono HB1.out.size))
      have hRd := oR.rd.below hbg
      obtain ⟨ws, hws, HWS⟩ := rdSS_words (oS.rd (by intro z hz; obtain rfl := (by simpa using hz : z = _); rw [ints_len, HWL.out]; unfold maxLen; omega)) [W] rfl
      have hT2 := ((hT1.below hb).below hbg)
      have hRT := hws.below hbg
      have y0 := ((x1.next hb).next hbg).c0
      have y1 := ((x1.next hb).next hbg).c1
      have yz := ((x1.next hb).next hbg).c0
      clear hr hrel hd hu hws oS hh ht hT1 hT h h2 x0 x1
      obtain ⟨wg, hwg⟩ : ∃ wg, wg = w1.alloc (.cells #[.slice R N cr] 52) := ⟨_, rfl⟩
      rw [← hwg] at gb gc hbg HB2 hRd hT2 hRT y0 y1
      have hgl := gb.lt
      obtain ⟨bw, ow, B0, n0, c0, x0, eAL, hbl, ht0, hc0, hr0, hm0⟩ := hRT.at_ (show 0 < 1 by omega)
      have hx0 : x0 = ints W := HWS.out 0 _ ht0
      subst hx0
      have hn0 : n0 = m := by have := hr0.1; rw [ints_len, HWL.out] at this; exact this.symm
      subst hn0
      rw [Nat.add_zero] at hc0
      subst eAL
      obtain ⟨i0, hi, hz0, hz1, hz2⟩ := info_parts info_int
      have hml : n ≤ maxLen := by unfold maxLen; omega
      have hby : i0.bytes * n ≤ 281474976710656 := by rw [hz2]; omega
      have HVV : Hid (exF ds W = (exE n W, 0)) := Lib.hid (by unfold exF; rw [HDL.out, HNE.out]; congr 2; omega)
      have HWN2 : Hid (∀ x, x ∈ W → x / 2 < n) := Lib.hid (fun x hx => by have := HWN.out x hx; have := HNE.out; omega)
      have HSZ : Hid (wg.heap.size = w1.heap.size + 1) := Lib.hid (by rw [hwg]; simp)
      clear HGD HDD HDR hRT HWS hRd hT2 HANS HNE HDS hm0 ht0
      go_wp2_with (first | (at_make; rw [← hwg]; refine wpList_make_full _ rfl _ _ _ rfl wg.heap.size 2 i0 (.int .i64 0) 1 Tryd.underlying22 hi hz0 hz1 _ _ (n : Int) (n : Int) n rfl rfl rfl rfl hby hml (Nat.le_refl _) ?_; intro w2 hown0 hg2; have hbm : Below wg.heap.size wg w2 := (Below.refl _ _).grown hg2 (Nat.le_refl _) (by simp); have hcm := (hbm.cell (p := ⟨bw, ow, none⟩) hbl).trans hc0))
      have hown : Own 2 w2 wg.heap.size (some ⟨wg.heap.size, 0, none⟩) n n (exE n []) := by
        unfold Own; rw [exE_nil, ← made_int]; exact hown0
      clear hown0 hwg oR hb
      have hb2 : Below wg.heap.size wg w2 := (Below.refl _ _).grown hg2 (Nat.le_refl _) (by simp)
      clear hg2
      rw [HSZ.out] at hown
      go_loopw [30] (fun i wr => ∃ k : Nat, k ≤ n0 ∧ i = .int .i64 k ∧ Own 2 wr (w1.heap.size + 1) (some ⟨w1.heap.size + 1, 0, none⟩) n n (exE n (W.take k)) ∧ Below wg.heap.size wg wr) (fun i _ => n0 - (intOf i).toNat)
      case atStart => exact ⟨0, Nat.zero_le _, rfl, hown, hb2⟩
      case round =>
        clear hown hb2
        obtain ⟨k, hk, rfl, ho, hb⟩ := hrel
        by_cases hlt : k < n0
        · obtain ⟨b, off, x, rfl, hbs, hx, hcx⟩ := (hr0.below hb).at_ hlt
          obtain ⟨u, hu, rfl⟩ := ints_at? W k x hx
          have hun := HWN2.out u (List.mem_of_getElem? hu)
          have HS : Hid (exE n (W.take (k + 1)) = (exE n (W.take k)).set (u / 2) ((exE n (W.take k)).getD (u / 2) 0 + exS u)) := Lib.hid (by rw [take_snoc W k u hu, exE_snoc])
          have hbd := exE_bd n (W.take k) (u / 2)
          have htl : (W.take k).length ≤ 24 := by rw [List.length_take]; omega
          obtain ⟨y, hy⟩ : ∃ y, y = u / 2 := ⟨_, rfl⟩
          have hq : Int.tdiv (u : Int) 2 = (y : Int) := by rw [hy, Int.tdiv_eq_ediv_of_nonneg (by omega)]; omega
          rw [← hy] at hun HS hbd
          obtain ⟨hcell, hfr, hset⟩ := own_storedI ho hun
          obtain ⟨X, hX⟩ : ∃ X, X = (exE n (W.take k)).getD y 0 := ⟨_, rfl⟩
          rw [← hX] at hcell HS hbd
          have hX1 : -24 ≤ X ∧ X ≤ 24 := by omega
          have HX1 := Lib.hid hX1
          by_cases hp : u % 2 = 1
          · have hpb : (u % 2 == 1) = true := by rw [hp]; rfl
            have ho2 := hset (X - 1)
            have e1 : exS u = -1 := if_pos hp
            rw [e1, show X + -1 = X - 1 by omega] at HS
            rw [← HS.out] at ho2
            have hb2 := hb.setCell (p := ⟨w1.heap.size + 1, y, none⟩) (Nat.le_of_eq HSZ.out) (.int .i64 (X - 1))
            clear hx hu hX hset hy hbd htl e1
            go_wp2_with (go_at_call 48; refine (isNegative_any u _).mono ?_; rintro e w9 ⟨rfl, rfl⟩)
            go_roundw
            case rel => exact ⟨k + 1, by omega, by go_num, ho2, hb2⟩
            case measure => simp [intOf]; omega
          · have hpb : (u % 2 == 1) = false := by rw [show u % 2 = 0 by omega]; rfl
            have ho2 := hset (X + 1)
            have e1 : exS u = 1 := if_neg hp
            rw [e1] at HS
            rw [← HS.out] at ho2
            have hb2 := hb.setCell (p := ⟨w1.heap.size + 1, y, none⟩) (Nat.le_of_eq HSZ.out) (.int .i64 (X + 1))
            clear hx hu hX hset hy hbd htl e1
            go_wp2_with (go_at_call 48; refine (isNegative_any u _).mono ?_; rintro e w9 ⟨rfl, rfl⟩)
            go_roundw
            case rel => exact ⟨k + 1, by omega, by go_num, ho2, hb2⟩
            case measure => simp [intOf]; omega
        · obtain rfl : k = n0 := by omega
          have e9 : W.take k = W := List.take_of_length_le (by have := HWL.out; omega)
          rw [e9] at ho
          clear e9
          go_wp2_with fail
          go_ret2
          rw [HVV.out]
          exact LsPost.of_ans (ans_yes (exE_len _ _) (ho.mono (by have := HB2.out.size; have := HSZ.out; omega)) (HB2.out.trans (hb.mono HB2.out.size)))
set_option maxHeartbeats 3200000 in
theorem specExponentsOf (L : Int) (A : Option Addr) (n c : Nat) (xs : List Int) (A1 : Option Addr) (m d : Nat) (us : List Int) (w : World) (h : Rd w A n xs) (hwf : Wf xs) (hL1 : -9223372036854775808 ≤ L) (hL2 : L ≤ 9223372036854775807) (hn : n ≤ maxLen) (h2 : Rd w A1 m us) (hwf2 : Wf us) (hm : m ≤ maxLen) :
    Calls Tryd.prog 21 #[.agg #[.int .i64 L, .slice A n c], .slice A1 m d] w (LsPost w (gA [] exF L xs us).1.length (gA [] exF L xs us).1 (gA [] exF L xs us).2) := by
  have hn2 : n ≤ 9223372036854775807 := by unfold maxLen at hn; omega
  have hm2 : m ≤ 9223372036854775807 := by unfold maxLen at hm; omega
  have hn1 := h.1
  have hm1 := h2.1
  have HB := Lib.hid (below1 w (.cells #[.int .i64 L, .slice A n c] 27))
  have x0 := box_new 27 w L A n c
  have hh := h.below HB.out
  have hh2 := h2.below HB.out
  cases ha : alphB L xs
  · rw [show gA [] exF L xs us = _ from gA1_no ha]
    have HD := Lib.hid (gCode_no L xs us us ha)
    clear ha hn1
    go_enter Tryd.func21, Tryd.ntmps21
    go_wp2_with fail
    refine (l09Code_any L _ _ _ _ _ _ _ _ _ xs us us _ hh hn2 hh2 hm2 hh2 hm2).mono ?_
    rintro e w1 ⟨rfl, hb⟩
    rw [HD.out]
    go_wp2_with fail
    go_ret2
    exact LsPost.of_ans (ans_no 1 (HB.out.trans (hb.mono HB.out.size)))
  · cases hu : sgB L us
    · rw [show gA [] exF L xs us = _ from gA1_bad ha hu]
      have HD := Lib.hid (gCode_bad L xs us us ha (by rw [hu]; rfl))
      clear ha hu hn1
      go_enter Tryd.func21, Tryd.ntmps21
      go_wp2_with fail
      refine (l09Code_any L _ _ _ _ _ _ _ _ _ xs us us _ hh hn2 hh2 hm2 hh2 hm2).mono ?_
      rintro e w1 ⟨rfl, hb⟩
      rw [HD.out]
      go_wp2_with fail
      go_ret2
      exact LsPost.of_ans (ans_no 2 (HB.out.trans (hb.mono HB.out.size)))
    · have HD := Lib.hid (gCode_yes L xs us us ha (by rw [hu]; rfl))
      obtain ⟨rs, rfl, rfl, h8, hr, hrel, hl, hd, hxs⟩ := alphB_nats L xs n hn1 ha
      have HANS := Lib.hid (show gA [] exF (n : Int) (ints rs) us = _ from gA1_yes rs hxs ha hu)
      have HU := Lib.hid hu
      have HDEP := (depB_iff rs n hl hr).1 hd
      obtain ⟨ds, hds⟩ : ∃ ds, ds = dblR rs := ⟨_, rfl⟩
      obtain ⟨N, hN⟩ : ∃ N, N = 2 * n := ⟨_, rfl⟩
      have HDL : Hid (ds.length = N) := Lib.hid (by rw [hds, dbl_len, hl, hN])
      have HDR : Hid (∀ i, ds.getD i 0 < 2 ^ N) := Lib.hid (by rw [hds, hN, ← hl]; exact dbl_lt rs)
      have HGD : Hid (GD (RDep ds) N) := Lib.hid (by rw [hds, hN]; exact dbl_gd rs n hl hr HDEP)
      have hN16 : N ≤ 16 := by omega
      have hum : us.length ≤ 24 := sgB_len (by exact HU.out)
      have HWN : Hid (∀ x, x ∈ us.map inN → x < N) := Lib.hid (by rw [hN]; exact sgB_nats (by exact HU.out))
      have HWA : Hid (∀ s, s ∈ us → sgB1 8 s = true) := Lib.hid (fun s hs => sgB1_mono n s h8 (sgB_all (L := (n : Int)) (by exact HU.out) s hs))
      obtain ⟨W, hW⟩ : ∃ W, W = us.map inN := ⟨_, rfl⟩
      have HWL : Hid (W.length = m) := Lib.hid (by rw [hW, List.length_map]; exact hm1)
      rw [← hW] at HWN HANS
      rw [← hds] at HANS
      rw [HANS.out]
      have HWE := Lib.hid hW
      have HNE := Lib.hid hN
      clear hds hW hN
      go_enter Tryd.func21, Tryd.ntmps21
      go_wp2_with fail
      refine (l09Code_any (n : Int) _ _ _ _ _ _ _ _ _ (ints rs) us us _ hh hn2 hh2 hm2 hh2 hm2).mono ?_
      rintro e w1 ⟨rfl, hb⟩
      rw [HD.out]
      have x1 := x0.next hb
      have y0 := x1.c0
      have y1 := x1.c1
      have HB1 := Lib.hid (HB.out.trans (hb.mono HB.out.size))
      have hrd := hh.below hb
      have hr2 := hh2.below hb
      clear hb hh hh2 h h2 x0 hr hd hrel hu ha
      obtain ⟨i0, hi, hz0, hz1, hz2⟩ := info_parts info_int
      have hml : n ≤ maxLen := by unfold maxLen; omega
      have hby : i0.bytes * n ≤ 281474976710656 := by rw [hz2]; omega
      have HVV : Hid (exF ds W = (exE n W, 0)) := Lib.hid (by unfold exF; rw [HDL.out, HNE.out]; congr 2; omega)
      have HWN2 : Hid (∀ x, x ∈ W → x / 2 < n) := Lib.hid (fun x hx => by have := HWN.out x hx; have := HNE.out; omega)
      have HAT : Hid (∀ k x, us[k]? = some x → W[k]? = some (inN x)) := Lib.hid (fun k x hx => by rw [HWE.out, List.getElem?_map, hx]; rfl)
      clear HGD HDR HANS HNE HWE
      go_wp2_with (first | (at_make; refine wpList_make_full _ rfl _ _ _ rfl w1.heap.size 2 i0 (.int .i64 0) 1 Tryd.underlying22 hi hz0 hz1 _ _ (n : Int) (n : Int) n rfl rfl rfl rfl hby hml (Nat.le_refl _) ?_; intro w2 hown0 hg2))
      have hown : Own 2 w2 w1.heap.size (some ⟨w1.heap.size, 0, none⟩) n n (exE n []) := by
        unfold Own; rw [exE_nil, ← made_int]; exact hown0
      clear hown0
      have hb2 : Below w1.heap.size w1 w2 := (Below.refl _ _).grown hg2 (Nat.le_refl _) (by simp)
      clear hg2
      go_loopw [8] (fun i wr => ∃ k : Nat, k ≤ m ∧ i = .int .i64 k ∧ Own 2 wr w1.heap.size (some ⟨w1.heap.size, 0, none⟩) n n (exE n (W.take k)) ∧ Below w1.heap.size w1 wr) (fun i _ => m - (intOf i).toNat)
      case atStart => exact ⟨0, Nat.zero_le _, rfl, hown, hb2⟩
      case round =>
        clear hown hb2
        obtain ⟨k, hk, rfl, ho, hb⟩ := hrel
        by_cases hlt : k < m
        · obtain ⟨b, off, x, rfl, hbs, hx, hcx⟩ := (hr2.below hb).at_ hlt
          have hu := HAT.out k x hx
          obtain ⟨hs1, hs2, hs3⟩ := (sgB1_iff _ _).1 (HWA.out x (List.mem_of_getElem? hx))
          have hun := HWN2.out (inN x) (List.mem_of_getElem? hu)
          have HS : Hid (exE n (W.take (k + 1)) = (exE n (W.take k)).set (inN x / 2) ((exE n (W.take k)).getD (inN x / 2) 0 + exS (inN x))) := Lib.hid (by rw [take_snoc W k _ hu, exE_snoc])
          have hbd := exE_bd n (W.take k) (inN x / 2)
          have htl : (W.take k).length ≤ 24 := by rw [List.length_take]; omega
          obtain ⟨y, hy⟩ : ∃ y, y = inN x / 2 := ⟨_, rfl⟩
          rw [← hy] at hun HS hbd
          obtain ⟨hcell, hfr, hset⟩ := own_storedI ho hun
          obtain ⟨X, hX⟩ : ∃ X, X = (exE n (W.take k)).getD y 0 := ⟨_, rfl⟩
          rw [← hX] at hcell HS hbd
          have hX1 : -24 ≤ X ∧ X ≤ 24 := by omega
          by_cases hp : 0 < x
          · have hxy : x = (y : Int) + 1 := by have := inN_pos hp; omega
            have ho2 := hset (X + 1)
            have e1 : exS (inN x) = 1 := if_neg (by have := inN_pos hp; omega)
            rw [e1] at HS
            rw [← HS.out] at ho2
            have hb2 := hb.setCell (p := ⟨w1.heap.size, y, none⟩) (Nat.le_refl _) (.int .i64 (X + 1))
            clear hx hu hX hset hy hbd htl e1 HS
            subst hxy
            go_wp2_with fail
            go_roundw
            case rel => exact ⟨k + 1, by omega, by go_num, ho2, hb2⟩
            case measure => simp [intOf]; omega
          · have hxy : x = -((y : Int) + 1) := by have := inN_neg hp hs3; omega
            have ho2 := hset (X - 1)
            have e1 : exS (inN x) = -1 := if_pos (by have := inN_neg hp hs3; omega)
            rw [e1, show X + -1 = X - 1 by omega] at HS
            rw [← HS.out] at ho2
            have hb2 := hb.setCell (p := ⟨w1.heap.size, y, none⟩) (Nat.le_refl _) (.int .i64 (X - 1))
            clear hx hu hX hset hy hbd htl e1 HS
            subst hxy
            have hidx : -(-((y : Int) + 1)) - 1 = (y : Int) := by omega
            go_wp2_with fail
            go_roundw
            case rel => exact ⟨k + 1, by omega, by go_num, ho2, hb2⟩
            case measure => simp [intOf]; omega
        · obtain rfl : k = m := by omega
          have e9 : W.take k = W := List.take_of_length_le (by have := HWL.out; omega)
          rw [e9] at ho
          clear e9
          go_wp2_with fail
          go_ret2
          rw [HVV.out]
          exact LsPost.of_ans (ans_yes (exE_len _ _) (ho.mono HB1.out.size) (HB1.out.trans (hb.mono HB1.out.size)))
end Go.Proofs.YtbleimcajpelhaaDoor
