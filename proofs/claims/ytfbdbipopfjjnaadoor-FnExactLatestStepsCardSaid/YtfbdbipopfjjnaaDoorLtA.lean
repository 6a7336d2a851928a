/-
  LatestSteps: both sides.
-/
import Derived.Test.YtfbdbipopfjjnaaDoorChL
import Derived.Test.YtfbdbipopfjjnaaDoorOrA
import Derived.Test.YtfbdbipopfjjnaaDoorFoataT
import Derived.Deep.RegionWith
namespace Go.Proofs.YtfbdbipopfjjnaaDoor
open Go Go.RowKit
set_option linter.unusedVariables false
set_option maxRecDepth 100000

def ltR (rs us : List Nat) : List Nat := latM rs (nfR rs us) us.length
def ltAns (L : Int) (xs us : List Int) : List Int × Int := wAns ltR L xs us
theorem latM_len (rs us : List Nat) (m : Nat) : (latM rs us m).length = m := by simp [latM]
theorem ltAns_small (L : Int) (xs us : List Int) : (ltAns L xs us).1.length ≤ 24 := wAns_small _ 24 (fun rs us _ h => by unfold ltR; rw [latM_len]; exact h) L xs us
/-- The sizes while the first t are turned into steps. -/
def mixM (H : Nat) (cs : Nat → Nat) (m t : Nat) : List Nat := (List.range m).map fun k => if k < t then H + 1 - cs k else cs k
theorem mixM_len (H : Nat) (cs : Nat → Nat) (m t : Nat) : (mixM H cs m t).length = m := by simp [mixM]
theorem mixM_at (H : Nat) (cs : Nat → Nat) (m t k : Nat) (h : k < m) : (mixM H cs m t).getD k 0 = if k < t then H + 1 - cs k else cs k := getD_range_map _ _ _ h
theorem mixM_zero (H : Nat) (cs : Nat → Nat) (m : Nat) : mixM H cs m 0 = (List.range m).map cs := List.map_congr_left fun k _ => by rw [if_neg (by omega)]
theorem mixM_end (H : Nat) (cs : Nat → Nat) (m : Nat) : mixM H cs m m = (List.range m).map fun k => H + 1 - cs k := List.map_congr_left fun k hk => by rw [if_pos (List.mem_range.1 hk)]
theorem mixM_set (H : Nat) (cs : Nat → Nat) (m t : Nat) (h : t < m) : (mixM H cs m t).set t (H + 1 - cs t) = mixM H cs m (t + 1) := by
  refine list_eq_getD _ _ m (by rw [List.length_set, mixM_len]) (mixM_len _ _ _ _) fun k hk => ?_
  rw [getD_set _ _ _ _ (by rw [mixM_len]; exact h), mixM_at _ _ _ _ _ hk, mixM_at _ _ _ _ _ hk]
  by_cases e : k = t
  · subst e; rw [if_pos rfl, if_pos (by omega)]
  · rw [if_neg e]
    by_cases h2 : k < t
    · rw [if_pos h2, if_pos (by omega)]
    · rw [if_neg h2, if_neg (by omega)]
set_option maxHeartbeats 3200000 in
theorem implLatestSteps (L : Int) (A : Option Addr) (n c : Nat) (xs : List Int) (A1 : Option Addr) (m d : Nat) (us : List Int) (w : World) (h : Rd w A n xs) (hwf : Wf xs) (hL1 : -9223372036854775808 ≤ L) (hL2 : L ≤ 9223372036854775807) (hn : n ≤ maxLen) (h2 : Rd w A1 m us) (hwf2 : Wf us) (hm : m ≤ maxLen) (hT : Tab w) :
    Calls Tryd.prog 24 #[.agg #[.int .i64 L, .slice A n c], .slice A1 m d] w (LsPost w (ltAns L xs us).1.length (ltAns L xs us).1 (ltAns L xs us).2) := by
  have HB := Lib.hid (below1 w (.cells #[.int .i64 L, .slice A n c] 28))
  have x0 := box_new 28 w L A n c
  have hh := h.below HB.out
  have hh2 := h2.below HB.out
  have hT1 := hT.below HB.out
  by_cases hc : wCode L xs us = 0
  · obtain ⟨ha, hu⟩ := wCode_zero hc
    obtain ⟨rs, rfl, rfl, h8, hr, hrel, hl, hd, _⟩ := alphB_nats L xs n h.1 ha
    obtain ⟨vs, rfl, hv24, hvn⟩ := wordB_nats n us hu
    have hm1 : vs.length = m := by have := h2.1; rw [ints_len] at this; exact this
    have hm24 : m ≤ 24 := by omega
    rw [show ltAns (n : Int) (ints rs) (ints vs) = _ from wAns_yes _ (n : Int) rs vs ha hu]
    have HSY := Lib.hid (rdep_sym rs n hl hr ((depB_iff rs n hl hr).1 hd))
    have HPI := Lib.hid (positionsIn_yes A n c rs A1 m d vs _ hh hwf h8 hr hrel hl hd hh2 hm24 hvn hu hT1)
    have HRL := Lib.hid hl
    have HVL := Lib.hid hm1
    have HVN := Lib.hid hvn
    have HDEP := Lib.hid ((depB_iff rs n hl hr).1 hd)
    clear ha hu hl hm1 hd hr hrel hc hvn hwf hwf2 hh hh2 x0 h h2
    obtain ⟨nf, hnf⟩ : ∃ nf, nf = nfR rs vs := ⟨_, rfl⟩
    have HNF := Lib.hid hnf
    rw [← hnf] at HPI
    clear hnf
    go_enter Tryd.func24, Tryd.ntmps24
    go_wp2_with fail
    refine HPI.out.mono ?_
    rintro e w1 ⟨g, A5, c5, rfl, hg, x, hrd, hb⟩
    have hnl : nf.length = m := by have := hrd.1; rw [ints_len] at this; exact this
    have HB1 := Lib.hid (HB.out.trans (hb.mono HB.out.size))
    have HT1 := Lib.hid (hT1.below hb)
    have HLC := Lib.hid (longestChain_any g m c5 A5 rs nf w1 x hm24 HSY.out hnl HT1.out)
    have hp0 := p2_pos m
    have hmx := steps_mx rs nf m hm24 HSY.out hnl
    have hcl := chL_len rs nf m hm24 HSY.out hnl 25 (2 ^ m - 1) (by omega) (by have := mxS_le rs nf m (2 ^ m - 1) hm24 (by omega); omega)
    have hmle := mxS_le rs nf m (2 ^ m - 1) hm24 (by omega)
    obtain ⟨ch, hch⟩ : ∃ ch, ch = chL rs nf m 25 (2 ^ m - 1) := ⟨_, rfl⟩
    rw [← hch] at HLC hcl
    obtain ⟨H, hH⟩ : ∃ H, H = ch.length := ⟨_, rfl⟩
    rw [← hH] at HLC
    have hH24 : H ≤ 24 := by omega
    have HHF : Hid ((foM rs nf).length = H) := Lib.hid (by omega)
    have HLE : Hid (∀ i, i < m → csz rs nf m i ≤ H) := Lib.hid fun i hi => by rw [← HHF.out]; exact csz_foM rs nf m hm24 HSY.out hnl i hi
    have HX := Lib.hid x
    have HNL := Lib.hid hnl
    clear x hrd hg hb hp0 hmx hcl hmle hch hH hnl
    go_wp2_with fail
    refine HLC.out.mono ?_
    rintro e w2 ⟨A6, c6, rfl, ho6, hb2⟩
    have HB2 := Lib.hid (HB1.out.trans (hb2.mono HB1.out.size))
    have HCS := Lib.hid (chainSizes_any g m c5 A5 rs nf w2 (HX.out.next hb2) hm24 HSY.out HNL.out (HT1.out.below hb2))
    clear ho6 hb2
    go_wp2_with fail
    refine HCS.out.mono ?_
    rintro e w3 ⟨b, c', rfl, ho, hb3⟩
    have HB3 := Lib.hid (HB2.out.trans (hb3.mono HB2.out.size))
    have HBL : Hid (w.heap.size ≤ b) := Lib.hid (Nat.le_trans HB2.out.size (ho.lt b rfl).1)
    obtain ⟨cs, hcs⟩ : ∃ cs, cs = csz rs nf m := ⟨_, rfl⟩
    have HCSE := Lib.hid hcs
    rw [← hcs] at ho HLE
    rw [← mixM_zero H cs m] at ho
    clear hcs hb3
    go_wp2_with fail
    go_loopw [28] (fun q wr => ∃ t, t ≤ m ∧ q = .int .i64 ((t : Nat) : Int) ∧ Own 2 wr w2.heap.size (some ⟨b, 0, none⟩) m c' (ints (mixM H cs m t)) ∧ Below w.heap.size w wr) (fun q _ => m - (intOf q).toNat)
    case atStart => exact ⟨0, Nat.zero_le _, rfl, ho, HB3.out⟩
    case round =>
      clear ho
      obtain ⟨t, ht, rfl, ho, hb⟩ := hrel
      by_cases htm : t < m
      · have hct := ho.cell (k := t) (x := ((cs t : Nat) : Int)) (by rw [ints_getD _ t (by rw [mixM_len]; exact htm), mixM_at _ _ _ _ _ htm, if_neg (by omega)])
        have hft := ho.frozen t
        have hle := HLE.out t htm
        obtain ⟨V, hV⟩ : ∃ V, V = cs t := ⟨_, rfl⟩
        have hset := ho.set_ t ((H + 1 - cs t : Nat) : Int)
        rw [ints_set, mixM_set H cs m t htm] at hset
        rw [← hV] at hct hle hset
        obtain ⟨Z, hZ⟩ : ∃ Z, Z = H + 1 - V := ⟨_, rfl⟩
        rw [← hZ] at hset
        have hzz : (H : Int) + 1 - (V : Int) = (Z : Int) := by omega
        have HSE := Lib.hid hset
        have HBX := Lib.hid (hb.setCell (p := ⟨b, t, none⟩) HBL.out (.int .i64 (Z : Int)))
        clear hset hV hZ
        go_wp2_with fail
        go_roundw
        case rel => exact ⟨t + 1, by omega, by go_num, HSE.out, HBX.out⟩
        case measure => simp [intOf]; omega
      · have hte : t = m := by omega
        subst hte
        go_wp2_with fail
        go_ret2
        have e9 : ltR rs vs = mixM H cs t t := by rw [mixM_end]; unfold ltR latM; rw [HVL.out, ← HNF.out, HHF.out, HCSE.out]
        rw [e9]
        exact LsPost.of_ans (ans_yes ho.len (ho.mono (by have := HB2.out.size; exact this)) hb)
  · rw [show ltAns L xs us = _ from wAns_code _ L xs us hc]
    have HPI := Lib.hid (positionsIn_no L A n c xs A1 m d us _ hh hwf hL1 hL2 hn hh2 hwf2 hm hT1 hc)
    obtain ⟨C, hC⟩ : ∃ C, C = wCode L xs us := ⟨_, rfl⟩
    rw [← hC] at hc HPI ⊢
    have hq1 : (C != 0) = true := by simpa using hc
    have hq2 : (C == 0) = false := by simpa using hc
    clear hC hc
    go_enter Tryd.func24, Tryd.ntmps24
    go_wp2_with fail
    refine HPI.out.mono ?_
    rintro e w1 ⟨rfl, hb⟩
    go_wp2_with fail
    go_ret2
    exact LsPost.of_ans (ans_no C (HB.out.trans (hb.mono HB.out.size)))
theorem rev_takeI (us : List Int) (k : Nat) (hk : k < us.length) : (us.reverse).take (us.length - k) = (us.reverse).take (us.length - (k + 1)) ++ [us.getD k 0] := by
  have e : us.length - k = us.length - (k + 1) + 1 := by omega
  rw [e, List.take_add_one, List.getElem?_reverse (by omega)]
  have e2 : us.length - 1 - (us.length - (k + 1)) = k := by omega
  rw [e2, List.getD_eq_getElem?_getD, List.getElem?_eq_getElem hk]; rfl
set_option maxHeartbeats 1600000 in
theorem backI_any (A : Option Addr) (n c : Nat) (us : List Int) (w : World) (h : Rd w A n us) (hn : n ≤ 1048576) :
    Calls Tryd.prog 54 #[.slice A n c] w (MakesE 2 w n us.reverse) := by
  obtain ⟨i0, hi, hz0, hz1, hz2⟩ := info_parts info_int
  have HL := Lib.hid h.1
  have hw0 : wrap64 ((n : Int) - 1) = (n : Int) - 1 := by unfold wrap64; omega
  go_enter Tryd.func54, Tryd.ntmps54
  go_wp2_with fail
  go_loopw [3, 4] (fun p q wr => ∃ (k : Nat) (A1 : Option Addr) (c1 : Nat), k ≤ n ∧ p = .slice A1 k c1 ∧ q = .int .i64 ((n : Int) - 1 - (k : Int)) ∧ Own 2 wr w.heap.size A1 k c1 (us.reverse.take k) ∧ Below w.heap.size w wr) (fun p _ _ => n - sliceLen p)
  case atStart => exact ⟨0, _, 0, Nat.zero_le _, rfl, by simp, World.ownsRow_lit w #[] 0 (Nat.le_refl _) (by unfold maxLen; omega) rfl, (Below.refl _ _).alloc (Nat.le_refl _) _⟩
  case round =>
    obtain ⟨k, A1, c1, hk, rfl, rfl, ho, hb⟩ := hrel
    by_cases hlt : k < n
    · obtain ⟨q, hq⟩ : ∃ q, q = n - 1 - k := ⟨_, rfl⟩
      have hqe : (n : Int) - 1 - (k : Int) = (q : Int) := by omega
      rw [hqe]
      have hqn : q < n := by omega
      obtain ⟨b, off, x, eA, hbs, hx, hcx⟩ := (h.below hb).at_ hqn
      have HNX : Hid (us.reverse.take (k + 1) = us.reverse.take k ++ [x]) := Lib.hid (by
        have := rev_takeI us q (by rw [HL.out]; exact hqn)
        rw [HL.out, show n - q = k + 1 by omega, show n - (q + 1) = k by omega] at this
        rw [this, List.getD_eq_getElem?_getD, hx]; rfl)
      subst eA
      have HQ := Lib.hid hqe
      have hq0 : (0 : Int) ≤ (q : Int) := Int.natCast_nonneg _
      have hml : k + 1 ≤ maxLen := by unfold maxLen; omega
      have hby2 : (k + 1) * 8 ≤ 140737488355328 := by omega
      have hw1 : wrap64 ((q : Int) - 1) = (q : Int) - 1 := by unfold wrap64; omega
      clear hx hq hqe
      go_wp2_with (at_builtin; refine wpList_append_own _ rfl _ _ 22 rfl w.heap.size 2 i0 (.int .i64 0) 1 8 Tryd.underlying22 hi hz0 hz1 hz2 rfl (by decide) (.slice A1 k c1) k ((us.reverse.take k).map (Value.int .i64)) rfl (World.ownsRow.alloc ho _) ⟨wr.heap.size, 0, none⟩ 1 1 [.int .i64 x] rfl rfl ?c1 ?c2 hml hby2 ?c5 ?_)
      case c1 => exact cell_one_new _ _ _
      case c2 => intro u hu; simp at hu; subst hu; rfl
      case c5 => have := hb.size; simp; omega
      intro v' w2 hown hg _
      rw [show ((us.map (Value.int .i64)).reverse).take k ++ [Value.int .i64 x] = (us.reverse.take (k + 1)).map (Value.int .i64) from by rw [HNX.out, List.map_append, List.map_take, List.map_reverse]; rfl] at hown
      have hb2 : Below w.heap.size w w2 := (hb.alloc hb.size _).grown hg (by have := hb.size; simp; omega) (fun r hr => (World.ownsRow.lt ho r hr).1)
      obtain ⟨A2, c2, hv, ho2⟩ := own_shape hown
      rw [hv]
      clear hg hown hv ho hb hw0
      go_wp2_with fail
      go_roundw
      case rel => exact ⟨k + 1, A2, c2, by omega, rfl, by (have := HQ.out; go_num), ho2, hb2⟩
      case measure => simp [sliceLen]; omega
    · have hkn : k = n := by omega
      subst hkn
      have HT : Hid (us.reverse.take k = us.reverse) := Lib.hid (List.take_of_length_le (by rw [List.length_reverse, HL.out]; exact Nat.le_refl _))
      have hd : decide ((0 : Int) ≤ (k : Int) - 1 - (k : Int)) = false := decide_eq_false (by omega)
      go_wp2_with fail
      go_ret
      exact ⟨A1, c1, rfl, by rw [← HT.out]; exact ho, hb⟩
set_option maxHeartbeats 3200000 in
theorem specLatestSteps (L : Int) (A : Option Addr) (n c : Nat) (xs : List Int) (A1 : Option Addr) (m d : Nat) (us : List Int) (w : World) (h : Rd w A n xs) (hwf : Wf xs) (hL1 : -9223372036854775808 ≤ L) (hL2 : L ≤ 9223372036854775807) (hn : n ≤ maxLen) (h2 : Rd w A1 m us) (hwf2 : Wf us) (hm : m ≤ maxLen) :
    Calls Tryd.prog 23 #[.agg #[.int .i64 L, .slice A n c], .slice A1 m d] w (LsPost w (ltAns L xs us).1.length (ltAns L xs us).1 (ltAns L xs us).2) := by
  have HB := Lib.hid (below1 w (.cells #[.int .i64 L, .slice A n c] 28))
  have x0 := box_new 28 w L A n c
  have hh := h.below HB.out
  have hh2 := h2.below HB.out
  by_cases hc : wCode L xs us = 0
  · obtain ⟨ha, hu⟩ := wCode_zero hc
    obtain ⟨rs, rfl, rfl, h8, hr, hrel, hl, hd, _⟩ := alphB_nats L xs n h.1 ha
    obtain ⟨vs, rfl, hv24, hvn⟩ := wordB_nats n us hu
    have hm1 : vs.length = m := by have := h2.1; rw [ints_len] at this; exact this
    have hm24 : m ≤ 24 := by omega
    rw [show ltAns (n : Int) (ints rs) (ints vs) = _ from wAns_yes _ (n : Int) rs vs ha hu]
    have HNL : Hid (∀ x, x ∈ nfR rs vs → x < n) := Lib.hid fun x hx => by have := nfR_lt rs vs x hx; omega
    have HSY := Lib.hid (rdep_sym rs n hl hr ((depB_iff rs n hl hr).1 hd))
    have HR := Lib.hid hr
    obtain ⟨i0, hi0, hz0, hz1, hz2⟩ := info_parts info_int
    have hhx := h.below HB.out
    have HPI := Lib.hid (l04Code_yes A n c rs A1 m d vs _ hh h8 hr hl hh2 hm24 hvn hc)
    have HRL := Lib.hid hl
    have HVL := Lib.hid hm1
    have HVN := Lib.hid hvn
    have HDEP := Lib.hid ((depB_iff rs n hl hr).1 hd)
    clear ha hu hl hm1 hd hr hrel hc hvn hwf hwf2 h h2
    obtain ⟨nf, hnf⟩ : ∃ nf, nf = nfR rs vs := ⟨_, rfl⟩
    have HNF := Lib.hid hnf
    rw [← hnf] at HPI HNL
    clear hnf hh hh2
    obtain ⟨w0, hw0⟩ : ∃ w0, w.alloc (.cells #[.int .i64 (n : Int), .slice A n c] 28) = w0 := ⟨_, rfl⟩
    rw [hw0] at HB HPI x0 hhx
    have yy0 := x0.c0
    have yy1 := x0.c1
    go_enter Tryd.func23, Tryd.ntmps23
    go_wp2_with fail
    refine HPI.out.mono ?_
    rintro e w1 ⟨A5, c5, A6, c6, rfl, ho5, ho6, hb⟩
    have HB1 := Lib.hid (HB.out.trans (hb.mono HB.out.size))
    have hnl : nf.length = m := by have := ho5.len; rw [ints_len] at this; exact this
    have hx1 := x0.next hb
    have y0 := hx1.c0
    have y1 := hx1.c1
    have hrd5 := ho5.rd
    have hh1 := hhx.below hb
    have HFO := Lib.hid (foata_spec A A5 n c m c5 rs nf w1 hh1 h8 HR.out hrd5 hm24 HNL.out)
    obtain ⟨H, hH⟩ : ∃ H, H = (foM rs nf).length := ⟨_, rfl⟩
    have hH24 : H ≤ 24 := by rw [hH]; exact Nat.le_trans (foM_len _ _) (by omega)
    rw [← hH] at HFO
    have HH := Lib.hid hH
    have HNLE := Lib.hid hnl
    clear ho5 ho6 hb x0 hhx hH hnl yy0 yy1
    go_wp2_with fail
    refine HFO.out.mono ?_
    rintro e w2 ⟨A7, c7, rfl, ho7, hb2⟩
    have HB2 := Lib.hid (HB1.out.trans (hb2.mono HB1.out.size))
    have hx2 := hx1.next hb2
    have hrd2 := hrd5.below hb2
    have hh2 := hh1.below hb2
    have z0 := hx2.c0
    have z1 := hx2.c1
    have hdr : Below w2.heap.size w2 w2.drew := (Below.refl _ _).drew
    have HBK : Hid (∀ ww, Below w2.heap.size w2 ww → Calls Tryd.prog 54 #[.slice A5 m c5] ww (MakesE 2 ww m (ints nf.reverse))) := Lib.hid fun ww hw => by
      have h9 := backI_any A5 m c5 (ints nf) ww (hrd2.below hw) (by omega)
      rw [show (ints nf).reverse = ints nf.reverse from by unfold ints; rw [List.map_reverse]] at h9
      exact h9
    have HHE : Hid (∀ ww A2 c2, Below w2.heap.size w2 ww → Rd ww A2 m (ints nf.reverse) → Calls Tryd.prog 53 #[.agg #[.int .i64 (n : Int), .slice A n c], .slice A2 m c2] ww (MakesE 2 ww m (ints (hgts rs nf.reverse m)))) := Lib.hid fun ww A2 c2 hw h2 => heights_spec A A2 n c m c2 rs nf.reverse ww (hh2.below hw) h8 HR.out h2 hm24 (fun u hu => HNL.out u (List.mem_reverse.1 hu))
    clear ho7 hb2 hrd5 hh1 y0 y1 hx1
    go_wp2_with fail
    go_upto_region 5 with fail
    go_cut [10] from 27 to 30 (fun v wx => ∃ A8 c8, v = .slice A8 m c8 ∧ Own 2 wx w2.heap.size A8 m c8 (ints (hgts rs nf.reverse m)) ∧ Below w2.heap.size w2 wx)
    case first =>
      go_region_with (first
        | (go_at_call 54; refine (HBK.out _ hdr).mono ?_; rintro e w3 ⟨A2, c2, rfl, ho2, hb3⟩; have hb12 := hdr.trans (hb3.mono hdr.size); have zz0 := (hx2.next hb12).c0; have zz1 := (hx2.next hb12).c1)
        | (go_at_call 53; refine (HHE.out _ _ _ hb12 ho2.rd).mono ?_; rintro e w4 ⟨A3, c3, rfl, ho3, hb4⟩))
      all_goals (
        go_wp2_with fail
        go_meet
        exact ⟨A3, c3, rfl, ho3.mono hb12.size, hb12.trans (hb4.mono hb12.size)⟩)
    case rest =>
    obtain ⟨A8, c8, rfl, ho8, hb23⟩ := hcut
    obtain ⟨w3, rfl⟩ : ∃ w9 : World, w9 = wc := ⟨_, rfl⟩
    have HB3 := Lib.hid (HB2.out.trans (hb23.mono HB2.out.size))
    have HRD8 := Lib.hid ho8.rd
    obtain ⟨cs, hcs⟩ : ∃ cs, cs = csz rs nf m := ⟨_, rfl⟩
    have HLE : Hid (∀ i, i < m → cs i ≤ H ∧ 1 ≤ cs i) := Lib.hid fun i hi => by rw [hcs, HH.out]; exact ⟨csz_foM rs nf m hm24 HSY.out HNLE.out i hi, csz_pos _ _ _ _⟩
    have HGE : Hid (∀ i, i < m → (hgts rs nf.reverse m).getD (m - 1 - i) 0 = cs i) := Lib.hid fun i hi => by rw [hcs, hgts_get rs nf.reverse m _ (by omega)]; rfl
    have HLEN : Hid ((hgts rs nf.reverse m).length = m) := Lib.hid (hgts_len _ _ _)
    obtain ⟨gs, hgs⟩ : ∃ gs : Nat → List Nat, gs = fun t => (List.range t).map fun i => H + 1 - cs i := ⟨_, rfl⟩
    have HG0 : Hid (gs 0 = []) := Lib.hid (by rw [hgs]; rfl)
    have HGN : Hid (∀ t, gs (t + 1) = gs t ++ [H + 1 - cs t]) := Lib.hid fun t => by rw [hgs]; show (List.range (t + 1)).map _ = (List.range t).map _ ++ _; rw [List.range_succ, List.map_append]; rfl
    have HGL : Hid (∀ t, (gs t).length = t) := Lib.hid fun t => by rw [hgs]; simp
    have HGE2 : Hid (ltR rs vs = gs m) := Lib.hid (by rw [hgs]; unfold ltR latM; rw [HVL.out, ← HNF.out, ← HH.out, hcs])
    obtain ⟨hs, hhs⟩ : ∃ hs, hs = hgts rs nf.reverse m := ⟨_, rfl⟩
    rw [← hhs] at HRD8 HGE HLEN
    clear hcs hgs hhs ho8 hb23 HHE HBK hdr z0 z1 hx2 hrd2 hh2
    go_wp2_with fail
    go_loopw [11, 12] (fun v q wr => ∃ (t : Nat) (A1 : Option Addr) (c1 : Nat), t ≤ m ∧ q = .int .i64 ((t : Nat) : Int) ∧ v = .slice A1 t c1 ∧ Own 2 wr w3.heap.size A1 t c1 (ints (gs t)) ∧ Below w3.heap.size w3 wr) (fun _ q _ => m - (intOf q).toNat)
    case atStart => exact ⟨0, _, 0, Nat.zero_le _, rfl, rfl, by rw [HG0.out]; exact World.ownsRow_lit w3 #[] 0 (Nat.le_refl _) (by unfold maxLen; omega) rfl, below1 _ _⟩
    case round =>
      obtain ⟨t, A1, c1, ht, rfl, rfl, ho, hb⟩ := hrel
      by_cases htm : t < m
      · obtain ⟨q, hq⟩ : ∃ q, q = m - 1 - t := ⟨_, rfl⟩
        have hqm : q < m := by omega
        obtain ⟨b, off, y, eA, hbs, hy, hcy⟩ := (HRD8.out.below hb).at_ hqm
        rw [ints_getD _ q (by rw [HLEN.out]; exact hqm), hq, HGE.out t htm] at hy
        injection hy with hy
        obtain ⟨hle, hp1⟩ := HLE.out t htm
        have HNX := Lib.hid (HGN.out t)
        obtain ⟨V, hV⟩ : ∃ V, V = cs t := ⟨_, rfl⟩
        rw [← hV] at hy hle HNX hp1
        obtain ⟨Z, hZ⟩ : ∃ Z, Z = H + 1 - V := ⟨_, rfl⟩
        rw [← hZ] at HNX
        subst hy eA
        have hqe : (m : Int) - 1 - (t : Int) = (q : Int) := by omega
        have hzz : (H : Int) + 1 - (V : Int) = (Z : Int) := by omega
        have hmlx : t + 1 ≤ maxLen := by unfold maxLen; omega
        have hby2 : (t + 1) * 8 ≤ 140737488355328 := by omega
        have hq0 : (0 : Int) ≤ (q : Int) := Int.natCast_nonneg _
        have hqz : (q : Int) < (m : Int) := by omega
        clear hV hZ hq
        go_wp2_with (at_builtin; refine wpList_append_own _ rfl _ _ 22 rfl w3.heap.size 2 i0 (.int .i64 0) 1 8 Tryd.underlying22 hi0 hz0 hz1 hz2 rfl (by decide) (.slice A1 t c1) t ((ints (gs t)).map (Value.int .i64)) rfl (World.ownsRow.alloc ho _) ⟨wr.heap.size, 0, none⟩ 1 1 [.int .i64 (Z : Int)] rfl rfl ?c1 ?c2 hmlx hby2 ?c5 ?_)
        case c1 => exact cell_one_new _ _ _
        case c2 => intro u hu; simp at hu; subst hu; rfl
        case c5 => have := hb.size; simp; omega
        intro v' w5 hown hg _
        rw [ints_snoc_map, ← HNX.out] at hown
        have hb5 : Below w3.heap.size w3 w5 := (hb.alloc hb.size _).grown hg (by have := hb.size; simp; omega) (fun g hgr => (World.ownsRow.lt ho g hgr).1)
        obtain ⟨A2, c2, hv, ho3⟩ := own_shape hown
        rw [hv]
        clear hg hown hv ho hb hqe hzz
        go_wp2_with fail
        go_roundw
        case rel => exact ⟨t + 1, A2, c2, by omega, by go_num, rfl, ho3, hb5⟩
        case measure => simp [intOf]; omega
      · have hte : t = m := by omega
        subst hte
        go_wp2_with fail
        go_ret2
        rw [HGE2.out]
        exact LsPost.of_ans (ans_yes ho.len (ho.mono HB3.out.size) (HB3.out.trans (hb.mono HB3.out.size)))
  · rw [show ltAns L xs us = _ from wAns_code _ L xs us hc]
    have HPI := Lib.hid (l04Code_no L A n c xs A1 m d us _ hh hn hh2 hm hc)
    obtain ⟨C, hC⟩ : ∃ C, C = wCode L xs us := ⟨_, rfl⟩
    rw [← hC] at hc HPI ⊢
    have hq1 : (C != 0) = true := by simpa using hc
    have hq2 : (C == 0) = false := by simpa using hc
    clear hC hc
    go_enter Tryd.func23, Tryd.ntmps23
    go_wp2_with fail
    refine HPI.out.mono ?_
    rintro e w1 ⟨rfl, hb⟩
    go_wp2_with fail
    go_ret2
    exact LsPost.of_ans (ans_no C (HB.out.trans (hb.mono HB.out.size)))
end Go.Proofs.YtfbdbipopfjjnaaDoor
