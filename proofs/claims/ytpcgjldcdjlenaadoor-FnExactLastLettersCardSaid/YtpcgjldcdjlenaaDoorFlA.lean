/-
  FirstLetters, LastLetters: both sides.
-/
import Derived.Test.YtpcgjldcdjlenaaDoorFlM
import Derived.Test.YtpcgjldcdjlenaaDoorWInt
import Derived.Test.YtpcgjldcdjlenaaDoorOrA
import Derived.Deep.RegionWith
namespace Go.Proofs.YtpcgjldcdjlenaaDoor
open Go Go.RowKit
set_option linter.unusedVariables false
set_option maxRecDepth 100000

def flN (rs us : List Nat) : Nat := firstM (RDep rs) rs.length us
def llN (rs us : List Nat) : Nat := firstM (RDep rs) rs.length us.reverse
def flR (rs us : List Nat) : Int := ((flN rs us : Nat) : Int)
def llR (rs us : List Nat) : Int := ((llN rs us : Nat) : Int)
def flAns (L : Int) (xs us : List Int) : Int × Int := wInt flR L xs us
def llAns (L : Int) (xs us : List Int) : Int × Int := wInt llR L xs us
set_option maxHeartbeats 3200000 in
theorem implFirstLetters (L : Int) (A : Option Addr) (n c : Nat) (xs : List Int) (A1 : Option Addr) (m d : Nat) (us : List Int) (w : World) (h : Rd w A n xs) (hwf : Wf xs) (hL1 : -9223372036854775808 ≤ L) (hL2 : L ≤ 9223372036854775807) (hn : n ≤ maxLen) (h2 : Rd w A1 m us) (hwf2 : Wf us) (hm : m ≤ maxLen) (hT : Tab w) :
    Calls Tryd.prog 44 #[.agg #[.int .i64 L, .slice A n c], .slice A1 m d] w (fun e w' => e = .returned (.tuple #[.int .i64 (flAns L xs us).1, .int .i64 (flAns L xs us).2]) ∧ Below w.heap.size w w') := by
  have HB := Lib.hid (below1 w (.cells #[.int .i64 L, .slice A n c] 28))
  have x0 := box_new 28 w L A n c
  have hh := h.below HB.out
  have hh2 := h2.below HB.out
  have hT1 := hT.below HB.out
  by_cases hc : wCode L xs us = 0
  · obtain ⟨ha, hu⟩ := wCode_zero hc
    obtain ⟨rs, rfl, rfl, h8, hr, hrel, hl, hd, _⟩ := alphB_nats L xs n h.1 ha
    obtain ⟨vs, rfl, hv24, hvn⟩ := wordB_nats n us hu
    have hm1 : vs.length = m := by have := h2.1; rw [ints_len] at this; exact this
    have hm24 : m ≤ 24 := by omega
    rw [show flAns (n : Int) (ints rs) (ints vs) = _ from wInt_yes _ (n : Int) rs vs ha hu]
    have HSY := Lib.hid (rdep_sym rs n hl hr ((depB_iff rs n hl hr).1 hd))
    have HRF : Hid (∀ a, a < n → RDep rs a a = true) := Lib.hid fun a h9 => ((depB_iff rs n hl hr).1 hd).1 a (by omega)
    have HNL : Hid (∀ x, x ∈ nfR rs vs → x < n) := Lib.hid fun x hx => by have := nfR_lt rs vs x hx; omega
    have HEQ : Hid (Eqv (RDep rs) (nfR rs vs) vs) := Lib.hid (by unfold nfR; rw [hl]; exact nfM_eqv HSY.out HRF.out vs hvn)
    have HRL : Hid (rs.length = n) := Lib.hid hl
    have HPI := Lib.hid (positionsIn_yes A n c rs A1 m d vs _ hh hwf h8 hr hrel hl hd hh2 hm24 hvn hu hT1)
    have HVL := Lib.hid hm1
    obtain ⟨nf, hnf⟩ : ∃ nf, nf = nfR rs vs := ⟨_, rfl⟩
    rw [← hnf] at HPI HNL HEQ
    clear ha hu hl hm1 hd hr hrel hc hvn hwf hwf2 hh hh2 x0 h h2 hnf
    obtain ⟨V, hV⟩ : ∃ V, V = flN rs vs := ⟨_, rfl⟩
    rw [show flR rs vs = (V : Int) from by rw [hV]; rfl]
    have HV := Lib.hid hV
    clear hV
    go_enter Tryd.func44, Tryd.ntmps44
    go_wp2_with fail
    refine HPI.out.mono ?_
    rintro e w1 ⟨g, A5, c5, rfl, hg, x, hrd, hb⟩
    have HB1 := Lib.hid (HB.out.trans (hb.mono HB.out.size))
    have hnl : nf.length = m := by have := hrd.1; rw [ints_len] at this; exact this
    have HNP : Hid (∀ p, p < m → nf.getD p 0 < n) := Lib.hid fun p hp => in_getD HNL.out p (by omega)
    obtain ⟨F, hF⟩ : ∃ F, F = dnF (RDep rs) nf m := ⟨_, rfl⟩
    have HE : Hid (aloneM nf (fun i => F i == 2 ^ i) m = V) := Lib.hid (by
      rw [HV.out, hF]
      rw [aloneM_congr nf _ (fun i => dnW (RDep rs) nf i == 2 ^ i) m (fun i hi => by show (dnF (RDep rs) nf m i == 2 ^ i) = _; rw [dnF_at _ _ _ _ hi])]
      rw [dn_first (RDep rs) n m nf hnl hm24 HNP.out]
      unfold flN
      rw [HRL.out]
      exact HEQ.out.firstM_ HRF.out)
    rw [← hF] at x
    have HLA := Lib.hid (lettersAlone_any g m c5 A5 F _ _ nf w1 x hrd hm24 (fun p hp => by have := HNP.out p hp; omega))
    rw [HE.out] at HLA
    have HLB : Hid (Calls Tryd.prog 80 #[.pointer (some ⟨g, 0, none⟩), .agg (rowV F).toArray] w1 fun e w' => e = .returned (.int .i64 (V : Int)) ∧ Below w1.heap.size w1 w') := Lib.hid HLA.out
    have hld := Lib.hid (row_range (w := w1) g 1 F (fun i hi => x.cf i hi))
    clear hF x hrd hg hb hnl HLA
    have hif : Hid ((Tryd.prog.info? 81).map (·.size) = some (rowV F).length) := Lib.hid (by rw [rowV_len]; exact info_rows)
    obtain ⟨FV, hFV⟩ : ∃ FV, FV = rowV F := ⟨_, rfl⟩
    rw [← hFV] at hld HLB hif
    clear hFV
    go_wp2_with (refine wpList_load_mid rfl 81 _ rfl g 1 rfl FV _ hld.out Tryd.underlying81 rfl hif.out ?_)
    refine HLB.out.mono ?_
    rintro e w2 ⟨rfl, hb2⟩
    go_wp2_with fail
    go_ret2
    exact ⟨rfl, HB1.out.trans (hb2.mono HB1.out.size)⟩
  · rw [show flAns L xs us = _ from wInt_code _ L xs us hc]
    have HPI := Lib.hid (positionsIn_no L A n c xs A1 m d us _ hh hwf hL1 hL2 hn hh2 hwf2 hm hT1 hc)
    obtain ⟨C, hC⟩ : ∃ C, C = wCode L xs us := ⟨_, rfl⟩
    rw [← hC] at hc HPI ⊢
    have hq1 : (C != 0) = true := by simpa using hc
    have hq2 : (C == 0) = false := by simpa using hc
    clear hC hc
    go_enter Tryd.func44, Tryd.ntmps44
    go_wp2_with fail
    refine HPI.out.mono ?_
    rintro e w1 ⟨rfl, hb⟩
    go_wp2_with fail
    go_ret2
    exact ⟨rfl, HB.out.trans (hb.mono HB.out.size)⟩
set_option maxHeartbeats 3200000 in
theorem implLastLetters (L : Int) (A : Option Addr) (n c : Nat) (xs : List Int) (A1 : Option Addr) (m d : Nat) (us : List Int) (w : World) (h : Rd w A n xs) (hwf : Wf xs) (hL1 : -9223372036854775808 ≤ L) (hL2 : L ≤ 9223372036854775807) (hn : n ≤ maxLen) (h2 : Rd w A1 m us) (hwf2 : Wf us) (hm : m ≤ maxLen) (hT : Tab w) :
    Calls Tryd.prog 46 #[.agg #[.int .i64 L, .slice A n c], .slice A1 m d] w (fun e w' => e = .returned (.tuple #[.int .i64 (llAns L xs us).1, .int .i64 (llAns L xs us).2]) ∧ Below w.heap.size w w') := by
  have HB := Lib.hid (below1 w (.cells #[.int .i64 L, .slice A n c] 28))
  have x0 := box_new 28 w L A n c
  have hh := h.below HB.out
  have hh2 := h2.below HB.out
  have hT1 := hT.below HB.out
  by_cases hc : wCode L xs us = 0
  · obtain ⟨ha, hu⟩ := wCode_zero hc
    obtain ⟨rs, rfl, rfl, h8, hr, hrel, hl, hd, _⟩ := alphB_nats L xs n h.1 ha
    obtain ⟨vs, rfl, hv24, hvn⟩ := wordB_nats n us hu
    have hm1 : vs.length = m := by have := h2.1; rw [ints_len] at this; exact this
    have hm24 : m ≤ 24 := by omega
    rw [show llAns (n : Int) (ints rs) (ints vs) = _ from wInt_yes _ (n : Int) rs vs ha hu]
    have HSY := Lib.hid (rdep_sym rs n hl hr ((depB_iff rs n hl hr).1 hd))
    have HRF : Hid (∀ a, a < n → RDep rs a a = true) := Lib.hid fun a h9 => ((depB_iff rs n hl hr).1 hd).1 a (by omega)
    have HNL : Hid (∀ x, x ∈ nfR rs vs → x < n) := Lib.hid fun x hx => by have := nfR_lt rs vs x hx; omega
    have HEQ : Hid (Eqv (RDep rs) (nfR rs vs) vs) := Lib.hid (by unfold nfR; rw [hl]; exact nfM_eqv HSY.out HRF.out vs hvn)
    have HRL : Hid (rs.length = n) := Lib.hid hl
    have HPI := Lib.hid (positionsIn_yes A n c rs A1 m d vs _ hh hwf h8 hr hrel hl hd hh2 hm24 hvn hu hT1)
    have HVL := Lib.hid hm1
    obtain ⟨nf, hnf⟩ : ∃ nf, nf = nfR rs vs := ⟨_, rfl⟩
    rw [← hnf] at HPI HNL HEQ
    clear ha hu hl hm1 hd hr hrel hc hvn hwf hwf2 hh hh2 x0 h h2 hnf
    obtain ⟨V, hV⟩ : ∃ V, V = llN rs vs := ⟨_, rfl⟩
    rw [show llR rs vs = (V : Int) from by rw [hV]; rfl]
    have HV := Lib.hid hV
    clear hV
    go_enter Tryd.func46, Tryd.ntmps46
    go_wp2_with fail
    refine HPI.out.mono ?_
    rintro e w1 ⟨g, A5, c5, rfl, hg, x, hrd, hb⟩
    have HB1 := Lib.hid (HB.out.trans (hb.mono HB.out.size))
    have hnl : nf.length = m := by have := hrd.1; rw [ints_len] at this; exact this
    have HNP : Hid (∀ p, p < m → nf.getD p 0 < n) := Lib.hid fun p hp => in_getD HNL.out p (by omega)
    obtain ⟨F, hF⟩ : ∃ F, F = upW (RDep rs) nf m := ⟨_, rfl⟩
    have HE : Hid (aloneM nf (fun i => F i == 2 ^ i) m = V) := Lib.hid (by
      rw [HV.out, hF]
      rw [up_last (RDep rs) HSY.out n m nf hnl HNP.out]
      unfold llN
      rw [HRL.out]
      exact HEQ.out.reverse_.firstM_ HRF.out)
    rw [← hF] at x
    have HLA := Lib.hid (lettersAlone_any g m c5 A5 F _ _ nf w1 x hrd hm24 (fun p hp => by have := HNP.out p hp; omega))
    rw [HE.out] at HLA
    have HLB : Hid (Calls Tryd.prog 80 #[.pointer (some ⟨g, 0, none⟩), .agg (rowV F).toArray] w1 fun e w' => e = .returned (.int .i64 (V : Int)) ∧ Below w1.heap.size w1 w') := Lib.hid HLA.out
    have hld := Lib.hid (row_range (w := w1) g 25 F (fun i hi => x.ch i hi))
    clear hF x hrd hg hb hnl HLA
    have hif : Hid ((Tryd.prog.info? 81).map (·.size) = some (rowV F).length) := Lib.hid (by rw [rowV_len]; exact info_rows)
    obtain ⟨FV, hFV⟩ : ∃ FV, FV = rowV F := ⟨_, rfl⟩
    rw [← hFV] at hld HLB hif
    clear hFV
    go_wp2_with (refine wpList_load_mid rfl 81 _ rfl g 25 rfl FV _ hld.out Tryd.underlying81 rfl hif.out ?_)
    refine HLB.out.mono ?_
    rintro e w2 ⟨rfl, hb2⟩
    go_wp2_with fail
    go_ret2
    exact ⟨rfl, HB1.out.trans (hb2.mono HB1.out.size)⟩
  · rw [show llAns L xs us = _ from wInt_code _ L xs us hc]
    have HPI := Lib.hid (positionsIn_no L A n c xs A1 m d us _ hh hwf hL1 hL2 hn hh2 hwf2 hm hT1 hc)
    obtain ⟨C, hC⟩ : ∃ C, C = wCode L xs us := ⟨_, rfl⟩
    rw [← hC] at hc HPI ⊢
    have hq1 : (C != 0) = true := by simpa using hc
    have hq2 : (C == 0) = false := by simpa using hc
    clear hC hc
    go_enter Tryd.func46, Tryd.ntmps46
    go_wp2_with fail
    refine HPI.out.mono ?_
    rintro e w1 ⟨rfl, hb⟩
    go_wp2_with fail
    go_ret2
    exact ⟨rfl, HB.out.trans (hb.mono HB.out.size)⟩
theorem rev_takeI (us : List Int) (k : Nat) (hk : k < us.length) : (us.reverse).take (us.length - k) = (us.reverse).take (us.length - (k + 1)) ++ [us.getD k 0] := by
  have e : us.length - k = us.length - (k + 1) + 1 := by omega
  rw [e, List.take_add_one, List.getElem?_reverse (by omega)]
  have e2 : us.length - 1 - (us.length - (k + 1)) = k := by omega
  rw [e2, List.getD_eq_getElem?_getD, List.getElem?_eq_getElem hk]; rfl
set_option maxHeartbeats 1600000 in
theorem backI_any (A : Option Addr) (n c : Nat) (us : List Int) (w : World) (h : Rd w A n us) (hn : n ≤ 1048576) :
    Calls Tryd.prog 52 #[.slice A n c] w (MakesE 2 w n us.reverse) := by
  obtain ⟨i0, hi, hz0, hz1, hz2⟩ := info_parts info_int
  have HL := Lib.hid h.1
  have hw0 : wrap64 ((n : Int) - 1) = (n : Int) - 1 := by unfold wrap64; omega
  go_enter Tryd.func52, Tryd.ntmps52
  go_wp2_with fail
  go_loopw [3, 4] (fun p q wr => ∃ (k : Nat) (A1 : Option Addr) (c1 : Nat), k ≤ n ∧ p = .slice A1 k c1 ∧ q = .int .i64 ((n : Int) - 1 - (k : Int)) ∧ Own 2 wr w.heap.size A1 k c1 (us.reverse.take k) ∧ Below w.heap.size w wr) (fun p _ _ => n - sliceLen p)
  case atStart => exact ⟨0, _, 0, Nat.zero_le _, rfl, by simp, World.ownsRow_lit w #[] 0 (Nat.le_refl _) (by unfold maxLen; omega) rfl, (Below.refl _ _).alloc (Nat.le_refl _) _⟩
  case round =>
    obtain ⟨k, A1, c1, hk, rfl, rfl, ho, hb⟩ := hrel
    by_cases hlt : k < n
    · obtain ⟨q, hq⟩ : ∃ q, q = n - 1 - k := ⟨_, rfl⟩
      have hqe : (n : Int) - 1 - (k : Int) = (q : Int) := by omega
      rw [hqe]
      have hqn : q < n := by omega
      obtain ⟨b, off, x, eA, hbs, hx, hcx⟩ := (h.below hb).at_ hqn
      have HNX : Hid (us.reverse.take (k + 1) = us.reverse.take k ++ [x]) := Lib.hid (by
        have := rev_takeI us q (by rw [HL.out]; exact hqn)
        rw [HL.out, show n - q = k + 1 by omega, show n - (q + 1) = k by omega] at this
        rw [this, List.getD_eq_getElem?_getD, hx]; rfl)
      subst eA
      have HQ := Lib.hid hqe
      have hq0 : (0 : Int) ≤ (q : Int) := Int.natCast_nonneg _
      have hml : k + 1 ≤ maxLen := by unfold maxLen; omega
      have hby2 : (k + 1) * 8 ≤ 140737488355328 := by omega
      have hw1 : wrap64 ((q : Int) - 1) = (q : Int) - 1 := by unfold wrap64; omega
      clear hx hq hqe
      go_wp2_with (at_builtin; refine wpList_append_own _ rfl _ _ 22 rfl w.heap.size 2 i0 (.int .i64 0) 1 8 Tryd.underlying22 hi hz0 hz1 hz2 rfl (by decide) (.slice A1 k c1) k ((us.reverse.take k).map (Value.int .i64)) rfl (World.ownsRow.alloc ho _) ⟨wr.heap.size, 0, none⟩ 1 1 [.int .i64 x] rfl rfl ?c1 ?c2 hml hby2 ?c5 ?_)
      case c1 => exact cell_one_new _ _ _
      case c2 => intro u hu; simp at hu; subst hu; rfl
      case c5 => have := hb.size; simp; omega
      intro v' w2 hown hg _
      rw [show ((us.map (Value.int .i64)).reverse).take k ++ [Value.int .i64 x] = (us.reverse.take (k + 1)).map (Value.int .i64) from by rw [HNX.out, List.map_append, List.map_take, List.map_reverse]; rfl] at hown
      have hb2 : Below w.heap.size w w2 := (hb.alloc hb.size _).grown hg (by have := hb.size; simp; omega) (fun r hr => (World.ownsRow.lt ho r hr).1)
      obtain ⟨A2, c2, hv, ho2⟩ := own_shape hown
      rw [hv]
      clear hg hown hv ho hb hw0
      go_wp2_with fail
      go_roundw
      case rel => exact ⟨k + 1, A2, c2, by omega, rfl, by (have := HQ.out; go_num), ho2, hb2⟩
      case measure => simp [sliceLen]; omega
    · have hkn : k = n := by omega
      subst hkn
      have HT : Hid (us.reverse.take k = us.reverse) := Lib.hid (List.take_of_length_le (by rw [List.length_reverse, HL.out]; exact Nat.le_refl _))
      have hd : decide ((0 : Int) ≤ (k : Int) - 1 - (k : Int)) = false := decide_eq_false (by omega)
      go_wp2_with fail
      go_ret
      exact ⟨A1, c1, rfl, by rw [← HT.out]; exact ho, hb⟩
theorem wordB_rev (L : Int) (us : List Int) : wordB L us.reverse = wordB L us := by unfold wordB; rw [List.length_reverse, List.all_reverse]
theorem wCode_rev (L : Int) (xs us : List Int) : wCode L xs us.reverse = wCode L xs us := by unfold wCode; rw [wordB_rev]
theorem llAns_rev (L : Int) (xs us : List Int) : flAns L xs us.reverse = llAns L xs us := by
  unfold flAns llAns wInt
  rw [wCode_rev, List.map_reverse]
  rfl
set_option maxHeartbeats 3200000 in
theorem specFirstLetters (L : Int) (A : Option Addr) (n c : Nat) (xs : List Int) (A1 : Option Addr) (m d : Nat) (us : List Int) (w : World) (h : Rd w A n xs) (hwf : Wf xs) (hL1 : -9223372036854775808 ≤ L) (hL2 : L ≤ 9223372036854775807) (hn : n ≤ maxLen) (h2 : Rd w A1 m us) (hwf2 : Wf us) (hm : m ≤ maxLen) :
    Calls Tryd.prog 43 #[.agg #[.int .i64 L, .slice A n c], .slice A1 m d] w (fun e w' => e = .returned (.tuple #[.int .i64 (flAns L xs us).1, .int .i64 (flAns L xs us).2]) ∧ Below w.heap.size w w') := by
  have HB := Lib.hid (below1 w (.cells #[.int .i64 L, .slice A n c] 28))
  have x0 := box_new 28 w L A n c
  have hh := h.below HB.out
  have hh2 := h2.below HB.out
  by_cases hc : wCode L xs us = 0
  · obtain ⟨ha, hu⟩ := wCode_zero hc
    obtain ⟨rs, rfl, rfl, h8, hr, hrel, hl, hd, _⟩ := alphB_nats L xs n h.1 ha
    obtain ⟨vs, rfl, hv24, hvn⟩ := wordB_nats n us hu
    have hm1 : vs.length = m := by have := h2.1; rw [ints_len] at this; exact this
    have hm24 : m ≤ 24 := by omega
    rw [show flAns (n : Int) (ints rs) (ints vs) = _ from wInt_yes _ (n : Int) rs vs ha hu]
    obtain ⟨V, hV⟩ : ∃ V, V = flN rs vs := ⟨_, rfl⟩
    rw [show flR rs vs = (V : Int) from by rw [hV]; rfl]
    have HV : Hid (V = mkM (freeB (RDep rs) vs) n) := Lib.hid (by rw [hV]; unfold flN firstM; rw [hl])
    have HC : Hid (wCode2 (n : Int) (ints rs) (ints vs) (ints vs) = 0) := Lib.hid (by rw [wCode_two]; exact hc)
    have HVR : Hid (∀ p, p < m → vs.getD p 0 < n) := Lib.hid fun p hp => in_getD hvn p (by omega)
    have HR := Lib.hid hr
    have HMK : Hid (∀ k, mkM (freeB (RDep rs) vs) (k + 1) = if freeB (RDep rs) vs k = true then mkM (freeB (RDep rs) vs) k ||| 2 ^ k else mkM (freeB (RDep rs) vs) k) := Lib.hid fun k => rfl
    have HML : Hid (∀ k, k ≤ 8 → mkM (freeB (RDep rs) vs) k < 2 ^ 8) := Lib.hid fun k hk => mkM_lt _ _ _ hk
    have HFI : Hid (∀ k, freeB (RDep rs) vs k = decide ((0:Int) ≤ firstI (RDep rs) vs k)) := Lib.hid fun k => by
      unfold firstI
      split
      · rename_i h9; rw [h9]; symm; exact decide_eq_true (by omega)
      · rename_i h9; rw [Bool.not_eq_true] at h9; rw [h9]; rfl
    have HFS : Hid (∀ (k : Nat) (ww : World), Below w.heap.size w ww → k < n → Calls Tryd.prog 78 #[.agg #[.int .i64 (n : Int), .slice A n c], .slice A1 m d, .int .i64 (k : Int)] ww fun e w' => e = .returned (.int .i64 (firstI (RDep rs) vs k)) ∧ Below ww.heap.size ww w') := Lib.hid fun k ww hw hk => l03First_any (n : Int) A A1 n c m d k rs vs ww (h.below hw) (by omega) HR.out (h2.below hw) hm24 HVR.out hk
    obtain ⟨al, hal⟩ : ∃ al, al = mkM (freeB (RDep rs) vs) := ⟨_, rfl⟩
    have HZ : Hid (al 0 = 0) := Lib.hid (by rw [hal]; rfl)
    obtain ⟨fi, hfi⟩ : ∃ fi, fi = firstI (RDep rs) vs := ⟨_, rfl⟩
    rw [← hal] at HV HMK HML
    rw [← hfi] at HFI HFS
    clear ha hu hl hm1 hd hr hrel hc hvn hwf hwf2 hV hal hfi
    go_enter Tryd.func43, Tryd.ntmps43
    go_wp2_with fail
    refine (l03Code_any (n : Int) _ _ _ _ _ _ _ _ _ (ints rs) (ints vs) (ints vs) _ hh (by omega) hh2 (by omega) hh2 (by omega)).mono ?_
    rintro e w1 ⟨rfl, hb⟩
    rw [HC.out]
    have x1 := x0.next hb
    have HB1 := Lib.hid (HB.out.trans (hb.mono HB.out.size))
    clear hh hh2 h h2 hb x0
    go_wp2_with fail
    go_loopw [7, 8] (fun v q wr => ∃ k, k ≤ n ∧ q = .int .i64 ((k : Nat) : Int) ∧ v = .int .i64 ((al k : Nat) : Int) ∧ Below w1.heap.size w1 wr) (fun _ q _ => n - (intOf q).toNat)
    case atStart => exact ⟨0, Nat.zero_le _, rfl, by rw [HZ.out]; rfl, Below.refl _ _⟩
    case round =>
      obtain ⟨k, hk, rfl, rfl, hb⟩ := hrel
      have x2 := x1.next hb
      have y0 := x2.c0
      have y1 := x2.c1
      have HBW := Lib.hid (HB1.out.trans (hb.mono HB1.out.size))
      by_cases hkn : k < n
      · have HCF := Lib.hid (HFS.out k wr HBW.out hkn)
        obtain ⟨S, hS⟩ : ∃ S, S = al k := ⟨_, rfl⟩
        have hS8 : S < 256 := by rw [hS]; exact HML.out k (by omega)
        have HMS := Lib.hid (HMK.out k)
        rw [← hS] at HMS ⊢
        obtain ⟨i, hi⟩ : ∃ i, i = fi k := ⟨_, rfl⟩
        have HFK := Lib.hid (HFI.out k)
        rw [← hi] at HCF HFK
        have hp8 : (2:Nat) ^ k ≤ 2 ^ 8 := Nat.pow_le_pow_right (by decide) (by omega)
        obtain ⟨P2, hP2⟩ : ∃ P2, P2 = 2 ^ k := ⟨_, rfl⟩
        have HON : Hid (∀ ww : World, Calls Tryd.prog 79 #[.int .i64 (k : Int)] ww fun e w' => e = .returned (.int .i64 (P2 : Int)) ∧ ww = w') := Lib.hid fun ww => by rw [hP2]; exact one_any k (by omega) ww
        rw [← hP2] at HMS hp8
        have hor := i64_or_nat S P2 (by omega) (by omega)
        clear hS hi hP2
        by_cases h0 : 0 ≤ i
        · have HN : Hid (al (k + 1) = S ||| P2) := Lib.hid (by rw [HMS.out, if_pos (by rw [HFK.out]; exact decide_eq_true h0)])
          have hd0 : decide ((0:Int) ≤ i) = true := decide_eq_true h0
          go_wp2_with fail
          refine HCF.out.mono ?_
          rintro e w4 ⟨rfl, hb4⟩
          go_wp2_with fail
          refine (HON.out _).mono ?_
          rintro e w' ⟨rfl, rfl⟩
          go_wp2_with fail
          go_roundw
          case rel => exact ⟨k + 1, by omega, by go_num, by rw [HN.out], hb.trans (hb4.mono hb.size)⟩
          case measure => simp [intOf]; omega
        · have HN : Hid (al (k + 1) = S) := Lib.hid (by rw [HMS.out, if_neg (by rw [HFK.out, decide_eq_false h0]; decide)])
          have hd0 : decide ((0:Int) ≤ i) = false := decide_eq_false h0
          go_wp2_with fail
          refine HCF.out.mono ?_
          rintro e w4 ⟨rfl, hb4⟩
          go_wp2_with fail
          go_roundw
          case rel => exact ⟨k + 1, by omega, by go_num, by rw [HN.out], hb.trans (hb4.mono hb.size)⟩
          case measure => simp [intOf]; omega
      · have hke : k = n := by omega
        subst hke
        go_wp2_with fail
        go_ret2
        exact ⟨by rw [HV.out]; rfl, HBW.out⟩
  · rw [show flAns L xs us = _ from wInt_code _ L xs us hc]
    have HC := Lib.hid (wCode_two L xs us)
    have hn2 : n ≤ 9223372036854775807 := by unfold maxLen at hn; omega
    have hm2 : m ≤ 9223372036854775807 := by unfold maxLen at hm; omega
    obtain ⟨C, hC⟩ : ∃ C, C = wCode L xs us := ⟨_, rfl⟩
    rw [← hC] at hc HC ⊢
    have hq1 : (C != 0) = true := by simpa using hc
    have hq2 : (C == 0) = false := by simpa using hc
    clear hC hc
    go_enter Tryd.func43, Tryd.ntmps43
    go_wp2_with fail
    refine (l03Code_any L _ _ _ _ _ _ _ _ _ xs us us _ hh hn2 hh2 hm2 hh2 hm2).mono ?_
    rintro e w1 ⟨rfl, hb⟩
    rw [HC.out]
    go_wp2_with fail
    go_ret2
    exact ⟨rfl, HB.out.trans (hb.mono HB.out.size)⟩
set_option maxHeartbeats 3200000 in
theorem specLastLetters (L : Int) (A : Option Addr) (n c : Nat) (xs : List Int) (A1 : Option Addr) (m d : Nat) (us : List Int) (w : World) (h : Rd w A n xs) (hwf : Wf xs) (hL1 : -9223372036854775808 ≤ L) (hL2 : L ≤ 9223372036854775807) (hn : n ≤ maxLen) (h2 : Rd w A1 m us) (hwf2 : Wf us) (hm : m ≤ 1048576) :
    Calls Tryd.prog 45 #[.agg #[.int .i64 L, .slice A n c], .slice A1 m d] w (fun e w' => e = .returned (.tuple #[.int .i64 (llAns L xs us).1, .int .i64 (llAns L xs us).2]) ∧ Below w.heap.size w w') := by
  have HB := Lib.hid (below1 w (.cells #[.int .i64 L, .slice A n c] 28))
  have hx1 := box_new 28 w L A n c
  obtain ⟨w1, hw1⟩ : ∃ w1, w.alloc (.cells #[.int .i64 L, .slice A n c] 28) = w1 := ⟨_, rfl⟩
  rw [hw1] at HB hx1
  have hh := h.below HB.out
  have hh2 := h2.below HB.out
  have hwr : Wf us.reverse := fun x hx => hwf2 x (List.mem_reverse.1 hx)
  have hdr : Below w1.heap.size w1 w1.drew := (Below.refl _ _).drew
  have HBK : Hid (∀ ww, Below w1.heap.size w1 ww → Calls Tryd.prog 52 #[.slice A1 m d] ww (MakesE 2 ww m us.reverse)) := Lib.hid fun ww hw => backI_any A1 m d us ww (hh2.below hw) hm
  have HFL : Hid (∀ ww A2 c2, Below w1.heap.size w1 ww → Rd ww A2 m us.reverse → Calls Tryd.prog 43 #[.agg #[.int .i64 L, .slice A n c], .slice A2 m c2] ww (fun e w' => e = .returned (.tuple #[.int .i64 (llAns L xs us).1, .int .i64 (llAns L xs us).2]) ∧ Below ww.heap.size ww w')) := Lib.hid fun ww A2 c2 hw hr2 => by
    rw [← llAns_rev]
    exact specFirstLetters L A n c xs A2 m c2 us.reverse ww (hh.below hw) hwf hL1 hL2 hn hr2 hwr (by unfold maxLen; omega)
  obtain ⟨V, hV⟩ : ∃ V, V = (llAns L xs us).1 := ⟨_, rfl⟩
  obtain ⟨C, hC⟩ : ∃ C, C = (llAns L xs us).2 := ⟨_, rfl⟩
  rw [← hV, ← hC] at HFL ⊢
  have z0 := hx1.c0
  have z1 := hx1.c1
  clear hV hC hh hh2 h h2
  go_enter Tryd.func45, Tryd.ntmps45
  go_wp2_with fail
  go_region_with (first
    | (go_at_call 52; refine (HBK.out _ hdr).mono ?_; rintro e w2 ⟨A2, c2, rfl, ho2, hb2⟩; have hb12 := hdr.trans (hb2.mono hdr.size); have z2 := (hx1.next hb12).c0; have z3 := (hx1.next hb12).c1)
    | (go_at_call 43; refine (HFL.out _ _ _ hb12 ho2.rd).mono ?_; rintro e w3 ⟨rfl, hb3⟩))
  all_goals (
    go_wp2_with fail
    go_ret2
    have hb13 := hb12.trans (hb3.mono hb12.size)
    exact ⟨rfl, HB.out.trans (hb13.mono HB.out.size)⟩)
end Go.Proofs.YtpcgjldcdjlenaaDoor
