/-
  PowerOf: both sides.
-/
import Derived.Test.YtdafdffmkjhhcaaDoorMp
import Derived.Test.YtdafdffmkjhhcaaDoorRpt
namespace Go.Proofs.YtdafdffmkjhhcaaDoor
open Go Go.RowKit
set_option linter.unusedVariables false
set_option maxRecDepth 100000

def pwF (rs us : List Nat) (k : Nat) : List Nat × Int := if 24 < us.length * k then ([], 3) else (nfR rs (repV k us), 0)
theorem pwF_long (rs us : List Nat) (k : Nat) (h : 24 < us.length * k) : pwF rs us k = ([], 3) := if_pos h
theorem pwF_ok (rs us : List Nat) (k : Nat) (h : ¬ 24 < us.length * k) : pwF rs us k = (nfR rs (repV k us), 0) := if_neg h
def pwG (a : Int) (rs us : List Nat) : List Nat × Int := if 0 ≤ a ∧ a ≤ 24 then pwF rs us a.toNat else ([], 2)
theorem pwG_out (a : Int) (rs us : List Nat) (h : ¬ (0 ≤ a ∧ a ≤ 24)) : pwG a rs us = ([], 2) := if_neg h
theorem pwG_in (k : Nat) (rs us : List Nat) (h : k ≤ 24) : pwG (k : Int) rs us = pwF rs us k := if_pos ⟨by omega, by omega⟩
def wLA (f : List Nat → List Nat → List Nat × Int) (L : Int) (xs us : List Int) : List Int × Int := if wCode L xs us = 0 then (ints (f (xs.map Int.toNat) (us.map Int.toNat)).1, (f (xs.map Int.toNat) (us.map Int.toNat)).2) else ([], wCode L xs us)
theorem wLA_no (f : List Nat → List Nat → List Nat × Int) (L : Int) (xs us : List Int) (h : alphB L xs = false) : wLA f L xs us = ([], 1) := by
  have e := wCode_no L xs us h
  unfold wLA; rw [e]; rfl
theorem wLA_bad (f : List Nat → List Nat → List Nat × Int) (L : Int) (xs us : List Int) (h : alphB L xs = true) (h2 : wordB L us = false) : wLA f L xs us = ([], 2) := by
  have e := wCode_bad L xs us h h2
  unfold wLA; rw [e]; rfl
theorem wLA_yes (f : List Nat → List Nat → List Nat × Int) (L : Int) (rs us : List Nat) (h : alphB L (ints rs) = true) (h2 : wordB L (ints us) = true) : wLA f L (ints rs) (ints us) = (ints (f rs us).1, (f rs us).2) := by
  have e := wCode_yes L (ints rs) (ints us) h h2
  unfold wLA; rw [if_pos e, ints_toNat, ints_toNat]
theorem pw_small (L : Int) (xs us : List Int) (a : Int) : (wLA (pwG a) L xs us).1.length ≤ 24 := by
  unfold wLA
  split
  · rw [ints_len]
    unfold pwG
    split
    · rcases Nat.lt_or_ge 24 ((us.map Int.toNat).length * a.toNat) with h | h
      · rw [pwF_long _ _ _ h]; exact Nat.zero_le _
      · rw [pwF_ok _ _ _ (by omega)]
        exact Nat.le_trans (nfR_len _ _) (by rw [repV_len]; exact h)
    · exact Nat.zero_le _
  · exact Nat.zero_le _
set_option maxHeartbeats 1600000 in
theorem l07Power_any (B : Option Addr) (m d k : Nat) (us : List Nat) (w : World) (h : Rd w B m (ints us)) (hm : m ≤ 24) (hk : k ≤ 24) :
    Calls Tryd.prog 135 #[.slice B m d, .int .i64 (k : Int)] w (MakesE 2 w (m * k) (ints (repV k us))) := by
  have HL : Hid (us.length = m) := Lib.hid (by have := h.1; rw [ints_len] at this; exact this)
  have HNX : Hid (∀ r, 0 < r → r ≤ k → repV (k - r) us ++ us = repV (k - (r - 1)) us ∧ m * (k - r) + m = m * (k - (r - 1)) ∧ m * (k - r) + m ≤ 576) := Lib.hid fun r h0 h1 => by
    have e : k - (r - 1) = (k - r) + 1 := by omega
    refine ⟨by rw [e, repV_add, repV_one], by rw [e, Nat.mul_succ], ?_⟩
    have e2 : m * (k - r) + m = m * (k - r + 1) := (Nat.mul_succ _ _).symm
    rw [e2]
    exact Nat.le_trans (Nat.mul_le_mul hm (by omega : k - r + 1 ≤ 24)) (by decide)
  go_enter Tryd.func135, Tryd.ntmps135
  go_wp2_with fail
  go_loopw [5, 1] (fun p q wr => ∃ (r N c1 : Nat) (A1 : Option Addr), r ≤ k ∧ q = .int .i64 (r : Int) ∧ p = .slice A1 N c1 ∧ Hid (N = m * (k - r)) ∧ Own 2 wr w.heap.size A1 N c1 (ints (repV (k - r) us)) ∧ Below w.heap.size w wr) (fun _ q _ => (intOf q).toNat)
  case atStart => exact ⟨k, 0, 0, _, Nat.le_refl _, rfl, rfl, Lib.hid (by rw [Nat.sub_self, Nat.mul_zero]), by rw [Nat.sub_self]; exact World.ownsRow_lit w #[] 0 (Nat.le_refl _) (by unfold maxLen; omega) rfl, below1 w _⟩
  case round =>
    obtain ⟨r, N, c1, A1, hr, rfl, rfl, HN, ho, hb⟩ := hrel
    by_cases hr0 : 0 < r
    · have hI : (0 : Int) < (r : Int) := by omega
      have HX := Lib.hid (HNX.out r hr0 hr)
      have hN : N + m ≤ 576 := by rw [HN.out]; exact HX.out.2.2
      have hml : N + m ≤ maxLen := by unfold maxLen; omega
      have hby : (N + m) * 8 ≤ 140737488355328 := by omega
      have hrd := h.below hb
      have hbase := hb.size
      go_wp2_with (at_builtin; refine wpList_append_rd rfl _ _ rfl w.heap.size A1 N c1 (repV (k - r) us) rfl ho B m d us rfl hrd hml hby hbase ?_; intro A6 c6 w6 o6 hg6; have HB6 : Hid (Below w.heap.size w w6) := Lib.hid (hb.grown hg6 hbase (fun k e9 => (ho.lt k (ownBlock_map' e9)).1)); rw [HX.out.1] at o6)
      have hsub : ((r : Int) - 1) = ((r - 1 : Nat) : Int) := by omega
      go_wp2_with fail
      go_roundw
      case rel => exact ⟨r - 1, N + m, c6, A6, by omega, by first | rfl | (rw [← hsub]; go_num) | go_num, rfl, Lib.hid (by rw [HN.out]; exact HX.out.2.1), o6, HB6.out⟩
      case measure => simp [intOf]; omega
    · have hrz : r = 0 := by omega
      subst hrz
      obtain rfl := HN.out
      go_wp2_with fail
      go_ret
      exact ⟨A1, c1, rfl, ho, hb⟩
set_option maxHeartbeats 1600000 in
theorem product_rep (A2 A1 T : Option Addr) (n c2 m d k cT : Nat) (rs vs : List Nat) (w : World) (hrd : Rd w A2 n (ints rs)) (h24 : n ≤ 24) (hl : rs.length = n) (hr : ∀ i, rs.getD i 0 < 2 ^ n) (hdep : Dep rs)
    (h2 : Rd w A1 m (ints vs)) (hm : m ≤ 24) (hk24 : k ≤ 24) (hvn : ∀ x, x ∈ vs → x < n) (hRT : RdT w T k (List.replicate k (A1, m, d, ints vs))) (hT : Tab w) :
    Calls Tryd.prog 100 #[.slice A2 n c2, .slice T k cT] w (LsPost w (ints (pwF rs vs k).1).length (ints (pwF rs vs k).1) (pwF rs vs k).2) := by
  have HLU : Hid (vs.length = m) := Lib.hid (by have := h2.1; rw [ints_len] at this; exact this)
  have HLR := Lib.hid hl
  have HR := Lib.hid hr
  have HDEP := Lib.hid hdep
  have HR63 : Hid (∀ i, rs.getD i 0 < 9223372036854775808) := Lib.hid fun i => lt63 h24 (hr i)
  have HCO := Lib.hid (concat_any T k cT _ (List.replicate k vs) w hRT (by omega) List.length_replicate (fun j t hj => by
    have hjk : j < k := by
      rcases Nat.lt_or_ge j k with h7 | h7
      · exact h7
      · rw [List.getElem?_eq_none (by rw [List.length_replicate]; exact h7)] at hj; cases hj
    rw [List.getElem?_replicate, if_pos hjk] at hj
    injection hj with hj
    subst hj
    rw [List.getD_eq_getElem?_getD, List.getElem?_replicate, if_pos hjk]; rfl) (fun j => by
    rw [List.getD_eq_getElem?_getD, List.getElem?_replicate]
    split
    · show vs.length ≤ 24; have := HLU.out; omega
    · exact Nat.zero_le _))
  rw [show (List.replicate k vs).flatten = repV k vs from rfl] at HCO
  have hlen : (repV k vs).length = m * k := by rw [repV_len, HLU.out]
  have HWM : Hid (∀ x, x ∈ repV k vs → x < n) := Lib.hid (fun x hx => hvn x (repV_mem hx))
  obtain ⟨W, hW⟩ : ∃ W, W = repV k vs := ⟨_, rfl⟩
  rw [← hW] at HCO hlen HWM
  obtain ⟨K, hK⟩ : ∃ K, K = W.length := ⟨_, rfl⟩
  rw [← hK] at HCO hlen
  have HLK : Hid (W.length = K) := Lib.hid hK.symm
  have HRK : Hid (∀ x, x < K → W.getD x 0 < n) := Lib.hid fun x hx => in_getD HWM.out x (by rw [HLK.out]; exact hx)
  by_cases hlong : 24 < K
  · have HA := Lib.hid (pwF_long rs vs k (by rw [HLU.out, ← hlen]; exact hlong))
    have hI : (24 : Int) < (K : Int) := by omega
    clear hK hlen hW hlong hl hr
    go_enter Tryd.func100, Tryd.ntmps100
    go_wp2_with fail
    refine HCO.out.mono ?_
    rintro e w1 ⟨A3, c3, rfl, o3, hb⟩
    go_wp2_with fail
    go_ret2
    rw [HA.out]
    exact LsPost.of_ans (ans_no 3 hb)
  · have HA : Hid (pwF rs vs k = (nfR rs W, 0)) := Lib.hid (by rw [hW]; exact pwF_ok rs vs k (by rw [HLU.out, ← hlen]; exact hlong))
    have hK24 : K ≤ 24 := by omega
    have hI : (K : Int) ≤ 24 := by omega
    clear hK hlen hW hlong hl hr
    go_enter Tryd.func100, Tryd.ntmps100
    go_wp2_with fail
    refine HCO.out.mono ?_
    rintro e w1 ⟨A3, c3, rfl, o3, hb⟩
    have hrd1 := hrd.below hb
    have hW1 := o3.rd
    have hT1 := hT.below hb
    have HT1 := Lib.hid (traceOf_any A2 A3 n K c2 c3 rs W _ hrd1 hW1 hK24 h24 HRK.out HR63.out hT1)
    go_wp2_with fail
    refine HT1.out.mono ?_
    rintro e v1 ⟨E1, g1, F1, k1, es1, rfl, hp, hs, h1, h2, -, -, ha1⟩
    have HN1 := Lib.hid (nf_from E1 F1 g1 k1 K n rs W es1 v1 HLR.out HR.out HDEP.out HLK.out HRK.out hK24 hp hs h1 h2 ((hT1).below ha1))
    clear hp hs h1 h2
    go_wp2_with fail
    refine HN1.out.mono ?_
    rintro e u1 ⟨G1, l1, rfl, ho1, hb1⟩
    go_wp2_with fail
    go_ret2
    rw [HA.out]
    have HZ := hb.trans (ha1.mono hb.size)
    exact LsPost.of_ans (ans_yes ho1.len (ho1.mono HZ.size) (HZ.trans (hb1.mono HZ.size)))
theorem wadd_id (P : Nat) (h : P ≤ 24 * 24) : wrap64 (P : Int) = (P : Int) := by unfold wrap64; omega
end Go.Proofs.YtdafdffmkjhhcaaDoor
