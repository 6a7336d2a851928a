/-
  PastOf, ConcurrentWith: both sides.
-/
import Derived.Test.YtpcgjldcdjlenaaDoorOrA
namespace Go.Proofs.YtpcgjldcdjlenaaDoor
open Go Go.RowKit
set_option linter.unusedVariables false
set_option maxRecDepth 100000

def pAns (f : List Nat → List Nat → Nat → Nat) (L : Int) (xs us : List Int) (a : Int) : Int × Int := if wCode L xs us = 0 then (if 0 ≤ a ∧ a < (us.length : Int) then (((f (xs.map Int.toNat) (us.map Int.toNat) a.toNat : Nat) : Int), 0) else (0, 2)) else (0, wCode L xs us)
theorem pAns_code (f : List Nat → List Nat → Nat → Nat) (L : Int) (xs us : List Int) (a : Int) (h : ¬ wCode L xs us = 0) : pAns f L xs us a = (0, wCode L xs us) := by unfold pAns; rw [if_neg h]
theorem pAns_out (f : List Nat → List Nat → Nat → Nat) (L : Int) (xs us : List Int) (a : Int) (h : wCode L xs us = 0) (h2 : ¬ (0 ≤ a ∧ a < (us.length : Int))) : pAns f L xs us a = (0, 2) := by unfold pAns; rw [if_pos h, if_neg h2]
theorem pAns_yes (f : List Nat → List Nat → Nat → Nat) (L : Int) (rs us : List Nat) (k : Nat) (h : wCode L (ints rs) (ints us) = 0) (h2 : k < us.length) : pAns f L (ints rs) (ints us) (k : Int) = (((f rs us k : Nat) : Int), 0) := by
  unfold pAns; rw [if_pos h, if_pos ⟨by omega, by rw [ints_len]; omega⟩, ints_toNat, ints_toNat]; rfl
def paR (rs us : List Nat) (k : Nat) : Nat := dnW (RDep rs) (nfR rs us) k
def coR (rs us : List Nat) (k : Nat) : Nat := concM (RDep rs) (nfR rs us) us.length k
set_option maxHeartbeats 1600000 in
theorem l01Below_any (A : Option Addr) (n c k : Nat) (rs : List Nat) (w : World) (h : Rd w A n (ints rs)) (hn : n ≤ 24) (hr : ∀ i, rs.getD i 0 < 2 ^ n) (hk : k ≤ 62) :
    Calls Tryd.prog 75 #[.slice A n c, .int .i64 (k : Int)] w fun e w' => e = .returned (.int .i64 ((colM rs k rs.length : Nat) : Int)) ∧ w = w' := by
  have hlen : rs.length = n := by have := h.1; rw [ints_len] at this; exact this
  have HL := Lib.hid hlen
  clear hlen
  go_enter Tryd.func75, Tryd.ntmps75
  go_wp2
  go_loop [5, 6] (fun q i => ∃ t : Nat, t ≤ n ∧ i = .int .i64 t ∧ q = .int .i64 (colM rs k t : Nat)) (fun _ i => n - (intOf i).toNat)
  case atStart => exact ⟨0, Nat.zero_le _, rfl, rfl⟩
  case round =>
    obtain ⟨t, ht, rfl, rfl⟩ := hrel
    have hq := lt63 hn (colM_lt rs k t n ht)
    by_cases hlt2 : t < n
    · obtain ⟨b, off, x, rfl, hbs, hx, hcx⟩ := h.at_ hlt2
      have hx2 := ints_getD rs t (by rw [HL.out]; exact hlt2)
      rw [hx2] at hx
      injection hx with hx
      subst hx
      have ht62 : t ≤ 62 := by omega
      have hrt := lt63 hn (hr t)
      have e1 : colM rs k (t + 1) = if (rs.getD t 0).testBit k = true then colM rs k t ||| 2 ^ t else colM rs k t := rfl
      obtain ⟨S, hS⟩ : ∃ S, S = colM rs k t := ⟨_, rfl⟩
      obtain ⟨D, hD⟩ : ∃ D, D = rs.getD t 0 := ⟨_, rfl⟩
      rw [← hS] at hq ⊢
      rw [← hS, ← hD] at e1
      rw [← hD] at hcx hrt
      have HE := Lib.hid e1
      clear e1 hS hD hx2
      cases hb : D.testBit k
      · have HB := Lib.hid hb
        clear hb
        go_wp2_with (go_at_call 93; refine (bit_any D k hrt hk _).mono ?_; rintro e w' ⟨rfl, rfl⟩; rw [HB.out])
        go_round
        case rel => exact ⟨t + 1, by omega, by go_num, by rw [HE.out, if_neg (by rw [HB.out]; decide)]⟩
        case measure => simp [intOf]; omega
      · have HB := Lib.hid hb
        clear hb
        go_wp2_with (first | (go_at_call 93; refine (bit_any D k hrt hk _).mono ?_; rintro e w' ⟨rfl, rfl⟩; rw [HB.out]) | (go_at_call 79; refine (one_any t ht62 _).mono ?_; rintro e w' ⟨rfl, rfl⟩))
        go_round
        case rel => exact ⟨t + 1, by omega, by go_num, by rw [HE.out, if_pos HB.out, or_p2 _ _ hq ht62]⟩
        case measure => simp [intOf]; omega
    · obtain rfl : t = n := by omega
      go_wp2
      go_ret
      exact ⟨by rw [HL.out]; rfl, rfl⟩
set_option maxHeartbeats 1600000 in
theorem positionsWith_no (L : Int) (A : Option Addr) (n c : Nat) (xs : List Int) (A1 : Option Addr) (m d : Nat) (us : List Int) (a : Int) (w : World) (h : Rd w A n xs) (hwf : Wf xs) (hL1 : -9223372036854775808 ≤ L) (hL2 : L ≤ 9223372036854775807) (hn : n ≤ maxLen) (h2 : Rd w A1 m us) (hwf2 : Wf us) (hm : m ≤ maxLen) (hT : Tab w) (hc : ¬ wCode L xs us = 0) :
    Calls Tryd.prog 76 #[.agg #[.int .i64 L, .slice A n c], .slice A1 m d, .int .i64 a] w (fun e w' => e = .returned (.tuple #[.pointer none, .int .i64 (wCode L xs us)]) ∧ Below w.heap.size w w') := by
  have HB := Lib.hid (below1 w (.cells #[.int .i64 L, .slice A n c] 28))
  have x0 := box_new 28 w L A n c
  have HPI := Lib.hid (positionsIn_no L A n c xs A1 m d us _ (h.below HB.out) hwf hL1 hL2 hn (h2.below HB.out) hwf2 hm (hT.below HB.out) hc)
  obtain ⟨C, hC⟩ : ∃ C, C = wCode L xs us := ⟨_, rfl⟩
  rw [← hC] at hc HPI ⊢
  have hq1 : (C != 0) = true := by simpa using hc
  have hq2 : (C == 0) = false := by simpa using hc
  clear hC hc
  go_enter Tryd.func76, Tryd.ntmps76
  go_wp2_with fail
  refine HPI.out.mono ?_
  rintro e w1 ⟨rfl, hb⟩
  go_wp2_with fail
  go_ret2
  exact ⟨rfl, HB.out.trans (hb.mono HB.out.size)⟩
set_option maxHeartbeats 1600000 in
theorem positionsWith_out (A : Option Addr) (n c : Nat) (rs : List Nat) (A1 : Option Addr) (m d : Nat) (vs : List Nat) (a : Int) (w : World) (h : Rd w A n (ints rs)) (hwf : Wf (ints rs)) (h8 : n ≤ 8) (hr : ∀ i, rs.getD i 0 < 2 ^ n) (hrel : relB (ints rs) = true) (hl : rs.length = n) (hd : depB rs = true) (h2 : Rd w A1 m (ints vs)) (hm24 : m ≤ 24) (hvn : ∀ u, u ∈ vs → u < n) (hu : wordB (n : Int) (ints vs) = true) (hT : Tab w) (ha : ¬ (0 ≤ a ∧ a < (m : Int))) :
    Calls Tryd.prog 76 #[.agg #[.int .i64 (n : Int), .slice A n c], .slice A1 m d, .int .i64 a] w (fun e w' => e = .returned (.tuple #[.pointer none, .int .i64 2]) ∧ Below w.heap.size w w') := by
  have HB := Lib.hid (below1 w (.cells #[.int .i64 (n : Int), .slice A n c] 28))
  have x0 := box_new 28 w (n : Int) A n c
  have HPI := Lib.hid (positionsIn_yes A n c rs A1 m d vs _ (h.below HB.out) hwf h8 hr hrel hl hd (h2.below HB.out) hm24 hvn hu (hT.below HB.out))
  clear h hwf hr hrel hl hd h2 hvn hu hT
  by_cases h0 : a < 0
  · have hq : decide (a < 0) = true := decide_eq_true h0
    clear ha
    go_enter Tryd.func76, Tryd.ntmps76
    go_wp2_with fail
    refine HPI.out.mono ?_
    rintro e w1 ⟨g, A5, c5, rfl, hg, x, hrd, hb⟩
    go_wp2_with fail
    go_ret2
    exact ⟨rfl, HB.out.trans (hb.mono HB.out.size)⟩
  · have hq : decide (a < 0) = false := decide_eq_false h0
    have h1 : (m : Int) ≤ a := by omega
    have hq2 : decide ((m : Int) ≤ a) = true := decide_eq_true h1
    clear ha
    go_enter Tryd.func76, Tryd.ntmps76
    go_wp2_with fail
    refine HPI.out.mono ?_
    rintro e w1 ⟨g, A5, c5, rfl, hg, x, hrd, hb⟩
    have z0 := x.c0
    go_wp2_with fail
    go_ret2
    exact ⟨rfl, HB.out.trans (hb.mono HB.out.size)⟩
set_option maxHeartbeats 1600000 in
theorem positionsWith_yes (A : Option Addr) (n c : Nat) (rs : List Nat) (A1 : Option Addr) (m d : Nat) (vs : List Nat) (k : Nat) (w : World) (h : Rd w A n (ints rs)) (hwf : Wf (ints rs)) (h8 : n ≤ 8) (hr : ∀ i, rs.getD i 0 < 2 ^ n) (hrel : relB (ints rs) = true) (hl : rs.length = n) (hd : depB rs = true) (h2 : Rd w A1 m (ints vs)) (hm24 : m ≤ 24) (hvn : ∀ u, u ∈ vs → u < n) (hu : wordB (n : Int) (ints vs) = true) (hT : Tab w) (hk : k < m) :
    Calls Tryd.prog 76 #[.agg #[.int .i64 (n : Int), .slice A n c], .slice A1 m d, .int .i64 (k : Int)] w (PosPost (RDep rs) (nfR rs vs) m w) := by
  have HB := Lib.hid (below1 w (.cells #[.int .i64 (n : Int), .slice A n c] 28))
  have x0 := box_new 28 w (n : Int) A n c
  have HPI := Lib.hid (positionsIn_yes A n c rs A1 m d vs _ (h.below HB.out) hwf h8 hr hrel hl hd (h2.below HB.out) hm24 hvn hu (hT.below HB.out))
  clear h hwf hr hrel hl hd h2 hvn hu hT
  have hq : decide ((k : Int) < 0) = false := decide_eq_false (by omega)
  have hq2 : decide (m ≤ k) = false := decide_eq_false (by omega)
  go_enter Tryd.func76, Tryd.ntmps76
  go_wp2_with fail
  refine HPI.out.mono ?_
  rintro e w1 ⟨g, A5, c5, rfl, hg, x, hrd, hb⟩
  have z0 := x.c0
  go_wp2_with fail
  go_ret2
  exact ⟨g, A5, c5, rfl, Nat.le_trans HB.out.size hg, x, hrd, HB.out.trans (hb.mono HB.out.size)⟩
theorem oall_any (g m c : Nat) (A : Option Addr) (f h : Nat → Nat) (w : World) (hx : w.cell? ⟨g, 0, none⟩ = some (.slice A m c)) (hm : m ≤ 24) :
    Calls Tryd.prog 104 #[.pointer (some ⟨g, 0, none⟩)] w fun e w' => e = .returned (.int .i64 ((2 ^ m - 1 : Nat) : Int)) ∧ w = w' := by
  obtain ⟨P, hP⟩ : ∃ P, P = 2 ^ m - 1 := ⟨_, rfl⟩
  have HF : Hid (∀ ww : World, Calls Tryd.prog 86 #[.int .i64 (m : Int)] ww fun e w' => e = .returned (.int .i64 (P : Int)) ∧ ww = w') := Lib.hid fun ww => by rw [hP]; exact firstNumbers_any m (by omega) ww
  rw [← hP]
  clear hP
  go_enter Tryd.func104, Tryd.ntmps104
  go_wp2_with fail
  refine (HF.out _).mono ?_
  rintro e w' ⟨rfl, rfl⟩
  go_wp2_with fail
  go_ret
  exact ⟨rfl, rfl⟩
set_option maxHeartbeats 1600000 in
theorem conc_any (g m c k : Nat) (A : Option Addr) (D : Nat → Nat → Bool) (us : List Nat) (w : World) (x : OBox w g A m c (dnF D us m) (upW D us m)) (hm : m ≤ 24) (hk : k < m) :
    Calls Tryd.prog 77 #[.pointer (some ⟨g, 0, none⟩), .int .i64 (k : Int)] w fun e w' => e = .returned (.int .i64 ((concM D us m k : Nat) : Int)) ∧ Below w.heap.size w w' := by
  have h24 := p24 m hm
  have hp := p2_pos m
  have hc := x.c0
  have hf := x.cf k (by omega)
  have hh := x.ch k (by omega)
  rw [dnF_at _ _ _ _ hk] at hf
  obtain ⟨P, hP⟩ : ∃ P, P = dnW D us k := ⟨_, rfl⟩
  obtain ⟨Q, hQ⟩ : ∃ Q, Q = upW D us m k := ⟨_, rfl⟩
  obtain ⟨F, hF⟩ : ∃ F, F = 2 ^ m - 1 := ⟨_, rfl⟩
  rw [← hP] at hf
  rw [← hQ] at hh
  have hP24 : P < 2 ^ m := by rw [hP]; exact dnW_lt _ _ _ _ hk
  have hQ24 : Q < 2 ^ m := by rw [hQ]; exact upW_lt _ _ _ _
  have hor := i64_or_nat P Q (by omega) (by omega)
  have hor24 : P ||| Q < 2 ^ m := Nat.or_lt_two_pow hP24 hQ24
  obtain ⟨R, hR⟩ : ∃ R, R = P ||| Q := ⟨_, rfl⟩
  rw [← hR] at hor hor24
  obtain ⟨V, hV⟩ : ∃ V, V = concM D us m k := ⟨_, rfl⟩
  have hdv : dif F R = V := by rw [hV, hF, hR, hP, hQ]; rfl
  have HM : Hid (∀ (ww : World) (j : Nat), Calls Tryd.prog 105 #[.int .i64 (F : Int), .int .i64 (R : Int)] (ww.drewN j) fun e w'' => e = .returned (.int .i64 (V : Int)) ∧ ∃ m', w'' = ww.drewN m') := Lib.hid fun ww j => Calls.quiet_of_same ((minus_nat F R (by omega) (by omega) _).mono fun _ _ ⟨he, hw⟩ => ⟨by rw [← hdv]; exact he, hw.symm⟩)
  have HA : Hid (∀ (j : Nat), Calls Tryd.prog 104 #[.pointer (some ⟨g, 0, none⟩)] (w.drewN j) fun e w'' => e = .returned (.int .i64 (F : Int)) ∧ ∃ m', w'' = w.drewN m') := Lib.hid fun j => Calls.quiet_of_same ((oall_any g m c A (fun _ => 0) (fun _ => 0) _ (show (w.drewN j).cell? _ = _ from hc) hm).mono fun _ _ ⟨he, hw⟩ => ⟨by rw [hF]; exact he, hw.symm⟩)
  have hk24 : (k : Int) < 24 := by omega
  have hk0 : (0 : Int) ≤ (k : Int) := by omega
  rw [← hV]
  clear hP hQ hF hR hV hdv hP24 hQ24 hor24 h24 hp
  go_enter Tryd.func77, Tryd.ntmps77
  go_wp2_with fail
  go_quiet ((first | (go_at_call 104; exact HA.out _) | (go_at_call 105; exact HM.out _ _)))
  go_wp2_with fail
  go_ret
  exact ⟨rfl, by first | exact below_drewN (Below.refl _ _) _ | exact (Below.refl _ _).drew⟩
def paAns (L : Int) (xs us : List Int) (a : Int) : Int × Int := pAns paR L xs us a
def coAns (L : Int) (xs us : List Int) (a : Int) : Int × Int := pAns coR L xs us a
set_option maxHeartbeats 3200000 in
theorem implPastOf (L : Int) (A : Option Addr) (n c : Nat) (xs : List Int) (A1 : Option Addr) (m d : Nat) (us : List Int) (a : Int) (w : World) (h : Rd w A n xs) (hwf : Wf xs) (hL1 : -9223372036854775808 ≤ L) (hL2 : L ≤ 9223372036854775807) (hn : n ≤ maxLen) (h2 : Rd w A1 m us) (hwf2 : Wf us) (hm : m ≤ maxLen) (ha1 : -9223372036854775808 ≤ a) (ha2 : a ≤ 9223372036854775807) (hT : Tab w) :
    Calls Tryd.prog 40 #[.agg #[.int .i64 L, .slice A n c], .slice A1 m d, .int .i64 a] w (fun e w' => e = .returned (.tuple #[.int .i64 (paAns L xs us a).1, .int .i64 (paAns L xs us a).2]) ∧ Below w.heap.size w w') := by
  have HB := Lib.hid (below1 w (.cells #[.int .i64 L, .slice A n c] 28))
  have x0 := box_new 28 w L A n c
  have hh := h.below HB.out
  have hh2 := h2.below HB.out
  have hT1 := hT.below HB.out
  by_cases hc : wCode L xs us = 0
  · obtain ⟨ha, hu⟩ := wCode_zero hc
    obtain ⟨rs, rfl, rfl, h8, hr, hrel, hl, hd, _⟩ := alphB_nats L xs n h.1 ha
    obtain ⟨vs, rfl, hv24, hvn⟩ := wordB_nats n us hu
    have hm1 : vs.length = m := by have := h2.1; rw [ints_len] at this; exact this
    have hm24 : m ≤ 24 := by omega
    by_cases hin : 0 ≤ a ∧ a < (m : Int)
    · obtain ⟨k, rfl⟩ := Int.eq_ofNat_of_zero_le hin.1
      have hkm : k < m := by omega
      rw [show paAns (n : Int) (ints rs) (ints vs) (k : Int) = _ from pAns_yes _ (n : Int) rs vs k hc (by omega)]
      have HPI := Lib.hid (positionsWith_yes A n c rs A1 m d vs k _ hh hwf h8 hr hrel hl hd hh2 hm24 hvn hu hT1 hkm)
      have HVL := Lib.hid hm1
      obtain ⟨nf, hnf⟩ : ∃ nf, nf = nfR rs vs := ⟨_, rfl⟩
      have HNF := Lib.hid hnf
      rw [← hnf] at HPI
      rw [show paR rs vs k = dnW (RDep rs) nf k from by unfold paR; rw [← HNF.out]]
      obtain ⟨P, hP⟩ : ∃ P, P = dnW (RDep rs) nf k := ⟨_, rfl⟩
      rw [← hP]
      have HP := Lib.hid hP
      clear ha hu hl hm1 hd hr hrel hc hvn hwf hwf2 hh hh2 x0 h h2 hnf hP
      go_enter Tryd.func40, Tryd.ntmps40
      go_wp2_with fail
      refine HPI.out.mono ?_
      rintro e w1 ⟨g, A5, c5, rfl, hg, x, hrd, hb⟩
      have hcf := x.cf k (by omega)
      rw [dnF_at _ _ _ _ hkm, ← HP.out] at hcf
      have hk24 : (k : Int) < 24 := by omega
      go_wp2_with fail
      go_ret2
      exact ⟨rfl, HB.out.trans (hb.mono HB.out.size)⟩
    · rw [show paAns (n : Int) (ints rs) (ints vs) a = _ from pAns_out _ (n : Int) (ints rs) (ints vs) a hc (by rw [ints_len]; omega)]
      have HPI := Lib.hid (positionsWith_out A n c rs A1 m d vs a _ hh hwf h8 hr hrel hl hd hh2 hm24 hvn hu hT1 hin)
      clear ha hu hl hm1 hd hr hrel hc hvn hwf hwf2 hh hh2 x0 h h2 hin
      go_enter Tryd.func40, Tryd.ntmps40
      go_wp2_with fail
      refine HPI.out.mono ?_
      rintro e w1 ⟨rfl, hb⟩
      go_wp2_with fail
      go_ret2
      exact ⟨rfl, HB.out.trans (hb.mono HB.out.size)⟩
  · rw [show paAns L xs us a = _ from pAns_code _ L xs us a hc]
    have HPI := Lib.hid (positionsWith_no L A n c xs A1 m d us a _ hh hwf hL1 hL2 hn hh2 hwf2 hm hT1 hc)
    obtain ⟨C, hC⟩ : ∃ C, C = wCode L xs us := ⟨_, rfl⟩
    rw [← hC] at hc HPI ⊢
    have hq1 : (C != 0) = true := by simpa using hc
    have hq2 : (C == 0) = false := by simpa using hc
    clear hC hc
    go_enter Tryd.func40, Tryd.ntmps40
    go_wp2_with fail
    refine HPI.out.mono ?_
    rintro e w1 ⟨rfl, hb⟩
    go_wp2_with fail
    go_ret2
    exact ⟨rfl, HB.out.trans (hb.mono HB.out.size)⟩
set_option maxHeartbeats 3200000 in
theorem implConcurrentWith (L : Int) (A : Option Addr) (n c : Nat) (xs : List Int) (A1 : Option Addr) (m d : Nat) (us : List Int) (a : Int) (w : World) (h : Rd w A n xs) (hwf : Wf xs) (hL1 : -9223372036854775808 ≤ L) (hL2 : L ≤ 9223372036854775807) (hn : n ≤ maxLen) (h2 : Rd w A1 m us) (hwf2 : Wf us) (hm : m ≤ maxLen) (ha1 : -9223372036854775808 ≤ a) (ha2 : a ≤ 9223372036854775807) (hT : Tab w) :
    Calls Tryd.prog 42 #[.agg #[.int .i64 L, .slice A n c], .slice A1 m d, .int .i64 a] w (fun e w' => e = .returned (.tuple #[.int .i64 (coAns L xs us a).1, .int .i64 (coAns L xs us a).2]) ∧ Below w.heap.size w w') := by
  have HB := Lib.hid (below1 w (.cells #[.int .i64 L, .slice A n c] 28))
  have x0 := box_new 28 w L A n c
  have hh := h.below HB.out
  have hh2 := h2.below HB.out
  have hT1 := hT.below HB.out
  by_cases hc : wCode L xs us = 0
  · obtain ⟨ha, hu⟩ := wCode_zero hc
    obtain ⟨rs, rfl, rfl, h8, hr, hrel, hl, hd, _⟩ := alphB_nats L xs n h.1 ha
    obtain ⟨vs, rfl, hv24, hvn⟩ := wordB_nats n us hu
    have hm1 : vs.length = m := by have := h2.1; rw [ints_len] at this; exact this
    have hm24 : m ≤ 24 := by omega
    by_cases hin : 0 ≤ a ∧ a < (m : Int)
    · obtain ⟨k, rfl⟩ := Int.eq_ofNat_of_zero_le hin.1
      have hkm : k < m := by omega
      rw [show coAns (n : Int) (ints rs) (ints vs) (k : Int) = _ from pAns_yes _ (n : Int) rs vs k hc (by omega)]
      have HPI := Lib.hid (positionsWith_yes A n c rs A1 m d vs k _ hh hwf h8 hr hrel hl hd hh2 hm24 hvn hu hT1 hkm)
      have HVL := Lib.hid hm1
      obtain ⟨nf, hnf⟩ : ∃ nf, nf = nfR rs vs := ⟨_, rfl⟩
      have HNF := Lib.hid hnf
      rw [← hnf] at HPI
      rw [show coR rs vs k = concM (RDep rs) nf m k from by unfold coR; rw [← HNF.out, HVL.out]]
      obtain ⟨P, hP⟩ : ∃ P, P = concM (RDep rs) nf m k := ⟨_, rfl⟩
      rw [← hP]
      have HP := Lib.hid hP
      clear ha hu hl hm1 hd hr hrel hc hvn hwf hwf2 hh hh2 x0 h h2 hnf hP
      go_enter Tryd.func42, Tryd.ntmps42
      go_wp2_with fail
      refine HPI.out.mono ?_
      rintro e w1 ⟨g, A5, c5, rfl, hg, x, hrd, hb⟩
      have HCO := Lib.hid (conc_any g m c5 k A5 _ _ w1 x hm24 hkm)
      rw [← HP.out] at HCO
      have HB1 := Lib.hid (HB.out.trans (hb.mono HB.out.size))
      clear x hrd hg hb
      go_wp2_with fail
      refine HCO.out.mono ?_
      rintro e w2 ⟨rfl, hb2⟩
      go_wp2_with fail
      go_ret2
      exact ⟨rfl, HB1.out.trans (hb2.mono HB1.out.size)⟩
    · rw [show coAns (n : Int) (ints rs) (ints vs) a = _ from pAns_out _ (n : Int) (ints rs) (ints vs) a hc (by rw [ints_len]; omega)]
      have HPI := Lib.hid (positionsWith_out A n c rs A1 m d vs a _ hh hwf h8 hr hrel hl hd hh2 hm24 hvn hu hT1 hin)
      clear ha hu hl hm1 hd hr hrel hc hvn hwf hwf2 hh hh2 x0 h h2 hin
      go_enter Tryd.func42, Tryd.ntmps42
      go_wp2_with fail
      refine HPI.out.mono ?_
      rintro e w1 ⟨rfl, hb⟩
      go_wp2_with fail
      go_ret2
      exact ⟨rfl, HB.out.trans (hb.mono HB.out.size)⟩
  · rw [show coAns L xs us a = _ from pAns_code _ L xs us a hc]
    have HPI := Lib.hid (positionsWith_no L A n c xs A1 m d us a _ hh hwf hL1 hL2 hn hh2 hwf2 hm hT1 hc)
    obtain ⟨C, hC⟩ : ∃ C, C = wCode L xs us := ⟨_, rfl⟩
    rw [← hC] at hc HPI ⊢
    have hq1 : (C != 0) = true := by simpa using hc
    have hq2 : (C == 0) = false := by simpa using hc
    clear hC hc
    go_enter Tryd.func42, Tryd.ntmps42
    go_wp2_with fail
    refine HPI.out.mono ?_
    rintro e w1 ⟨rfl, hb⟩
    go_wp2_with fail
    go_ret2
    exact ⟨rfl, HB.out.trans (hb.mono HB.out.size)⟩
set_option maxHeartbeats 3200000 in
theorem specPastOf (L : Int) (A : Option Addr) (n c : Nat) (xs : List Int) (A1 : Option Addr) (m d : Nat) (us : List Int) (a : Int) (w : World) (h : Rd w A n xs) (hwf : Wf xs) (hL1 : -9223372036854775808 ≤ L) (hL2 : L ≤ 9223372036854775807) (hn : n ≤ maxLen) (h2 : Rd w A1 m us) (hwf2 : Wf us) (hm : m ≤ maxLen) (ha1 : -9223372036854775808 ≤ a) (ha2 : a ≤ 9223372036854775807) :
    Calls Tryd.prog 39 #[.agg #[.int .i64 L, .slice A n c], .slice A1 m d, .int .i64 a] w (fun e w' => e = .returned (.tuple #[.int .i64 (paAns L xs us a).1, .int .i64 (paAns L xs us a).2]) ∧ Below w.heap.size w w') := by
  have HB := Lib.hid (below1 w (.cells #[.int .i64 L, .slice A n c] 28))
  have x0 := box_new 28 w L A n c
  have hh := h.below HB.out
  have hh2 := h2.below HB.out
  by_cases hc : wCode L xs us = 0
  · obtain ⟨ha, hu⟩ := wCode_zero hc
    obtain ⟨rs, rfl, rfl, h8, hr, hrel, hl, hd, _⟩ := alphB_nats L xs n h.1 ha
    obtain ⟨vs, rfl, hv24, hvn⟩ := wordB_nats n us hu
    have hm1 : vs.length = m := by have := h2.1; rw [ints_len] at this; exact this
    have hm24 : m ≤ 24 := by omega
    have HIN : Hid (∀ ww : World, Calls Tryd.prog 57 #[.int .i64 a, .int .i64 0, .int .i64 ((m : Int) - 1)] ww fun e w' => e = .returned (.bool (decide (0 ≤ a ∧ a ≤ (m : Int) - 1))) ∧ ww = w') := Lib.hid fun ww => in_any a 0 ((m : Int) - 1) ww
    by_cases hin : 0 ≤ a ∧ a < (m : Int)
    · obtain ⟨k, rfl⟩ := Int.eq_ofNat_of_zero_le hin.1
      have hkm : k < m := by omega
      rw [show paAns (n : Int) (ints rs) (ints vs) (k : Int) = _ from pAns_yes _ (n : Int) rs vs k hc (by omega)]
      have HPI := Lib.hid (l04Code_yes A n c rs A1 m d vs _ hh h8 hr hl hh2 hm24 hvn hc)
      have HDE : Hid (decide ((0:Int) ≤ (k : Int) ∧ (k : Int) ≤ (m : Int) - 1) = true) := Lib.hid (decide_eq_true ⟨by omega, by omega⟩)
      obtain ⟨nf, hnf⟩ : ∃ nf, nf = nfR rs vs := ⟨_, rfl⟩
      have HNF := Lib.hid hnf
      rw [← hnf] at HPI
      rw [show paR rs vs k = dnW (RDep rs) nf k from by unfold paR; rw [← HNF.out]]
      obtain ⟨P, hP⟩ : ∃ P, P = dnW (RDep rs) nf k := ⟨_, rfl⟩
      rw [← hP]
      have HP := Lib.hid hP
      clear ha hu hl hm1 hd hr hrel hc hvn hwf hwf2 hh hh2 h h2 hnf hin hP
      go_enter Tryd.func39, Tryd.ntmps39
      go_wp2_with fail
      refine HPI.out.mono ?_
      rintro e w1 ⟨A5, c5, A6, c6, rfl, ho5, ho6, hb⟩
      have HBE := Lib.hid (l01Below_any A6 m c6 k (ordM (RDep rs) nf m) w1 ho6.rd hm24 (ordM_lt _ _ _) (by omega))
      rw [ordM_len, col_ord _ _ _ _ hm24 hkm, ← HP.out] at HBE
      have HB1 := Lib.hid (HB.out.trans (hb.mono HB.out.size))
      clear ho5 ho6 hb
      go_wp2_with fail
      refine (HIN.out _).mono ?_
      rintro e w' ⟨rfl, rfl⟩
      rw [HDE.out]
      go_wp2_with fail
      refine HBE.out.mono ?_
      rintro e w' ⟨rfl, rfl⟩
      go_wp2_with fail
      go_ret2
      exact ⟨rfl, HB1.out⟩
    · rw [show paAns (n : Int) (ints rs) (ints vs) a = _ from pAns_out _ (n : Int) (ints rs) (ints vs) a hc (by rw [ints_len]; omega)]
      have HPI := Lib.hid (l04Code_yes A n c rs A1 m d vs _ hh h8 hr hl hh2 hm24 hvn hc)
      have HDE : Hid (decide ((0:Int) ≤ a ∧ a ≤ (m : Int) - 1) = false) := Lib.hid (decide_eq_false (by omega))
      clear ha hu hl hm1 hd hr hrel hc hvn hwf hwf2 hh hh2 h h2 hin
      go_enter Tryd.func39, Tryd.ntmps39
      go_wp2_with fail
      refine HPI.out.mono ?_
      rintro e w1 ⟨A5, c5, A6, c6, rfl, ho5, ho6, hb⟩
      go_wp2_with fail
      refine (HIN.out _).mono ?_
      rintro e w' ⟨rfl, rfl⟩
      rw [HDE.out]
      go_wp2_with fail
      go_ret2
      exact ⟨rfl, HB.out.trans (hb.mono HB.out.size)⟩
  · rw [show paAns L xs us a = _ from pAns_code _ L xs us a hc]
    have HPI := Lib.hid (l04Code_no L A n c xs A1 m d us _ hh hn hh2 hm hc)
    obtain ⟨C, hC⟩ : ∃ C, C = wCode L xs us := ⟨_, rfl⟩
    rw [← hC] at hc HPI ⊢
    have hq1 : (C != 0) = true := by simpa using hc
    have hq2 : (C == 0) = false := by simpa using hc
    clear hC hc
    go_enter Tryd.func39, Tryd.ntmps39
    go_wp2_with fail
    refine HPI.out.mono ?_
    rintro e w1 ⟨rfl, hb⟩
    go_wp2_with fail
    go_ret2
    exact ⟨rfl, HB.out.trans (hb.mono HB.out.size)⟩
set_option maxHeartbeats 3200000 in
theorem specConcurrentWith (L : Int) (A : Option Addr) (n c : Nat) (xs : List Int) (A1 : Option Addr) (m d : Nat) (us : List Int) (a : Int) (w : World) (h : Rd w A n xs) (hwf : Wf xs) (hL1 : -9223372036854775808 ≤ L) (hL2 : L ≤ 9223372036854775807) (hn : n ≤ maxLen) (h2 : Rd w A1 m us) (hwf2 : Wf us) (hm : m ≤ maxLen) (ha1 : -9223372036854775808 ≤ a) (ha2 : a ≤ 9223372036854775807) :
    Calls Tryd.prog 41 #[.agg #[.int .i64 L, .slice A n c], .slice A1 m d, .int .i64 a] w (fun e w' => e = .returned (.tuple #[.int .i64 (coAns L xs us a).1, .int .i64 (coAns L xs us a).2]) ∧ Below w.heap.size w w') := by
  have HB := Lib.hid (below1 w (.cells #[.int .i64 L, .slice A n c] 28))
  have x0 := box_new 28 w L A n c
  have hh := h.below HB.out
  have hh2 := h2.below HB.out
  have HPA := Lib.hid (specPastOf L A n c xs A1 m d us a _ hh hwf hL1 hL2 hn hh2 hwf2 hm ha1 ha2)
  by_cases hc : wCode L xs us = 0
  · obtain ⟨ha, hu⟩ := wCode_zero hc
    obtain ⟨rs, rfl, rfl, h8, hr, hrel, hl, hd, _⟩ := alphB_nats L xs n h.1 ha
    obtain ⟨vs, rfl, hv24, hvn⟩ := wordB_nats n us hu
    have hm1 : vs.length = m := by have := h2.1; rw [ints_len] at this; exact this
    have hm24 : m ≤ 24 := by omega
    by_cases hin : 0 ≤ a ∧ a < (m : Int)
    · obtain ⟨k, rfl⟩ := Int.eq_ofNat_of_zero_le hin.1
      have hkm : k < m := by omega
      rw [show coAns (n : Int) (ints rs) (ints vs) (k : Int) = _ from pAns_yes _ (n : Int) rs vs k hc (by omega)]
      rw [show paAns (n : Int) (ints rs) (ints vs) (k : Int) = _ from pAns_yes _ (n : Int) rs vs k hc (by omega)] at HPA
      have HPI : Hid (∀ ww : World, Below w.heap.size w ww → Calls Tryd.prog 71 #[.agg #[.int .i64 (n : Int), .slice A n c], .slice A1 m d] ww (CodePost (RDep rs) (nfR rs vs) m ww)) := Lib.hid fun ww hw => l04Code_yes A n c rs A1 m d vs ww (h.below hw) h8 hr hl (h2.below hw) hm24 hvn hc
      obtain ⟨nf, hnf⟩ : ∃ nf, nf = nfR rs vs := ⟨_, rfl⟩
      have HNF := Lib.hid hnf
      rw [← hnf] at HPI
      rw [show coR rs vs k = concM (RDep rs) nf m k from by unfold coR; rw [← HNF.out, hm1]]
      rw [show paR rs vs k = dnW (RDep rs) nf k from by unfold paR; rw [← HNF.out]] at HPA
      have h24 := p24 m hm24
      have hp := p2_pos m
      have hcf := conc_full (RDep rs) nf m k hm24 hkm
      obtain ⟨V, hV⟩ : ∃ V, V = concM (RDep rs) nf m k := ⟨_, rfl⟩
      rw [← hV]
      obtain ⟨P, hP⟩ : ∃ P, P = dnW (RDep rs) nf k := ⟨_, rfl⟩
      rw [← hP] at HPA
      obtain ⟨Q, hQ⟩ : ∃ Q, Q = upW (RDep rs) nf m k := ⟨_, rfl⟩
      have hQM : (ordM (RDep rs) nf m).getD k 0 = Q := by rw [hQ]; exact ordM_at _ _ _ _ hkm
      obtain ⟨F, hF⟩ : ∃ F, F = 2 ^ m - 1 := ⟨_, rfl⟩
      have hP24 : P < 2 ^ m := by rw [hP]; exact dnW_lt _ _ _ _ hkm
      have hQ24 : Q < 2 ^ m := by rw [hQ]; exact upW_lt _ _ _ _
      have hor := i64_or_nat P Q (by omega) (by omega)
      have hor24 : P ||| Q < 2 ^ m := Nat.or_lt_two_pow hP24 hQ24
      rw [← hV, ← hP, ← hQ, ← hF] at hcf
      obtain ⟨R, hR⟩ : ∃ R, R = P ||| Q := ⟨_, rfl⟩
      rw [← hR] at hor hor24 hcf
      have hsub : IntKind.i64.wrap ((F : Int) - (R : Int)) = (V : Int) := by rw [IntWalk.i64_left]; unfold wrap64; omega
      have HSUB := Lib.hid hsub
      have HQM := Lib.hid hQM
      have HFU : Hid (∀ (ww : World) (j : Nat), Calls Tryd.prog 58 #[.int .i64 (m : Int)] (ww.drewN j) fun e w'' => e = .returned (.int .i64 (F : Int)) ∧ ∃ m', w'' = ww.drewN m') := Lib.hid fun ww j => Calls.quiet_of_same ((full_any m (by omega) _).mono fun _ _ ⟨he, hw⟩ => ⟨by rw [hF]; exact he, hw.symm⟩)
      have HOL : Hid ((ordM (RDep rs) nf m).length = m) := Lib.hid (ordM_len _ _ _)
      clear ha hu hl hm1 hd hr hrel hc hvn hwf hwf2 hh hh2 h h2 hnf hin hV hP hQ hF hR hsub hcf hP24 hQ24 hor24 hQM h24 hp
      go_enter Tryd.func41, Tryd.ntmps41
      go_wp2_with fail
      refine HPA.out.mono ?_
      rintro e w1 ⟨rfl, hb⟩
      have x1 := x0.next hb
      have y0 := x1.c0
      have y1 := x1.c1
      have HB1 := Lib.hid (HB.out.trans (hb.mono HB.out.size))
      have HPJ := Lib.hid (HPI.out w1 HB1.out)
      clear hb
      go_wp2_with fail
      refine HPJ.out.mono ?_
      rintro e w2 ⟨A5, c5, A6, c6, rfl, ho5, ho6, hb2⟩
      have HB2 := Lib.hid (HB1.out.trans (hb2.mono HB1.out.size))
      obtain ⟨b, off, y, eA, hbs, hy, hcy⟩ := ho6.rd.at_ hkm
      rw [ints_getD _ k (by rw [HOL.out]; exact hkm), HQM.out] at hy
      injection hy with hy
      subst hy eA
      have hk0 : (0 : Int) ≤ (k : Int) := by omega
      have hkz : (k : Int) < (m : Int) := by omega
      clear ho5 ho6 hb2 y0 y1 x1 x0
      have hsub := HSUB.out
      go_wp2_with fail
      go_quiet ((go_at_call 58; exact HFU.out _ _))
      clear hsub
      go_wp2_with fail
      go_ret2
      exact ⟨by first | rfl | rw [HSUB.out], by first | exact below_drewN HB2.out _ | exact HB2.out.drew⟩
    · rw [show coAns (n : Int) (ints rs) (ints vs) a = _ from pAns_out _ (n : Int) (ints rs) (ints vs) a hc (by rw [ints_len]; omega)]
      rw [show paAns (n : Int) (ints rs) (ints vs) a = _ from pAns_out _ (n : Int) (ints rs) (ints vs) a hc (by rw [ints_len]; omega)] at HPA
      clear ha hu hl hm1 hd hr hrel hc hvn hwf hwf2 hh hh2 h h2 hin
      go_enter Tryd.func41, Tryd.ntmps41
      go_wp2_with fail
      refine HPA.out.mono ?_
      rintro e w1 ⟨rfl, hb⟩
      go_wp2_with fail
      go_ret2
      exact ⟨rfl, HB.out.trans (hb.mono HB.out.size)⟩
  · rw [show coAns L xs us a = _ from pAns_code _ L xs us a hc]
    rw [show paAns L xs us a = _ from pAns_code _ L xs us a hc] at HPA
    obtain ⟨C, hC⟩ : ∃ C, C = wCode L xs us := ⟨_, rfl⟩
    rw [← hC] at hc HPA ⊢
    have hq1 : (C != 0) = true := by simpa using hc
    have hq2 : (C == 0) = false := by simpa using hc
    clear hC hc
    go_enter Tryd.func41, Tryd.ntmps41
    go_wp2_with fail
    refine HPA.out.mono ?_
    rintro e w1 ⟨rfl, hb⟩
    go_wp2_with fail
    go_ret2
    exact ⟨rfl, HB.out.trans (hb.mono HB.out.size)⟩
end Go.Proofs.YtpcgjldcdjlenaaDoor
