/-
  HasTransitiveExchange: both sides.
-/
import Derived.Test.YtbjkpkgnjeaimaaDoorCpl
import Derived.Test.YtbjkpkgnjeaimaaDoorAreDep
namespace Go.Proofs.YtbjkpkgnjeaimaaDoor
open Go.RowKit
set_option linter.unusedVariables false
set_option maxRecDepth 100000

def hteB (rs : List Nat) : Bool := decide (cplM rs = closM (cplM rs))
def hteAns (L : Int) (xs : List Int) : Bool × Int := if alphB L xs = true then (hteB (xs.map Int.toNat), 0) else (false, 1)
theorem hteAns_no (L : Int) (xs : List Int) (h : alphB L xs = false) : hteAns L xs = (false, 1) := by unfold hteAns; rw [if_neg (by rw [h]; decide)]
theorem hteAns_yes (n : Nat) (rs : List Nat) (h : alphB (n : Int) (ints rs) = true) : hteAns (n : Int) (ints rs) = (hteB rs, 0) := by unfold hteAns; rw [if_pos h, ints_toNat]
set_option maxHeartbeats 1600000 in
theorem implHasTransitiveExchange (L : Int) (A : Option Addr) (n c : Nat) (xs : List Int) (w : World) (h : Rd w A n xs) (hwf : Wf xs) (hL1 : -9223372036854775808 ≤ L) (hL2 : L ≤ 9223372036854775807) (hn : n ≤ 9223372036854775807) (hT : Tab w) :
    Calls Tryd.prog 45 #[.agg #[.int .i64 L, .slice A n c]] w fun e w' => e = .returned (.tuple #[.bool (hteAns L xs).1, .int .i64 (hteAns L xs).2]) ∧ Below w.heap.size w w' := by
  have HB := Lib.hid (below1 w (.cells #[.int .i64 L, .slice A n c] 27))
  have hh := h.below HB.out
  have hT1 := hT.below HB.out
  cases ha : alphB L xs
  · rw [hteAns_no L xs ha]
    have HA := Lib.hid ha
    clear ha
    go_enter Tryd.func45, Tryd.ntmps45
    go_wp2_with fail
    refine (dependenceOf_no L _ _ _ xs _ hh hwf hL1 hL2 hn HA.out hT1).mono ?_
    rintro e w1 ⟨rfl, hb⟩
    go_wp2_with fail
    go_ret2
    exact ⟨rfl, HB.out.trans (hb.mono HB.out.size)⟩
  · obtain ⟨rs, rfl, rfl, h8, hr, hrel, hl, hd, _⟩ := alphB_nats L xs n h.1 ha
    rw [hteAns_yes n rs ha]
    have h24 : n ≤ 24 := by omega
    have hclt := cplM_lt rs n hl h24 hr
    have HV : Hid (sameB (ints (cplM rs)) (ints (closM (cplM rs))) = hteB rs) := Lib.hid (same_ints _ _)
    clear ha hl
    go_enter Tryd.func45, Tryd.ntmps45
    go_wp2_with fail
    refine (dependenceOf_yes _ _ _ _ rs _ hh hwf h8 rfl hr hrel hd hT1).mono ?_
    rintro e w1 ⟨A1, c1, rfl, ho1, hb1⟩
    have HB1 := Lib.hid (HB.out.trans (hb1.mono HB.out.size))
    go_wp2_with fail
    refine (complement_any _ _ _ rs _ ho1.rd h24 hr).mono ?_
    rintro e w2 ⟨A2, c2, rfl, ho2, hb2⟩
    have HB2 := Lib.hid (HB1.out.trans (hb2.mono HB1.out.size))
    go_wp2_with fail
    refine (closure_any _ _ _ (cplM rs) _ ho2.rd h24 hclt).mono ?_
    rintro e w3 ⟨A3, c3, rfl, ho3, hb3⟩
    have HB3 := Lib.hid (HB2.out.trans (hb3.mono HB2.out.size))
    go_wp2_with fail
    refine (equal_any _ _ _ _ _ _ _ _ (ho2.rd.below hb3) ho3.rd hn).mono ?_
    rintro e w4 ⟨rfl, hb4⟩
    rw [HV.out]
    go_wp2_with fail
    go_ret2
    exact ⟨rfl, HB3.out.trans (hb4.mono HB3.out.size)⟩
set_option maxHeartbeats 3200000 in
theorem specHasTransitiveExchange (L : Int) (A : Option Addr) (n c : Nat) (xs : List Int) (w : World) (h : Rd w A n xs) (hwf : Wf xs) (hL1 : -9223372036854775808 ≤ L) (hL2 : L ≤ 9223372036854775807) (hn : n ≤ 9223372036854775807) :
    Calls Tryd.prog 44 #[.agg #[.int .i64 L, .slice A n c]] w fun e w' => e = .returned (.tuple #[.bool (hteAns L xs).1, .int .i64 (hteAns L xs).2]) ∧ Below w.heap.size w w' := by
  have HB := Lib.hid (below1 w (.cells #[.int .i64 L, .slice A n c] 27))
  have hh := h.below HB.out
  have x0 := box_new 27 w L A n c
  cases ha : alphB L xs
  · rw [hteAns_no L xs ha]
    have HA := Lib.hid ha
    clear ha
    go_enter Tryd.func44, Tryd.ntmps44
    go_wp2_with fail
    refine (l02Is_any L _ _ _ xs _ hh hn).mono ?_
    rintro e w1 ⟨rfl, hb⟩
    rw [HA.out]
    go_wp2_with fail
    go_ret2
    exact ⟨rfl, HB.out.trans (hb.mono HB.out.size)⟩
  · obtain ⟨rs, rfl, rfl, h8, hr, hrel, hl, hd, _⟩ := alphB_nats L xs n h.1 ha
    rw [hteAns_yes n rs ha]
    have h24 : n ≤ 24 := by omega
    have HA := Lib.hid ha
    have HT : Hid (Tri rs → hteB rs = true) := Lib.hid (fun ht => decide_eq_true ((tri_iff rs n hl h24 hr).2 ht))
    have HF : Hid (¬ Tri rs → hteB rs = false) := Lib.hid (fun ht => decide_eq_false (fun e => ht ((tri_iff rs n hl h24 hr).1 e)))
    have HL := Lib.hid hl
    clear ha hl
    go_enter Tryd.func44, Tryd.ntmps44
    go_wp2_with fail
    refine (l02Is_any _ _ _ _ _ _ hh hn).mono ?_
    rintro e w1 ⟨rfl, hb⟩
    rw [HA.out]
    have x1 := x0.next hb
    have hh1 := hh.below hb
    have HB1 := Lib.hid (HB.out.trans (hb.mono HB.out.size))
    go_wp2_with fail
    go_loopw [4] (fun i wr => ∃ k : Nat, k ≤ n ∧ i = .int .i64 k ∧ Below w1.heap.size w1 wr ∧ ∀ a b c, a < k → b < n → c < n → ¬ (a ≠ c ∧ ¬ R rs a b ∧ ¬ R rs b c ∧ R rs a c)) (fun i _ => n - (intOf i).toNat)
    case atStart => exact ⟨0, Nat.zero_le _, rfl, Below.refl _ _, fun a b c ha => absurd ha (Nat.not_lt_zero _)⟩
    case round =>
      obtain ⟨k, hk, rfl, hb2, hall⟩ := hrel
      have HALL := Lib.hid hall
      clear hall
      have y0 := (x1.next hb2).c0
      have y1 := (x1.next hb2).c1
      by_cases hlt : k < n
      · obtain ⟨wo, rfl⟩ : ∃ wo : World, wo = wr := ⟨_, rfl⟩
        go_wp2_with fail
        go_loopw [5] (fun i wr => ∃ t : Nat, t ≤ n ∧ i = .int .i64 t ∧ Below w1.heap.size w1 wr ∧ ∀ b c, b < t → c < n → ¬ (k ≠ c ∧ ¬ R rs k b ∧ ¬ R rs b c ∧ R rs k c)) (fun i _ => n - (intOf i).toNat)
        case atStart => exact ⟨0, Nat.zero_le _, rfl, hb2, fun b c hb => absurd hb (Nat.not_lt_zero _)⟩
        case round =>
          clear y0 y1 hb2
          obtain ⟨t, ht, rfl, hb2, hall⟩ := hrel
          have HALL2 := Lib.hid hall
          clear hall
          have y0 := (x1.next hb2).c0
          have y1 := (x1.next hb2).c1
          by_cases hlt2 : t < n
          · obtain ⟨wo2, rfl⟩ : ∃ wo2 : World, wo2 = wr := ⟨_, rfl⟩
            go_wp2_with fail
            go_loopw [6] (fun i wr => ∃ s : Nat, s ≤ n ∧ i = .int .i64 s ∧ Below w1.heap.size w1 wr ∧ ∀ c, c < s → ¬ (k ≠ c ∧ ¬ R rs k t ∧ ¬ R rs t c ∧ R rs k c)) (fun i _ => n - (intOf i).toNat)
            case atStart => exact ⟨0, Nat.zero_le _, rfl, hb2, fun c hc => absurd hc (Nat.not_lt_zero _)⟩
            case round =>
              clear y0 y1 hb2
              obtain ⟨s, hs, rfl, hb2, hall⟩ := hrel
              have HALL3 := Lib.hid hall
              clear hall
              have y0 := (x1.next hb2).c0
              have y1 := (x1.next hb2).c1
              by_cases hlt3 : s < n
              · by_cases hks : k = s
                · subst hks
                  go_wp2_with fail
                  go_roundw
                  case rel => exact ⟨k + 1, by omega, by go_num, hb2, fun c hc => by
                    by_cases e : c = k
                    · exact fun h9 => h9.1 e.symm
                    · exact HALL3.out c (by omega)⟩
                  case measure => simp [intOf]; omega
                · have hne : ((k : Int) == (s : Int)) = false := by simp; omega
                  cases hp : (rs.getD k 0).testBit t
                  · have HP := Lib.hid hp
                    clear hp
                    go_wp2_with fail
                    refine (dep_any _ _ _ _ k t rs _ (hh1.below hb2) h24 hr hlt hlt2).mono ?_
                    rintro e w3 ⟨rfl, hb3⟩
                    rw [HP.out]
                    have hb23 := hb2.trans (hb3.mono hb2.size)
                    have y0 := (x1.next hb23).c0
                    have y1 := (x1.next hb23).c1
                    cases hq : (rs.getD t 0).testBit s
                    · have HQ := Lib.hid hq
                      clear hq
                      go_wp2_with fail
                      refine (dep_any _ _ _ _ t s rs _ (hh1.below hb23) h24 hr hlt2 hlt3).mono ?_
                      rintro e w4 ⟨rfl, hb4⟩
                      rw [HQ.out]
                      have hb24 := hb23.trans (hb4.mono hb23.size)
                      have y0 := (x1.next hb24).c0
                      have y1 := (x1.next hb24).c1
                      cases hz : (rs.getD k 0).testBit s
                      · have HZ := Lib.hid hz
                        clear hz
                        go_wp2_with fail
                        refine (dep_any _ _ _ _ k s rs _ (hh1.below hb24) h24 hr hlt hlt3).mono ?_
                        rintro e w5 ⟨rfl, hb5⟩
                        rw [HZ.out]
                        go_wp2_with fail
                        go_roundw
                        case rel => exact ⟨s + 1, by omega, by go_num, hb24.trans (hb5.mono hb24.size), fun c hc => by
                          by_cases e : c = s
                          · subst e; rintro ⟨_, _, _, h9⟩; unfold R at h9; rw [HZ.out] at h9; cases h9
                          · exact HALL3.out c (by omega)⟩
                        case measure => simp [intOf]; omega
                      · have HZ := Lib.hid hz
                        clear hz
                        go_wp2_with fail
                        refine (dep_any _ _ _ _ k s rs _ (hh1.below hb24) h24 hr hlt hlt3).mono ?_
                        rintro e w5 ⟨rfl, hb5⟩
                        rw [HZ.out]
                        go_wp2_with fail
                        go_ret2
                        have e9 : hteB rs = false := HF.out (fun ht => ht k t s (by rw [HL.out]; exact hlt) (by rw [HL.out]; exact hlt2) (by rw [HL.out]; exact hlt3) ⟨hks, by unfold R; rw [HP.out]; decide, by unfold R; rw [HQ.out]; decide, HZ.out⟩)
                        exact ⟨by rw [e9]; rfl, HB1.out.trans ((hb24.trans (hb5.mono hb24.size)).mono HB1.out.size)⟩
                    · have HQ := Lib.hid hq
                      clear hq
                      go_wp2_with fail
                      refine (dep_any _ _ _ _ t s rs _ (hh1.below hb23) h24 hr hlt2 hlt3).mono ?_
                      rintro e w4 ⟨rfl, hb4⟩
                      rw [HQ.out]
                      go_wp2_with fail
                      go_roundw
                      case rel => exact ⟨s + 1, by omega, by go_num, hb23.trans (hb4.mono hb23.size), fun c hc => by
                        by_cases e : c = s
                        · subst e; rintro ⟨_, _, h9, _⟩; exact h9 HQ.out
                        · exact HALL3.out c (by omega)⟩
                      case measure => simp [intOf]; omega
                  · have HP := Lib.hid hp
                    clear hp
                    go_wp2_with fail
                    refine (dep_any _ _ _ _ k t rs _ (hh1.below hb2) h24 hr hlt hlt2).mono ?_
                    rintro e w3 ⟨rfl, hb3⟩
                    rw [HP.out]
                    go_wp2_with fail
                    go_roundw
                    case rel => exact ⟨s + 1, by omega, by go_num, hb2.trans (hb3.mono hb2.size), fun c hc => by
                      by_cases e : c = s
                      · subst e; rintro ⟨_, h9, _, _⟩; exact h9 HP.out
                      · exact HALL3.out c (by omega)⟩
                    case measure => simp [intOf]; omega
              · obtain rfl : s = n := by omega
                go_wp2_with fail
                go_roundw
                case rel => exact ⟨t + 1, by omega, by go_num, hb2, fun b c hb hc => by
                  by_cases e : b = t
                  · subst e; exact HALL3.out c hc
                  · exact HALL2.out b c (by omega) hc⟩
                case measure => simp [intOf]; omega
          · obtain rfl : t = n := by omega
            go_wp2_with fail
            go_roundw
            case rel => exact ⟨k + 1, by omega, by go_num, hb2, fun a b c ha hb hc => by
              by_cases e : a = k
              · subst e; exact HALL2.out b c hb hc
              · exact HALL.out a b c (by omega) hb hc⟩
            case measure => simp [intOf]; omega
      · obtain rfl : k = n := by omega
        go_wp2_with fail
        go_ret2
        have e9 : hteB rs = true := HT.out (fun a b c ha hb hc => HALL.out a b c (by rw [← HL.out]; exact ha) (by rw [← HL.out]; exact hb) (by rw [← HL.out]; exact hc))
        exact ⟨by rw [e9]; rfl, HB1.out.trans (hb2.mono HB1.out.size)⟩
end Go.Proofs.YtbjkpkgnjeaimaaDoor
