/-
  slices.swapRangeCmpFunc and rotateCmpFunc at []int64, by contracts: two segments are exchanged; a segment is turned.
-/
import Derived.Test.YtcojodkcpemfdaaDoorStab
import Derived.Shelf.RegionOpenPlain
namespace Go.Proofs.YtcojodkcpemfdaaDoor
open Go.RowKit
set_option linter.unusedVariables false
set_option linter.unusedSimpArgs false
set_option maxRecDepth 100000

def xchg (ds : List Nat) (a b k : Nat) : List Nat := (List.range ds.length).map fun p =>
  ds.getD (if a ≤ p ∧ p < a + k then p - a + b else if b ≤ p ∧ p < b + k then p - b + a else p) 0
theorem xchg_len (ds : List Nat) (a b k : Nat) : (xchg ds a b k).length = ds.length := by simp [xchg]
theorem xchg_at (ds : List Nat) (a b k p : Nat) (hp : p < ds.length) : (xchg ds a b k).getD p 0 = ds.getD (if a ≤ p ∧ p < a + k then p - a + b else if b ≤ p ∧ p < b + k then p - b + a else p) 0 := getD_range_map _ _ _ hp
theorem xchg_zero (ds : List Nat) (a b : Nat) : xchg ds a b 0 = ds := by
  refine list_eq_getD _ _ ds.length (xchg_len _ _ _ _) rfl fun p hp => ?_
  rw [xchg_at _ _ _ _ _ hp, if_neg (by omega), if_neg (by omega)]
theorem xchg_next (ds : List Nat) (a b k : Nat) (hab : a + k < b) (hb : b + k < ds.length) :
    xchg ds a b (k + 1) = ((xchg ds a b k).set (a + k) ((xchg ds a b k).getD (b + k) 0)).set (b + k) ((xchg ds a b k).getD (a + k) 0) := by
  refine list_eq_getD _ _ ds.length (xchg_len _ _ _ _) (by rw [List.length_set, List.length_set, xchg_len]) fun p hp => ?_
  rw [getD_set _ _ _ _ (by rw [List.length_set, xchg_len]; exact hb), getD_set _ _ _ _ (by rw [xchg_len]; omega), xchg_at _ _ _ (k + 1) _ hp, xchg_at _ _ _ k (a + k) (by omega), xchg_at _ _ _ k (b + k) hb, xchg_at _ _ _ k p hp]
  by_cases h1 : p = b + k
  · subst h1
    rw [if_pos rfl, if_neg (by omega), if_pos (by omega), if_neg (by omega), if_neg (by omega)]
    congr 1; omega
  · rw [if_neg h1]
    by_cases h2 : p = a + k
    · subst h2
      rw [if_pos rfl, if_pos (by omega), if_neg (by omega), if_neg (by omega)]
      congr 1; omega
    · rw [if_neg h2]
      by_cases h3 : a ≤ p ∧ p < a + k
      · rw [if_pos h3, if_pos (by omega)]
      · rw [if_neg h3, if_neg (by omega)]
        by_cases h4 : b ≤ p ∧ p < b + k
        · rw [if_pos h4, if_pos (by omega)]
        · rw [if_neg h4, if_neg (by omega)]
theorem grown_drew {w w' : World} {row : Option Nat} (h : w.grownBy w' row) : w.grownBy w'.drew row := ⟨h.os, h.tape, h.output, h.size, h.block⟩
set_option maxHeartbeats 3200000 in
theorem swapRange_any (B g n c a b m : Nat) (ds : List Nat) (F : Value) (w : World) (h : Own 2 w B (some ⟨g, 0, none⟩) n c (ints ds)) (hab : a + m ≤ b) (hb : b + m ≤ n) (hn : n ≤ 1048576) :
    Calls Tryd.prog 227 #[.slice (some ⟨g, 0, none⟩) n c, .int .i64 (a : Int), .int .i64 (b : Int), .int .i64 (m : Int), F] w fun e w' => e = .returned (.tuple #[]) ∧ Own 2 w' B (some ⟨g, 0, none⟩) n c (ints (xchg ds a b m)) ∧ w.grownBy w' (some g) := by
  have hlen : ds.length = n := by have := h.len; rw [ints_len] at this; exact this
  have HL := Lib.hid hlen
  have mixed : Tryd.prog.follows .mixedOrders = true := by kernel_rfl
  clear hlen
  go_enter Tryd.func227, Tryd.ntmps227
  go_wp2
  go_loopw [10] (fun q wr => ∃ k : Nat, k ≤ m ∧ q = .int .i64 k ∧ Own 2 wr B (some ⟨g, 0, none⟩) n c (ints (xchg ds a b k)) ∧ w.grownBy wr (some g)) (fun q _ => m - (intOf q).toNat)
  case atStart => exact ⟨0, Nat.zero_le _, rfl, by rw [xchg_zero]; exact h, World.grownBy.refl _ _⟩
  case round =>
    obtain ⟨k, hk, rfl, ho, hg⟩ := hrel
    by_cases hlt : k < m
    · have hnext := xchg_next ds a b k (by omega) (by rw [HL.out]; omega)
      obtain ⟨ga, ea, _, hca, hfa, hseta⟩ := own_stored ho (k := a + k) (by omega)
      cases ea
      obtain ⟨gb, eb, _, hcb, hfb, _⟩ := own_stored ho (k := b + k) (by omega)
      cases eb
      have h1 := hseta ((xchg ds a b k).getD (b + k) 0)
      obtain ⟨gc, ec, _, _, _, hsetb⟩ := own_stored h1 (k := b + k) (by omega)
      cases ec
      have h2 := hsetb ((xchg ds a b k).getD (a + k) 0)
      rw [← hnext] at h2
      obtain ⟨X, hX⟩ : ∃ X, X = (xchg ds a b k).getD (a + k) 0 := ⟨_, rfl⟩
      obtain ⟨Y, hY⟩ : ∃ Y, Y = (xchg ds a b k).getD (b + k) 0 := ⟨_, rfl⟩
      rw [← hX] at hca h2
      rw [← hY] at hcb h2
      obtain ⟨p, hp⟩ : ∃ p, p = a + k := ⟨_, rfl⟩
      obtain ⟨q, hq⟩ : ∃ q, q = b + k := ⟨_, rfl⟩
      rw [← hp] at hca hfa h2
      rw [← hq] at hcb hfb h2
      have hpn : p < n := by omega
      have hqn : q < n := by omega
      have hne1 : ¬ p = q := by omega
      have hne2 : ¬ q = p := by omega
      have H2 := Lib.hid h2
      have hg2 := grown_drew (grown_set (grown_set hg p (.int .i64 (Y : Int))) q (.int .i64 (X : Int)))
      have HG2 := Lib.hid hg2
      have hw1 : IntKind.i64.wrap ((a : Int) + (k : Int)) = (p : Int) := by rw [IntKind.wrap_i64]; omega
      have hw2 : IntKind.i64.wrap ((b : Int) + (k : Int)) = (q : Int) := by rw [IntKind.wrap_i64]; omega
      have hz1 : (0 : Int) ≤ (p : Int) := Int.natCast_nonneg _
      have hz2 : (0 : Int) ≤ (q : Int) := Int.natCast_nonneg _
      have hz3 : (p : Int) < (n : Int) := Int.ofNat_lt.2 hpn
      have hz4 : (q : Int) < (n : Int) := Int.ofNat_lt.2 hqn
      have ht1 : ((p : Int)).toNat = p := by simp
      have ht2 : ((q : Int)).toNat = q := by simp
      clear hX hY hp hq hseta hsetb h1 h2 hnext hg2 ho hg
      go_wp2_with fail
      go_big_region_o
      clear hw1 hw2 hz1 hz2 hz3 hz4 ht1 ht2 hca hcb hfa hfb
      go_wp2_with fail
      go_roundw
      case rel => exact ⟨k + 1, by omega, by go_num, H2.out, HG2.out⟩
      case measure => simp [intOf]; omega
    · obtain rfl : k = m := by omega
      go_wp2_with fail
      exact bodyPost_end (results_none Tryd.results227 _ _ _) rfl ⟨rfl, ho, hg⟩
/-- Turning a segment by exchanging its ends. -/
theorem rot_longer (ds : List Nat) (a i j : Nat) (hb : a + i + j ≤ ds.length) (h : j < i) : rot (xchg ds a (a + i) j) (a + j) (a + i) (a + i + j) = rot ds a (a + i) (a + i + j) := by
  refine list_eq_getD _ _ ds.length (by rw [rot_len, xchg_len]) (rot_len _ _ _ _) fun p hp => ?_
  rw [rot_at _ _ _ _ _ (by rw [xchg_len]; exact hp), rot_at _ _ _ _ _ hp, xchg_at _ _ _ _ _ (by (repeat' split) <;> omega)]
  congr 1
  (repeat' split) <;> omega
theorem rot_shorter (ds : List Nat) (a i j : Nat) (hb : a + i + j ≤ ds.length) (h : i < j) : rot (xchg ds a (a + j) i) a (a + i) (a + j) = rot ds a (a + i) (a + i + j) := by
  refine list_eq_getD _ _ ds.length (by rw [rot_len, xchg_len]) (rot_len _ _ _ _) fun p hp => ?_
  rw [rot_at _ _ _ _ _ (by rw [xchg_len]; exact hp), rot_at _ _ _ _ _ hp, xchg_at _ _ _ _ _ (by (repeat' split) <;> omega)]
  congr 1
  (repeat' split) <;> omega
theorem rot_same_len (ds : List Nat) (a i : Nat) (hb : a + i + i ≤ ds.length) : xchg ds a (a + i) i = rot ds a (a + i) (a + i + i) := by
  refine list_eq_getD _ _ ds.length (xchg_len _ _ _ _) (rot_len _ _ _ _) fun p hp => ?_
  rw [rot_at _ _ _ _ _ hp, xchg_at _ _ _ _ _ hp]
  congr 1
  (repeat' split) <;> omega
set_option maxHeartbeats 3200000 in
theorem rotate_any (B g n c a m b : Nat) (ds : List Nat) (F : Value) (w : World) (h : Own 2 w B (some ⟨g, 0, none⟩) n c (ints ds)) (ham : a < m) (hmb : m < b) (hb : b ≤ n) (hn : n ≤ 1048576) :
    Calls Tryd.prog 225 #[.slice (some ⟨g, 0, none⟩) n c, .int .i64 (a : Int), .int .i64 (m : Int), .int .i64 (b : Int), F] w fun e w' => e = .returned (.tuple #[]) ∧ Own 2 w' B (some ⟨g, 0, none⟩) n c (ints (rot ds a m b)) ∧ w.grownBy w' (some g) := by
  have hlen : ds.length = n := by have := h.len; rw [ints_len] at this; exact this
  have HL := Lib.hid hlen
  clear hlen
  go_enter Tryd.func225, Tryd.ntmps225
  go_wp2_with fail
  go_loopw [10, 11] (fun p q wr => ∃ (i j : Nat) (es : List Nat), 0 < i ∧ 0 < j ∧ i ≤ m ∧ m + j ≤ n ∧ p = .int .i64 i ∧ q = .int .i64 j ∧ es.length = n ∧ Own 2 wr B (some ⟨g, 0, none⟩) n c (ints es) ∧ w.grownBy wr (some g) ∧ rot es (m - i) m (m + j) = rot ds a m b) (fun p q _ => (intOf p).toNat + (intOf q).toNat)
  case atStart => exact ⟨m - a, b - m, ds, by omega, by omega, by omega, by omega, by congr 1; omega, by congr 1; omega, HL.out, h, World.grownBy.refl _ _, by rw [show m - (m - a) = a by omega, show m + (b - m) = b by omega]⟩
  case round =>
    obtain ⟨i, j, es, hi, hj, him, hjn, rfl, rfl, hel, ho, hg, hr⟩ := hrel
    have HR := Lib.hid hr
    have HEL := Lib.hid hel
    clear hr hel h
    obtain ⟨s, hs⟩ : ∃ s, s = m - i := ⟨_, rfl⟩
    have hms : (m : Int) - (i : Int) = (s : Int) := by omega
    have HS : Hid (s + i = m) := Lib.hid (by omega)
    have hsm : s + i ≤ m := by omega
    rw [← hs] at HR
    clear hs
    by_cases hij : i = j
    · subst hij
      have hne : ((i : Int) != (i : Int)) = false := by simp
      have hend : xchg es s m i = rot ds a m b := by
        rw [← HR.out]
        have := rot_same_len es s i (by rw [HEL.out]; have := HS.out; omega)
        rw [HS.out] at this; exact this
      have hsw := swapRange_any B g n c s m i es F wr ho (by omega) (by omega) hn
      rw [hend] at hsw
      have HSW := Lib.hid hsw
      clear hend hsw
      go_wp2_with fail
      try rw [hms]
      refine HSW.out.mono ?_
      rintro e w2 ⟨rfl, ho2, hg2⟩
      go_wp2_with fail
      exact bodyPost_end (results_none Tryd.results225 _ _ _) rfl ⟨rfl, ho2, hg.trans hg2⟩
    · by_cases hlt : j < i
      · have hne : ((i : Int) != (j : Int)) = true := by simp; omega
        have hgt : decide (j < i) = true := decide_eq_true hlt
        have hend : rot (xchg es s m j) (s + j) m (m + j) = rot ds a m b := by
          rw [← HR.out]
          have := rot_longer es s i j (by rw [HEL.out]; have := HS.out; omega) hlt
          rw [HS.out] at this; exact this
        have hsw := swapRange_any B g n c s m j es F wr ho (by omega) (by omega) hn
        have HSW := Lib.hid hsw
        have HEND := Lib.hid hend
        clear hend hsw
        go_wp2_with fail
        try rw [hms]
        refine HSW.out.mono ?_
        rintro e w2 ⟨rfl, ho2, hg2⟩
        clear hms
        go_wp2_with fail
        go_roundw
        case rel => exact ⟨i - j, j, xchg es s m j, by omega, hj, by omega, hjn, by congr 1; omega, rfl, by rw [xchg_len]; exact HEL.out, ho2, hg.trans hg2, by rw [show m - (i - j) = s + j by have := HS.out; omega]; exact HEND.out⟩
        case measure => simp [intOf]; omega
      · have hne : ((i : Int) != (j : Int)) = true := by simp; omega
        have hgt : decide (j < i) = false := decide_eq_false hlt
        have hmj : (m : Int) + (j : Int) - (i : Int) = ((s + j : Nat) : Int) := by have := HS.out; omega
        have hend : rot (xchg es s (s + j) i) s m (m + (j - i)) = rot ds a m b := by
          rw [← HR.out]
          have := rot_shorter es s i j (by rw [HEL.out]; have := HS.out; omega) (by omega)
          rw [HS.out] at this
          rw [show m + (j - i) = s + j by have := HS.out; omega]; exact this
        have hsw := swapRange_any B g n c s (s + j) i es F wr ho (by omega) (by have := HS.out; omega) hn
        have HSW := Lib.hid hsw
        have HEND := Lib.hid hend
        have HMJ := Lib.hid hmj
        clear hend hsw hmj
        go_wp2_with fail
        try rw [HMJ.out]
        try rw [hms]
        refine HSW.out.mono ?_
        rintro e w2 ⟨rfl, ho2, hg2⟩
        clear hms
        go_wp2_with fail
        go_roundw
        case rel => exact ⟨i, j - i, xchg es s (s + j) i, hi, by omega, him, by omega, rfl, by congr 1; omega, by rw [xchg_len]; exact HEL.out, ho2, hg.trans hg2, by rw [show m - i = s by have := HS.out; omega]; exact HEND.out⟩
        case measure => simp [intOf]; omega
end Go.Proofs.YtcojodkcpemfdaaDoor
