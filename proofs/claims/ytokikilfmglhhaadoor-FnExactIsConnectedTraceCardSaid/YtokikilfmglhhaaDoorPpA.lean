/-
  PairProjections: both sides.
-/
import Derived.Test.YtokikilfmglhhaaDoorPpr
namespace Go.Proofs.YtokikilfmglhhaaDoor
open Go Go.RowKit
set_option linter.unusedVariables false
set_option maxRecDepth 100000

def lssAns (f : List Nat → List Nat → List (List Int)) (L : Int) (xs us : List Int) : List (List Int) × Int := if wCode L xs us = 0 then (f (xs.map Int.toNat) (us.map Int.toNat), 0) else ([], wCode L xs us)
theorem lssAns_no (f : List Nat → List Nat → List (List Int)) (L : Int) (xs us : List Int) (h : alphB L xs = false) : lssAns f L xs us = ([], 1) := by
  have e : wCode L xs us = 1 := by unfold wCode; rw [if_neg (by rw [h]; decide)]
  unfold lssAns; rw [e]; rfl
theorem lssAns_bad (f : List Nat → List Nat → List (List Int)) (L : Int) (xs us : List Int) (h : alphB L xs = true) (h2 : wordB L us = false) : lssAns f L xs us = ([], 2) := by
  have e : wCode L xs us = 2 := by unfold wCode; rw [if_pos h, if_neg (by rw [h2]; decide)]
  unfold lssAns; rw [e]; rfl
theorem lssAns_yes (f : List Nat → List Nat → List (List Int)) (L : Int) (rs us : List Nat) (h : alphB L (ints rs) = true) (h2 : wordB L (ints us) = true) : lssAns f L (ints rs) (ints us) = (f rs us, 0) := by
  have e : wCode L (ints rs) (ints us) = 0 := by unfold wCode; rw [if_pos h, if_pos h2]
  unfold lssAns; rw [if_pos e, ints_toNat, ints_toNat]
theorem lssAns_small (f : List Nat → List Nat → List (List Int)) (b : Nat) (hf : ∀ rs us, rs.length ≤ 8 → us.length ≤ 24 → (f rs us).length ≤ b ∧ sumL (f rs us) ≤ b) (L : Int) (xs us : List Int) : (lssAns f L xs us).1.length ≤ b ∧ sumL (lssAns f L xs us).1 ≤ b := by
  unfold lssAns
  split
  · rename_i h
    unfold wCode at h
    split at h
    · rename_i ha
      split at h
      · rename_i hw
        refine hf _ _ ?_ ?_
        · rw [List.length_map]
          unfold alphB at ha
          rw [Bool.and_eq_true, decide_eq_true_eq] at ha
          omega
        · rw [List.length_map]
          unfold wordB at hw
          rw [Bool.and_eq_true, decide_eq_true_eq] at hw
          exact hw.1
      · omega
    · omega
  · exact ⟨Nat.zero_le _, Nat.zero_le _⟩
theorem lssPost_no {w w1 : World} {C : Int} (hb : Below w.heap.size w w1) : LssPost w 0 [] C (.returned (.tuple #[.slice none 0 0, .int .i64 C])) w1 := ⟨none, 0, rfl, OwnSS.nil _ _, hb⟩
theorem lssPost_yes {w w1 w2 : World} {A' : Option Addr} {c' N : Nat} {zss : List (List Int)} (hl : zss.length = N) (ho : OwnSS w2 w1.heap.size w2.heap.size A' N c' zss) (hB : Below w.heap.size w w1) (hb : Below w1.heap.size w1 w2) : LssPost w zss.length zss 0 (.returned (.tuple #[.slice A' N c', .int .i64 0])) w2 := by
  subst hl
  exact ⟨A', c', rfl, ho.wide hB.size (Nat.le_refl _), hB.trans (hb.mono hB.size)⟩
def ppR (rs us : List Nat) : List (List Int) := ppL us (pairsL rs rs.length)
def ppAns (L : Int) (xs us : List Int) : List (List Int) × Int := lssAns ppR L xs us
theorem ppAns_small (L : Int) (xs us : List Int) : (ppAns L xs us).1.length ≤ 4608 ∧ sumL (ppAns L xs us).1 ≤ 4608 := by
  refine lssAns_small ppR 4608 (fun rs us h1 h2 => ?_) L xs us
  have h3 := pairsL_le rs rs.length
  have h4 := ppL_sum us (pairsL rs rs.length)
  have h5 : (pairsL rs rs.length).length ≤ 192 := by omega
  have h6 : (pairsL rs rs.length).length * us.length ≤ 192 * 24 := Nat.mul_le_mul h5 h2
  unfold ppR
  rw [ppL_len]
  exact ⟨by omega, by omega⟩
set_option maxHeartbeats 3200000 in
theorem implPairProjections (L : Int) (A : Option Addr) (n c : Nat) (xs : List Int) (A1 : Option Addr) (m d : Nat) (us : List Int) (w : World) (h : Rd w A n xs) (hwf : Wf xs) (hL1 : -9223372036854775808 ≤ L) (hL2 : L ≤ 9223372036854775807) (hn : n ≤ maxLen) (h2 : Rd w A1 m us) (hwf2 : Wf us) (hm : m ≤ maxLen) (hT : Tab w) :
    Calls Tryd.prog 18 #[.agg #[.int .i64 L, .slice A n c], .slice A1 m d] w (LssPost w (ppAns L xs us).1.length (ppAns L xs us).1 (ppAns L xs us).2) := by
  have hn2 : n ≤ 9223372036854775807 := by unfold maxLen at hn; omega
  have hn1 := h.1
  have hm1 := h2.1
  have x0 := box_new 24 w L A n c
  have HB := Lib.hid (below2 w (.cells #[.int .i64 L, .slice A n c] 24) (.cells #[.slice A1 m d] 22))
  have hh := h.below HB.out
  have ht := rdT_box w (.cells #[.int .i64 L, .slice A n c] 24) A1 m d us 22 h2 hm
  have hh2 := h2.below HB.out
  have hT1 := hT.below HB.out
  have x1 := x0.next (below1 (w.alloc (.cells #[.int .i64 L, .slice A n c] 24)) (.cells #[.slice A1 m d] 22))
  cases ha : alphB L xs
  · rw [show ppAns L xs us = _ from lssAns_no ppR L xs us ha]
    have HA := Lib.hid ha
    clear ha ht hn1
    go_enter Tryd.func18, Tryd.ntmps18
    go_wp2_with fail
    refine (dependenceWith_no L _ _ _ _ _ _ xs [] _ hh hwf hL1 hL2 hn2 HA.out hT1).mono ?_
    rintro e w1 ⟨rfl, hb⟩
    go_wp2_with fail
    go_ret2
    exact lssPost_no (HB.out.trans (hb.mono HB.out.size))
  · cases hu : wordB L us
    · rw [show ppAns L xs us = _ from lssAns_bad ppR L xs us ha hu]
      obtain ⟨rs, rfl, rfl, h8, hr, hrel, hl, hd, _⟩ := alphB_nats L xs n hn1 ha
      have HU := Lib.hid hu
      clear ha hu
      go_enter Tryd.func18, Tryd.ntmps18
      go_wp2_with fail
      refine (dependenceWith_any _ _ _ _ _ _ rs _ _ hh hwf h8 hr hrel hd ht (by omega) hT1).mono ?_
      rw [okT_one, HU.out]
      rintro e w1 (⟨hok, _⟩ | ⟨hok, rfl, hb⟩)
      · cases hok
      go_wp2_with fail
      go_ret2
      exact lssPost_no (HB.out.trans (hb.mono HB.out.size))
    · obtain ⟨rs, rfl, rfl, h8, hr, hrel, hl, hd, _⟩ := alphB_nats L xs n hn1 ha
      obtain ⟨vs, rfl, hv24, hvn⟩ := wordB_nats n us hu
      have HU := Lib.hid hu
      rw [ints_len] at hm1
      have hm24 : m ≤ 24 := by omega
      rw [show ppAns (n : Int) (ints rs) (ints vs) = _ from lssAns_yes ppR (n : Int) rs vs ha hu]
      have HVP : Hid (∀ p, p < m → vs.getD p 0 < 8) := Lib.hid fun p hp => Nat.lt_of_lt_of_le (in_getD hvn p (by omega)) h8
      have HZ : Hid (ppR rs vs = ppL vs (pairsL rs n)) := Lib.hid (by unfold ppR; rw [hl])
      rw [HZ.out]
      have HZL : Hid ((ppL vs (pairsL rs n)).length = (pairsL rs n).length) := Lib.hid (ppL_len _ _)
      have HPJ : Hid (∀ ww A2 c2, Rd ww A2 n (ints rs) → Rd ww A1 m (ints vs) → Tab ww → Calls Tryd.prog 61 #[.slice A2 n c2, .slice A1 m d] ww fun e w' => ∃ A' c', e = .returned (.slice A' (pairsL rs n).length c') ∧ OwnSS w' ww.heap.size w'.heap.size A' (pairsL rs n).length c' (ppL vs (pairsL rs n)) ∧ Below ww.heap.size ww w') := Lib.hid fun ww A2 c2 q1 q2 q3 => pairProjections_any A2 n c2 rs A1 m d vs ww q1 h8 hr q2 hm24 HVP.out q3
      obtain ⟨zs, hzs⟩ : ∃ zs, zs = ppL vs (pairsL rs n) := ⟨_, rfl⟩
      obtain ⟨N, hN⟩ : ∃ N, N = (pairsL rs n).length := ⟨_, rfl⟩
      rw [← hzs, ← hN] at HPJ HZL
      rw [← hzs]
      clear ha hu hl hm1 hzs hN
      go_enter Tryd.func18, Tryd.ntmps18
      go_wp2_with fail
      refine (dependenceWith_any _ _ _ _ _ _ rs _ _ hh hwf h8 hr hrel hd ht (by omega) hT1).mono ?_
      rw [okT_one, HU.out]
      rintro e w1 (⟨hok, A2, c2, rfl, ho, hb⟩ | ⟨hok, _⟩)
      rotate_left
      · cases hok
      have y0 := (x1.next hb).c0
      have HB1 := Lib.hid (HB.out.trans (hb.mono HB.out.size))
      have HPQ := Lib.hid (HPJ.out w1 A2 c2 ho.rd (hh2.below hb) (hT1.below hb))
      clear ho hb hok ht hh hh2 hT1 hT h h2 x0 x1
      go_wp2_with fail
      refine HPQ.out.mono ?_
      rintro e w2 ⟨A3, c3, rfl, ho3, hb3⟩
      go_wp2_with fail
      go_ret2
      exact lssPost_yes HZL.out ho3 HB1.out hb3
end Go.Proofs.YtokikilfmglhhaaDoor
