/-
  IsMorphism, ErasedLetters: both sides.
-/
import Derived.Test.YtdafdffmkjhhcaaDoorMoQ
import Derived.Test.YtdafdffmkjhhcaaDoorMoS
namespace Go.Proofs.YtdafdffmkjhhcaaDoor
open Go Go.RowKit
set_option linter.unusedVariables false
set_option linter.unusedSimpArgs false
set_option maxRecDepth 100000

theorem wordB_nil (L : Int) : wordB L [] = true := rfl
theorem mCode_true_nil (L1 : Int) (xs1 : List Int) (L2 : Int) (xs2 : List Int) (X : List (List Int)) : mCode L1 xs1 L2 xs2 X (wordB L1 []) = mCode L1 xs1 L2 xs2 X true := rfl
def imAns (L1 : Int) (xs1 : List Int) (L2 : Int) (xs2 : List Int) (X : List (List Int)) : Bool := decide (mCode L1 xs1 L2 xs2 X true = 0)
set_option maxHeartbeats 1600000 in
theorem implIsMorphism (L1 : Int) (R1 : Option Addr) (n1 c1 : Nat) (xs1 : List Int) (L2 : Int) (R2 : Option Addr) (n2 c2 : Nat) (xs2 : List Int) (A : Option Addr) (n c : Nat) (X : List (List Int)) (w : World)
    (h1 : Rd w R1 n1 xs1) (hwf1 : Wf xs1) (hL11 : -9223372036854775808 ≤ L1) (hL12 : L1 ≤ 9223372036854775807) (hn1 : n1 ≤ maxLen)
    (h2 : Rd w R2 n2 xs2) (hwf2 : Wf xs2) (hL21 : -9223372036854775808 ≤ L2) (hL22 : L2 ≤ 9223372036854775807) (hn2 : n2 ≤ maxLen)
    (h : RdSS w A n X) (hn : n ≤ 1048576) (hT : Tab w) :
    Calls Tryd.prog 18 #[.agg #[.int .i64 L1, .slice R1 n1 c1], .agg #[.int .i64 L2, .slice R2 n2 c2], .slice A n c] w fun e w' => e = .returned (.bool (imAns L1 xs1 L2 xs2 X)) ∧ Below w.heap.size w w' := by
  obtain ⟨ts, rfl, ht⟩ := h
  have hm1 : n1 ≤ 9223372036854775807 := by unfold maxLen at hn1; omega
  have hm2 : n2 ≤ 9223372036854775807 := by unfold maxLen at hn2; omega
  have HB := Lib.hid (below2 w (.cells #[.int .i64 L1, .slice R1 n1 c1] 29) (.cells #[.int .i64 L2, .slice R2 n2 c2] 29))
  have HM := Lib.hid (morphismIn_any L1 L2 R1 R2 A n1 c1 n2 c2 n c xs1 xs2 true ts _ (h1.below HB.out) hwf1 hL11 hL12 hm1 (h2.below HB.out) hwf2 hL21 hL22 hm2 (ht.below HB.out) hn (hT.below HB.out))
  obtain ⟨C, hC⟩ : ∃ C, C = mCode L1 xs1 L2 xs2 (ts.map fun t => t.2.2.2) true := ⟨_, rfl⟩
  have HA : Hid (imAns L1 xs1 L2 xs2 (ts.map fun t => t.2.2.2) = decide (C = 0)) := Lib.hid (by rw [hC]; rfl)
  rw [← hC] at HM
  rw [HA.out]
  clear hC HA
  go_enter Tryd.func18, Tryd.ntmps18
  go_wp2_with fail
  refine HM.out.mono ?_
  rintro e w1 (⟨rfl, R3, c3, R4, c4, rfl, o3, o4, hb⟩ | ⟨hc, rfl, hb⟩)
  · have hd : ((0 : Int) == (0 : Int)) = true := rfl
    go_wp2_with fail
    go_ret
    exact ⟨ret_b _ _ (by decide), (HB.out.trans (hb.mono HB.out.size)).alloc (HB.out.trans (hb.mono HB.out.size)).size _⟩
  · have hd : (C == 0) = false := by simpa using hc
    go_wp2_with fail
    go_ret
    exact ⟨ret_b _ _ (by rw [decide_eq_false hc]), (HB.out.trans (hb.mono HB.out.size)).alloc (HB.out.trans (hb.mono HB.out.size)).size _⟩
set_option maxHeartbeats 1600000 in
theorem specIsMorphism (L1 : Int) (R1 : Option Addr) (n1 c1 : Nat) (xs1 : List Int) (L2 : Int) (R2 : Option Addr) (n2 c2 : Nat) (xs2 : List Int) (A : Option Addr) (n c : Nat) (X : List (List Int)) (w : World)
    (h1 : Rd w R1 n1 xs1) (hwf1 : Wf xs1) (hL11 : -9223372036854775808 ≤ L1) (hL12 : L1 ≤ 9223372036854775807) (hn1 : n1 ≤ maxLen)
    (h2 : Rd w R2 n2 xs2) (hwf2 : Wf xs2) (hL21 : -9223372036854775808 ≤ L2) (hL22 : L2 ≤ 9223372036854775807) (hn2 : n2 ≤ maxLen)
    (h : RdSS w A n X) (hn : n ≤ 1048576) :
    Calls Tryd.prog 15 #[.agg #[.int .i64 L1, .slice R1 n1 c1], .agg #[.int .i64 L2, .slice R2 n2 c2], .slice A n c] w fun e w' => e = .returned (.bool (imAns L1 xs1 L2 xs2 X)) ∧ Below w.heap.size w w' := by
  obtain ⟨ts, rfl, ht⟩ := h
  have hm1 : n1 ≤ 9223372036854775807 := by unfold maxLen at hn1; omega
  have hm2 : n2 ≤ 9223372036854775807 := by unfold maxLen at hn2; omega
  have HB := Lib.hid (below2 w (.cells #[.int .i64 L1, .slice R1 n1 c1] 29) (.cells #[.int .i64 L2, .slice R2 n2 c2] 29))
  have HM := Lib.hid (l08Code_any L1 L2 R1 R2 A none n1 c1 n2 c2 n c 0 0 xs1 xs2 [] ts _ (h1.below HB.out) hm1 (h2.below HB.out) hm2 (ht.below HB.out) hn (Rd.nil _ _) (by omega))
  rw [mCode_true_nil] at HM
  obtain ⟨C, hC⟩ : ∃ C, C = mCode L1 xs1 L2 xs2 (ts.map fun t => t.2.2.2) true := ⟨_, rfl⟩
  have HA : Hid (imAns L1 xs1 L2 xs2 (ts.map fun t => t.2.2.2) = decide (C = 0)) := Lib.hid (by rw [hC]; rfl)
  rw [← hC] at HM
  rw [HA.out]
  clear hC HA
  go_enter Tryd.func15, Tryd.ntmps15
  go_wp2_with fail
  refine HM.out.mono ?_
  rintro e w1 ⟨rfl, hb⟩
  go_wp2_with fail
  go_ret
  refine ⟨ret_b _ _ ?_, HB.out.trans (hb.mono HB.out.size)⟩
  by_cases h0 : C = 0
  · subst h0; rfl
  · rw [decide_eq_false h0]; simpa using h0
/-- The letters whose images are empty. -/
def erP (X : List (List Int)) : Nat → Nat
  | 0 => 0
  | k + 1 => if (X.getD k []).isEmpty = true then erP X k ||| 2 ^ k else erP X k
theorem erP_yes (X : List (List Int)) (k : Nat) (h : (X.getD k []).isEmpty = true) : erP X (k + 1) = erP X k ||| 2 ^ k := if_pos h
theorem erP_no (X : List (List Int)) (k : Nat) (h : (X.getD k []).isEmpty = false) : erP X (k + 1) = erP X k := if_neg (by rw [h]; decide)
theorem erP_lt (X : List (List Int)) : ∀ k, erP X k < 2 ^ k
  | 0 => Nat.one_pos
  | k + 1 => by
    have h := erP_lt X k
    have h2 : 2 ^ k < 2 ^ (k + 1) := Nat.pow_lt_pow_right (by decide) (Nat.lt_succ_self _)
    cases hb : (X.getD k []).isEmpty
    · rw [erP_no X k hb]; omega
    · rw [erP_yes X k hb]; exact Nat.or_lt_two_pow (by omega) h2
def elAns (L1 : Int) (xs1 : List Int) (L2 : Int) (xs2 : List Int) (X : List (List Int)) : Int × Int := if mCode L1 xs1 L2 xs2 X true = 0 then (((erP X X.length : Nat) : Int), 0) else (0, mCode L1 xs1 L2 xs2 X true)
theorem mCode_len {L1 : Int} {xs1 : List Int} {L2 : Int} {xs2 : List Int} {X : List (List Int)} {q : Bool} (h : mCode L1 xs1 L2 xs2 X q = 0) : X.length ≤ 8 ∧ (X.length : Int) = L1 := by
  unfold mCode at h
  split at h
  · rename_i h1
    rw [Bool.and_eq_true] at h1
    split at h
    · rename_i h2
      rw [Bool.and_eq_true] at h2
      have h3 := h2.2
      unfold lmB at h3
      rw [Bool.and_eq_true, decide_eq_true_eq] at h3
      have h4 := alphB_L8 L1 xs1 h1.1
      omega
    · cases h
  · cases h
set_option maxHeartbeats 3200000 in
theorem implErasedLetters (L1 : Int) (R1 : Option Addr) (n1 c1 : Nat) (xs1 : List Int) (L2 : Int) (R2 : Option Addr) (n2 c2 : Nat) (xs2 : List Int) (A : Option Addr) (n c : Nat) (X : List (List Int)) (w : World)
    (h1 : Rd w R1 n1 xs1) (hwf1 : Wf xs1) (hL11 : -9223372036854775808 ≤ L1) (hL12 : L1 ≤ 9223372036854775807) (hn1 : n1 ≤ maxLen)
    (h2 : Rd w R2 n2 xs2) (hwf2 : Wf xs2) (hL21 : -9223372036854775808 ≤ L2) (hL22 : L2 ≤ 9223372036854775807) (hn2 : n2 ≤ maxLen)
    (h : RdSS w A n X) (hn : n ≤ 1048576) (hT : Tab w) :
    Calls Tryd.prog 30 #[.agg #[.int .i64 L1, .slice R1 n1 c1], .agg #[.int .i64 L2, .slice R2 n2 c2], .slice A n c] w fun e w' => e = .returned (.tuple #[.int .i64 (elAns L1 xs1 L2 xs2 X).1, .int .i64 (elAns L1 xs1 L2 xs2 X).2]) ∧ Below w.heap.size w w' := by
  obtain ⟨ts, hts, ht⟩ := h
  have hm1 : n1 ≤ 9223372036854775807 := by unfold maxLen at hn1; omega
  have hm2 : n2 ≤ 9223372036854775807 := by unfold maxLen at hn2; omega
  have HB := Lib.hid (below2 w (.cells #[.int .i64 L1, .slice R1 n1 c1] 29) (.cells #[.int .i64 L2, .slice R2 n2 c2] 29))
  have hXn : X.length = n := by rw [← hts, List.length_map]; exact ht.1
  have HM := Lib.hid (morphismIn_any L1 L2 R1 R2 A n1 c1 n2 c2 n c xs1 xs2 true ts _ (h1.below HB.out) hwf1 hL11 hL12 hm1 (h2.below HB.out) hwf2 hL21 hL22 hm2 (ht.below HB.out) hn (hT.below HB.out))
  rw [hts] at HM
  have ht0 := ht.below HB.out
  have HTS := Lib.hid hts
  by_cases h0 : mCode L1 xs1 L2 xs2 X true = 0
  · have hA : elAns L1 xs1 L2 xs2 X = (((erP X n : Nat) : Int), 0) := by unfold elAns; rw [if_pos h0, hXn]
    have hn8 : n ≤ 8 := by have := (mCode_len h0).1; omega
    rw [hA]
    rw [h0] at HM
    clear h0 hA hts hXn ht h1 h2 hT
    go_enter Tryd.func30, Tryd.ntmps30
    go_wp2_with fail
    refine HM.out.mono ?_
    rintro e w1 (⟨-, R3, c3, R4, c4, rfl, o3, o4, hb1⟩ | ⟨hc, -, -⟩)
    rotate_left
    · exact absurd rfl hc
    have hb2 := hb1.alloc hb1.size (.cells #[.slice R3 n1 c3, .slice R4 n2 c4, .func (.func 94) #[.slice A n c] #[]] 69)
    have ht1 := ht0.below hb2
    have HB2 := Lib.hid (HB.out.trans (hb2.mono HB.out.size))
    go_wp2_with fail
    obtain ⟨w2, hw2⟩ : ∃ w2, w2 = w1.alloc (.cells #[.slice R3 n1 c3, .slice R4 n2 c4, .func (.func 94) #[.slice A n c] #[]] 69) := ⟨_, rfl⟩
    rw [← hw2] at ht1 HB2 ⊢
    clear hw2 hb2 hb1 ht0 o3 o4
    go_loopw [10, 25] (fun p i wr => ∃ k : Nat, k ≤ n ∧ i = .int .i64 (k : Int) ∧ p = .int .i64 ((erP X k : Nat) : Int) ∧ Below w2.heap.size w2 wr) (fun _ i _ => n - (intOf i).toNat)
    case atStart => exact ⟨0, Nat.zero_le _, rfl, rfl, Below.refl _ _⟩
    case round =>
      obtain ⟨k, hk, rfl, rfl, hb⟩ := hrel
      by_cases hlt : k < n
      · obtain ⟨b, off, C9, q, d, xs, rfl, hbs, hx, hcx, hrd, hq⟩ := (ht1.below hb).at_ hlt
        have hXk : X.getD k [] = xs := by
          rw [← HTS.out, List.getD_eq_getElem?_getD, List.getElem?_map, hx]; rfl
        have hql : xs.length = q := hrd.1
        have hk8 : k ≤ 8 := by omega
        clear hx hrd
        by_cases hq0 : q = 0
        · have hE : Hid (erP X (k + 1) = erP X k ||| 2 ^ k) := Lib.hid (erP_yes X k (by rw [hXk, (List.eq_nil_of_length_eq_zero (by omega) : xs = [])]; rfl))
          have hd : ((q : Int) == 0) = true := by rw [hq0]; rfl
          clear hXk hql hq0
          have hm := erP_lt X k
          obtain ⟨M, hM⟩ : ∃ M, M = erP X k := ⟨_, rfl⟩
          rw [← hM] at hm hE ⊢
          have hM24 : M < 2 ^ 8 := Nat.lt_of_lt_of_le hm (Nat.pow_le_pow_right (by decide) hk8)
          have h28 : (2 : Nat) ^ 8 = 256 := by decide
          have HW := Lib.hid (with_any M k (by omega) (by omega) wr)
          clear hM hm hM24 h28
          go_wp2_with fail
          refine HW.out.mono ?_
          rintro e w' ⟨rfl, rfl⟩
          go_wp2_with fail
          go_roundw
          case rel => exact ⟨k + 1, by omega, by go_num, by rw [hE.out], hb⟩
          case measure => simp [intOf]; omega
        · have hE : Hid (erP X (k + 1) = erP X k) := Lib.hid (erP_no X k (by
            rw [hXk]
            cases xs with
            | nil => exact absurd hql.symm hq0
            | cons x r => rfl))
          have hd : ((q : Int) == 0) = false := by rw [beq_eq_false_iff_ne]; omega
          clear hXk hql
          go_wp2_with fail
          go_roundw
          case rel => exact ⟨k + 1, by omega, by go_num, by rw [hE.out], hb⟩
          case measure => simp [intOf]; omega
      · obtain rfl : k = n := by omega
        go_wp2_with fail
        go_ret2
        exact ⟨rfl, HB2.out.trans (hb.mono HB2.out.size)⟩
  · have hA : elAns L1 xs1 L2 xs2 X = (0, mCode L1 xs1 L2 xs2 X true) := by unfold elAns; rw [if_neg h0]
    rw [hA]
    obtain ⟨C, hC⟩ : ∃ C, C = mCode L1 xs1 L2 xs2 X true := ⟨_, rfl⟩
    rw [← hC] at HM h0 ⊢
    clear hC hA hts hXn
    have hd : (C == 0) = false := by simpa using h0
    have hd2 : (C != 0) = true := by simpa using h0
    go_enter Tryd.func30, Tryd.ntmps30
    go_wp2_with fail
    refine HM.out.mono ?_
    rintro e w1 (⟨hc, -⟩ | ⟨-, rfl, hb1⟩)
    · exact absurd hc h0
    go_wp2_with fail
    go_ret2
    exact ⟨rfl, (HB.out.trans (hb1.mono HB.out.size)).alloc (HB.out.trans (hb1.mono HB.out.size)).size _⟩
set_option maxHeartbeats 3200000 in
theorem specErasedLetters (L1 : Int) (R1 : Option Addr) (n1 c1 : Nat) (xs1 : List Int) (L2 : Int) (R2 : Option Addr) (n2 c2 : Nat) (xs2 : List Int) (A : Option Addr) (n c : Nat) (X : List (List Int)) (w : World)
    (h1 : Rd w R1 n1 xs1) (hwf1 : Wf xs1) (hL11 : -9223372036854775808 ≤ L1) (hL12 : L1 ≤ 9223372036854775807) (hn1 : n1 ≤ maxLen)
    (h2 : Rd w R2 n2 xs2) (hwf2 : Wf xs2) (hL21 : -9223372036854775808 ≤ L2) (hL22 : L2 ≤ 9223372036854775807) (hn2 : n2 ≤ maxLen)
    (h : RdSS w A n X) (hn : n ≤ 1048576) :
    Calls Tryd.prog 29 #[.agg #[.int .i64 L1, .slice R1 n1 c1], .agg #[.int .i64 L2, .slice R2 n2 c2], .slice A n c] w fun e w' => e = .returned (.tuple #[.int .i64 (elAns L1 xs1 L2 xs2 X).1, .int .i64 (elAns L1 xs1 L2 xs2 X).2]) ∧ Below w.heap.size w w' := by
  obtain ⟨ts, hts, ht⟩ := h
  have hm1 : n1 ≤ 9223372036854775807 := by unfold maxLen at hn1; omega
  have hm2 : n2 ≤ 9223372036854775807 := by unfold maxLen at hn2; omega
  have HB := Lib.hid (below2 w (.cells #[.int .i64 L1, .slice R1 n1 c1] 29) (.cells #[.int .i64 L2, .slice R2 n2 c2] 29))
  have hXn : X.length = n := by rw [← hts, List.length_map]; exact ht.1
  have HM := Lib.hid (l08Code_any L1 L2 R1 R2 A none n1 c1 n2 c2 n c 0 0 xs1 xs2 [] ts _ (h1.below HB.out) hm1 (h2.below HB.out) hm2 (ht.below HB.out) hn (Rd.nil _ _) (by omega))
  rw [mCode_true_nil, hts] at HM
  have ht0 := ht.below HB.out
  have HTS := Lib.hid hts
  by_cases h0 : mCode L1 xs1 L2 xs2 X true = 0
  · have hA : elAns L1 xs1 L2 xs2 X = (((erP X n : Nat) : Int), 0) := by unfold elAns; rw [if_pos h0, hXn]
    have hn8 : n ≤ 8 := by have := (mCode_len h0).1; omega
    rw [hA]
    rw [h0] at HM
    clear h0 hA hts hXn ht h1 h2
    go_enter Tryd.func29, Tryd.ntmps29
    go_wp2_with fail
    refine HM.out.mono ?_
    rintro e w1 ⟨rfl, hb1⟩
    have ht1 := ht0.below hb1
    have HB2 := Lib.hid (HB.out.trans (hb1.mono HB.out.size))
    clear ht0 hb1
    go_wp2_with fail
    go_loopw [9, 10] (fun p i wr => ∃ k : Nat, k ≤ n ∧ i = .int .i64 (k : Int) ∧ p = .int .i64 ((erP X k : Nat) : Int) ∧ Below w1.heap.size w1 wr) (fun _ i _ => n - (intOf i).toNat)
    case atStart => exact ⟨0, Nat.zero_le _, rfl, rfl, Below.refl _ _⟩
    case round =>
      obtain ⟨k, hk, rfl, rfl, hb⟩ := hrel
      by_cases hlt : k < n
      · obtain ⟨b, off, C9, q, d, xs, rfl, hbs, hx, hcx, hrd, hq⟩ := (ht1.below hb).at_ hlt
        have hXk : X.getD k [] = xs := by
          rw [← HTS.out, List.getD_eq_getElem?_getD, List.getElem?_map, hx]; rfl
        have hql : xs.length = q := hrd.1
        have hk8 : k ≤ 8 := by omega
        clear hx hrd
        by_cases hq0 : q = 0
        · have hE : Hid (erP X (k + 1) = erP X k ||| 2 ^ k) := Lib.hid (erP_yes X k (by rw [hXk, (List.eq_nil_of_length_eq_zero (by omega) : xs = [])]; rfl))
          have hd : ((q : Int) == 0) = true := by rw [hq0]; rfl
          clear hXk hql hq0
          have hm := erP_lt X k
          obtain ⟨M, hM⟩ : ∃ M, M = erP X k := ⟨_, rfl⟩
          rw [← hM] at hm hE ⊢
          have hM24 : M < 2 ^ 8 := Nat.lt_of_lt_of_le hm (Nat.pow_le_pow_right (by decide) hk8)
          have h28 : (2 : Nat) ^ 8 = 256 := by decide
          have h2k : 2 ^ k ≤ 2 ^ 8 := Nat.pow_le_pow_right (by decide) hk8
          obtain ⟨P, hP⟩ : ∃ P, P = 2 ^ k := ⟨_, rfl⟩
          have HO := Lib.hid (one_any k (by omega) wr)
          rw [← hP] at HO hE h2k
          have hor : bits .or .i64 (M : Int) (P : Int) = ((M ||| P : Nat) : Int) := i64_or_nat M P (by omega) (by omega)
          clear hM hm hP
          go_wp2_with fail
          refine HO.out.mono ?_
          rintro e w' ⟨rfl, rfl⟩
          go_wp2_with fail
          go_roundw
          case rel => exact ⟨k + 1, by omega, by go_num, by rw [hE.out], hb⟩
          case measure => simp [intOf]; omega
        · have hE : Hid (erP X (k + 1) = erP X k) := Lib.hid (erP_no X k (by
            rw [hXk]
            cases xs with
            | nil => exact absurd hql.symm hq0
            | cons x r => rfl))
          have hd : ((q : Int) == 0) = false := by rw [beq_eq_false_iff_ne]; omega
          clear hXk hql
          go_wp2_with fail
          go_roundw
          case rel => exact ⟨k + 1, by omega, by go_num, by rw [hE.out], hb⟩
          case measure => simp [intOf]; omega
      · obtain rfl : k = n := by omega
        go_wp2_with fail
        go_ret2
        exact ⟨rfl, HB2.out.trans (hb.mono HB2.out.size)⟩
  · have hA : elAns L1 xs1 L2 xs2 X = (0, mCode L1 xs1 L2 xs2 X true) := by unfold elAns; rw [if_neg h0]
    rw [hA]
    obtain ⟨C, hC⟩ : ∃ C, C = mCode L1 xs1 L2 xs2 X true := ⟨_, rfl⟩
    rw [← hC] at HM h0 ⊢
    clear hC hA hts hXn
    have hd : (C == 0) = false := by simpa using h0
    have hd2 : (C != 0) = true := by simpa using h0
    go_enter Tryd.func29, Tryd.ntmps29
    go_wp2_with fail
    refine HM.out.mono ?_
    rintro e w1 ⟨rfl, hb1⟩
    go_wp2_with fail
    go_ret2
    exact ⟨rfl, HB.out.trans (hb1.mono HB.out.size)⟩
end Go.Proofs.YtdafdffmkjhhcaaDoor
