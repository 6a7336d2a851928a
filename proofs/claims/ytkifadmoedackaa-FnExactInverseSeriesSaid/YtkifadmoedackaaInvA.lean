/-
  InverseSeries: both sides.
-/
import Derived.Test.YtkifadmoedackaaInvP
namespace Go.Proofs.Ytkifadmoedackaa
open Go Go.RowKit
set_option linter.unusedVariables false
set_option maxRecDepth 100000

theorem isAns_out (p : List Int) (a : Int) (h : ¬ (0 ≤ a ∧ a ≤ 24)) : isAns p a = ([], 2) := by
  unfold isAns; rw [if_neg (by rw [decide_eq_false h]; simp)]
theorem isAns_big (p : List Int) (a : Int) (h : p.any bigC = true) : isAns p a = ([], 2) := by
  unfold isAns; rw [if_neg (by rw [h]; simp)]
theorem isAns_head (p : List Int) (k : Nat) (hk : k ≤ 24) (h : p.any bigC = false) (h2 : p.head? ≠ some 1) : isAns p (k : Int) = ([], 5) := by
  unfold isAns; rw [if_pos (by rw [decide_eq_true (by omega), h]; rfl), if_neg h2]
theorem isAns_in (p : List Int) (k : Nat) (hk : k ≤ 24) (h : p.any bigC = false) (h2 : p.head? = some 1) : isAns p (k : Int) = if invB p k = true then (invQ p k, 0) else ([], 3) := by
  unfold isAns; rw [if_pos (by rw [decide_eq_true (by omega), h]; rfl), if_pos h2]; rfl
theorem any_small (p : List Int) (h : p.any bigC = false) (i : Nat) : -1000 ≤ p.getD i 0 ∧ p.getD i 0 ≤ 1000 := by
  rw [List.getD_eq_getElem?_getD]
  by_cases e : i < p.length
  · rw [List.getElem?_eq_getElem e]
    have := List.any_eq_false.1 h _ (List.getElem_mem e)
    unfold bigC at this
    show -1000 ≤ p[i] ∧ p[i] ≤ 1000
    simp at this; omega
  · rw [List.getElem?_eq_none (by omega)]; decide
theorem head_at (p : List Int) : p.head? = p[0]? := by cases p <;> rfl
theorem isLength_any (a : Int) (w : World) : Calls Try.prog 12 #[.int .i64 a] w fun e w' => e = .returned (.bool (decide (0 ≤ a ∧ a ≤ 24))) ∧ w = w' := by
  by_cases h1 : 0 ≤ a
  · by_cases h2 : a ≤ 24
    · go_enter Try.func12, Try.ntmps12
      go_wp2
      go_ret
      exact ⟨ret_b _ _ (by simp [h1, h2]), rfl⟩
    · go_enter Try.func12, Try.ntmps12
      go_wp2
      go_ret
      exact ⟨ret_b _ _ (by simp [h2]), rfl⟩
  · go_enter Try.func12, Try.ntmps12
    go_wp2
    go_ret
    exact ⟨ret_b _ _ (by rw [decide_eq_false (show ¬ 0 ≤ a by omega)]; rfl), rfl⟩
theorem tooLarge_any (c : Int) (w : World) : Calls Try.prog 11 #[.int .i64 c] w fun e w' => e = .returned (.bool (bigC c)) ∧ w = w' := by
  by_cases h1 : c < -1000
  · have HB : Hid (bigC c = true) := Lib.hid (by unfold bigC; rw [decide_eq_true h1]; rfl)
    go_enter Try.func11, Try.ntmps11
    go_wp2
    go_ret
    exact ⟨ret_b _ _ HB.out.symm, rfl⟩
  · have HB : Hid (bigC c = decide (1000 < c)) := Lib.hid (by unfold bigC; rw [decide_eq_false h1]; rfl)
    go_enter Try.func11, Try.ntmps11
    go_wp2
    go_ret
    exact ⟨ret_b _ _ HB.out.symm, rfl⟩
set_option maxHeartbeats 1600000 in
theorem implInverseSeries (A : Option Addr) (n c : Nat) (xs : List Int) (a : Int) (w : World) (h : Rd w A n xs) (hwf : Wf xs) (hn : n ≤ 1048576) :
    Calls Try.prog 6 #[.slice A n c, .int .i64 a] w (AnsPost w (isAns xs a).1 (isAns xs a).2) := by
  have eg : ∀ args w, (callFunc 11 args).run Try.prog w = .ok (.enter 11 args) w := fun args w => Go.MuLone.run_callFunc_enter (P := Try.prog) Try.func11 (by kernel_rfl) rfl args w
  have HC := Lib.hid (containsFuncI_any bigC 11 #[] A n c xs w h hn eg (fun x _ => tooLarge_any x w))
  have HL := Lib.hid (isLength_any a w)
  have hlen := h.1
  clear eg
  by_cases ha : 0 ≤ a ∧ a ≤ 24
  · rw [decide_eq_true ha] at HL
    obtain ⟨k, rfl⟩ := Int.eq_ofNat_of_zero_le ha.1
    have hk : k ≤ 24 := by omega
    cases hb : xs.any bigC
    · rw [hb] at HC
      have hs := any_small xs hb
      by_cases hh : xs.head? = some 1
      · have HR := Lib.hid (isAns_in xs k hk hb hh)
        rw [head_at] at hh
        have hn0 : 0 < n := by
          rcases Nat.eq_zero_or_pos n with e | e
          · subst e; rw [List.getElem?_eq_none (by omega)] at hh; cases hh
          · exact e
        obtain ⟨b, off, x, rfl, hbs, hx, hcx⟩ := h.at_ hn0
        rw [hh] at hx
        injection hx with hx
        subst hx
        rw [Nat.add_zero] at hcx
        have hnz : ((n : Int) == 0) = false := by rw [beq_eq_false_iff_ne]; omega
        have HI := Lib.hid (inverse_any (some ⟨b, off, none⟩) n c k xs w h hn hk hs)
        rw [HR.out]
        have HQ := Lib.hid (invQ_len xs k)
        clear hb hh hs hlen HR ha
        cases hI : invB xs k
        · have HB := Lib.hid hI
          rw [if_neg (by decide)]
          clear hI
          go_enter Try.func6, Try.ntmps6
          go_wp2_with (first | (go_at_call 12; refine HL.out.mono ?_; rintro e w' ⟨rfl, rfl⟩) | (go_at_call 13; refine HC.out.mono ?_; rintro e w' ⟨rfl, rfl⟩))
          refine HI.out.mono ?_
          rintro e w1 (⟨hi, _⟩ | ⟨hi, rfl, hb⟩)
          · rw [HB.out] at hi; cases hi
          · clear hi
            go_wp2_with fail
            go_ret2
            exact ans_no 3 hb
        · have HB := Lib.hid hI
          rw [if_pos rfl]
          clear hI
          go_enter Try.func6, Try.ntmps6
          go_wp2_with (first | (go_at_call 12; refine HL.out.mono ?_; rintro e w' ⟨rfl, rfl⟩) | (go_at_call 13; refine HC.out.mono ?_; rintro e w' ⟨rfl, rfl⟩))
          refine HI.out.mono ?_
          rintro e w1 (⟨hi, A1, c1, rfl, ho, hb⟩ | ⟨hi, _⟩)
          · clear hi
            go_wp2_with fail
            go_ret2
            exact ans_yes HQ.out ho hb
          · rw [HB.out] at hi; cases hi
      · have HR := Lib.hid (isAns_head xs k hk hb hh)
        rw [HR.out]
        rw [head_at] at hh
        rcases Nat.eq_zero_or_pos n with hn0 | hn0
        · subst hn0
          clear hb hh hs hlen HR ha
          go_enter Try.func6, Try.ntmps6
          go_wp2_with (first | (go_at_call 12; refine HL.out.mono ?_; rintro e w' ⟨rfl, rfl⟩) | (go_at_call 13; refine HC.out.mono ?_; rintro e w' ⟨rfl, rfl⟩))
          go_ret2
          exact ans_no 5 (Below.refl _ _)
        · obtain ⟨b, off, x, rfl, hbs, hx, hcx⟩ := h.at_ hn0
          rw [hx] at hh
          rw [Nat.add_zero] at hcx
          have hnz : ((n : Int) == 0) = false := by rw [beq_eq_false_iff_ne]; omega
          have hx1 : x ≠ 1 := fun e => hh (by rw [e])
          clear hb hh hs hlen HR ha hx
          go_enter Try.func6, Try.ntmps6
          go_wp2_with (first | (go_at_call 12; refine HL.out.mono ?_; rintro e w' ⟨rfl, rfl⟩) | (go_at_call 13; refine HC.out.mono ?_; rintro e w' ⟨rfl, rfl⟩))
          go_ret2
          exact ans_no 5 (Below.refl _ _)
    · rw [hb] at HC
      have HR := Lib.hid (isAns_big xs k hb)
      rw [HR.out]
      clear hb hlen HR ha
      go_enter Try.func6, Try.ntmps6
      go_wp2_with (first | (go_at_call 12; refine HL.out.mono ?_; rintro e w' ⟨rfl, rfl⟩) | (go_at_call 13; refine HC.out.mono ?_; rintro e w' ⟨rfl, rfl⟩))
      go_ret2
      exact ans_no 2 (Below.refl _ _)
  · rw [decide_eq_false ha] at HL
    have HR := Lib.hid (isAns_out xs a ha)
    rw [HR.out]
    clear HR ha hlen
    go_enter Try.func6, Try.ntmps6
    go_wp2_with (first | (go_at_call 12; refine HL.out.mono ?_; rintro e w' ⟨rfl, rfl⟩) | (go_at_call 13; refine HC.out.mono ?_; rintro e w' ⟨rfl, rfl⟩))
    go_ret2
    exact ans_no 2 (Below.refl _ _)
theorem prod_parts (x y : Int) (hx : -1000 ≤ x ∧ x ≤ 1000) (hy : -1000000000000000 ≤ y ∧ y ≤ 1000000000000000) : x * y = (x * y.tdiv 1000000000) * 1000000000 + x * y.tmod 1000000000 ∧ -1000000000 ≤ x * y.tdiv 1000000000 ∧ x * y.tdiv 1000000000 ≤ 1000000000 ∧ -1000000000000 ≤ x * y.tmod 1000000000 ∧ x * y.tmod 1000000000 ≤ 1000000000000 := by
  have h1 := Int.mul_tdiv_add_tmod y 1000000000
  have h2 := Int.tmod_lt_of_pos y (show (0 : Int) < 1000000000 by decide)
  have h3 : -1000000000 < y.tmod 1000000000 := by
    have := Int.tmod_lt_of_pos (-y) (show (0 : Int) < 1000000000 by decide)
    rw [Int.neg_tmod] at this; omega
  have e : x * y = (x * y.tdiv 1000000000) * 1000000000 + x * y.tmod 1000000000 := by
    conv => lhs; rw [← h1]
    rw [Int.mul_add, ← Int.mul_assoc, Int.mul_comm x 1000000000, Int.mul_assoc, Int.mul_comm]
  have m1 := mul_small x (y.tdiv 1000000000) 1000 1000000 (by decide) hx (by omega)
  have m2 := mul_small x (y.tmod 1000000000) 1000 1000000000 (by decide) hx (by omega)
  exact ⟨e, by omega, by omega, by omega, by omega⟩
theorem invB_pred (xs : List Int) (p : Nat) (hp : 1 ≤ p) (h : invB xs (p - 1) = true) : invB xs p = maxB (nextV xs (invQ xs (p - 1))) := by
  obtain ⟨q, rfl⟩ : ∃ q, p = q + 1 := ⟨p - 1, by omega⟩
  rw [show q + 1 - 1 = q by omega] at h ⊢
  show (invB xs q && _) = _
  rw [h]; rfl
theorem invQ_pred (xs : List Int) (p : Nat) (hp : 1 ≤ p) : invQ xs p = invQ xs (p - 1) ++ [nextV xs (invQ xs (p - 1))] := by
  obtain ⟨q, rfl⟩ : ∃ q, p = q + 1 := ⟨p - 1, by omega⟩
  rw [show q + 1 - 1 = q by omega]; rfl
theorem cvS_pred (p q : List Int) (j : Nat) (hj : 1 ≤ j) : cvS p q (j - 1) - p.getD j 0 * q.getD (q.length - j) 0 = cvS p q j := cvS_next p q j hj
theorem own_one (E : TypeId) (w w0 : World) (x : Int) (h : w0.heap.size ≤ w.heap.size) : Own E (w.alloc (.cells #[.int .i64 x] E)) w0.heap.size (some ⟨w.heap.size, 0, none⟩) 1 1 [x] := by
  have : Own E (w.alloc (.cells #[.int .i64 x] E)) w.heap.size (some ⟨w.heap.size, 0, none⟩) 1 1 [x] := World.ownsRow_lit w #[.int .i64 x] 1 (Nat.le_refl _) (by unfold maxLen; omega) rfl
  exact this.mono h
theorem any_take (xs : List Int) (k : Nat) (x : Int) (hx : xs[k]? = some x) (h : (xs.take k).any bigC = false) : (xs.take (k + 1)).any bigC = bigC x := by
  rw [List.take_add_one, hx, List.any_append, h]; simp
theorem bigC_in (x : Int) : bigC x = !decide (-1000 ≤ x ∧ x ≤ 1000) := by
  unfold bigC
  by_cases h1 : x < -1000
  · rw [decide_eq_true h1, decide_eq_false (show ¬ (-1000 ≤ x ∧ x ≤ 1000) by omega)]; rfl
  · by_cases h2 : 1000 < x
    · rw [decide_eq_true h2, decide_eq_false (show ¬ (-1000 ≤ x ∧ x ≤ 1000) by omega), Bool.or_true]; rfl
    · rw [decide_eq_false h1, decide_eq_false h2, decide_eq_true (show -1000 ≤ x ∧ x ≤ 1000 by omega)]; rfl
set_option maxHeartbeats 6400000 in
theorem specInverseSeries (A : Option Addr) (n c : Nat) (xs : List Int) (a : Int) (w : World) (h : Rd w A n xs) (hwf : Wf xs) (hn : n ≤ 1048576) :
    Calls Try.prog 4 #[.slice A n c, .int .i64 a] w (AnsPost w (isAns xs a).1 (isAns xs a).2) := by
  have hlen := h.1
  obtain ⟨i0, hi, hz0, hz1, hz2⟩ := info_parts info_int
  by_cases ha : 0 ≤ a ∧ a ≤ 24
  · obtain ⟨m, rfl⟩ := Int.eq_ofNat_of_zero_le ha.1
    have hm : m ≤ 24 := by omega
    have HIN := Lib.hid (in_true (m : Int) 0 24 ha)
    have HL := Lib.hid hlen
    clear ha hlen
    go_enter Try.func4, Try.ntmps4
    go_wp2_with (go_at_call 10; refine (HIN.out _).mono ?_; rintro e w' ⟨rfl, rfl⟩)
    go_loopw [6] (fun i wr => ∃ k : Nat, k ≤ n ∧ i = .int .i64 k ∧ Below w.heap.size w wr ∧ Hid ((xs.take k).any bigC = false)) (fun i _ => n - (intOf i).toNat)
    case atStart => exact ⟨0, Nat.zero_le _, rfl, Below.refl _ _, Lib.hid rfl⟩
    case round =>
      obtain ⟨k, hk, rfl, hb0, HA⟩ := hrel
      by_cases hlt : k < n
      · obtain ⟨b, off, x, rfl, hbs, hx, hcx⟩ := (h.below hb0).at_ hlt
        have HB := Lib.hid (any_take xs k x hx HA.out)
        have HBI := Lib.hid (bigC_in x)
        by_cases hin : -1000 ≤ x ∧ x ≤ 1000
        · have HI2 := Lib.hid (in_true x (-1000) 1000 hin)
          rw [HBI.out, decide_eq_true hin] at HB
          clear hx hin
          go_wp2_with (go_at_call 10; refine (HI2.out _).mono ?_; rintro e w' ⟨rfl, rfl⟩)
          go_roundw
          case rel => exact ⟨k + 1, by omega, by go_num, hb0, HB⟩
          case measure => simp [intOf]; omega
        · have HI2 := Lib.hid (in_false x (-1000) 1000 hin)
          rw [HBI.out, decide_eq_false hin] at HB
          have HR := Lib.hid (isAns_big xs m (by
            have h9 : (xs.take (k + 1)).any bigC = true := HB.out
            rw [List.any_eq_true] at h9 ⊢
            obtain ⟨y, hy, hb⟩ := h9
            exact ⟨y, List.mem_of_mem_take hy, hb⟩))
          clear hx hin
          go_wp2_with (go_at_call 10; refine (HI2.out _).mono ?_; rintro e w' ⟨rfl, rfl⟩)
          go_ret2
          rw [HR.out]; exact ans_no 2 hb0
      · obtain rfl : k = n := by omega
        have hb : xs.any bigC = false := by
          have h9 := HA.out
          rw [List.take_of_length_le (by rw [HL.out]; exact Nat.le_refl _)] at h9; exact h9
        have hs := Lib.hid (any_small xs hb)
        by_cases hh : xs.head? = some 1
        · have HR := Lib.hid (isAns_in xs m hm hb hh)
          rw [head_at] at hh
          have hn0 : 0 < k := by
            rcases Nat.eq_zero_or_pos k with e | e
            · subst e; rw [List.getElem?_eq_none (by rw [HL.out]; exact Nat.le_refl _)] at hh; cases hh
            · exact e
          obtain ⟨b, off, x, rfl, hbs, hx, hcx⟩ := (h.below hb0).at_ hn0
          rw [hh] at hx
          injection hx with hx
          subst hx
          rw [Nat.add_zero] at hcx
          have hnz : ((k : Int) == 0) = false := by rw [beq_eq_false_iff_ne]; omega
          clear hb hh
          go_wp2_with fail
          go_loopw [7, 8] (fun v i wx => ∃ (p : Nat) (A1 : Option Addr) (c1 : Nat), 1 ≤ p ∧ p ≤ m + 1 ∧ i = .int .i64 p ∧ v = .slice A1 p c1 ∧ Own 2 wx w.heap.size A1 p c1 (invQ xs (p - 1)) ∧ Below w.heap.size w wx ∧ Hid (invB xs (p - 1) = true)) (fun _ i _ => m + 1 - (intOf i).toNat)
          case atStart => exact ⟨1, _, 1, Nat.le_refl _, by omega, rfl, rfl, own_one _ _ w 1 hb0.size, hb0.alloc hb0.size _, Lib.hid rfl⟩
          case round =>
            clear hcx
            obtain ⟨p, A1, c1, hp1, hp2, rfl, rfl, ho, hb, HI⟩ := hrel
            have HQL : Hid ((invQ xs (p - 1)).length = p) := Lib.hid (by rw [invQ_len]; omega)
            by_cases hlt : p ≤ m
            · have HQ2 := Lib.hid (invQ_small xs (p - 1) HI.out)
              have HB1 := Lib.hid (invB_pred xs p hp1 HI.out)
              have HQ1 := Lib.hid (invQ_pred xs p hp1)
              obtain ⟨qs, hqs⟩ : ∃ qs, qs = invQ xs (p - 1) := ⟨_, rfl⟩
              rw [← hqs] at HQL HQ2 HB1 HQ1 ho
              clear hqs
              obtain ⟨w1, rfl⟩ : ∃ w9 : World, w9 = wr := ⟨_, rfl⟩
              go_wp2_with fail
              go_loopw [9, 10, 11] (fun a b i wy => ∃ (j : Nat) (W R : Int), 1 ≤ j ∧ j ≤ p + 1 ∧ (1 < j → j ≤ k) ∧ a = .int .i64 W ∧ b = .int .i64 R ∧ i = .int .i64 j ∧ Hid (W * 1000000000 + R = cvS xs qs (j - 1)) ∧ (-1000000000 * (j - 1 : Int) ≤ W ∧ W ≤ 1000000000 * (j - 1 : Int)) ∧ (-1000000000000 * (j - 1 : Int) ≤ R ∧ R ≤ 1000000000000 * (j - 1 : Int)) ∧ Below w1.heap.size w1 wy) (fun _ _ i _ => p + 1 - (intOf i).toNat)
              case atStart => exact ⟨1, 0, 0, Nat.le_refl _, by omega, by omega, rfl, rfl, rfl, Lib.hid rfl, by omega, by omega, Below.refl _ _⟩
              case round =>
                obtain ⟨j, W, R, hj1, hj2, hj3, rfl, rfl, rfl, HS, hW, hR, hb1⟩ := hrel
                by_cases hjp : j ≤ p
                · by_cases hjk : j < k
                  · obtain ⟨b1, off1, x, e1, hbs1, hx, hcx⟩ := (h.below (hb.trans (hb1.mono hb.size))).at_ hjk
                    cases e1
                    obtain ⟨t, ht⟩ : ∃ t, t = p - j := ⟨_, rfl⟩
                    have htp : t < p := by omega
                    obtain ⟨b2, off2, y, rfl, hbs2, hy, hcy⟩ := (ho.rd.below hb1).at_ (k := t) htp
                    have hxv : xs.getD j 0 = x := by rw [List.getD_eq_getElem?_getD, hx]; rfl
                    have hyv : qs.getD (qs.length - j) 0 = y := by rw [HQL.out, ← ht, List.getD_eq_getElem?_getD, hy]; rfl
                    have hpx := hs.out j
                    have hqy := HQ2.out (qs.length - j)
                    rw [hxv] at hpx
                    rw [hyv] at hqy
                    have hnx := Lib.hid (cvS_pred xs qs j hj1)
                    rw [hxv, hyv] at hnx
                    obtain ⟨p1, p2, p3, p4, p5⟩ := prod_parts x y hpx hqy
                    obtain ⟨U, hU⟩ : ∃ U, U = x * y.tdiv 1000000000 := ⟨_, rfl⟩
                    obtain ⟨V, hV⟩ : ∃ V, V = x * y.tmod 1000000000 := ⟨_, rfl⟩
                    rw [← hU] at p1 p2 p3
                    rw [← hV] at p1 p4 p5
                    have HN : Hid ((W - U) * 1000000000 + (R - V) = cvS xs qs j) := Lib.hid (by
                      have h9 := HS.out
                      rw [← hnx.out]
                      omega)
                    have HXY := Lib.hid p1
                    obtain ⟨Y1, hY1⟩ : ∃ Y1, Y1 = y.tdiv 1000000000 := ⟨_, rfl⟩
                    obtain ⟨Y2, hY2⟩ : ∃ Y2, Y2 = y.tmod 1000000000 := ⟨_, rfl⟩
                    have hu1 : IntKind.i64.wrap (x * y.tdiv 1000000000) = U := by rw [← hU, IntKind.wrap_i64]; omega
                    have hv1 : IntKind.i64.wrap (x * y.tmod 1000000000) = V := by rw [← hV, IntKind.wrap_i64]; omega
                    have hu2 : IntKind.i64.wrap (W - U) = W - U := by rw [IntKind.wrap_i64]; omega
                    have hv2 : IntKind.i64.wrap (R - V) = R - V := by rw [IntKind.wrap_i64]; omega
                    have hidx : IntKind.i64.wrap ((p : Int) - (j : Int)) = (t : Int) := by rw [IntKind.wrap_i64]; omega
                    clear hx hy hxv hyv hU hV hY1 hY2 p1 ht
                    go_wp2_with fail
                    go_region
                    go_wp2_with fail
                    go_region
                    go_wp2_with fail
                    go_roundw
                    case rel => exact ⟨j + 1, W - U, R - V, by omega, by omega, by omega, rfl, rfl, by go_num, HN, by omega, by omega, by first | exact below_drewN hb1 _ | exact hb1.drew.drew | exact hb1.drew⟩
                    case measure => simp [intOf]; omega
                  · have HV : Hid (nextV xs qs = W * 1000000000 + R) := Lib.hid (by
                      unfold nextV cvN
                      rw [HL.out, HQL.out, show min (k - 1) p = j - 1 by omega]; exact HS.out.symm)
                    have ho3 := ho.below hb1
                    have hb3 := hb.trans (hb1.mono hb.size)
                    clear HS ho
                    by_cases hWb : -2000000 ≤ W ∧ W ≤ 2000000
                    · have HW1 := Lib.hid (in_true W (-2000000) 2000000 hWb)
                      obtain ⟨S, hS⟩ : ∃ S, S = W * 1000000000 + R := ⟨_, rfl⟩
                      have HSE : Hid (wrap64 (wrap64 (W * 1000000000) + R) = S) := Lib.hid (by rw [hS]; unfold wrap64; omega)
                      rw [← hS] at HV
                      by_cases hSb : -1000000000000000 ≤ S ∧ S ≤ 1000000000000000
                      · have HS1 := Lib.hid (in_true S (-1000000000000000) 1000000000000000 hSb)
                        have HM1 : Hid (invB xs p = true) := Lib.hid (by rw [HB1.out, HV.out]; unfold maxB; rw [decide_eq_true hSb])
                        rw [HV.out, ← HSE.out] at HQ1
                        have hml : p + 1 ≤ maxLen := by unfold maxLen; omega
                        have hby2 : (p + 1) * 8 ≤ 140737488355328 := by omega
                        clear hSb hWb HV HB1
                        obtain ⟨w2, rfl⟩ : ∃ w9 : World, w9 = wr := ⟨_, rfl⟩
                        clear hS
                        go_wp2_with fail
                        refine (HW1.out _).mono ?_
                        rintro e w' ⟨rfl, rfl⟩
                        go_wp2_with fail
                        rw [HSE.out]
                        refine (HS1.out _).mono ?_
                        rintro e w' ⟨rfl, rfl⟩
                        go_wp2_with (at_builtin; refine wpList_append_own _ rfl _ _ 22 rfl w.heap.size 2 i0 (.int .i64 0) 1 8 Try.underlying22 hi hz0 hz1 hz2 rfl (by decide) (.slice A1 p c1) p (qs.map (Value.int .i64)) rfl (World.ownsRow.alloc ho3 _) ⟨w2.heap.size, 0, none⟩ 1 1 [.int .i64 (wrap64 (wrap64 (W * 1000000000) + R))] rfl rfl ?s1 ?s2 hml hby2 ?s5 ?_)
                        case s1 => exact cell_one_new _ _ _
                        case s2 => intro u hu; simp at hu; subst hu; rfl
                        case s5 => have := hb3.size; simp; omega
                        intro v' w3 hown hg _
                        rw [snoc_map, ← HQ1.out] at hown
                        have hb4 : Below w.heap.size w w3 := (hb3.alloc hb3.size _).grown hg (by have := hb3.size; simp; omega) (fun g hgr => (World.ownsRow.lt ho3 g hgr).1)
                        obtain ⟨A2, c2, hv, ho4⟩ := own_shape hown
                        rw [hv]
                        clear hg hown hv
                        go_wp2_with fail
                        go_roundw
                        case rel => exact ⟨p + 1, A2, c2, by omega, by omega, by go_num, rfl, ho4, hb4, HM1⟩
                        case measure => simp [intOf]; omega
                      · have HS1 := Lib.hid (in_false S (-1000000000000000) 1000000000000000 hSb)
                        have HM1 : Hid (invB xs p = false) := Lib.hid (by rw [HB1.out, HV.out]; unfold maxB; rw [decide_eq_false hSb])
                        have HR2 : Hid (isAns xs m = ([], 3)) := Lib.hid (by rw [HR.out, if_neg (by rw [invB_no xs p m hlt HM1.out]; decide)])
                        clear hSb hWb HV HB1 hS
                        go_wp2_with fail
                        refine (HW1.out _).mono ?_
                        rintro e w' ⟨rfl, rfl⟩
                        go_wp2_with fail
                        rw [HSE.out]
                        refine (HS1.out _).mono ?_
                        rintro e w' ⟨rfl, rfl⟩
                        go_wp2_with fail
                        go_ret2
                        rw [HR2.out]; exact ans_no 3 hb3
                    · have HW1 := Lib.hid (in_false W (-2000000) 2000000 hWb)
                      have HM1 : Hid (invB xs p = false) := Lib.hid (by rw [HB1.out, HV.out]; unfold maxB; rw [decide_eq_false (by omega)])
                      have HR2 : Hid (isAns xs m = ([], 3)) := Lib.hid (by rw [HR.out, if_neg (by rw [invB_no xs p m hlt HM1.out]; decide)])
                      clear hWb HV HB1
                      go_wp2_with fail
                      refine (HW1.out _).mono ?_
                      rintro e w' ⟨rfl, rfl⟩
                      go_wp2_with fail
                      go_ret2
                      rw [HR2.out]; exact ans_no 3 hb3
                · have HV : Hid (nextV xs qs = W * 1000000000 + R) := Lib.hid (by
                    unfold nextV cvN
                    rw [HL.out, HQL.out, show min (k - 1) p = j - 1 by omega]; exact HS.out.symm)
                  have ho3 := ho.below hb1
                  have hb3 := hb.trans (hb1.mono hb.size)
                  clear HS ho
                  by_cases hWb : -2000000 ≤ W ∧ W ≤ 2000000
                  · have HW1 := Lib.hid (in_true W (-2000000) 2000000 hWb)
                    obtain ⟨S, hS⟩ : ∃ S, S = W * 1000000000 + R := ⟨_, rfl⟩
                    have HSE : Hid (wrap64 (wrap64 (W * 1000000000) + R) = S) := Lib.hid (by rw [hS]; unfold wrap64; omega)
                    rw [← hS] at HV
                    by_cases hSb : -1000000000000000 ≤ S ∧ S ≤ 1000000000000000
                    · have HS1 := Lib.hid (in_true S (-1000000000000000) 1000000000000000 hSb)
                      have HM1 : Hid (invB xs p = true) := Lib.hid (by rw [HB1.out, HV.out]; unfold maxB; rw [decide_eq_true hSb])
                      rw [HV.out, ← HSE.out] at HQ1
                      have hml : p + 1 ≤ maxLen := by unfold maxLen; omega
                      have hby2 : (p + 1) * 8 ≤ 140737488355328 := by omega
                      clear hSb hWb HV HB1
                      obtain ⟨w2, rfl⟩ : ∃ w9 : World, w9 = wr := ⟨_, rfl⟩
                      clear hS
                      go_wp2_with fail
                      refine (HW1.out _).mono ?_
                      rintro e w' ⟨rfl, rfl⟩
                      go_wp2_with fail
                      rw [HSE.out]
                      refine (HS1.out _).mono ?_
                      rintro e w' ⟨rfl, rfl⟩
                      go_wp2_with (at_builtin; refine wpList_append_own _ rfl _ _ 22 rfl w.heap.size 2 i0 (.int .i64 0) 1 8 Try.underlying22 hi hz0 hz1 hz2 rfl (by decide) (.slice A1 p c1) p (qs.map (Value.int .i64)) rfl (World.ownsRow.alloc ho3 _) ⟨w2.heap.size, 0, none⟩ 1 1 [.int .i64 (wrap64 (wrap64 (W * 1000000000) + R))] rfl rfl ?s1 ?s2 hml hby2 ?s5 ?_)
                      case s1 => exact cell_one_new _ _ _
                      case s2 => intro u hu; simp at hu; subst hu; rfl
                      case s5 => have := hb3.size; simp; omega
                      intro v' w3 hown hg _
                      rw [snoc_map, ← HQ1.out] at hown
                      have hb4 : Below w.heap.size w w3 := (hb3.alloc hb3.size _).grown hg (by have := hb3.size; simp; omega) (fun g hgr => (World.ownsRow.lt ho3 g hgr).1)
                      obtain ⟨A2, c2, hv, ho4⟩ := own_shape hown
                      rw [hv]
                      clear hg hown hv
                      go_wp2_with fail
                      go_roundw
                      case rel => exact ⟨p + 1, A2, c2, by omega, by omega, by go_num, rfl, ho4, hb4, HM1⟩
                      case measure => simp [intOf]; omega
                    · have HS1 := Lib.hid (in_false S (-1000000000000000) 1000000000000000 hSb)
                      have HM1 : Hid (invB xs p = false) := Lib.hid (by rw [HB1.out, HV.out]; unfold maxB; rw [decide_eq_false hSb])
                      have HR2 : Hid (isAns xs m = ([], 3)) := Lib.hid (by rw [HR.out, if_neg (by rw [invB_no xs p m hlt HM1.out]; decide)])
                      clear hSb hWb HV HB1 hS
                      go_wp2_with fail
                      refine (HW1.out _).mono ?_
                      rintro e w' ⟨rfl, rfl⟩
                      go_wp2_with fail
                      rw [HSE.out]
                      refine (HS1.out _).mono ?_
                      rintro e w' ⟨rfl, rfl⟩
                      go_wp2_with fail
                      go_ret2
                      rw [HR2.out]; exact ans_no 3 hb3
                  · have HW1 := Lib.hid (in_false W (-2000000) 2000000 hWb)
                    have HM1 : Hid (invB xs p = false) := Lib.hid (by rw [HB1.out, HV.out]; unfold maxB; rw [decide_eq_false (by omega)])
                    have HR2 : Hid (isAns xs m = ([], 3)) := Lib.hid (by rw [HR.out, if_neg (by rw [invB_no xs p m hlt HM1.out]; decide)])
                    clear hWb HV HB1
                    go_wp2_with fail
                    refine (HW1.out _).mono ?_
                    rintro e w' ⟨rfl, rfl⟩
                    go_wp2_with fail
                    go_ret2
                    rw [HR2.out]; exact ans_no 3 hb3
            · obtain rfl : p = m + 1 := by omega
              have e9 : m + 1 - 1 = m := by omega
              rw [e9] at ho HI
              have HQ9 := Lib.hid (invQ_len xs m)
              have HR2 : Hid (isAns xs m = (invQ xs m, 0)) := Lib.hid (by rw [HR.out, if_pos HI.out])
              clear e9 HQL
              go_wp2_with fail
              go_ret2
              rw [HR2.out]
              exact ans_yes HQ9.out ho hb
        · have HR := Lib.hid (isAns_head xs m hm hb hh)
          rw [head_at] at hh
          rcases Nat.eq_zero_or_pos k with hn0 | hn0
          · subst hn0
            clear hb hh
            go_wp2_with fail
            go_ret2
            rw [HR.out]; exact ans_no 5 hb0
          · obtain ⟨b, off, x, rfl, hbs, hx, hcx⟩ := (h.below hb0).at_ hn0
            rw [hx] at hh
            rw [Nat.add_zero] at hcx
            have hnz : ((k : Int) == 0) = false := by rw [beq_eq_false_iff_ne]; omega
            have hx1 : x ≠ 1 := fun e => hh (by rw [e])
            clear hb hh hx
            go_wp2_with fail
            go_ret2
            rw [HR.out]; exact ans_no 5 hb0
  · have HIN := Lib.hid (in_false a 0 24 ha)
    have HR := Lib.hid (isAns_out xs a ha)
    rw [HR.out]
    clear HR ha hlen
    go_enter Try.func4, Try.ntmps4
    go_wp2_with (go_at_call 10; refine (HIN.out _).mono ?_; rintro e w' ⟨rfl, rfl⟩)
    go_ret2
    exact ans_no 2 (Below.refl _ _)
end Go.Proofs.Ytkifadmoedackaa
