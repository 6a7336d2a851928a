/-
  Whether a value is an alphabet: the program's way and the model's, by contracts.
-/
import Derived.Test.YtcojodkcpemfdaaDoorAlph
import Derived.Test.YtcojodkcpemfdaaDoorB2
import Derived.Deep.QuietTactic
import Derived.BigQuiet
namespace Go.Proofs.YtcojodkcpemfdaaDoor
open Go.RowKit
set_option linter.unusedVariables false
set_option maxRecDepth 100000

theorem isNum_any (L : Int) (w : World) : Calls Tryd.prog 183 #[.int .i64 L] w fun e w' => e = .returned (.bool (decide (0 ≤ L ∧ L ≤ 8))) ∧ w = w' := by
  by_cases h1 : 0 ≤ L
  · by_cases h2 : L ≤ 8
    · go_enter Tryd.func183, Tryd.ntmps183
      go_wp2
      go_ret
      exact ⟨ret_b _ _ (by rw [decide_eq_true ⟨h1, h2⟩]), rfl⟩
    · go_enter Tryd.func183, Tryd.ntmps183
      go_wp2
      go_ret
      exact ⟨ret_b _ _ (by symm; simp; omega), rfl⟩
  · go_enter Tryd.func183, Tryd.ntmps183
    go_wp2
    go_ret
    exact ⟨ret_b _ _ (by symm; simp; omega), rfl⟩
theorem all_range_next (p : Nat → Bool) (k : Nat) : (List.range (k + 1)).all p = ((List.range k).all p && p k) := by
  rw [List.range_succ, List.all_append]; simp
theorem all_range_no (p : Nat → Bool) (n k : Nat) (hk : k < n) (h : p k = false) : (List.range n).all p = false := by
  rw [Bool.eq_false_iff]
  intro e
  have := List.all_eq_true.1 e k (List.mem_range.2 hk)
  rw [h] at this; cases this
theorem same_ints (rs cs : List Nat) : sameB (ints rs) (ints cs) = decide (rs = cs) := by
  unfold sameB
  rw [decide_eq_decide]; exact ints_inj rs cs
set_option maxHeartbeats 800000 in
theorem isDep_any (A : Option Addr) (n c : Nat) (rs : List Nat) (w : World) (h : Rd w A n (ints rs)) (hn : n ≤ 24) (hr : ∀ i, rs.getD i 0 < 2 ^ n) (hT : Tab w) :
    Calls Tryd.prog 184 #[.slice A n c] w fun e w' => e = .returned (.bool (depB rs)) ∧ Below w.heap.size w w' := by
  have hlen : rs.length = n := by have := h.1; rw [ints_len] at this; exact this
  have HL := Lib.hid hlen
  clear hlen
  have hn2 : n ≤ 9223372036854775807 := by omega
  go_enter Tryd.func184, Tryd.ntmps184
  go_wp2
  go_loop [7] (fun q => ∃ k : Nat, k ≤ n ∧ q = .int .i64 k ∧ (List.range k).all (fun i => (rs.getD i 0).testBit i) = true) (fun q => n - (intOf q).toNat)
  case atStart => exact ⟨0, Nat.zero_le _, rfl, rfl⟩
  case round =>
    obtain ⟨k, hk, rfl, hall⟩ := hrel
    have HA := Lib.hid hall
    clear hall
    by_cases hlt : k < n
    · obtain ⟨b, off, x, rfl, hbs, hx, hcx⟩ := h.at_ hlt
      have hx2 := ints_getD rs k (by rw [HL.out]; exact hlt)
      rw [hx2] at hx
      injection hx with hx
      subst hx
      have hm := lt63 hn (hr k)
      have hk62 : k ≤ 62 := by omega
      obtain ⟨D, hD⟩ : ∃ D, D = rs.getD k 0 := ⟨_, rfl⟩
      rw [← hD] at hcx hm
      have HD := Lib.hid hD
      clear hx2 hD
      cases hb : D.testBit k
      · have HB := Lib.hid hb
        clear hb
        go_wp2_with fail
        refine (has_any D k hm hk62 _).mono ?_
        rintro e w' ⟨rfl, rfl⟩
        rw [HB.out]
        go_wp2
        go_ret
        refine ⟨ret_b _ _ ?_, Below.refl _ _⟩
        unfold depB reflB
        rw [HL.out, all_range_no _ n k hlt (by rw [← HD.out]; exact HB.out)]; rfl
      · have HB := Lib.hid hb
        clear hb
        go_wp2_with fail
        refine (has_any D k hm hk62 _).mono ?_
        rintro e w' ⟨rfl, rfl⟩
        rw [HB.out]
        go_wp2
        go_round
        case rel => exact ⟨k + 1, by omega, by go_num, by rw [all_range_next, HA.out, ← HD.out, HB.out]; rfl⟩
        case measure => simp [intOf]; omega
    · obtain rfl : k = n := by omega
      go_wp2_with fail
      refine (converse_any A k c rs _ h hn hr hT).mono ?_
      rintro e w1 ⟨A1, c1, rfl, ho1, hb1⟩
      go_wp2_with fail
      refine (equal_any _ _ _ _ _ _ _ _ (h.below hb1) ho1.rd hn2).mono ?_
      rintro e w2 ⟨rfl, hb2⟩
      go_wp2
      go_ret
      refine ⟨ret_b _ _ ?_, hb1.trans (hb2.mono hb1.size)⟩
      rw [same_ints]
      unfold depB reflB
      rw [HL.out, HA.out]; rfl
set_option maxHeartbeats 800000 in
theorem dependenceOf_yes (L : Int) (A : Option Addr) (n c : Nat) (rs : List Nat) (w : World) (h : Rd w A n (ints rs)) (hwf : Wf (ints rs)) (hn : n ≤ 8) (hL : L = (n : Int)) (hr : ∀ i, rs.getD i 0 < 2 ^ n) (hrel : relB (ints rs) = true) (hd : depB rs = true) (hT : Tab w) :
    Calls Tryd.prog 133 #[.agg #[.int .i64 L, .slice A n c]] w fun e w' => ∃ A c, e = .returned (.tuple #[.slice A n c, .bool true]) ∧ Own 84 w' w.heap.size A n c (ints rs) ∧ Below w.heap.size w w' := by
  subst hL
  have HB := Lib.hid (below1 w (.cells #[.int .i64 (n : Int), .slice A n c] 29))
  have hn2 : n ≤ 9223372036854775807 := by omega
  have h24 : n ≤ 24 := by omega
  have HR := Lib.hid hrel
  have HD := Lib.hid hd
  have HN := Lib.hid (decide_eq_true (show (0 : Int) ≤ (n : Int) ∧ (n : Int) ≤ 8 by omega))
  have hh := h.below HB.out
  have x0 := box_new 29 w (n : Int) A n c
  clear hrel hd
  go_enter Tryd.func133, Tryd.ntmps133
  go_wp2_with fail
  refine (relationOf_yes _ _ _ _ _ hh hwf hn2 HR.out).mono ?_
  rintro e w1 ⟨A1, c1, rfl, ho1, hb1⟩
  have x1 := x0.next hb1
  have y0 := x1.c0
  have hT1 := (hT.below HB.out).below hb1
  have HBB := Lib.hid (HB.out.trans (hb1.mono HB.out.size))
  have HO := Lib.hid (ho1.mono HB.out.size)
  have hrd := ho1.rd
  clear ho1 hb1 x0 x1 hh h
  go_wp2_with fail
  refine (isNum_any _ _).mono ?_
  rintro e w' ⟨rfl, rfl⟩
  rw [HN.out]
  go_wp2_with fail
  refine (isDep_any _ _ _ rs _ hrd h24 hr hT1).mono ?_
  rintro e w2 ⟨rfl, hb2⟩
  rw [HD.out]
  go_wp2_with fail
  go_ret2
  exact ⟨A1, c1, rfl, HO.out.below hb2, HBB.out.trans (hb2.mono HBB.out.size)⟩
set_option maxHeartbeats 800000 in
theorem dependenceOf_no (L : Int) (A : Option Addr) (n c : Nat) (xs : List Int) (w : World) (h : Rd w A n xs) (hwf : Wf xs) (hL1 : -9223372036854775808 ≤ L) (hL2 : L ≤ 9223372036854775807) (hn : n ≤ 9223372036854775807) (ha : alphB L xs = false) (hT : Tab w) :
    Calls Tryd.prog 133 #[.agg #[.int .i64 L, .slice A n c]] w fun e w' => e = .returned (.tuple #[.slice none 0 0, .bool false]) ∧ Below w.heap.size w w' := by
  have HB := Lib.hid (below1 w (.cells #[.int .i64 L, .slice A n c] 29))
  have HA := Lib.hid ha
  have hh := h.below HB.out
  have x0 := box_new 29 w L A n c
  clear ha
  cases hrel : relB xs
  · have HR := Lib.hid hrel
    clear hrel
    go_enter Tryd.func133, Tryd.ntmps133
    go_wp2_with fail
    refine (relationOf_no _ _ _ _ _ hh hwf hn HR.out).mono ?_
    rintro e w1 ⟨rfl, hb1⟩
    go_wp2_with fail
    go_ret2
    exact ⟨rfl, HB.out.trans (hb1.mono HB.out.size)⟩
  · have HR := Lib.hid hrel
    clear hrel
    obtain ⟨hx1, hx2⟩ := clos_nats xs HR.out
    have hlen := h.1
    by_cases hL : 0 ≤ L ∧ L ≤ 8
    · have HN := Lib.hid (decide_eq_true hL)
      go_enter Tryd.func133, Tryd.ntmps133
      go_wp2_with fail
      refine (relationOf_yes _ _ _ _ _ hh hwf hn HR.out).mono ?_
      rintro e w1 ⟨A1, c1, rfl, ho1, hb1⟩
      have x1 := x0.next hb1
      have y0 := x1.c0
      have hT1 := (hT.below HB.out).below hb1
      have HBB := Lib.hid (HB.out.trans (hb1.mono HB.out.size))
      have hrd := ho1.rd
      clear ho1 hb1 x0 x1 hh h
      go_wp2_with fail
      refine (isNum_any _ _).mono ?_
      rintro e w' ⟨rfl, rfl⟩
      rw [HN.out]
      clear HN
      by_cases hnl : (n : Int) = L
      · subst hnl
        have h24 : n ≤ 24 := by omega
        rw [hlen] at hx2
        obtain ⟨rs, hrs⟩ : ∃ rs, rs = xs.map Int.toNat := ⟨_, rfl⟩
        rw [← hrs] at hx1 hx2
        subst hx1
        have hd : depB rs = false := by
          cases hd : depB rs
          · rfl
          · have h1 := alphB_yes n rs (by rw [← ints_len]; exact hlen) (by omega) HR.out hd
            rw [HA.out] at h1; cases h1
        have HD := Lib.hid hd
        clear hd hlen hL hrs
        go_wp2_with fail
        refine (isDep_any _ _ _ rs _ hrd h24 hx2 hT1).mono ?_
        rintro e w2 ⟨rfl, hb2⟩
        rw [HD.out]
        go_wp2_with fail
        go_ret2
        exact ⟨rfl, HBB.out.trans (hb2.mono HBB.out.size)⟩
      · have hnl2 : ((n : Int) != L) = true := by simpa using hnl
        go_wp2_with fail
        go_ret2
        exact ⟨rfl, HBB.out⟩
    · have HN := Lib.hid (decide_eq_false hL)
      go_enter Tryd.func133, Tryd.ntmps133
      go_wp2_with fail
      refine (relationOf_yes _ _ _ _ _ hh hwf hn HR.out).mono ?_
      rintro e w1 ⟨A1, c1, rfl, ho1, hb1⟩
      have x1 := x0.next hb1
      have y0 := x1.c0
      have HBB := Lib.hid (HB.out.trans (hb1.mono HB.out.size))
      clear ho1 hb1 x0 x1 hh h
      go_wp2_with fail
      refine (isNum_any _ _).mono ?_
      rintro e w' ⟨rfl, rfl⟩
      rw [HN.out]
      go_wp2_with fail
      go_ret2
      exact ⟨rfl, HBB.out⟩
theorem bitq_is (m k : Nat) (v : Bool) (h : m.testBit k = v) (hm : m < 9223372036854775808) (hk : k ≤ 62) (w : World) (j : Nat) :
    Calls Tryd.prog 125 #[.int .i64 (m : Int), .int .i64 (k : Int)] (w.drewN j) fun e w'' => e = .returned (.bool v) ∧ ∃ m', w'' = w.drewN m' := bit_is m k v h hm hk w j
theorem dep_false (rs : List Nat) (n : Nat) (hn : rs.length = n) (hr : ∀ i, rs.getD i 0 < 2 ^ n) (h : ¬ Dep rs) : depB rs = false := by
  rw [Bool.eq_false_iff]; intro e; exact h ((depB_iff rs n hn hr).1 e)
set_option maxHeartbeats 1600000 in
theorem l02Is_rel (A : Option Addr) (n c : Nat) (rs : List Nat) (w : World) (h : Rd w A n (ints rs)) (hn : n ≤ 8) (hr : ∀ i, rs.getD i 0 < 2 ^ n) (hrel : relB (ints rs) = true) :
    Calls Tryd.prog 78 #[.agg #[.int .i64 (n : Int), .slice A n c]] w fun e w' => e = .returned (.bool (depB rs)) ∧ Below w.heap.size w w' := by
  have hlen : rs.length = n := by have := h.1; rw [ints_len] at this; exact this
  have h24 : n ≤ 24 := by omega
  have hn62 : n ≤ 62 := by omega
  have hn2 : n ≤ 9223372036854775807 := by omega
  have hin : inFull n (ints rs) = true := by
    unfold inFull
    rw [all_mask _ n h24]
    unfold relB at hrel
    rw [Bool.and_eq_true, ints_len, hlen] at hrel
    exact hrel.2
  have HYES := Lib.hid (fun hd : Dep rs => (depB_iff rs n hlen hr).2 hd)
  have HNO := Lib.hid (fun hd : ¬ Dep rs => dep_false rs n hlen hr hd)
  have HL := Lib.hid hlen
  have HI := Lib.hid hin
  have HB := Lib.hid (below1 w (.cells #[.int .i64 (n : Int), .slice A n c] 29))
  have hh := h.below HB.out
  have x0 := box_new 29 w (n : Int) A n c
  clear hlen hin hrel
  go_enter Tryd.func78, Tryd.ntmps78
  go_wp2_with fail
  refine (in_true _ _ _ (by omega) _).mono ?_
  rintro e w' ⟨rfl, rfl⟩
  go_wp2_with fail
  refine (masks_any n hn62 _ _ _ _ _ hh hn2).mono ?_
  rintro e w1 ⟨rfl, hb1⟩
  rw [HI.out]
  have x1 := x0.next hb1
  have HB1 := Lib.hid (HB.out.trans (hb1.mono HB.out.size))
  go_wp2_with fail
  go_loopw [3] (fun i wr => ∃ k : Nat, k ≤ n ∧ i = .int .i64 k ∧ Below w1.heap.size w1 wr ∧ ∀ a, a < k → R rs a a ∧ ∀ b, b < n → (R rs a b ↔ R rs b a)) (fun i _ => n - (intOf i).toNat)
  case atStart => exact ⟨0, Nat.zero_le _, rfl, Below.refl _ _, fun a ha => absurd ha (Nat.not_lt_zero _)⟩
  case round =>
    obtain ⟨k, hk, rfl, hb, hall⟩ := hrel
    have HA := Lib.hid hall
    clear hall
    have y0 := (x1.next hb).c0
    have y1 := (x1.next hb).c1
    by_cases hlt : k < n
    · obtain ⟨b, off, x, rfl, hbs, hx, hcx⟩ := ((hh.below hb1).below hb).at_ hlt
      have hx2 := ints_getD rs k (by rw [HL.out]; exact hlt)
      rw [hx2] at hx
      injection hx with hx
      subst hx
      have hm := lt63 h24 (hr k)
      have hk62 : k ≤ 62 := by omega
      obtain ⟨D, hD⟩ : ∃ D, D = rs.getD k 0 := ⟨_, rfl⟩
      rw [← hD] at hcx hm
      have HD := Lib.hid hD
      clear hx2 hD
      cases hbt : D.testBit k
      · have HT := Lib.hid hbt
        clear hbt
        go_wp2_with fail
        refine (bit_any D k hm hk62 _).mono ?_
        rintro e w' ⟨rfl, rfl⟩
        rw [HT.out]
        go_wp2_with fail
        go_ret
        refine ⟨ret_b _ _ ?_, HB1.out.trans (hb.mono HB1.out.size)⟩
        symm
        refine HNO.out fun hd => ?_
        have := hd.1 k (by rw [HL.out]; exact hlt)
        unfold R at this
        rw [← HD.out, HT.out] at this; cases this
      · have HT := Lib.hid hbt
        clear hbt
        go_wp2_with fail
        refine (bit_any D k hm hk62 _).mono ?_
        rintro e w' ⟨rfl, rfl⟩
        rw [HT.out]
        obtain ⟨wo, rfl⟩ : ∃ wo : World, wo = wr := ⟨_, rfl⟩
        go_wp2_with fail
        go_loopw [4] (fun i wr => ∃ t : Nat, t ≤ n ∧ i = .int .i64 t ∧ Below w1.heap.size w1 wr ∧ ∀ b, b < t → (R rs k b ↔ R rs b k)) (fun i _ => n - (intOf i).toNat)
        case atStart => exact ⟨0, Nat.zero_le _, rfl, hb, fun a ha => absurd ha (Nat.not_lt_zero _)⟩
        case round =>
          clear y0 y1 hcx hb
          obtain ⟨t, ht, rfl, hb, hall2⟩ := hrel
          have HA2 := Lib.hid hall2
          clear hall2
          have y0 := (x1.next hb).c0
          have y1 := (x1.next hb).c1
          by_cases hlt2 : t < n
          · obtain ⟨b', off', x', e9, hbs', hx', hcx'⟩ := ((hh.below hb1).below hb).at_ hlt2
            cases e9
            obtain ⟨b9, off9, x, e9, hbs9, hx, hcx⟩ := ((hh.below hb1).below hb).at_ hlt
            cases e9
            have hx2 := ints_getD rs k (by rw [HL.out]; exact hlt)
            rw [hx2, ← HD.out] at hx
            injection hx with hx
            subst hx
            have hx2' := ints_getD rs t (by rw [HL.out]; exact hlt2)
            rw [hx2'] at hx'
            injection hx' with hx'
            subst hx'
            have hm' := lt63 h24 (hr t)
            have ht62 : t ≤ 62 := by omega
            obtain ⟨D', hD'⟩ : ∃ D', D' = rs.getD t 0 := ⟨_, rfl⟩
            rw [← hD'] at hcx' hm'
            have HD' := Lib.hid hD'
            clear hx2 hx2' hD'
            obtain ⟨p, hp⟩ : ∃ p, p = D.testBit t := ⟨_, rfl⟩
            obtain ⟨q, hq⟩ : ∃ q, q = D'.testBit k := ⟨_, rfl⟩
            have HP := Lib.hid hp
            have HQ := Lib.hid hq
            clear hp hq
            by_cases hpq : p = q
            · subst hpq
              have hne : (p == p) = true := by simp
              go_wp2_with fail
              go_quiet ((first | (go_at_call 125; with_reducible exact bitq_is D t p HP.out.symm hm ht62 _ _) | (go_at_call 125; with_reducible exact bitq_is D' k p HQ.out.symm hm' hk62 _ _)))
              go_wp2
              go_roundw
              case rel => exact ⟨t + 1, by omega, by go_num, by first | exact below_drewN hb _ | exact hb.drew, fun b hb => by
                by_cases e : b = t
                · subst e
                  unfold R
                  rw [← HD.out, ← HD'.out, ← HP.out, ← HQ.out]
                · exact HA2.out b (by omega)⟩
              case measure => simp [intOf]; omega
            · have hne : (p == q) = false := by simpa using hpq
              go_wp2_with fail
              go_quiet ((first | (go_at_call 125; with_reducible exact bitq_is D t p HP.out.symm hm ht62 _ _) | (go_at_call 125; with_reducible exact bitq_is D' k q HQ.out.symm hm' hk62 _ _)))
              go_wp2
              go_ret
              refine ⟨ret_b _ _ ?_, by first | exact below_drewN (HB1.out.trans (hb.mono HB1.out.size)) _ | exact (HB1.out.trans (hb.mono HB1.out.size)).drew⟩
              symm
              refine HNO.out fun hd => hpq ?_
              have := hd.2 k t (by rw [HL.out]; exact hlt) (by rw [HL.out]; exact hlt2)
              unfold R at this
              rw [← HD.out, ← HD'.out, ← HP.out, ← HQ.out] at this
              exact Bool.eq_iff_iff.2 this
          · obtain rfl : t = n := by omega
            go_wp2_with fail
            go_roundw
            case rel => exact ⟨k + 1, by omega, by go_num, hb, fun a ha => by
              by_cases e : a = k
              · subst e
                exact ⟨by unfold R; rw [← HD.out]; exact HT.out, HA2.out⟩
              · exact HA.out a (by omega)⟩
            case measure => simp [intOf]; omega
    · obtain rfl : k = n := by omega
      go_wp2_with fail
      go_ret
      refine ⟨ret_b _ _ ?_, HB1.out.trans (hb.mono HB1.out.size)⟩
      symm
      exact HYES.out ⟨fun i hi => (HA.out i (by rw [← HL.out]; exact hi)).1, fun i k hi hk => (HA.out i (by rw [← HL.out]; exact hi)).2 k (by rw [← HL.out]; exact hk)⟩
set_option maxHeartbeats 800000 in
theorem l02Is_any (L : Int) (A : Option Addr) (n c : Nat) (xs : List Int) (w : World) (h : Rd w A n xs) (hn : n ≤ 9223372036854775807) :
    Calls Tryd.prog 78 #[.agg #[.int .i64 L, .slice A n c]] w fun e w' => e = .returned (.bool (alphB L xs)) ∧ Below w.heap.size w w' := by
  have hlen := h.1
  by_cases hL : 0 ≤ L ∧ L ≤ 8
  · by_cases hnl : (n : Int) = L
    · subst hnl
      have h8 : n ≤ 8 := by omega
      have h24 : n ≤ 24 := by omega
      cases hrel : relB xs
      · have hin : inFull n xs = false := by
          unfold relB at hrel
          rw [hlen, decide_eq_true h24, Bool.true_and] at hrel
          unfold inFull; rw [all_mask _ n h24]; exact hrel
        have HF := Lib.hid (alphB_rel (n : Int) xs hrel)
        have HI := Lib.hid hin
        have HB := Lib.hid (below1 w (.cells #[.int .i64 (n : Int), .slice A n c] 29))
        have hh := h.below HB.out
        clear hin hrel hlen
        go_enter Tryd.func78, Tryd.ntmps78
        go_wp2_with fail
        refine (in_true _ _ _ (by omega) _).mono ?_
        rintro e w' ⟨rfl, rfl⟩
        go_wp2_with fail
        refine (masks_any n (by omega) _ _ _ _ _ hh hn).mono ?_
        rintro e w1 ⟨rfl, hb1⟩
        rw [HI.out]
        go_wp2_with fail
        go_ret
        exact ⟨ret_b _ _ HF.out.symm, HB.out.trans (hb1.mono HB.out.size)⟩
      · obtain ⟨h1, h2⟩ := clos_nats xs hrel
        rw [hlen] at h2
        have e : alphB (n : Int) xs = depB (xs.map Int.toNat) := by
          unfold alphB; rw [hrel, hlen, decide_eq_true (by omega)]; rfl
        rw [e]
        rw [h1] at h hrel
        exact l02Is_rel A n c _ w h h8 h2 hrel
    · have HF := Lib.hid (alphB_L L xs (fun e => hnl (by rw [← e.2.2, hlen])))
      have hne : ((n : Int) == L) = false := by simpa using hnl
      clear hlen
      go_enter Tryd.func78, Tryd.ntmps78
      go_wp2_with fail
      refine (in_true _ _ _ hL _).mono ?_
      rintro e w' ⟨rfl, rfl⟩
      go_wp2_with fail
      go_ret
      exact ⟨ret_b _ _ HF.out.symm, below1 _ _⟩
  · have HF := Lib.hid (alphB_L L xs (fun e => hL ⟨e.1, e.2.1⟩))
    clear hlen
    go_enter Tryd.func78, Tryd.ntmps78
    go_wp2_with fail
    refine (in_false _ _ _ hL _).mono ?_
    rintro e w' ⟨rfl, rfl⟩
    go_wp2_with fail
    go_ret
    exact ⟨ret_b _ _ HF.out.symm, below1 _ _⟩
end Go.Proofs.YtcojodkcpemfdaaDoor
