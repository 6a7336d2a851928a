/-
  orderOf, IsOrder and its model, by contracts.
-/
import Derived.Test.YtfcipdojgkamgaaDoorOrd
namespace Go.Proofs.YtfcipdojgkamgaaDoor
open Go.RowKit
set_option linter.unusedVariables false
set_option maxRecDepth 100000

/-- Whether a list is an order. -/
def orderB (xs : List Int) : Bool := relB xs && ordB (xs.map Int.toNat)
theorem nats_ints (rs : List Nat) : (ints rs).map Int.toNat = rs := by
  unfold ints
  rw [List.map_map]
  conv => rhs; rw [← List.map_id rs]
  apply List.map_congr_left
  intro m _; simp
theorem orderB_ints (rs : List Nat) (h : relB (ints rs) = true) : orderB (ints rs) = ordB rs := by unfold orderB; rw [h, Bool.true_and, nats_ints]
/-- A relation's list, taken apart. -/
theorem rel_nats (xs : List Int) (n : Nat) (hl : xs.length = n) (h : relB xs = true) : ∃ rs, xs = ints rs ∧ rs.length = n ∧ n ≤ 24 ∧ (∀ i, rs.getD i 0 < 2 ^ n) := by
  obtain ⟨rs, h1, h2, h3⟩ := relB_nats xs h
  have h4 := relB_len xs h
  subst hl
  exact ⟨rs, h1, h2, h4, h3⟩
theorem orderOf_yes (A : Option Addr) (n c : Nat) (xs : List Int) (w : World) (h : Rd w A n xs) (hwf : Wf xs) (hn : n ≤ 9223372036854775807) (hT : Tab w) (hr : orderB xs = true) :
    Calls Tryd.prog 54 #[.slice A n c] w fun e w' => ∃ A c, e = .returned (.tuple #[.slice A n c, .bool true]) ∧ Own 43 w' w.heap.size A n c xs ∧ Below w.heap.size w w' := by
  have hrb : relB xs = true := by unfold orderB at hr; simp at hr; exact hr.1
  obtain ⟨rs, rfl, hl, h24, hrs⟩ := rel_nats xs n h.1 hrb
  have HO : Hid (ordB rs = true) := Lib.hid (by rw [orderB_ints rs hrb] at hr; exact hr)
  have HR := Lib.hid hrb
  have HL := Lib.hid hl
  clear hr hrb hl
  go_enter Tryd.func54, Tryd.ntmps54
  go_wp2_with fail
  refine (relationOf_yes _ _ _ _ _ h hwf hn HR.out).mono ?_
  rintro e w1 ⟨A1, c1, rfl, ho1, hb1⟩
  have hT1 := hT.below hb1
  go_wp2_with fail
  refine (isOrder_any A1 n c1 rs _ ho1.rd h24 hrs hT1).mono ?_
  rintro e w2 ⟨rfl, hb2⟩
  rw [HO.out]
  have hb12 := hb1.trans (hb2.mono hb1.size)
  have ho2 := ho1.below hb2
  go_wp2_with fail
  go_ret2
  exact ⟨A1, c1, rfl, ho2, hb12⟩
theorem orderOf_no (A : Option Addr) (n c : Nat) (xs : List Int) (w : World) (h : Rd w A n xs) (hwf : Wf xs) (hn : n ≤ 9223372036854775807) (hT : Tab w) (hr : orderB xs = false) :
    Calls Tryd.prog 54 #[.slice A n c] w fun e w' => e = .returned (.tuple #[.slice none 0 0, .bool false]) ∧ Below w.heap.size w w' := by
  cases hrb : relB xs
  · have HR := Lib.hid hrb
    clear hr hrb
    go_enter Tryd.func54, Tryd.ntmps54
    go_wp2_with fail
    refine (relationOf_no _ _ _ _ _ h hwf hn HR.out).mono ?_
    rintro e w1 ⟨rfl, hb1⟩
    go_wp2_with fail
    go_ret2
    exact ⟨rfl, hb1⟩
  · obtain ⟨rs, rfl, hl, h24, hrs⟩ := rel_nats xs n h.1 hrb
    have HO : Hid (ordB rs = false) := Lib.hid (by rw [orderB_ints rs hrb] at hr; exact hr)
    have HR := Lib.hid hrb
    have HL := Lib.hid hl
    clear hr hrb hl
    go_enter Tryd.func54, Tryd.ntmps54
    go_wp2_with fail
    refine (relationOf_yes _ _ _ _ _ h hwf hn HR.out).mono ?_
    rintro e w1 ⟨A1, c1, rfl, ho1, hb1⟩
    have hT1 := hT.below hb1
    go_wp2_with fail
    refine (isOrder_any A1 n c1 rs _ ho1.rd h24 hrs hT1).mono ?_
    rintro e w2 ⟨rfl, hb2⟩
    rw [HO.out]
    have hb12 := hb1.trans (hb2.mono hb1.size)
    go_wp2_with fail
    go_ret2
    exact ⟨rfl, hb12⟩
theorem implIsOrder (A : Option Addr) (n c : Nat) (xs : List Int) (w : World) (h : Rd w A n xs) (hwf : Wf xs) (hn : n ≤ 9223372036854775807) (hT : Tab w) :
    Calls Tryd.prog 23 #[.slice A n c] w fun e w' => e = .returned (.bool (orderB xs)) ∧ Below w.heap.size w w' := by
  cases hr : orderB xs
  · have HR := Lib.hid hr
    clear hr
    go_enter Tryd.func23, Tryd.ntmps23
    go_wp2_with fail
    refine (orderOf_no _ _ _ _ _ h hwf hn hT HR.out).mono ?_
    rintro e w1 ⟨rfl, hb1⟩
    go_wp2_with fail
    go_ret
    exact ⟨rfl, hb1⟩
  · have HR := Lib.hid hr
    clear hr
    go_enter Tryd.func23, Tryd.ntmps23
    go_wp2_with fail
    refine (orderOf_yes _ _ _ _ _ h hwf hn hT HR.out).mono ?_
    rintro e w1 ⟨A1, c1, rfl, ho1, hb1⟩
    go_wp2_with fail
    go_ret
    exact ⟨rfl, hb1⟩
/-- What the model tests of an element and all up to k that it is related to. -/
def RowTo (rs : List Nat) (i k : Nat) : Prop := ∀ q, q < k → R rs i q → (i ≠ q → ¬ R rs q i) ∧ ∀ b, R rs q b → R rs i b
theorem or_same (rs : List Nat) (i q : Nat) : (rs.getD i 0 ||| rs.getD q 0 = rs.getD i 0) ↔ ∀ b, R rs q b → R rs i b := by
  constructor
  · intro h b hb
    unfold R at *
    rw [← h, Nat.testBit_or, hb, Bool.or_true]
  · intro h
    apply Nat.eq_of_testBit_eq
    intro b
    rw [Nat.testBit_or]
    cases e : (rs.getD q 0).testBit b
    · rw [Bool.or_false]
    · have := h b e
      unfold R at this
      rw [this]; rfl
theorem bit_q (m k : Nat) (hm : m < 9223372036854775808) (hk : k ≤ 62) (w : World) (j : Nat) :
    Calls Tryd.prog 53 #[.int .i64 (m : Int), .int .i64 (k : Int)] (w.drewN j) fun e w'' => e = .returned (.bool (m.testBit k)) ∧ ∃ m', w'' = w.drewN m' :=
  Calls.quiet_of_same ((bit_any m k hm hk _).mono fun _ _ ⟨he, hw⟩ => ⟨he, hw.symm⟩)
theorem bit_is (m k : Nat) (v : Bool) (h : m.testBit k = v) (hm : m < 9223372036854775808) (hk : k ≤ 62) (w : World) (j : Nat) :
    Calls Tryd.prog 53 #[.int .i64 (m : Int), .int .i64 (k : Int)] (w.drewN j) fun e w'' => e = .returned (.bool v) ∧ ∃ m', w'' = w.drewN m' := by
  rw [← h]; exact bit_q m k hm hk w j
set_option maxHeartbeats 3200000 in
theorem specIsOrder_rel (A : Option Addr) (n c : Nat) (rs : List Nat) (w : World) (h : Rd w A n (ints rs)) (hn : n ≤ 24) (hr : ∀ i, rs.getD i 0 < 2 ^ n) (hrel : relB (ints rs) = true) :
    Calls Tryd.prog 22 #[.slice A n c] w fun e w' => e = .returned (.bool (ordB rs)) ∧ Below w.heap.size w w' := by
  have hlen : rs.length = n := by have := h.1; rw [ints_len] at this; exact this
  have HL := Lib.hid hlen
  have HR := Lib.hid hrel
  have hn2 : n ≤ 9223372036854775807 := by omega
  have HI := Lib.hid (ord_iff rs n hlen hr)
  clear hlen hrel
  go_enter Tryd.func22, Tryd.ntmps22
  go_wp2_with fail
  refine (specIsRelation_any _ _ _ _ _ h hn2).mono ?_
  rintro e w1 ⟨rfl, hb1⟩
  rw [HR.out]
  go_wp2_with fail
  go_loopw [3] (fun i wr => ∃ k : Nat, k ≤ n ∧ i = .int .i64 k ∧ Below w.heap.size w wr ∧ (∀ a, a < k → R rs a a ∧ RowTo rs a n)) (fun i _ => n - (intOf i).toNat)
  case atStart => exact ⟨0, Nat.zero_le _, rfl, hb1, fun a h => by omega⟩
  case round =>
    clear hb1
    obtain ⟨i, hi, rfl, hb, hall⟩ := hrel
    have HA := Lib.hid hall
    clear hall
    by_cases hlt : i < n
    · obtain ⟨b, off, x, rfl, hbs, hx, hcx⟩ := (h.below hb).at_ hlt
      have hx2 := ints_getD rs i (by rw [HL.out]; exact hlt)
      rw [hx2] at hx
      injection hx with hx
      subst hx
      have hi62 : i ≤ 62 := by omega
      have hmi := lt63 hn (hr i)
      clear hx2
      cases hii : (rs.getD i 0).testBit i
      · have HB := Lib.hid hii
        have HN : Hid (ordB rs = false) := Lib.hid (by
          rw [Bool.eq_false_iff]; intro ho
          have := ((HI.out.1 ho) i (by rw [HL.out]; exact hlt)).1
          unfold R at this; rw [hii] at this; cases this)
        clear hii
        go_wp2_with (go_at_call 53; refine (bit_any _ i hmi hi62 _).mono ?_; rintro e w' ⟨rfl, rfl⟩; rw [HB.out])
        go_ret
        exact ⟨ret_b _ _ HN.out.symm, hb⟩
      · have HB := Lib.hid hii
        clear hii
        obtain ⟨wo, rfl⟩ : ∃ wo : World, wo = wr := ⟨_, rfl⟩
        go_wp2_with (go_at_call 53; refine (bit_any _ i hmi hi62 _).mono ?_; rintro e w' ⟨rfl, rfl⟩; rw [HB.out])
        go_loopw [4] (fun q wr => ∃ k : Nat, k ≤ n ∧ q = .int .i64 k ∧ Below w.heap.size w wr ∧ RowTo rs i k) (fun q _ => n - (intOf q).toNat)
        case atStart => exact ⟨0, Nat.zero_le _, rfl, hb, fun q h => by omega⟩
        case round =>
          clear hb hcx
          obtain ⟨k, hk, rfl, hb, hrow⟩ := hrel
          have HW := Lib.hid hrow
          clear hrow
          have hrd := h.below hb
          by_cases hlt2 : k < n
          · obtain ⟨b1, off1, x1, hadr, hbs1, hx1, hcx1⟩ := hrd.at_ hlt
            injection hadr with hadr
            injection hadr with hadr1 hadr2
            subst hadr1 hadr2
            have hx2 := ints_getD rs i (by rw [HL.out]; exact hlt)
            rw [hx2] at hx1
            injection hx1 with hx1
            subst hx1
            obtain ⟨b1, off1, x1, hadr, hbs2, hx1, hcx2⟩ := hrd.at_ hlt2
            injection hadr with hadr
            injection hadr with hadr1 hadr2
            subst hadr1 hadr2
            have hx3 := ints_getD rs k (by rw [HL.out]; exact hlt2)
            rw [hx3] at hx1
            injection hx1 with hx1
            subst hx1
            have hmk := lt63 hn (hr k)
            have hk62 : k ≤ 62 := by omega
            clear hx2 hx3
            have hor := or63 _ _ hmi hmk
            have hos := or_same rs i k
            have HRi : Hid (∀ k, R rs i k ↔ (rs.getD i 0).testBit k = true) := Lib.hid (fun _ => Iff.rfl)
            have HRk : Hid (R rs k i ↔ (rs.getD k 0).testBit i = true) := Lib.hid Iff.rfl
            obtain ⟨X, hX⟩ : ∃ X, X = rs.getD i 0 := ⟨_, rfl⟩
            obtain ⟨Y, hY⟩ : ∃ Y, Y = rs.getD k 0 := ⟨_, rfl⟩
            rw [← hX, ← hY] at hor hos
            rw [← hX] at hcx1 hmi HRi HB
            rw [← hY] at hcx2 hmk HRk
            have HO := Lib.hid hos
            have HXY : Hid (i = k → Y = X) := Lib.hid (fun e => by rw [hX, hY, e])
            clear hX hY hos
            cases hik : X.testBit k
            · have HIK := Lib.hid hik
              clear hik hor
              go_wp2_with (go_at_call 53; refine (bit_any X k hmi hk62 _).mono ?_; rintro e w' ⟨rfl, rfl⟩; rw [HIK.out])
              go_roundw
              case rel => exact ⟨k + 1, by omega, by go_num, hb, fun q hq hqr => by
                by_cases e : q = k
                · subst e; have h9 := (HRi.out q).1 hqr; rw [HIK.out] at h9; cases h9
                · exact HW.out q (by omega) hqr⟩
              case measure => simp [intOf]; omega
            · have HIK := Lib.hid hik
              clear hik
              go_wp2_with (go_at_call 53; refine (bit_any X k hmi hk62 _).mono ?_; rintro e w' ⟨rfl, rfl⟩; rw [HIK.out])
              have HIR := Lib.hid ((HRi.out k).2 HIK.out)
              by_cases hsub : X ||| Y = X
              · have hall := HO.out.1 hsub
                rw [hsub] at hor
                have HALL := Lib.hid hall
                clear hsub hall
                by_cases hik : i = k
                · have hYX := HXY.out hik
                  subst hYX
                  subst hik
                  clear hcx2
                  go_quiet (fail)
                  go_wp2
                  go_roundw
                  case rel => exact ⟨i + 1, by omega, by go_num, by first | exact below_drewN hb _ | exact hb.drew, fun q hq hqr => by
                    by_cases e : q = i
                    · subst e; exact ⟨fun h9 => absurd rfl h9, HALL.out⟩
                    · exact HW.out q (by omega) hqr⟩
                  case measure => simp [intOf]; omega
                · have hne : ((i : Int) != (k : Int)) = true := by simp; omega
                  have hne3 : ((i : Int) == (k : Int)) = false := by simp; omega
                  cases hyi : Y.testBit i
                  · have HYI := Lib.hid hyi
                    clear hyi
                    go_quiet ((go_at_call 53; exact bit_is Y i false HYI.out hmk hi62 _ _))
                    go_wp2
                    go_roundw
                    case rel => exact ⟨k + 1, by omega, by go_num, by first | exact below_drewN hb _ | exact hb.drew, fun q hq hqr => by
                      by_cases e : q = k
                      · subst e; exact ⟨fun _ h9 => (by have h8 := HRk.out.1 h9; rw [HYI.out] at h8; cases h8), HALL.out⟩
                      · exact HW.out q (by omega) hqr⟩
                    case measure => simp [intOf]; omega
                  · have HYI := Lib.hid hyi
                    have HN : Hid (ordB rs = false) := Lib.hid (by
                      rw [Bool.eq_false_iff]; intro ho
                      exact (((HI.out.1 ho) i (by rw [HL.out]; exact hlt)).2 k HIR.out).1 hik (HRk.out.2 hyi))
                    clear hyi
                    go_quiet ((go_at_call 53; exact bit_is Y i true HYI.out hmk hi62 _ _))
                    go_wp2
                    go_ret
                    exact ⟨ret_b _ _ HN.out.symm, by first | exact below_drewN hb _ | exact hb.drew⟩
              · have hne : ((((X ||| Y : Nat) : Int)) != (X : Int)) = true := by simp; omega
                have hne3 : ((((X ||| Y : Nat) : Int)) == (X : Int)) = false := by simp; omega
                have HN : Hid (ordB rs = false) := Lib.hid (by
                  rw [Bool.eq_false_iff]; intro ho
                  exact hsub (HO.out.2 (((HI.out.1 ho) i (by rw [HL.out]; exact hlt)).2 k HIR.out).2))
                clear hsub
                go_quiet (fail)
                go_wp2
                go_ret
                exact ⟨ret_b _ _ HN.out.symm, by first | exact below_drewN hb _ | exact hb.drew⟩
          · obtain rfl : k = n := by omega
            go_wp2
            go_roundw
            case rel => exact ⟨i + 1, by omega, by go_num, hb, fun a ha => by
              by_cases e : a = i
              · subst e; exact ⟨HB.out, HW.out⟩
              · exact HA.out a (by omega)⟩
            case measure => simp [intOf]; omega
    · obtain rfl : i = n := by omega
      have HN : Hid (ordB rs = true) := Lib.hid (HI.out.2 (fun a ha => by
        have ha2 : a < i := by have := HL.out; omega
        refine ⟨(HA.out a ha2).1, fun k hk => ?_⟩
        exact (HA.out a ha2).2 k (bit_lt (hr a) hk) hk))
      go_wp2
      go_ret
      exact ⟨ret_b _ _ HN.out.symm, hb⟩
theorem specIsOrder (A : Option Addr) (n c : Nat) (xs : List Int) (w : World) (h : Rd w A n xs) (hn : n ≤ 9223372036854775807) :
    Calls Tryd.prog 22 #[.slice A n c] w fun e w' => e = .returned (.bool (orderB xs)) ∧ Below w.heap.size w w' := by
  cases hrb : relB xs
  · have HR := Lib.hid hrb
    have HO : Hid (orderB xs = false) := Lib.hid (by unfold orderB; rw [hrb]; rfl)
    clear hrb
    go_enter Tryd.func22, Tryd.ntmps22
    go_wp2_with fail
    refine (specIsRelation_any _ _ _ _ _ h hn).mono ?_
    rintro e w1 ⟨rfl, hb1⟩
    rw [HR.out]
    go_wp2_with fail
    go_ret
    exact ⟨ret_b _ _ HO.out.symm, hb1⟩
  · obtain ⟨rs, rfl, hl, h24, hrs⟩ := rel_nats xs n h.1 hrb
    rw [orderB_ints rs hrb]
    exact specIsOrder_rel A n c rs w h h24 hrs hrb
end Go.Proofs.YtfcipdojgkamgaaDoor