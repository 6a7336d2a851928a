/-
  Graph groups: the smallest outer letter of a reduced word, by the program.
-/
import Derived.Test.YtdafdffmkjhhcaaDoorGrA
import Derived.Test.YtdafdffmkjhhcaaDoorGrR
import Derived.Test.YtdafdffmkjhhcaaDoorGrX
namespace Go.Proofs.YtdafdffmkjhhcaaDoor
open Go Go.RowKit
set_option linter.unusedVariables false
set_option linter.unusedSimpArgs false
set_option maxRecDepth 100000

theorem outL_is {D : Nat → Nat → Bool} {n : Nat} {w : List Nat} {a : Nat} (ha : a < n) (h : isOut D w a = true) (hb : ∀ b, b < a → isOut D w b = false) : outL D n w = some a := by
  unfold outL
  rw [List.find?_range_eq_some]
  exact ⟨h, List.mem_range.2 ha, fun b h9 => by rw [hb b h9]; rfl⟩
theorem outL_no {D : Nat → Nat → Bool} {n : Nat} {w : List Nat} (hb : ∀ b, b < n → isOut D w b = false) : outL D n w = none := by
  unfold outL
  rw [List.find?_eq_none]
  intro x hx
  rw [hb x (List.mem_range.1 hx)]; decide
set_option maxHeartbeats 3200000 in
theorem outerLetter_any (R A : Option Addr) (N cr m c : Nat) (ds us : List Nat) (w : World) (hR : Rd w R N (ints ds)) (hN : N ≤ 16) (hl : ds.length = N) (hr : ∀ i, ds.getD i 0 < 2 ^ N) (hgd : GD (RDep ds) N)
    (h2 : Rd w A m (ints us)) (hm : m ≤ 24) (hmc : m ≤ c) (hus : ∀ x, x ∈ us → x < N) :
    Calls Tryd.prog 125 #[.agg #[.slice R N cr], .slice A m c] w fun e w' => e = .returned (.tuple #[.int .i64 ((((outL (RDep ds) N us).getD 0 : Nat)) : Int), .bool (outL (RDep ds) N us).isSome]) ∧ Below w.heap.size w w' := by
  have HB := Lib.hid (below1 w (.cells #[.slice R N cr] 93))
  have g0 : Boxed (w.alloc (.cells #[.slice R N cr] 93)) w.heap.size 93 (.slice R N cr) := Boxed.new w _ _
  have HR := Lib.hid hr
  have HGD := Lib.hid hgd
  have HUS := Lib.hid hus
  have HVS : Hid (∀ x, x ∈ us.reverse → x < N) := Lib.hid (fun x hx => hus x (List.mem_reverse.1 hx))
  have HBW := Lib.hid (backwards_any A m c us _ (h2.below HB.out) hm)
  have hR1 := hR.below HB.out
  have h21 := h2.below HB.out
  clear hr hgd hus hR h2
  go_enter Tryd.func125, Tryd.ntmps125
  go_wp2_with fail
  refine HBW.out.mono ?_
  rintro e wb ⟨AB, cB, rfl, oB, hbB⟩
  have gb : Boxed wb w.heap.size 93 (.slice R N cr) := (hbB.block _ g0.lt).trans g0
  have gc := gb.cell
  have HBb := Lib.hid (HB.out.trans (hbB.mono HB.out.size))
  have hR2 := hR1.below hbB
  have h22 := h21.below hbB
  have hcB := own_cap oB
  have hvB := oB.rd
  clear HBW g0 hR1 h21 oB hbB
  go_wp2_with fail
  go_loopw [17] (fun i wr => ∃ s : Nat, s ≤ N ∧ i = .int .i64 (s : Int) ∧ Hid (∀ b, b < s → isOut (RDep ds) us b = false) ∧ Below wb.heap.size wb wr) (fun i _ => N - (intOf i).toNat)
  case atStart => exact ⟨0, Nat.zero_le _, rfl, Lib.hid (fun b hb => absurd hb (Nat.not_lt_zero b)), Below.refl _ _⟩
  case round =>
    obtain ⟨s, hs, rfl, HALL, hb⟩ := hrel
    by_cases hlt : s < N
    · have gr : Boxed wr w.heap.size 93 (.slice R N cr) := (hb.block _ gb.lt).trans gb
      have gc := gr.cell
      have hop : opp s < N := HGD.out.lt s hlt
      have HW1 : Hid (∀ ww : World, Below wr.heap.size wr ww → Calls Tryd.prog 160 #[.slice R N cr, .int .i64 (s : Int), .slice A m c] ww fun e w' => ∃ v, e = .returned (.tuple #[v, .bool (freeB (RDep ds) us s)]) ∧ Below ww.heap.size ww w') := Lib.hid (fun ww hw => (without_any R A N cr m c s ds us ww ((hR2.below hb).below hw) (by omega) HR.out HGD.out.sym HGD.out.ref ((h22.below hb).below hw) (by omega) hmc HUS.out hlt).mono (by
        rintro e w' (⟨hf, _, A', c', rfl, _, hb9⟩ | ⟨hf, rfl, rfl⟩)
        · rw [hf]; exact ⟨_, rfl, hb9⟩
        · rw [hf]; exact ⟨_, rfl, Below.refl _ _⟩))
      have HW2 : Hid (∀ ww : World, Below wr.heap.size wr ww → Calls Tryd.prog 160 #[.slice R N cr, .int .i64 ((opp s : Nat) : Int), .slice AB m cB] ww fun e w' => ∃ v, e = .returned (.tuple #[v, .bool (freeB (RDep ds) us.reverse (opp s))]) ∧ Below ww.heap.size ww w') := Lib.hid (fun ww hw => (without_any R AB N cr m cB (opp s) ds us.reverse ww ((hR2.below hb).below hw) (by omega) HR.out HGD.out.sym HGD.out.ref ((hvB.below hb).below hw) (by omega) hcB HVS.out hop).mono (by
        rintro e w' (⟨hf, _, A', c', rfl, _, hb9⟩ | ⟨hf, rfl, rfl⟩)
        · rw [hf]; exact ⟨_, rfl, hb9⟩
        · rw [hf]; exact ⟨_, rfl, Below.refl _ _⟩))
      have HIS : Hid (isOut (RDep ds) us s = (freeB (RDep ds) us s && freeB (RDep ds) us.reverse (opp s))) := Lib.hid rfl
      have HOP := Lib.hid (fun ww : World => opposite_any s (by omega) ww)
      obtain ⟨b1, hb1⟩ : ∃ b1, b1 = freeB (RDep ds) us s := ⟨_, rfl⟩
      obtain ⟨b2, hb2⟩ : ∃ b2, b2 = freeB (RDep ds) us.reverse (opp s) := ⟨_, rfl⟩
      rw [← hb1] at HW1 HIS
      rw [← hb2] at HW2 HIS
      obtain ⟨os, hos⟩ : ∃ os, os = opp s := ⟨_, rfl⟩
      rw [← hos] at HW2 HOP
      clear hb1 hb2 hos hop
      go_wp2_with fail
      refine (HW1.out _ (Below.refl _ _)).mono ?_
      rintro e w4 ⟨v4, rfl, hb4⟩
      have gr4 : Boxed w4 w.heap.size 93 (.slice R N cr) := (hb4.block _ gr.lt).trans gr
      have gc := gr4.cell
      have hC : Below wr.heap.size wr w4.drew := hb4.drew
      have HB4 := Lib.hid (hb.trans (hb4.mono hb.size))
      clear HW1 hb4
      go_wp2_with fail
      go_region_law (first
        | (go_simp; (with_reducible refine (HOP.out _).mono ?_); rintro e w9 ⟨rfl, rfl⟩)
        | (go_simp; (with_reducible refine (HW2.out _ hC).mono ?_); rintro e w5 ⟨v5, rfl, hb5⟩; have HB5 := Lib.hid (HB4.out.drew.trans (hb5.mono HB4.out.drew.size)); clear hb5))
      all_goals
        clear HW2 HOP hC gr4 gr gc
        cases b1
        · have HF : Hid (isOut (RDep ds) us s = false) := Lib.hid (by rw [HIS.out]; rfl)
          go_wp2_with fail
          go_roundw
          case rel => exact ⟨s + 1, hlt, by go_num, Lib.hid (fun b h9 => by
            rcases Nat.lt_or_ge b s with h8 | h8
            · exact HALL.out b h8
            · rw [show b = s by omega]; exact HF.out), HB5.out⟩
          case measure => simp [intOf]; omega
        · cases b2
          · have HF : Hid (isOut (RDep ds) us s = false) := Lib.hid (by rw [HIS.out]; rfl)
            go_wp2_with fail
            go_roundw
            case rel => exact ⟨s + 1, hlt, by go_num, Lib.hid (fun b h9 => by
              rcases Nat.lt_or_ge b s with h8 | h8
              · exact HALL.out b h8
              · rw [show b = s by omega]; exact HF.out), HB5.out⟩
            case measure => simp [intOf]; omega
          · have HF : Hid (outL (RDep ds) N us = some s) := Lib.hid (outL_is hlt (by rw [HIS.out]; rfl) HALL.out)
            go_wp2_with fail
            go_ret2
            rw [HF.out]
            exact ⟨rfl, HBb.out.trans (HB5.out.mono HBb.out.size)⟩
    · have HF : Hid (outL (RDep ds) N us = none) := Lib.hid (outL_no (fun b h9 => HALL.out b (by omega)))
      go_wp2_with fail
      go_ret2
      rw [HF.out]
      exact ⟨rfl, HBb.out.trans (hb.mono HBb.out.size)⟩
end Go.Proofs.YtdafdffmkjhhcaaDoor
