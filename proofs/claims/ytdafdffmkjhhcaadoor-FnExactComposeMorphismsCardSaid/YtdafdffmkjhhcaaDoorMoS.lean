/-
  Morphisms: the model's tests of a letter map.
-/
import Derived.Test.YtdafdffmkjhhcaaDoorMoT
import Derived.Deep.RegionWith
import Derived.Deep.RegionLaw
import Derived.Deep.RegionHeld3
namespace Go.Proofs.YtdafdffmkjhhcaaDoor
open Go Go.RowKit
set_option linter.unusedVariables false
set_option linter.unusedSimpArgs false
set_option maxRecDepth 100000

set_option maxHeartbeats 1600000 in
theorem l08Map_any (L1 L2 : Int) (R1 R2 A : Option Addr) (n1 c1 n2 c2 n c : Nat) (ts : List (Option Addr × Nat × Nat × List Int)) (w : World) (h : RdT w A n ts) (hn : n ≤ 1048576) (h0 : 0 ≤ L2) (h8 : L2 ≤ 8) :
    Calls Tryd.prog 59 #[.agg #[.int .i64 L1, .slice R1 n1 c1], .agg #[.int .i64 L2, .slice R2 n2 c2], .slice A n c] w fun e w' => e = .returned (.bool (lmB L1 L2 (ts.map fun t => t.2.2.2))) ∧ Below w.heap.size w w' := by
  have HB := Lib.hid (below2 w (.cells #[.int .i64 L1, .slice R1 n1 c1] 29) (.cells #[.int .i64 L2, .slice R2 n2 c2] 29))
  have x0 := (box_new 29 w L1 R1 n1 c1).next (below1 _ (.cells #[.int .i64 L2, .slice R2 n2 c2] 29))
  have x1 := box_new 29 (w.alloc (.cells #[.int .i64 L1, .slice R1 n1 c1] 29)) L2 R2 n2 c2
  have hsz := size1' w (.cells #[.int .i64 L1, .slice R1 n1 c1] 29)
  rw [hsz] at x1
  have hh := h.below HB.out
  have HLT : Hid (ts.length = n) := Lib.hid h.1
  have y0 := x0.c0
  by_cases hl : (n : Int) = L1
  · have hlm : Hid (lmB L1 L2 (ts.map fun t => t.2.2.2) = (ts.map fun t => t.2.2.2).all (wordB L2)) := Lib.hid (by unfold lmB; rw [List.length_map, HLT.out, decide_eq_true hl]; rfl)
    subst hl
    obtain ⟨w1, hw1⟩ : ∃ w1, w1 = (w.alloc (.cells #[.int .i64 (n : Int), .slice R1 n1 c1] 29)).alloc (.cells #[.int .i64 L2, .slice R2 n2 c2] 29) := ⟨_, rfl⟩
    have HW1 := Lib.hid hw1
    rw [← hw1] at HB x0 x1 hh y0
    have hne : ((n : Int) == (n : Int)) = true := by simp
    clear hsz hw1 h
    go_enter Tryd.func59, Tryd.ntmps59
    go_wp2_with fail
    rw [← HW1.out]
    go_loopw [7] (fun i wr => ∃ k : Nat, k ≤ n ∧ i = .int .i64 (k : Int) ∧ Below w1.heap.size w1 wr ∧ Hid ((ts.take k).all (fun t => wordB L2 t.2.2.2) = true)) (fun i _ => n - (intOf i).toNat)
    case atStart => exact ⟨0, Nat.zero_le _, rfl, Below.refl _ _, Lib.hid rfl⟩
    case round =>
      obtain ⟨k, hk, rfl, hb, HA⟩ := hrel
      by_cases hlt : k < n
      · obtain ⟨b, off, C, q, d, xs, rfl, hbs, hx, hcx, hrd, hq⟩ := (hh.below hb).at_ hlt
        have hq2 : q ≤ 9223372036854775807 := by unfold maxLen at hq; omega
        have HX := Lib.hid hx
        have z0 := (x1.next hb).c0
        clear hx
        have HQ : Hid (∀ j, Calls Tryd.prog 63 #[.int .i64 L2, .slice C q d] (wr.drewN j) fun e w'' => e = .returned (.bool (wordB L2 xs)) ∧ ∃ m', w'' = wr.drewN m') := Lib.hid fun j => Calls.quiet_of_same ((l03Word_any L2 C q d xs _ (hrd.below (below_drewN (Below.refl _ _) j)) hq2 h0 h8).mono fun _ _ h => ⟨h.1, h.2.symm⟩)
        cases hwx : wordB L2 xs
        · have HF := Lib.hid hwx
          rw [hwx] at HQ
          clear hwx hrd
          go_wp2_with fail
          go_quiet ((go_at_call 63; with_reducible exact HQ.out _))
          go_wp2
          go_ret
          refine ⟨ret_b _ _ ?_, by first | exact below_drewN (HB.out.trans (hb.mono HB.out.size)) _ | exact (HB.out.trans (hb.mono HB.out.size)).drew⟩
          symm
          rw [hlm.out, Bool.eq_false_iff]
          intro e
          have := List.all_eq_true.1 e xs (List.mem_map.2 ⟨_, List.mem_of_getElem? HX.out, rfl⟩)
          rw [HF.out] at this; cases this
        · have HF := Lib.hid hwx
          rw [hwx] at HQ
          clear hwx hrd
          go_wp2_with fail
          go_quiet ((go_at_call 63; with_reducible exact HQ.out _))
          go_wp2
          go_roundw
          case rel => exact ⟨k + 1, by omega, by go_num, by first | exact below_drewN hb _ | exact hb.drew, Lib.hid (by rw [List.take_add_one, HX.out, List.all_append, HA.out]; simp [HF.out])⟩
          case measure => simp [intOf]; omega
      · obtain rfl : k = n := by omega
        have h9 := HA.out
        rw [List.take_of_length_le (by rw [HLT.out]; exact Nat.le_refl _)] at h9
        have HF : Hid ((ts.map fun t => t.2.2.2).all (wordB L2) = true) := Lib.hid (by rw [List.all_map]; exact h9)
        clear h9
        go_wp2_with fail
        go_ret
        exact ⟨ret_b _ _ (by rw [hlm.out, HF.out]), HB.out.trans (hb.mono HB.out.size)⟩
  · have hlm : Hid (lmB L1 L2 (ts.map fun t => t.2.2.2) = false) := Lib.hid (by unfold lmB; rw [List.length_map, HLT.out, decide_eq_false hl]; rfl)
    have hne : ((n : Int) == L1) = false := by simpa using hl
    clear hsz
    go_enter Tryd.func59, Tryd.ntmps59
    go_wp2_with fail
    go_ret
    exact ⟨ret_b _ _ hlm.out.symm, HB.out⟩
set_option maxHeartbeats 3200000 in
theorem l08Code_any (L1 L2 : Int) (R1 R2 A U : Option Addr) (n1 c1 n2 c2 n c m d : Nat) (xs1 xs2 us : List Int) (ts : List (Option Addr × Nat × Nat × List Int)) (w : World)
    (h1 : Rd w R1 n1 xs1) (hn1 : n1 ≤ 9223372036854775807) (h2 : Rd w R2 n2 xs2) (hn2 : n2 ≤ 9223372036854775807) (h : RdT w A n ts) (hn : n ≤ 1048576) (h3 : Rd w U m us) (hm : m ≤ 9223372036854775807) :
    Calls Tryd.prog 50 #[.agg #[.int .i64 L1, .slice R1 n1 c1], .agg #[.int .i64 L2, .slice R2 n2 c2], .slice A n c, .slice U m d] w fun e w' => e = .returned (.int .i64 (mCode L1 xs1 L2 xs2 (ts.map fun t => t.2.2.2) (wordB L1 us))) ∧ Below w.heap.size w w' := by
  obtain ⟨w1, hw1⟩ : ∃ w1, w1 = (w.alloc (.cells #[.int .i64 L1, .slice R1 n1 c1] 29)).alloc (.cells #[.int .i64 L2, .slice R2 n2 c2] 29) := ⟨_, rfl⟩
  have HW1 := Lib.hid hw1
  have HB := Lib.hid (below2 w (.cells #[.int .i64 L1, .slice R1 n1 c1] 29) (.cells #[.int .i64 L2, .slice R2 n2 c2] 29))
  have x0 := (box_new 29 w L1 R1 n1 c1).next (below1 _ (.cells #[.int .i64 L2, .slice R2 n2 c2] 29))
  have x1 := box_new 29 (w.alloc (.cells #[.int .i64 L1, .slice R1 n1 c1] 29)) L2 R2 n2 c2
  have hsz := size1' w (.cells #[.int .i64 L1, .slice R1 n1 c1] 29)
  rw [hsz] at x1
  rw [← hw1] at HB x0 x1
  have hh1 := h1.below HB.out
  have hh2 := h2.below HB.out
  have hh3 := h3.below HB.out
  have hh := h.below HB.out
  have hlen1 := h1.1
  have hlen2 := h2.1
  have HLT : Hid (ts.length = n) := Lib.hid h.1
  have HI1 := Lib.hid (l02Is_any L1 R1 n1 c1 xs1 w1 hh1 hn1)
  have HI2 : Hid (∀ ww, Below w1.heap.size w1 ww → Calls Tryd.prog 58 #[.agg #[.int .i64 L2, .slice R2 n2 c2]] ww fun e w' => e = .returned (.bool (alphB L2 xs2)) ∧ Below ww.heap.size ww w') := Lib.hid (fun ww hw => l02Is_any L2 R2 n2 c2 xs2 ww (hh2.below hw) hn2)
  have HW3 : Hid (0 ≤ L1 → L1 ≤ 8 → ∀ ww, Below w1.heap.size w1 ww → Calls Tryd.prog 63 #[.int .i64 L1, .slice U m d] ww fun e w' => e = .returned (.bool (wordB L1 us)) ∧ ww = w') := Lib.hid (fun ha hb ww hw => l03Word_any L1 U m d us ww (hh3.below hw) hm ha hb)
  have HLM : Hid (0 ≤ L2 → L2 ≤ 8 → ∀ ww, Below w1.heap.size w1 ww → Calls Tryd.prog 59 #[.agg #[.int .i64 L1, .slice R1 n1 c1], .agg #[.int .i64 L2, .slice R2 n2 c2], .slice A n c] ww fun e w' => e = .returned (.bool (lmB L1 L2 (ts.map fun t => t.2.2.2))) ∧ Below ww.heap.size ww w') := Lib.hid (fun ha hb ww hw => l08Map_any L1 L2 R1 R2 A n1 c1 n2 c2 n c ts ww (hh.below hw) hn ha hb)
  clear hsz hw1 h3
  cases ha1 : alphB L1 xs1
  · rw [mCode_no1 L1 xs1 L2 xs2 _ _ ha1]
    rw [ha1] at HI1
    clear ha1
    go_enter Tryd.func50, Tryd.ntmps50
    go_wp2_with fail
    rw [← HW1.out]
    refine HI1.out.mono ?_
    rintro e w2 ⟨rfl, hb2⟩
    go_wp2_with fail
    go_ret
    exact ⟨rfl, HB.out.trans (hb2.mono HB.out.size)⟩
  rw [ha1] at HI1
  have hL1 := alphB_L8 L1 xs1 ha1
  cases ha2 : alphB L2 xs2
  · rw [mCode_no2 L1 xs1 L2 xs2 _ _ ha2]
    rw [ha2] at HI2
    clear ha1 ha2
    go_enter Tryd.func50, Tryd.ntmps50
    go_wp2_with fail
    rw [← HW1.out]
    refine HI1.out.mono ?_
    rintro e w2 ⟨rfl, hb2⟩
    have y0 := (x1.next hb2).c0
    have y1 := (x1.next hb2).c1
    have HG := Lib.hid (HI2.out w2 hb2)
    go_wp2_with fail
    refine HG.out.mono ?_
    rintro e w3 ⟨rfl, hb3⟩
    have hb13 := hb2.trans (hb3.mono hb2.size)
    go_wp2_with fail
    go_ret
    exact ⟨rfl, HB.out.trans (hb13.mono HB.out.size)⟩
  rw [ha2] at HI2
  have hL2 := alphB_L8 L2 xs2 ha2
  have HW4 := Lib.hid (HW3.out hL1.1 hL1.2)
  have HLM4 := Lib.hid (HLM.out hL2.1 hL2.2)
  clear HW3 HLM
  cases hlm : lmB L1 L2 (ts.map fun t => t.2.2.2)
  · rw [mCode_bad _ _ _ _ _ _ ha1 ha2 (by rw [hlm, Bool.and_false])]
    rw [hlm] at HLM4
    clear ha1 ha2 hlm
    go_enter Tryd.func50, Tryd.ntmps50
    go_wp2_with fail
    rw [← HW1.out]
    refine HI1.out.mono ?_
    rintro e w2 ⟨rfl, hb2⟩
    have y0 := (x1.next hb2).c0
    have y1 := (x1.next hb2).c1
    have HG := Lib.hid (HI2.out w2 hb2)
    go_wp2_with fail
    refine HG.out.mono ?_
    rintro e w3 ⟨rfl, hb3⟩
    have hb13 := hb2.trans (hb3.mono hb2.size)
    clear y0 y1
    have y0 := (x0.next hb13).c0
    have y1 := (x0.next hb13).c1
    have y2 := (x1.next hb13).c0
    have y3 := (x1.next hb13).c1
    have HG2 := Lib.hid (HLM4.out w3 hb13)
    go_wp2_with fail
    refine HG2.out.mono ?_
    rintro e w4 ⟨rfl, hb4⟩
    have hb14 := hb13.trans (hb4.mono hb13.size)
    go_wp2_with fail
    go_ret
    exact ⟨rfl, HB.out.trans (hb14.mono HB.out.size)⟩
  rw [hlm] at HLM4
  cases hwu : wordB L1 us
  · rw [mCode_bad _ _ _ _ _ _ ha1 ha2 (by rw [Bool.false_and])]
    rw [hwu] at HW4
    clear ha1 ha2 hlm hwu
    go_enter Tryd.func50, Tryd.ntmps50
    go_wp2_with fail
    rw [← HW1.out]
    refine HI1.out.mono ?_
    rintro e w2 ⟨rfl, hb2⟩
    have y0 := (x1.next hb2).c0
    have y1 := (x1.next hb2).c1
    have HG := Lib.hid (HI2.out w2 hb2)
    go_wp2_with fail
    refine HG.out.mono ?_
    rintro e w3 ⟨rfl, hb3⟩
    have hb13 := hb2.trans (hb3.mono hb2.size)
    clear y0 y1
    have y0 := (x0.next hb13).c0
    have y1 := (x0.next hb13).c1
    have y2 := (x1.next hb13).c0
    have y3 := (x1.next hb13).c1
    have HG2 := Lib.hid (HLM4.out w3 hb13)
    go_wp2_with fail
    refine HG2.out.mono ?_
    rintro e w4 ⟨rfl, hb4⟩
    have hb14 := hb13.trans (hb4.mono hb13.size)
    clear y0 y1 y2 y3
    have y0 := (x0.next hb14).c0
    have HG3 := Lib.hid (HW4.out w4 hb14)
    go_wp2_with fail
    refine HG3.out.mono ?_
    rintro e w5 ⟨rfl, rfl⟩
    go_wp2_with fail
    go_ret
    exact ⟨rfl, HB.out.trans (hb14.mono HB.out.size)⟩
  rw [hwu] at HW4
  obtain ⟨rs1, rfl, rfl, h8, hr1, hrel1, hl1, hd1, -⟩ := alphB_nats L1 xs1 n1 hlen1 ha1
  obtain ⟨rs2, rfl, rfl, h28, hr2, hrel2, hl2, hd2, -⟩ := alphB_nats L2 xs2 n2 hlen2 ha2
  obtain ⟨Ws, hXW, hWl, hWw⟩ := lm_nats (n1 : Int) n2 _ hlm
  have hnn : n = n1 := by
    have e := congrArg List.length hXW
    rw [List.length_map, List.length_map, HLT.out] at e
    omega
  subst hnn
  have hWT : ∀ k t, ts[k]? = some t → t.2.2.2 = ints (Ws.getD k []) := fun k t ht => by
    have e := congrArg (fun l : List (List Int) => l[k]?) hXW
    simp only [List.getElem?_map, ht] at e
    cases hk : Ws[k]? with
    | none => rw [hk] at e; cases e
    | some W =>
      rw [hk] at e
      injection e with e
      rw [List.getD_eq_getElem?_getD, hk]
      exact e
  have hcode : mCode (n : Int) (ints rs1) (n2 : Int) (ints rs2) (ts.map fun t => t.2.2.2) true = if morB rs1 rs2 Ws = true then 0 else 5 := by
    rw [hXW]
    exact mCode_in _ _ rs1 rs2 Ws true ha1 ha2 (by rw [← hXW, hlm]; rfl) (natW_ints Ws)
  have HMO : Hid (∀ ww, Below w1.heap.size w1 ww → Calls Tryd.prog 60 #[.agg #[.int .i64 (n : Int), .slice R1 n c1], .agg #[.int .i64 (n2 : Int), .slice R2 n2 c2], .slice A n c] ww fun e w' => e = .returned (.bool (morB rs1 rs2 Ws)) ∧ Below ww.heap.size ww w') := Lib.hid (fun ww hw => l08Morphism_any R1 R2 A n c1 n2 c2 c rs1 rs2 ts Ws ww (hh1.below hw) h8 hr1 (hh2.below hw) h28 hr2 (hh.below hw) hWT hWw)
  rw [hcode]
  clear hcode hWT hXW hWl hWw hlm ha1 ha2 hr1 hrel1 hl1 hd1 hr2 hrel2 hl2 hd2 h hwu hlen1 hlen2 h1 h2
  cases hmo : morB rs1 rs2 Ws
  · rw [hmo] at HMO
    clear hmo
    go_enter Tryd.func50, Tryd.ntmps50
    go_wp2_with fail
    rw [← HW1.out]
    refine HI1.out.mono ?_
    rintro e w2 ⟨rfl, hb2⟩
    have y0 := (x1.next hb2).c0
    have y1 := (x1.next hb2).c1
    have HG := Lib.hid (HI2.out w2 hb2)
    go_wp2_with fail
    refine HG.out.mono ?_
    rintro e w3 ⟨rfl, hb3⟩
    have hb13 := hb2.trans (hb3.mono hb2.size)
    clear y0 y1
    have y0 := (x0.next hb13).c0
    have y1 := (x0.next hb13).c1
    have y2 := (x1.next hb13).c0
    have y3 := (x1.next hb13).c1
    have HG2 := Lib.hid (HLM4.out w3 hb13)
    go_wp2_with fail
    refine HG2.out.mono ?_
    rintro e w4 ⟨rfl, hb4⟩
    have hb14 := hb13.trans (hb4.mono hb13.size)
    clear y0 y1 y2 y3
    have y0 := (x0.next hb14).c0
    have y1 := (x0.next hb14).c1
    have y2 := (x1.next hb14).c0
    have y3 := (x1.next hb14).c1
    have HG3 := Lib.hid (HW4.out w4 hb14)
    have HG4 := Lib.hid (HMO.out w4 hb14)
    go_wp2_with fail
    refine HG3.out.mono ?_
    rintro e w5 ⟨rfl, rfl⟩
    go_wp2_with fail
    refine HG4.out.mono ?_
    rintro e w6 ⟨rfl, hb6⟩
    have hb16 := hb14.trans (hb6.mono hb14.size)
    go_wp2_with fail
    go_ret
    exact ⟨rfl, HB.out.trans (hb16.mono HB.out.size)⟩
  · rw [hmo] at HMO
    clear hmo
    go_enter Tryd.func50, Tryd.ntmps50
    go_wp2_with fail
    rw [← HW1.out]
    refine HI1.out.mono ?_
    rintro e w2 ⟨rfl, hb2⟩
    have y0 := (x1.next hb2).c0
    have y1 := (x1.next hb2).c1
    have HG := Lib.hid (HI2.out w2 hb2)
    go_wp2_with fail
    refine HG.out.mono ?_
    rintro e w3 ⟨rfl, hb3⟩
    have hb13 := hb2.trans (hb3.mono hb2.size)
    clear y0 y1
    have y0 := (x0.next hb13).c0
    have y1 := (x0.next hb13).c1
    have y2 := (x1.next hb13).c0
    have y3 := (x1.next hb13).c1
    have HG2 := Lib.hid (HLM4.out w3 hb13)
    go_wp2_with fail
    refine HG2.out.mono ?_
    rintro e w4 ⟨rfl, hb4⟩
    have hb14 := hb13.trans (hb4.mono hb13.size)
    clear y0 y1 y2 y3
    have y0 := (x0.next hb14).c0
    have y1 := (x0.next hb14).c1
    have y2 := (x1.next hb14).c0
    have y3 := (x1.next hb14).c1
    have HG3 := Lib.hid (HW4.out w4 hb14)
    have HG4 := Lib.hid (HMO.out w4 hb14)
    go_wp2_with fail
    refine HG3.out.mono ?_
    rintro e w5 ⟨rfl, rfl⟩
    go_wp2_with fail
    refine HG4.out.mono ?_
    rintro e w6 ⟨rfl, hb6⟩
    have hb16 := hb14.trans (hb6.mono hb14.size)
    go_wp2_with fail
    go_ret
    exact ⟨rfl, HB.out.trans (hb16.mono HB.out.size)⟩
end Go.Proofs.YtdafdffmkjhhcaaDoor
