/-
  Graph groups: the core and the frame by the model.
-/
import Derived.Test.YtdafdffmkjhhcaaDoorGrA
import Derived.Test.YtdafdffmkjhhcaaDoorGrX
import Derived.Test.YtdafdffmkjhhcaaDoorGrBk
import Derived.Deep.RegionHeld3
import Derived.Maps.AppendAt
namespace Go.Proofs.YtdafdffmkjhhcaaDoor
open Go Go.RowKit
set_option linter.unusedVariables false
set_option linter.unusedSimpArgs false
set_option maxRecDepth 100000

def moreOf : Value → Nat
  | .bool true => 1
  | _ => 0
theorem outLM_some' {D : Nat → Nat → Bool} {n a : Nat} {w : List Nat} (ha : a < n) (h : isOutM D w a = true) (hb : ∀ b, b < a → isOutM D w b = false) : outLM D n w = some a := by
  unfold outLM
  rw [List.find?_range_eq_some]
  exact ⟨h, by simpa using ha, fun b hb9 => by rw [hb b hb9]; rfl⟩
theorem outLM_none' {D : Nat → Nat → Bool} {n : Nat} {w : List Nat} (hb : ∀ b, b < n → isOutM D w b = false) : outLM D n w = none := by
  unfold outLM
  rw [List.find?_eq_none]
  intro b hb9
  rw [hb b (List.mem_range.1 hb9)]; decide
theorem below_al2 {w w' : World} (h : Below w.heap.size w w') (o : Obj) : Below w.heap.size w (w'.alloc o) := h.alloc h.size o
set_option maxHeartbeats 6400000 in
theorem l09Core_any (A B : Option Addr) (N c m d : Nat) (ds W : List Nat) (w : World) (h : Rd w A N (ints ds)) (hN : N ≤ 16) (hl : ds.length = N) (hr : ∀ i, ds.getD i 0 < 2 ^ N) (hgd : GD (RDep ds) N) (h2 : Rd w B m (ints W)) (hm : m ≤ 24) (hW : ∀ x, x ∈ W → x < N) :
    Calls Tryd.prog 70 #[.agg #[.int .i64 (N : Int), .slice A N c], .slice B m d] w fun e w' => ∃ (A1 A2 : Option Addr) (c1 c2 : Nat),
      e = .returned (.tuple #[.slice A1 (cycM (RDep ds) N m W []).1.length c1, .slice A2 (nfR ds (redW (RDep ds) (cycM (RDep ds) N m W []).2)).length c2]) ∧
      Own 2 w' w.heap.size A1 (cycM (RDep ds) N m W []).1.length c1 (ints (nfR ds (cycM (RDep ds) N m W []).1)) ∧
      Own 2 w' w.heap.size A2 (nfR ds (redW (RDep ds) (cycM (RDep ds) N m W []).2)).length c2 (ints (nfR ds (redW (RDep ds) (cycM (RDep ds) N m W []).2))) ∧ Below w.heap.size w w' := by
  have HLU : Hid (W.length = m) := Lib.hid (by have := h2.1; rw [ints_len] at this; exact this)
  have HL := Lib.hid hl
  have HR := Lib.hid hr
  have HGD := Lib.hid hgd
  have HWN := Lib.hid hW
  have hb0 : Below w.heap.size w (w.alloc (.cells #[.int .i64 (N : Int), .slice A N c] 29)) := below1 w _
  have x0 := box_new 29 w (N : Int) A N c
  obtain ⟨W1, hW1⟩ : ∃ W1, W1 = w.alloc (.cells #[.int .i64 (N : Int), .slice A N c] 29) := ⟨_, rfl⟩
  have HW1 := Lib.hid hW1
  rw [← hW1] at x0 hb0
  have hA1 := h.below hb0
  have HOW := Lib.hid (own_any B m d (ints W) W1 (h2.below hb0) (by omega))
  obtain ⟨CE, FE, hCF⟩ : ∃ a b, cycM (RDep ds) N m W [] = (a, b) := ⟨_, _, rfl⟩
  rw [hCF]
  have HCF := Lib.hid hCF
  have HNM : Hid (∀ ws, nfM (RDep ds) N ws = nfR ds ws) := Lib.hid (fun ws => by unfold nfR; rw [HL.out])
  have HFL : Hid (∀ (ww : World) (A5 : Option Addr) (n5 c5 a : Nat) (us : List Nat), Below W1.heap.size W1 ww → Rd ww A5 n5 (ints us) → n5 ≤ 24 → (∀ x, x ∈ us → x < N) → a < N → Calls Tryd.prog 96 #[.agg #[.int .i64 (N : Int), .slice A N c], .slice A5 n5 c5, .int .i64 (a : Int)] ww fun e w' => e = .returned (.int .i64 (firstI (RDep ds) us a)) ∧ Below ww.heap.size ww w') := Lib.hid (fun ww A5 n5 c5 a us hw hu h5 hus ha =>
    l03FirstL_any (N : Int) A A5 N c n5 c5 a ds us ww (hA1.below hw) (by omega) HR.out hu (by omega) (fun p hp => in_getD hus p (by have := hu.1; rw [ints_len] at this; omega)) ha)
  clear hW1 hCF hl hr hgd hW h h2
  go_enter Tryd.func70, Tryd.ntmps70
  go_wp2_with fail
  rw [← HW1.out]
  refine HOW.out.mono ?_
  rintro e w1 ⟨A0, c0, rfl, o0, hb1⟩
  have hown0 : Own 2 (w1.alloc (.cells #[] 2)) W1.heap.size (some ⟨w1.heap.size, 0, none⟩) 0 0 (ints []) := World.ownsRow_lit w1 #[] 0 hb1.size (by unfold maxLen; omega) rfl
  have o01 := o0.below (below1 w1 (.cells #[] 2))
  have hap0 : ∀ r, A0.map (·.block) = some r → (some (⟨w1.heap.size, 0, none⟩ : Addr)).map (·.block) ≠ some r := fun r h1 h2 => by
    have h3 := (o0.lt r h1).2
    have h4 : w1.heap.size = r := Option.some.inj h2
    omega
  go_wp2_with fail
  go_loopw [6, 7, 8] (fun p q b wr => ∃ (K nC nF : Nat) (C F : List Nat) (A1 A2 : Option Addr) (c1 c2 : Nat) (more : Bool), p = .slice A1 nC c1 ∧ q = .slice A2 nF c2 ∧ b = .bool more ∧ nC ≤ K ∧ nC + 2 * nF ≤ 24 ∧
    Hid (C.length = nC ∧ (∀ x, x ∈ C → x < N) ∧ cycM (RDep ds) N K C F = (CE, FE) ∧ (∀ x, x ∈ F → x < N) ∧ (more = false → outLM (RDep ds) N C = none)) ∧ Own 2 wr W1.heap.size A1 nC c1 (ints C) ∧ Own 2 wr W1.heap.size A2 nF c2 (ints F) ∧ (∀ r, A1.map (·.block) = some r → A2.map (·.block) ≠ some r) ∧ Below W1.heap.size W1 wr) (fun p _ b _ => 2 * sliceLen p + moreOf b)
  case atStart => exact ⟨m, m, 0, W, [], A0, _, c0, 0, true, rfl, rfl, rfl, Nat.le_refl _, by omega, Lib.hid ⟨HLU.out, HWN.out, HCF.out, fun x hx => (by cases hx), fun h9 => (by cases h9)⟩, o01, hown0, hap0, below_al2 hb1 _⟩
  case round =>
    clear o01 hown0 hap0 hb1 o0
    obtain ⟨K, nC, nF, C, F, A1, A2, c1, c2, more, rfl, rfl, rfl, hK, h24, HH, o1, o2, hap, hb⟩ := hrel
    have HFLN : Hid (F.length = nF) := Lib.hid (by have := o2.len; rw [ints_len] at this; exact this)
    obtain ⟨wo, hwo⟩ : ∃ wo, wo = wr := ⟨_, rfl⟩
    rw [← hwo] at o1 o2 hb ⊢
    clear hwo
    cases more
    · have HE : Hid (C = CE ∧ F = FE) := Lib.hid (by have h9 := HH.out.2.2.1; rw [cycM_end (HH.out.2.2.2.2 rfl)] at h9; injection h9 with h8 h9; exact ⟨h8, h9⟩)
      have hCn := HH.out.1
      have hCN := HH.out.2.1
      have hFN := HH.out.2.2.2.1
      have hFn := HFLN.out
      have HNO : Hid (∀ ww, Below wo.heap.size wo ww → Calls Tryd.prog 53 #[.agg #[.int .i64 (N : Int), .slice A N c], .slice A1 nC c1] ww (MakesE 2 ww nC (ints (nfR ds C)))) := Lib.hid (fun ww hw => by
        have h9 := l03NormalL_any A A1 N c nC c1 ds C ww ((hA1.below hb).below hw) (by omega) HR.out (o1.rd.below hw) (by omega) (fun p hp => in_getD hCN p (by omega))
        rw [HNM.out] at h9; exact h9)
      have HRE : Hid (∀ ww, Below wo.heap.size wo ww → Calls Tryd.prog 71 #[.agg #[.int .i64 (N : Int), .slice A N c], .slice A2 nF c2] ww (MakesE 2 ww (nfR ds (redW (RDep ds) F)).length (ints (nfR ds (redW (RDep ds) F))))) := Lib.hid (fun ww hw => l09Reduce_any A A2 N c nF c2 ds F ww ((hA1.below hb).below hw) hN HL.out HR.out HGD.out (o2.rd.below hw) (by omega) hFN)
      obtain ⟨V1, hV1⟩ : ∃ V, V = ints (nfR ds C) := ⟨_, rfl⟩
      obtain ⟨V2, hV2⟩ : ∃ V, V = ints (nfR ds (redW (RDep ds) F)) := ⟨_, rfl⟩
      obtain ⟨k2, hk2⟩ : ∃ k, k = (nfR ds (redW (RDep ds) F)).length := ⟨_, rfl⟩
      rw [← hV1] at HNO
      rw [← hV2, ← hk2] at HRE
      have HV : Hid (V1 = ints (nfR ds CE) ∧ V2 = ints (nfR ds (redW (RDep ds) FE)) ∧ nC = CE.length ∧ k2 = (nfR ds (redW (RDep ds) FE)).length) := Lib.hid (by
        obtain ⟨rfl, rfl⟩ := HE.out
        exact ⟨hV1, hV2, hCn.symm, hk2⟩)
      have hcur : Below wo.heap.size wo wo.drew := (Below.refl _ _).drew
      have HS9 : Hid (∀ w', Below wo.heap.size wo w' → w'.cell? ⟨w.heap.size, 0, none⟩ = some (.int .i64 (N : Int)) ∧ w'.cell? ⟨w.heap.size, 1, none⟩ = some (.slice A N c)) := Lib.hid (fun w' hw => ⟨(x0.next (hb.trans (hw.mono hb.size))).c0, (x0.next (hb.trans (hw.mono hb.size))).c1⟩)
      have hcd := HS9.out _ hcur
      clear hV1 hV2 hk2 hCn hCN hFN hFn HE
      go_wp2_with fail
      go_region_held3 (fun w' => w'.cell? ⟨w.heap.size, 0, none⟩ = some (.int .i64 (N : Int)) ∧ w'.cell? ⟨w.heap.size, 1, none⟩ = some (.slice A N c)) (first | exact hcd | exact HS9.out _ hcur | go_keep) (first
        | (go_at_call 53; (with_reducible refine (HNO.out _ hcur).mono ?_); rintro e wa ⟨A5, c5, rfl, o5, hba⟩; have hcz := hcur.size; have o5 := o5.mono hcz; have hcur := hcur.trans (hba.mono hcz))
        | (go_at_call 71; (with_reducible refine (HRE.out _ hcur).mono ?_); rintro e wb ⟨A6, c6, rfl, o6, hbb⟩; have hcz := hcur.size; have o5 := o5.below hbb; have o6 := o6.mono hcz; have hcur := hcur.trans (hbb.mono hcz)))
      all_goals (
        go_wp2_with fail
        go_ret2
        obtain ⟨e1, e2, e3, e4⟩ := HV.out
        rw [← e1, ← e2, ← e3, ← e4]
        have hb9 := hb0.trans (hb.mono hb0.size)
        exact ⟨_, _, _, _, rfl, o5.mono hb9.size, o6.mono hb9.size, hb9.trans (hcur.mono hb9.size)⟩)
    · have HC := Lib.hid HH.out.1
      have HCN := Lib.hid HH.out.2.1
      have hC24 : nC ≤ 24 := by omega
      go_wp2_with fail
      go_loopw [6, 7, 8, 9] (fun p q b i wr => ∃ (s : Nat), i = .int .i64 (s : Int) ∧ s ≤ N ∧
        ((b = .bool false ∧ p = .slice A1 nC c1 ∧ q = .slice A2 nF c2 ∧ Hid (∀ a, a < s → isOutM (RDep ds) C a = false) ∧ Below wo.heap.size wo wr) ∨
         (b = .bool true ∧ ∃ (a nC' c1' c2' : Nat) (A1' A2' : Option Addr), p = .slice A1' nC' c1' ∧ q = .slice A2' (nF + 1) c2' ∧ Hid (outLM (RDep ds) N C = some a ∧ (strip a C).length = nC') ∧ Own 2 wr W1.heap.size A1' nC' c1' (ints (strip a C)) ∧ Own 2 wr W1.heap.size A2' (nF + 1) c2' (ints (F ++ [a])) ∧ (∀ r, A1'.map (·.block) = some r → A2'.map (·.block) ≠ some r) ∧ Below W1.heap.size W1 wr))) (fun _ _ _ i _ => N - (intOf i).toNat)
      case atStart => exact ⟨0, rfl, Nat.zero_le _, .inl ⟨rfl, rfl, rfl, Lib.hid (fun a ha => absurd ha (Nat.not_lt_zero _)), Below.refl _ _⟩⟩
      case round =>
        obtain ⟨s, rfl, hs, hcase⟩ := hrel
        rcases hcase with ⟨rfl, rfl, rfl, HNO, hbx⟩ | ⟨rfl, a, nC', c1', c2', A1', A2', rfl, rfl, HFO, o1', o2', hap', hbx⟩
        · have hb1 := hb.trans (hbx.mono hb.size)
          have y0 := (x0.next hb1).c0
          have y1 := (x0.next hb1).c1
          by_cases hlt : s < N
          · have o1x := o1.below hbx
            have o2x := o2.below hbx
            have hFI := HFL.out wr A1 nC c1 s C hb1 o1x.rd hC24 HCN.out hlt
            cases hfree : freeB (RDep ds) C s
            · have hfi : firstI (RDep ds) C s = -1 := by unfold firstI; rw [hfree]; rfl
              rw [hfi] at hFI
              have HFI := Lib.hid hFI
              have HNX : Hid (∀ a, a < s + 1 → isOutM (RDep ds) C a = false) := Lib.hid (fun a ha => by
                by_cases e : a = s
                · subst e; unfold isOutM; rw [hfree]; rfl
                · exact HNO.out a (by omega))
              clear hFI hfi hfree
              go_wp2_with fail
              refine HFI.out.mono ?_
              rintro e w4 ⟨rfl, hb4⟩
              go_wp2_with fail
              go_roundw
              case rel => exact ⟨s + 1, by go_num, by omega, .inl ⟨rfl, rfl, rfl, HNX, hbx.trans (hb4.mono hbx.size)⟩⟩
              case measure => simp [intOf]; omega
            · have hmem := free_mem (RDep ds) s C hfree
              have hidx : C.idxOf s < nC := by rw [← HC.out]; exact List.idxOf_lt_length_of_mem hmem
              have hfi : firstI (RDep ds) C s = ((C.idxOf s : Nat) : Int) := by unfold firstI; rw [hfree]; rfl
              rw [hfi] at hFI
              have HER := Lib.hid (erase_idx C s hmem)
              have HEL : Hid ((C.erase s).length = nC - 1) := Lib.hid (by rw [List.length_erase_of_mem hmem, HC.out])
              have HEN : Hid (∀ x, x ∈ (C.erase s).reverse → x < N) := Lib.hid (fun x hx => HCN.out x (List.mem_of_mem_erase (List.mem_reverse.1 hx)))
              have HFS := Lib.hid hfree
              obtain ⟨q, hq⟩ : ∃ q, q = C.idxOf s := ⟨_, rfl⟩
              rw [← hq] at hidx hFI HER
              have HFI := Lib.hid hFI
              have hcap := own_cap o1x
              obtain ⟨g, rfl, hgB, hgl⟩ := o1x.form (by omega)
              clear hFI hfi hfree hmem hq
              go_wp2_with fail
              refine HFI.out.mono ?_
              rintro e w4 ⟨rfl, hb4⟩
              have hb14 := hb1.trans (hb4.mono hb1.size)
              have hW3 := Lib.hid (l03WithoutL_any g 0 nC c1 q C w4 (o1x.below hb4).rd (by omega) hidx hcap)
              rw [HER.out] at hW3
              clear y0 y1
              go_wp2_with fail
              refine hW3.out.mono ?_
              rintro e w5 ⟨A3, c3, rfl, o3, hb5⟩
              have hb15 := hb14.trans (hb5.mono hb14.size)
              have hBK := Lib.hid (back_any A3 (nC - 1) c3 (C.erase s) w5 o3.rd (by omega))
              go_wp2_with fail
              refine hBK.out.mono ?_
              rintro e w6 ⟨A4, c4, rfl, o4, hb6⟩
              have hb16 := hb15.trans (hb6.mono hb15.size)
              have hopN := HGD.out.lt s hlt
              obtain ⟨E, hE⟩ : ∃ E, E = (C.erase s).reverse := ⟨_, rfl⟩
              have HEE := Lib.hid hE
              rw [← hE] at o4 HEN
              have HEl : Hid (E.length = nC - 1) := Lib.hid (by rw [hE, List.length_reverse, HEL.out])
              have HF2 : Hid (∀ ww, Below w6.heap.size w6 ww → Calls Tryd.prog 96 #[.agg #[.int .i64 (N : Int), .slice A N c], .slice A4 (nC - 1) c4, .int .i64 ((opp s : Nat) : Int)] ww fun e w' => e = .returned (.int .i64 (firstI (RDep ds) E (opp s))) ∧ Below ww.heap.size ww w') := Lib.hid (fun ww hw => HFL.out ww A4 (nC - 1) c4 (opp s) E (hb16.trans (hw.mono hb16.size)) (o4.rd.below hw) (by omega) HEN.out hopN)
              have HOP := Lib.hid (fun ww : World => l09Opposite_any s (by omega) ww)
              obtain ⟨os, hos⟩ : ∃ os, os = opp s := ⟨_, rfl⟩
              have HOS := Lib.hid hos
              rw [← hos] at HF2 HOP
              have hcur : Below w6.heap.size w6 w6.drew := (Below.refl _ _).drew
              have HS9 : Hid (∀ w', Below w6.heap.size w6 w' → w'.cell? ⟨w.heap.size, 0, none⟩ = some (.int .i64 (N : Int)) ∧ w'.cell? ⟨w.heap.size, 1, none⟩ = some (.slice A N c)) := Lib.hid (fun w' hw => ⟨(x0.next (hb16.trans (hw.mono hb16.size))).c0, (x0.next (hb16.trans (hw.mono hb16.size))).c1⟩)
              have hcd := HS9.out _ hcur
              have o26 := ((o2x.below hb4).below hb5).below hb6
              have hbx6 := hbx.trans ((hb4.trans ((hb5.trans (hb6.mono hb5.size)).mono hb4.size)).mono hbx.size)
              clear hE hos o3 hb14 hb15
              cases hfree2 : freeB (RDep ds) E os
              · have hfi : firstI (RDep ds) E os = -1 := by unfold firstI; rw [hfree2]; rfl
                rw [hfi] at HF2
                have HNX : Hid (∀ a, a < s + 1 → isOutM (RDep ds) C a = false) := Lib.hid (fun a ha => by
                  by_cases e : a = s
                  · subst e; unfold isOutM; rw [← HEE.out, ← HOS.out, hfree2, Bool.and_false]
                  · exact HNO.out a (by omega))
                clear hfi hfree2
                go_wp2_with fail
                go_region_held3 (fun w' => w'.cell? ⟨w.heap.size, 0, none⟩ = some (.int .i64 (N : Int)) ∧ w'.cell? ⟨w.heap.size, 1, none⟩ = some (.slice A N c)) (first | exact hcd | exact HS9.out _ hcur | go_keep) (first
                  | (go_at_call 120; (with_reducible refine (HOP.out _).mono ?_); rintro e w9 ⟨rfl, rfl⟩)
                  | (go_at_call 96; (with_reducible refine (HF2.out _ hcur).mono ?_); rintro e w7 ⟨rfl, hb7⟩; have hcz := hcur.size; have hcur := hcur.trans (hb7.mono hcz)))
                all_goals (
                  go_wp2_with fail
                  go_roundw
                  case rel => exact ⟨s + 1, by go_num, by omega, .inl ⟨rfl, rfl, rfl, HNX, hbx6.trans (hcur.mono hbx6.size)⟩⟩
                  case measure => simp [intOf]; omega)
              · have hmem := free_mem (RDep ds) os E hfree2
                have hidx2 : E.idxOf os < nC - 1 := by rw [← HEl.out]; exact List.idxOf_lt_length_of_mem hmem
                have hfi : firstI (RDep ds) E os = ((E.idxOf os : Nat) : Int) := by unfold firstI; rw [hfree2]; rfl
                rw [hfi] at HF2
                have HER2 := Lib.hid (erase_idx E os hmem)
                have HOUT : Hid (outLM (RDep ds) N C = some s) := Lib.hid (outLM_some' hlt (by unfold isOutM; rw [HFS.out, ← HEE.out, ← HOS.out, hfree2]; rfl) HNO.out)
                have HSTR : Hid ((E.erase os).reverse = strip s C) := Lib.hid (by unfold strip; rw [← HEE.out, ← HOS.out])
                have HSL : Hid ((strip s C).length = nC - 1 - 1) := Lib.hid (by rw [← HSTR.out, List.length_reverse, List.length_erase_of_mem hmem, HEl.out])
                obtain ⟨q2, hq2⟩ : ∃ q, q = E.idxOf os := ⟨_, rfl⟩
                rw [← hq2] at hidx2 HF2 HER2
                have hcap4 := own_cap o4
                obtain ⟨g4, rfl, hg4B, hg4l⟩ := o4.form (by omega)
                clear hfi hfree2 hmem hq2
                go_wp2_with fail
                go_region_held3 (fun w' => w'.cell? ⟨w.heap.size, 0, none⟩ = some (.int .i64 (N : Int)) ∧ w'.cell? ⟨w.heap.size, 1, none⟩ = some (.slice A N c)) (first | exact hcd | exact HS9.out _ hcur | go_keep) (first
                  | (go_at_call 120; (with_reducible refine (HOP.out _).mono ?_); rintro e w9 ⟨rfl, rfl⟩)
                  | (go_at_call 96; (with_reducible refine (HF2.out _ hcur).mono ?_); rintro e w7 ⟨rfl, hb7⟩; have hcz := hcur.size; have hcur := hcur.trans (hb7.mono hcz)))
                all_goals
                  have hb17 := hb16.trans (hcur.mono hb16.size)
                  have hW4 := Lib.hid (l03WithoutL_any g4 0 (nC - 1) c4 q2 E w7 (o4.rd.below hcur) (by omega) hidx2 hcap4)
                  rw [HER2.out] at hW4
                  go_wp2_with fail
                  refine hW4.out.mono ?_
                  rintro e w8 ⟨A8, c8, rfl, o8, hb8⟩
                  have hBK2 := Lib.hid (back_any A8 (nC - 1 - 1) c8 (E.erase os) w8 o8.rd (by omega))
                  rw [HSTR.out] at hBK2
                  go_wp2_with fail
                  refine hBK2.out.mono ?_
                  rintro e w9 ⟨A9, c9, rfl, o9, hb9⟩
                  have hb18 := hb17.trans (hb8.mono hb17.size)
                  have hb19 := hb18.trans (hb9.mono hb18.size)
                  have o29 := ((o26.below hcur).below hb8).below hb9
                  have hml : nF + 1 ≤ maxLen := by unfold maxLen; omega
                  have hby : (nF + 1) * 8 ≤ 140737488355328 := by omega
                  have hsz8 : W1.heap.size ≤ w8.heap.size := hb18.size
                  have o9' := (o9.mono hsz8).below (below1 w9 (.cells #[.int .i64 (s : Int)] 2))
                  have HA9 : Hid (∀ r, A9.map (·.block) = some r → w8.heap.size ≤ r ∧ r < w9.heap.size) := Lib.hid (fun r hr => o9.lt r hr)
                  have HA2 : Hid (∀ r, A2.map (·.block) = some r → r < w8.heap.size) := Lib.hid (fun r hr => by have := (((o26.below hcur).below hb8).lt r hr).2; exact this)
                  obtain ⟨i0, hi, hz0, hz1, hz2⟩ := info_parts info_int
                  clear o8 o9 hb8 hb9 hb17 hb18 hcur hcd
                  go_wp2_with (at_builtin; refine wpList_append_own_at _ rfl _ _ 22 rfl W1.heap.size 2 i0 (.int .i64 0) 1 8 Tryd.underlying22 hi hz0 hz1 hz2 rfl (by decide) (.slice A2 nF c2) nF ((ints F).map (Value.int .i64)) rfl (World.ownsRow.alloc o29 _) ⟨w9.heap.size, 0, none⟩ 1 1 [.int .i64 (s : Int)] rfl rfl ?c1 ?c2 hml hby ?c5 ?_)
                  case c1 => exact cell_one_new _ _ _
                  case c2 => intro u hu; simp at hu; subst hu; rfl
                  case c5 => have := hb19.size; simp; omega
                  intro v' w10 hown hg _ hat
                  rw [ints_snoc_map] at hown
                  obtain ⟨Ax, cx, rfl, ox⟩ := own_shape hown
                  rw [own_block] at hg
                  rw [own_block, own_block] at hat
                  have hbA : Below W1.heap.size W1 w10 := (below_al2 hb19 _).grown hg (below_al2 hb19 _).size (fun r hr => (o29.lt r hr).1)
                  have o910 := o9'.apart hg (fun r h1 h2 => by have := (HA9.out r h1).1; have := HA2.out r h2; omega)
                  have hapx : ∀ r, A9.map (·.block) = some r → Ax.map (·.block) ≠ some r := fun r h1 h2 => by
                    rcases hat with h9 | h9
                    · have := (HA9.out r h1).1; have := HA2.out r (by rw [← h9]; exact h2); omega
                    · rw [h2] at h9
                      injection h9 with h9
                      have := (HA9.out r h1).2
                      first | omega | (simp at h9; omega)
                  clear hown hg hat o9' o29 hb19
                  go_wp2_with fail
                  go_roundw
                  case rel => exact ⟨s + 1, by go_num, by omega, .inr ⟨rfl, s, nC - 1 - 1, c9, cx, A9, Ax, rfl, rfl, Lib.hid ⟨HOUT.out, HSL.out⟩, o910, ox, hapx, hbA⟩⟩
                  case measure => simp [intOf]; omega
          · obtain rfl : s = N := by omega
            have HON := Lib.hid (outLM_none' HNO.out)
            have o1x := o1.below hbx
            have o2x := o2.below hbx
            go_wp2_with fail
            go_roundw
            case rel => exact ⟨K, nC, nF, C, F, A1, A2, c1, c2, false, rfl, rfl, rfl, hK, h24, Lib.hid ⟨HC.out, HCN.out, HH.out.2.2.1, HH.out.2.2.2.1, fun _ => HON.out⟩, o1x, o2x, hap, hb1⟩
            case measure => simp [sliceLen, moreOf]
        · have y0 := (x0.next hbx).c0
          obtain ⟨K', hK', hL2, hcyc⟩ := cycM_step (f := F) HGD.out HCN.out (by rw [HC.out]; exact hK) HFO.out.1
          have ha9 : a < N := by
            have h9 := HFO.out.1
            unfold outLM at h9
            rw [List.find?_range_eq_some] at h9
            simpa using h9.2.1
          have HSN : Hid (∀ x, x ∈ strip a C → x < N) := Lib.hid (strip_lt (n := N) (a := a) HCN.out)
          have HFN2 : Hid (∀ x, x ∈ F ++ [a] → x < N) := Lib.hid (fun x hx => by
            rcases List.mem_append.1 hx with h1 | h1
            · exact HH.out.2.2.2.1 x h1
            · rw [List.mem_singleton.1 h1]; exact ha9)
          have HCY : Hid (cycM (RDep ds) N K' (strip a C) (F ++ [a]) = (CE, FE)) := Lib.hid (by rw [← hcyc]; exact HH.out.2.2.1)
          have hnl := HFO.out.2
          rw [hnl, HC.out] at hL2
          rw [hnl] at hK'
          have HNL := Lib.hid hnl
          clear hnl hcyc
          by_cases hlt : s < N
          · go_wp2_with fail
            go_roundw
            case rel => exact ⟨K', nC', nF + 1, strip a C, F ++ [a], A1', A2', c1', c2', true, rfl, rfl, rfl, hK', by omega, Lib.hid ⟨HNL.out, HSN.out, HCY.out, HFN2.out, fun h9 => (by cases h9)⟩, o1', o2', hap', hbx⟩
            case measure => simp [sliceLen, moreOf]; omega
          · go_wp2_with fail
            go_roundw
            case rel => exact ⟨K', nC', nF + 1, strip a C, F ++ [a], A1', A2', c1', c2', true, rfl, rfl, rfl, hK', by omega, Lib.hid ⟨HNL.out, HSN.out, HCY.out, HFN2.out, fun h9 => (by cases h9)⟩, o1', o2', hap', hbx⟩
            case measure => simp [sliceLen, moreOf]; omega
end Go.Proofs.YtdafdffmkjhhcaaDoor
