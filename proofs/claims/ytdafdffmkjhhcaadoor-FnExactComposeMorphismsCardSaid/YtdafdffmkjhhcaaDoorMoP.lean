/-
  Morphisms: the program's test of a letter map.
-/
import Derived.Test.YtdafdffmkjhhcaaDoorMoM
import Derived.Test.YtdafdffmkjhhcaaDoorFree
import Derived.Test.YtdafdffmkjhhcaaDoorMn
import Derived.Conc.MuLone
import Derived.Deep.RegionWith
namespace Go.Proofs.YtdafdffmkjhhcaaDoor
open Go Go.RowKit
set_option linter.unusedVariables false
set_option linter.unusedSimpArgs false
set_option maxRecDepth 100000

theorem wf_bits' {zs : List Nat} {N : Nat} (hN : N ≤ 8) (hz : ∀ i, zs.getD i 0 < 2 ^ N) : Wf (ints zs) := by
  intro x hx
  obtain ⟨y, hy, rfl⟩ := List.mem_map.1 hx
  obtain ⟨j, hj⟩ := List.mem_iff_getElem?.1 hy
  have h1 := hz j
  rw [List.getD_eq_getElem?_getD, hj] at h1
  have h2 : 2 ^ N ≤ 2 ^ 8 := Nat.pow_le_pow_right (by decide) hN
  have h3 : y < 2 ^ N := h1
  have h4 : (2 : Nat) ^ 8 = 256 := by decide
  constructor <;> show _ ≤ _ <;> omega
theorem wf_nats' {us : List Nat} {N : Nat} (hN : N ≤ 24) (h : ∀ x, x ∈ us → x < N) : Wf (ints us) := by
  intro x hx
  obtain ⟨y, hy, rfl⟩ := List.mem_map.1 hx
  have := h y hy
  constructor <;> show _ ≤ _ <;> omega
/-- A variable that holds three values. -/
def Box3 (T : TypeId) (w : World) (g : Nat) (a b c : Value) : Prop := w.heap[g]? = some (.cells #[a, b, c] T (0, 0))
theorem Box3.lt {T : TypeId} {w : World} {g : Nat} {a b c : Value} (h : Box3 T w g a b c) : g < w.heap.size := by
  rcases Nat.lt_or_ge g w.heap.size with h' | h'
  · exact h'
  · unfold Box3 at h; rw [Array.getElem?_eq_none h'] at h; cases h
theorem Box3.c0 {T : TypeId} {w : World} {g : Nat} {a b c : Value} (h : Box3 T w g a b c) : w.cell? ⟨g, 0, none⟩ = some a := (cells3 h).1
theorem Box3.c1 {T : TypeId} {w : World} {g : Nat} {a b c : Value} (h : Box3 T w g a b c) : w.cell? ⟨g, 1, none⟩ = some b := (cells3 h).2.1
theorem Box3.c2 {T : TypeId} {w : World} {g : Nat} {a b c : Value} (h : Box3 T w g a b c) : w.cell? ⟨g, 2, none⟩ = some c := (cells3 h).2.2.1
theorem Box3.fr {T : TypeId} {w : World} {g : Nat} {a b c : Value} (h : Box3 T w g a b c) (k : Nat) : w.frozen? ⟨g, k, none⟩ = false := (cells3 h).2.2.2 k
theorem Box3.next {T : TypeId} {w w' : World} {g : Nat} {a b c : Value} (h : Box3 T w g a b c) (hb : Below w.heap.size w w') : Box3 T w' g a b c := (hb.block _ h.lt).trans h
theorem box3_new (T : TypeId) (w : World) (a b c : Value) : Box3 T (w.alloc (.cells #[a, b, c] T)) w.heap.size a b c := heap_alloc_new w _
theorem Box3.set {T : TypeId} {w : World} {g : Nat} {a b c : Value} (h : Box3 T w g a b c) (a' b' c' : Value) : Box3 T (((w.setCell ⟨g, 0, none⟩ a').setCell ⟨g, 1, none⟩ b').setCell ⟨g, 2, none⟩ c') g a' b' c' := by
  unfold Box3 at h ⊢
  rw [heap_put (heap_put (heap_put h a') b') c']; rfl
theorem letterImage_any (a n c q d : Nat) (A C : Option Addr) (ts : List (Option Addr × Nat × Nat × List Int)) (xs : List Int) (w : World) (h : RdT w A n ts) (ha : a < n) (hn : n ≤ 24) (ht : ts[a]? = some (C, q, d, xs)) :
    Calls Tryd.prog 94 #[.slice A n c, .int .i64 (a : Int)] w fun e w' => e = .returned (.slice C q d) ∧ w = w' := by
  obtain ⟨b, off, C', q', d', xs', rfl, hbs, hts, hcell, -, -⟩ := h.at_ ha
  rw [ht] at hts
  injection hts with hts
  injection hts with e1 hts
  injection hts with e2 hts
  injection hts with e3 e4
  subst e1 e2 e3
  clear ht
  go_enter Tryd.func94, Tryd.ntmps94
  go_wp2_with fail
  go_ret
  exact ⟨rfl, rfl⟩
set_option maxHeartbeats 800000 in
theorem indexFuncSS_any (p : List Int → Bool) (f : FuncId) (lb : Array Value) (A : Option Addr) (n c : Nat) (ts : List (Option Addr × Nat × Nat × List Int)) (w : World) (h : RdT w A n ts) (hn : n ≤ 1048576)
    (eg : ∀ args w, (callFunc f args).run Tryd.prog w = .ok (.enter f args) w)
    (hp : ∀ (ww : World) (C : Option Addr) (q d : Nat) (xs : List Int), Below w.heap.size w ww → (C, q, d, xs) ∈ ts → Rd ww C q xs → q ≤ maxLen → Calls Tryd.prog f (#[.slice C q d] ++ lb) ww fun e w' => e = .returned (.bool (p xs)) ∧ Below ww.heap.size ww w') :
    Calls Tryd.prog 147 #[.slice A n c, .func (.func f) #[] lb] w fun e w' => ∃ r : Int, e = .returned (.int .i64 r) ∧ decide (0 ≤ r) = ts.any (fun t => p t.2.2.2) ∧ Below w.heap.size w w' := by
  have HP := Lib.hid hp
  have HL := Lib.hid h.1
  clear hp
  go_enter Tryd.func147, Tryd.ntmps147
  go_wp2
  go_loopw [8] (fun q wr => ∃ k : Nat, k ≤ n ∧ q = .int .i64 k ∧ Below w.heap.size w wr ∧ Hid ((ts.take k).any (fun t => p t.2.2.2) = false)) (fun q _ => n - (intOf q).toNat)
  case atStart => exact ⟨0, Nat.zero_le _, rfl, Below.refl _ _, Lib.hid rfl⟩
  case round =>
    obtain ⟨k, hk, rfl, hb, HA⟩ := hrel
    by_cases hlt : k < n
    · obtain ⟨b, off, C, q, d, xs, rfl, hbs, hx, hcx, hrd, hq⟩ := (h.below hb).at_ hlt
      have HC := Lib.hid (HP.out wr C q d xs hb (List.mem_of_getElem? hx) hrd hq)
      have HX := Lib.hid hx
      clear hx
      cases hpx : p xs
      · have HF := Lib.hid hpx
        clear hpx
        go_wp2_with fail
        refine HC.out.mono ?_
        rintro e w' ⟨rfl, hb2⟩
        rw [HF.out]
        go_wp2
        go_roundw
        case rel => exact ⟨k + 1, by omega, by go_num, hb.trans (hb2.mono hb.size), Lib.hid (by rw [List.take_add_one, HX.out, List.any_append, HA.out]; simp [HF.out])⟩
        case measure => simp [intOf]; omega
      · have HF := Lib.hid hpx
        clear hpx
        go_wp2_with fail
        refine HC.out.mono ?_
        rintro e w' ⟨rfl, hb2⟩
        rw [HF.out]
        go_wp2
        go_ret
        refine ⟨k, rfl, ?_, hb.trans (hb2.mono hb.size)⟩
        rw [decide_eq_true (by omega)]
        symm
        rw [List.any_eq_true]
        exact ⟨_, List.mem_of_getElem? HX.out, HF.out⟩
    · obtain rfl : k = n := by omega
      go_wp2
      go_ret
      refine ⟨-1, rfl, ?_, hb⟩
      have h9 := HA.out
      rw [List.take_of_length_le (by rw [HL.out]; exact Nat.le_refl _)] at h9
      rw [h9]; rfl
theorem containsFuncSS_any (p : List Int → Bool) (f : FuncId) (lb : Array Value) (A : Option Addr) (n c : Nat) (ts : List (Option Addr × Nat × Nat × List Int)) (w : World) (h : RdT w A n ts) (hn : n ≤ 1048576)
    (eg : ∀ args w, (callFunc f args).run Tryd.prog w = .ok (.enter f args) w)
    (hp : ∀ (ww : World) (C : Option Addr) (q d : Nat) (xs : List Int), Below w.heap.size w ww → (C, q, d, xs) ∈ ts → Rd ww C q xs → q ≤ maxLen → Calls Tryd.prog f (#[.slice C q d] ++ lb) ww fun e w' => e = .returned (.bool (p xs)) ∧ Below ww.heap.size ww w') :
    Calls Tryd.prog 106 #[.slice A n c, .func (.func f) #[] lb] w fun e w' => e = .returned (.bool (ts.any fun t => p t.2.2.2)) ∧ Below w.heap.size w w' := by
  have HI := Lib.hid (indexFuncSS_any p f lb A n c ts w h hn eg hp)
  clear hp
  go_enter Tryd.func106, Tryd.ntmps106
  go_wp2_with fail
  refine HI.out.mono ?_
  rintro e w' ⟨r, rfl, hr, hb⟩
  have HR := Lib.hid hr
  clear hr
  go_wp2
  go_ret
  exact ⟨ret_b _ _ HR.out, hb⟩
theorem noWord_any (g : Nat) (L2 : Int) (R2 : Option Addr) (n2 c2 : Nat) (C : Option Addr) (q d : Nat) (xs : List Int) (w : World) (x : Box 29 w g L2 R2 n2 c2) (h : Rd w C q xs) (hq : q ≤ maxLen) :
    Calls Tryd.prog 105 #[.slice C q d, .pointer (some ⟨g, 0, none⟩)] w fun e w' => e = .returned (.bool (!wordB L2 xs)) ∧ Below w.heap.size w w' := by
  have hq2 : q ≤ 9223372036854775807 := by unfold maxLen at hq; omega
  have y0 := x.c0
  go_enter Tryd.func105, Tryd.ntmps105
  go_wp2_with fail
  refine (isWordOf_any L2 C q d xs w h hq2).mono ?_
  rintro e w1 ⟨rfl, hb⟩
  go_wp2_with fail
  go_ret
  exact ⟨rfl, hb⟩
theorem any_not_all_ts (p : List Int → Bool) (ts : List (Option Addr × Nat × Nat × List Int)) : ts.any (fun t => !p t.2.2.2) = !(ts.map fun t => t.2.2.2).all p := by
  induction ts with
  | nil => rfl
  | cons x r ih => simp [List.any_cons, List.all_cons, ih, Bool.not_and]
set_option maxHeartbeats 800000 in
theorem isLetterMap_any (L1 L2 : Int) (R1 R2 A : Option Addr) (n1 c1 n2 c2 n c : Nat) (ts : List (Option Addr × Nat × Nat × List Int)) (w : World) (h : RdT w A n ts) (hn : n ≤ 1048576) :
    Calls Tryd.prog 62 #[.agg #[.int .i64 L1, .slice R1 n1 c1], .agg #[.int .i64 L2, .slice R2 n2 c2], .slice A n c] w fun e w' => e = .returned (.bool (lmB L1 L2 (ts.map fun t => t.2.2.2))) ∧ Below w.heap.size w w' := by
  have HB := Lib.hid (below2 w (.cells #[.int .i64 L1, .slice R1 n1 c1] 29) (.cells #[.int .i64 L2, .slice R2 n2 c2] 29))
  have x0 := (box_new 29 w L1 R1 n1 c1).next (below1 _ (.cells #[.int .i64 L2, .slice R2 n2 c2] 29))
  have x1 := box_new 29 (w.alloc (.cells #[.int .i64 L1, .slice R1 n1 c1] 29)) L2 R2 n2 c2
  have hsz := size1' w (.cells #[.int .i64 L1, .slice R1 n1 c1] 29)
  rw [hsz] at x1
  have hh := h.below HB.out
  have HLT : Hid (ts.length = n) := Lib.hid h.1
  have eg : ∀ args w, (callFunc 105 args).run Tryd.prog w = .ok (.enter 105 args) w := fun args w => Go.MuLone.run_callFunc_enter (P := Tryd.prog) Tryd.func105 (by kernel_rfl) rfl args w
  have y0 := x0.c0
  by_cases hl : (n : Int) = L1
  · have hlm : Hid (lmB L1 L2 (ts.map fun t => t.2.2.2) = (ts.map fun t => t.2.2.2).all (wordB L2)) := Lib.hid (by unfold lmB; rw [List.length_map, HLT.out, decide_eq_true hl]; rfl)
    have HC := Lib.hid (containsFuncSS_any (fun xs => !wordB L2 xs) 105 #[.pointer (some ⟨w.heap.size + 1, 0, none⟩)] A n c ts _ hh hn eg (fun ww C q d xs hw _ hr hq => noWord_any (w.heap.size + 1) L2 R2 n2 c2 C q d xs ww (x1.next hw) hr hq))
    subst hl
    clear hsz
    go_enter Tryd.func62, Tryd.ntmps62
    go_wp2_with fail
    refine HC.out.mono ?_
    rintro e w1 ⟨rfl, hb⟩
    go_wp2_with fail
    go_ret
    refine ⟨ret_b _ _ ?_, HB.out.trans (hb.mono HB.out.size)⟩
    rw [any_not_all_ts, Bool.not_not, hlm.out]
  · have hlm : Hid (lmB L1 L2 (ts.map fun t => t.2.2.2) = false) := Lib.hid (by unfold lmB; rw [List.length_map, HLT.out, decide_eq_false hl]; rfl)
    have hne : ((n : Int) == L1) = false := by simpa using hl
    clear hsz
    go_enter Tryd.func62, Tryd.ntmps62
    go_wp2_with fail
    go_ret
    exact ⟨ret_b _ _ hlm.out.symm, HB.out⟩
set_option maxHeartbeats 6400000 in
theorem respects_any (R1 R2 A : Option Addr) (n1 c1 n2 c2 c : Nat) (rs1 rs2 : List Nat) (ts : List (Option Addr × Nat × Nat × List Int)) (Ws : List (List Nat)) (w : World)
    (h1 : Rd w R1 n1 (ints rs1)) (h8 : n1 ≤ 8) (hl1 : rs1.length = n1) (hr1 : ∀ i, rs1.getD i 0 < 2 ^ n1) (hd1 : Dep rs1)
    (h2 : Rd w R2 n2 (ints rs2)) (h28 : n2 ≤ 8) (hl2 : rs2.length = n2) (hr2 : ∀ i, rs2.getD i 0 < 2 ^ n2) (ha2 : alphB (n2 : Int) (ints rs2) = true) (hd2 : Dep rs2)
    (h : RdT w A n1 ts) (hW : ∀ k t, ts[k]? = some t → t.2.2.2 = ints (Ws.getD k [])) (hWw : ∀ W, W ∈ Ws → W.length ≤ 24 ∧ ∀ x, x ∈ W → x < n2) (hT : Tab w) :
    Calls Tryd.prog 95 #[.agg #[.slice R1 n1 c1, .slice R2 n2 c2, .func (.func 94) #[.slice A n1 c] #[]]] w fun e w' => e = .returned (.bool (morB rs1 rs2 Ws)) ∧ Below w.heap.size w w' := by
  have eg : ∀ args w, (callFunc 94 args).run Tryd.prog w = .ok (.enter 94 args) w := fun args w => Go.MuLone.run_callFunc_enter (P := Tryd.prog) Tryd.func94 (by kernel_rfl) rfl args w
  have hn24 : n1 ≤ 24 := by omega
  have hS1 : ∀ a b, RDep rs1 a b = RDep rs1 b a := rdep_sym rs1 n1 hl1 hr1 hd1
  have hS2 : ∀ a b, RDep rs2 a b = RDep rs2 b a := rdep_sym rs2 n2 hl2 hr2 hd2
  have hE1 : ∀ a, a < n1 → RDep rs1 a a = true := fun a ha => hd1.1 a (by rw [hl1]; exact ha)
  have hE2 : ∀ a, a < n2 → RDep rs2 a a = true := fun a ha => hd2.1 a (by rw [hl2]; exact ha)
  have HYES : Hid ((∀ a b, a < n1 → b < a → RDep rs1 a b = false → acF rs2 (Ws.getD a []) (Ws.getD b []) = true) → morB rs1 rs2 Ws = true) := Lib.hid (fun h9 => morB_below rs1 rs2 n1 n2 Ws hl1 hS1 hE1 hS2 hE2 hWw h9)
  have HNO : Hid (∀ a b, a < n1 → b < n1 → RDep rs1 a b = false → acF rs2 (Ws.getD a []) (Ws.getD b []) = false → morB rs1 rs2 Ws = false) := Lib.hid (fun a b ha hb h3 h4 => morB_not rs1 rs2 Ws a b (by rw [hl1]; exact ha) (by rw [hl1]; exact hb) h3 h4)
  have HBX := Lib.hid (below1 w (.cells #[.slice R1 n1 c1, .slice R2 n2 c2, .func (.func 94) #[.slice A n1 c] #[]] 69))
  have z0 := box3_new 69 w (.slice R1 n1 c1) (.slice R2 n2 c2) (.func (.func 94) #[.slice A n1 c] #[])
  have hsz := size1' w (.cells #[.slice R1 n1 c1, .slice R2 n2 c2, .func (.func 94) #[.slice A n1 c] #[]] 69)
  obtain ⟨w1, hw1⟩ : ∃ w1, w1 = w.alloc (.cells #[.slice R1 n1 c1, .slice R2 n2 c2, .func (.func 94) #[.slice A n1 c] #[]] 69) := ⟨_, rfl⟩
  have HW1 := Lib.hid hw1
  rw [← hw1] at HBX z0 hsz
  have r1 := h1.below HBX.out
  have r2 := h2.below HBX.out
  have rt := h.below HBX.out
  have T1 := hT.below HBX.out
  have HAL := Lib.hid (alphabetOf_any R2 n2 c2 (ints rs2) w1 r2 (by omega))
  have y1 := z0.c1
  have HLR : Hid (rs1.length = n1) := Lib.hid hl1
  have HR1 := Lib.hid hr1
  have HR2 := Lib.hid hr2
  have HWW := Lib.hid hWw
  have HWT := Lib.hid hW
  have HLT : Hid (ts.length = n1) := Lib.hid h.1
  have HA2 := Lib.hid ha2
  have HAC : Hid (∀ (ww : World) (A9 C C' : Option Addr) (c9 q d q' d' k b : Nat), Rd ww A9 n2 (ints rs2) → Rd ww C q (ints (Ws.getD k [])) → q ≤ maxLen → Rd ww C' q' (ints (Ws.getD b [])) → q' ≤ maxLen → Tab ww →
      Calls Tryd.prog 144 #[.agg #[.int .i64 (n2 : Int), .slice A9 n2 c9], .slice C q d, .slice C' q' d'] ww fun e w' => e = .returned (.tuple #[.bool (acF rs2 (Ws.getD k []) (Ws.getD b [])), .int .i64 0]) ∧ Below ww.heap.size ww w') := Lib.hid (fun ww A9 C C' c9 q d q' d' k b ha hc hq hc' hq' hT => by
    have hk := lm_at HWW.out k
    have hb := lm_at HWW.out b
    have h9 := implAreCommuting (n2 : Int) A9 n2 c9 (ints rs2) C q d (ints (Ws.getD k [])) C' q' d' (ints (Ws.getD b [])) ww ha (wf_bits' h28 HR2.out) (by omega) (by omega) (by unfold maxLen; omega) hc (wf_nats' (by omega) hk.2) hq hc' (wf_nats' (by omega) hb.2) hq' hT
    rw [dB_yes acF (n2 : Int) rs2 (Ws.getD k []) (Ws.getD b []) HA2.out (by rw [lm_word HWW.out k, lm_word HWW.out b]; rfl)] at h9
    exact h9)
  clear hw1 hsz h1 h2 h hT hl1 hr1 hr2 hd1 hd2 hl2 ha2 hS1 hS2 hE1 hE2 hW hWw
  go_enter Tryd.func95, Tryd.ntmps95
  go_wp2_with fail
  rw [← HW1.out]
  refine HAL.out.mono ?_
  rintro e w2 ⟨A9, c9, rfl, o9, hb2⟩
  have z2 := z0.next hb2
  have HB2 := Lib.hid (HBX.out.trans (hb2.mono HBX.out.size))
  have r12 := r1.below hb2
  have rt2 := rt.below hb2
  have T2 := T1.below hb2
  have ra2 := o9.rd
  have x3 := box_new 29 w2 (n2 : Int) A9 n2 c9
  have hbx := below1 w2 (.cells #[.int .i64 (n2 : Int), .slice A9 n2 c9] 29)
  have z3 := z2.next hbx
  have r13 := r12.below hbx
  have rt3 := rt2.below hbx
  have T3 := T2.below hbx
  have ra3 := ra2.below hbx
  have HB3 := Lib.hid (HB2.out.trans (hbx.mono HB2.out.size))
  have y0 := z3.c0
  clear z0 z2 y1 r1 r2 rt T1 HAL hb2 r12 rt2 T2 ra2 o9 hbx
  go_wp2_with fail
  obtain ⟨w3, hw3⟩ : ∃ w3, w3 = w2.alloc (.cells #[.int .i64 (n2 : Int), .slice A9 n2 c9] 29) := ⟨_, rfl⟩
  rw [← hw3] at x3 z3 r13 rt3 T3 ra3 HB3 y0 ⊢
  clear hw3
  go_loopw [16] (fun i wr => ∃ k : Nat, k ≤ n1 ∧ i = .int .i64 (k : Int) ∧ Below w3.heap.size w3 wr ∧ Hid (∀ a b, a < k → b < a → RDep rs1 a b = false → acF rs2 (Ws.getD a []) (Ws.getD b []) = true)) (fun i _ => n1 - (intOf i).toNat)
  case atStart => exact ⟨0, Nat.zero_le _, rfl, Below.refl _ _, Lib.hid (fun a b ha => absurd ha (Nat.not_lt_zero _))⟩
  case round =>
    obtain ⟨k, hk, rfl, hb, HALL⟩ := hrel
    obtain ⟨wo, hwo⟩ : ∃ wo, wo = wr := ⟨_, rfl⟩
    rw [← hwo] at hb ⊢
    clear hwo
    by_cases hlt : k < n1
    · obtain ⟨b1, off1, u, rfl, hbs, hx, hcx⟩ := (r13.below hb).at_ hlt
      rw [ints_getD rs1 k (by rw [HLR.out]; exact hlt)] at hx
      injection hx with hx
      obtain ⟨D, hD⟩ : ∃ D, D = rs1.getD k 0 := ⟨_, rfl⟩
      rw [← hD] at hx
      subst hx
      have hD63 : D < 9223372036854775808 := by rw [hD]; exact lt63 hn24 (HR1.out k)
      have hk62 : k ≤ 62 := by omega
      have hp8 : 2 ^ k - 1 < 256 := by have : 2 ^ k ≤ 2 ^ 8 := Nat.pow_le_pow_right (by decide) (by omega); have h8 : (2 : Nat) ^ 8 = 256 := (by decide); omega
      have HMB : Hid (∀ b, b ∈ bitsOf (dif (2 ^ k - 1) D) ↔ b < k ∧ RDep rs1 k b = false) := Lib.hid (fun b => by
        rw [bitsOf_mem, dif_bit _ _ _ (by omega) hD63, Nat.testBit_two_pow_sub_one]
        show _ ↔ b < k ∧ (rs1.getD k 0).testBit b = false
        rw [← hD]
        cases D.testBit b <;> simp <;> omega)
      have hdl : dif (2 ^ k - 1) D < 16777216 := by
        have : dif (2 ^ k - 1) D ≤ 2 ^ k - 1 := by unfold dif; exact Nat.and_le_left
        omega
      have HFN := Lib.hid (firstNumbers_any k hk62 wo)
      obtain ⟨P, hP⟩ : ∃ P, P = 2 ^ k - 1 := ⟨_, rfl⟩
      rw [← hP] at HFN HMB hdl hp8
      have HMI := Lib.hid (minus_nat P D (by omega) hD63 wo)
      obtain ⟨Q, hQ⟩ : ∃ Q, Q = dif P D := ⟨_, rfl⟩
      rw [← hQ] at HMI HMB hdl
      have HME := Lib.hid (members_any Q hdl wo (T3.below hb))
      obtain ⟨bs, hbs9⟩ : ∃ bs, bs = bitsOf Q := ⟨_, rfl⟩
      rw [← hbs9] at HME HMB
      obtain ⟨m, hm⟩ : ∃ m, m = bs.length := ⟨_, rfl⟩
      have hm24 : m ≤ 24 := by rw [hm, hbs9]; exact bitsOf_len Q
      rw [← hm] at HME
      have HLM : Hid (bs.length = m) := Lib.hid hm.symm
      obtain ⟨b4, off4, C, q, d, xs, rfl, hbs4, hts4, hcell4, hrd4, hq4⟩ := (rt3.below hb).at_ hlt
      have hxs := HWT.out k _ hts4
      have hxs2 : xs = ints (Ws.getD k []) := hxs
      subst hxs2
      have HIM1 : Hid (∀ ww, Below wo.heap.size wo ww → Calls Tryd.prog 94 #[.slice (some ⟨b4, off4, none⟩) n1 c, .int .i64 (k : Int)] ww fun e w' => e = .returned (.slice C q d) ∧ ww = w') := Lib.hid (fun ww hw => letterImage_any k n1 c q d _ C ts _ ww ((rt3.below hb).below hw) hlt hn24 hts4)
      clear hts4 hcell4 hm hbs9 hQ hP hD
      go_wp2_with fail
      refine HFN.out.mono ?_
      rintro e w' ⟨rfl, rfl⟩
      go_wp2_with fail
      refine HMI.out.mono ?_
      rintro e w' ⟨rfl, rfl⟩
      go_wp2_with fail
      refine HME.out.mono ?_
      rintro e w4 ⟨A4, c4, rfl, o4, hb4⟩
      have rb4 := o4.rd
      have hbw := hb.trans (hb4.mono hb.size)
      clear HFN HMI HME o4
      go_wp2_with fail
      go_loopw [27] (fun i ws => ∃ j : Nat, j ≤ m ∧ i = .int .i64 (j : Int) ∧ Below w4.heap.size w4 ws ∧ Hid (∀ p, p < j → acF rs2 (Ws.getD k []) (Ws.getD (bs.getD p 0) []) = true)) (fun i _ => m - (intOf i).toNat)
      case atStart => exact ⟨0, Nat.zero_le _, rfl, Below.refl _ _, Lib.hid (fun p hp => absurd hp (Nat.not_lt_zero _))⟩
      case round =>
        obtain ⟨j, hj, rfl, hbj, HIN⟩ := hrel
        have hbr := hbw.trans (hbj.mono hbw.size)
        by_cases hlt2 : j < m
        · obtain ⟨b5, off5, v, rfl, hbs5, hx5, hcx5⟩ := (rb4.below hbj).at_ hlt2
          rw [ints_getD bs j (by rw [HLM.out]; exact hlt2)] at hx5
          injection hx5 with hx5
          obtain ⟨B, hB⟩ : ∃ B, B = bs.getD j 0 := ⟨_, rfl⟩
          rw [← hB] at hx5
          subst hx5
          have hBm : B < k ∧ RDep rs1 k B = false := (HMB.out B).1 (by
            rw [hB, List.getD_eq_getElem?_getD, List.getElem?_eq_getElem (by rw [HLM.out]; exact hlt2)]
            exact List.getElem_mem _)
          have HBM := Lib.hid hBm.2
          have hBk := hBm.1
          have HB9 := Lib.hid hB
          have hBn : B < n1 := by omega
          obtain ⟨b6, off6, C', q', d', xs', e6, hbs6, hts6, hcell6, hrd6, hq6⟩ := (rt3.below hbr).at_ hBn
          have hxs6 : xs' = ints (Ws.getD B []) := HWT.out B _ hts6
          subst hxs6
          have hcur : Below wr.heap.size wr wr.drew := (Below.refl _ _).drew
          have HQ1 : Hid (∀ ww, Below wr.heap.size wr ww → Calls Tryd.prog 94 #[.slice (some ⟨b4, off4, none⟩) n1 c, .int .i64 (k : Int)] ww fun e w' => e = .returned (.slice C q d) ∧ ww = w') := Lib.hid (fun ww hw => HIM1.out ww ((hb4.trans (hbj.mono hb4.size)).trans (hw.mono (hb4.trans (hbj.mono hb4.size)).size)))
          have HQ2 : Hid (∀ ww, Below wr.heap.size wr ww → Calls Tryd.prog 94 #[.slice (some ⟨b4, off4, none⟩) n1 c, .int .i64 (B : Int)] ww fun e w' => e = .returned (.slice C' q' d') ∧ ww = w') := Lib.hid (fun ww hw => letterImage_any B n1 c q' d' _ C' ts _ ww ((rt3.below hbr).below hw) hBn hn24 hts6)
          have hrdk := hrd4.below (hb4.trans (hbj.mono hb4.size))
          have s0 := ((x3.next hbr).next hcur).c0
          have s1 := ((x3.next hbr).next hcur).c1
          have z2 := ((z3.next hbr).next hcur).c2
          cases hac : acF rs2 (Ws.getD k []) (Ws.getD B [])
          · have HF := Lib.hid (HNO.out k B hlt hBn HBM.out hac)
            have HQ3 : Hid (∀ ww, Below wr.heap.size wr ww → Calls Tryd.prog 144 #[.agg #[.int .i64 (n2 : Int), .slice A9 n2 c9], .slice C q d, .slice C' q' d'] ww fun e w' => e = .returned (.tuple #[.bool false, .int .i64 0]) ∧ Below ww.heap.size ww w') := Lib.hid (fun ww hw => by
              have h9 := HAC.out ww A9 C C' c9 q d q' d' k B ((ra3.below hbr).below hw) (hrdk.below hw) hq4 (hrd6.below hw) hq6 ((T3.below hbr).below hw)
              rw [hac] at h9
              exact h9)
            clear hac hB hBm e6 hts6 hcell6 hrd6 hrdk
            go_wp2_with fail
            go_region_with (first | (go_at_call 94; first | ((with_reducible refine (HQ1.out _ hcur).mono ?_); rintro e w9 ⟨rfl, rfl⟩) | ((with_reducible refine (HQ2.out _ hcur).mono ?_); rintro e w9 ⟨rfl, rfl⟩)) | (go_at_call 144; (with_reducible refine (HQ3.out _ hcur).mono ?_); rintro e w5 ⟨rfl, hb5⟩))
            all_goals
              go_wp2_with fail
              go_ret
              have hb9 := hbr.trans ((hcur.trans (hb5.mono hcur.size)).mono hbr.size)
              exact ⟨ret_b _ _ HF.out.symm, HB3.out.trans (hb9.mono HB3.out.size)⟩
          · have HAC9 := Lib.hid hac
            have HQ3 : Hid (∀ ww, Below wr.heap.size wr ww → Calls Tryd.prog 144 #[.agg #[.int .i64 (n2 : Int), .slice A9 n2 c9], .slice C q d, .slice C' q' d'] ww fun e w' => e = .returned (.tuple #[.bool true, .int .i64 0]) ∧ Below ww.heap.size ww w') := Lib.hid (fun ww hw => by
              have h9 := HAC.out ww A9 C C' c9 q d q' d' k B ((ra3.below hbr).below hw) (hrdk.below hw) hq4 (hrd6.below hw) hq6 ((T3.below hbr).below hw)
              rw [hac] at h9
              exact h9)
            clear hac hB hBm e6 hts6 hcell6 hrd6 hrdk
            go_wp2_with fail
            go_region_with (first | (go_at_call 94; first | ((with_reducible refine (HQ1.out _ hcur).mono ?_); rintro e w9 ⟨rfl, rfl⟩) | ((with_reducible refine (HQ2.out _ hcur).mono ?_); rintro e w9 ⟨rfl, rfl⟩)) | (go_at_call 144; (with_reducible refine (HQ3.out _ hcur).mono ?_); rintro e w5 ⟨rfl, hb5⟩))
            all_goals
              have hb9 := hbj.trans ((hcur.trans (hb5.mono hcur.size)).mono hbj.size)
              go_wp2_with fail
              go_roundw
              case rel => exact ⟨j + 1, hlt2, by go_num, hb9, Lib.hid (fun p hp => by
                by_cases e : p = j
                · subst e; rw [← HB9.out]; exact HAC9.out
                · exact HIN.out p (by omega))⟩
              case measure => simp [intOf]; omega
        · obtain rfl : j = m := by omega
          have HKK : Hid (∀ a b, a < k + 1 → b < a → RDep rs1 a b = false → acF rs2 (Ws.getD a []) (Ws.getD b []) = true) := Lib.hid (fun a b ha hb hd => by
            by_cases e : a = k
            · subst e
              have hm := (HMB.out b).2 ⟨hb, hd⟩
              obtain ⟨p, hp⟩ := List.mem_iff_getElem?.1 hm
              have hpl : p < bs.length := by
                rcases Nat.lt_or_ge p bs.length with h9 | h9
                · exact h9
                · rw [List.getElem?_eq_none h9] at hp; cases hp
              have h9 := HIN.out p (by rw [← HLM.out]; exact hpl)
              rw [List.getD_eq_getElem?_getD (l := bs), hp] at h9
              exact h9
            · exact HALL.out a b (by omega) hb hd)
          go_wp2_with fail
          go_roundw
          case rel => exact ⟨k + 1, by omega, by go_num, hbr, HKK⟩
          case measure => simp [intOf]; omega
    · obtain rfl : k = n1 := by omega
      have HF := Lib.hid (HYES.out HALL.out)
      go_wp2_with fail
      go_ret
      exact ⟨ret_b _ _ HF.out.symm, HB3.out.trans (hb.mono HB3.out.size)⟩
end Go.Proofs.YtdafdffmkjhhcaaDoor
