/-
  The reduced word of some words, letter by letter from the end: the program's loop over slices.Backward.
-/
import Derived.Test.YtdafdffmkjhhcaaDoorGrI
import Derived.Test.YtdafdffmkjhhcaaDoorGrB
import Derived.Test.YtdafdffmkjhhcaaDoorGrC
namespace Go.Proofs.YtdafdffmkjhhcaaDoor
open Go Go.RowKit Go.Shelf
set_option linter.unusedVariables false
set_option linter.unusedSimpArgs false
set_option maxRecDepth 100000
attribute [local go_sem] Oper.semAt_some

def bvals {N : Nat} (pre : List (Bk N)) : List Nat := pre.map (fun x => x.1.2)
/-- What stands between two rounds: w's cell holds the reduced word of what has come. -/
def RedI (D : Nat → Nat → Bool) (N : Nat) (w0 W3 : World) (n₀ bw : Nat) (pre : List (Bk N)) (W : World) : Prop :=
  ∃ A c, Boxed W bw 22 (.slice A (redW D (bvals pre).reverse).length c) ∧ Own 2 W n₀ A (redW D (bvals pre).reverse).length c (ints (redW D (bvals pre).reverse)) ∧ Below w0.heap.size w0 W ∧ KpO n₀ bw W3 W
theorem redI_own (D : Nat → Nat → Bool) (N : Nat) (w0 W3 : World) (n₀ bw : Nat) (h0 : w0.heap.size ≤ bw) (hbw : bw < n₀) (hW3 : n₀ ≤ W3.heap.size) : OwnFrom n₀ (RedI D N w0 W3 n₀ bw) := by
  rintro pre A B row ⟨A1, c1, h1, h2, h3, h4⟩ hg hr
  refine ⟨A1, c1, h1.kept hg (fun e => by have := (hr _ e.symm).1; omega), own_abides h2 hg (fun r e => .inr (hr r e).2), h3.grown hg h3.size (fun r e => by have := (hr r e).1; omega), h4.trans ⟨hg.size, fun k hk _ => ?_⟩⟩
  have hk2 : k < A.heap.size := by have := h4.size; omega
  exact hg.block k hk2 (fun e => by have := (hr k e.symm).1; omega)
/-- A store into the cell that the loop keeps for itself. -/
theorem kpO_set {n₀ bw : Nat} {W W' : World} (h : KpO n₀ bw W W') (v : Value) : KpO n₀ bw W (W'.setCell ⟨bw, 0, none⟩ v) :=
  ⟨by rw [World.size_setCell]; exact h.size, fun k h1 h2 => (Below.heap_setCell W' _ _ k (fun e => h2 e)).trans (h.same k h1 h2)⟩
theorem kpO_grown {n₀ bw : Nat} {A W W' : World} {row : Option Nat} (h : KpO n₀ bw A W) (hn : n₀ ≤ A.heap.size) (hg : W.grownBy W' row) (hrow : ∀ r, row = some r → n₀ ≤ r) : KpO n₀ bw A W' :=
  ⟨Nat.le_trans h.size hg.size, fun k h1 h2 => (hg.block k (by have := h.size; omega) (fun e => by have := hrow k e.symm; omega)).trans (h.same k h1 h2)⟩
theorem own_cellsB {E : TypeId} {w : World} {B n c : Nat} {A : Option Addr} {xs : List Int} (h : Own E w B A n c xs) : ∀ (j : Nat) (o : Obj), A.map (·.block) = some j → w.heap[j]? = some o → o.isCells = true := fun j o hj ho => by
  obtain ⟨cur, hc⟩ := own_obj h hj
  rw [hc] at ho; injection ho with ho; subst ho; rfl
set_option maxHeartbeats 4000000 in
theorem reduced_any (R T : Option Addr) (N cr nT cT : Nat) (ds : List Nat) (ts : List (Option Addr × Nat × Nat × List Int)) (Ws : List (List Nat)) (w : World) (hR : Rd w R N (ints ds)) (hN : N ≤ 16) (hl : ds.length = N) (hr : ∀ i, ds.getD i 0 < 2 ^ N) (hgd : GD (RDep ds) N)
    (hT : RdT w T nT ts) (hnT : nT ≤ 24) (hlW : Ws.length = nT) (hW : ∀ k t, ts[k]? = some t → t.2.2.2 = ints (Ws.getD k [])) (hWm : ∀ k, (Ws.getD k []).length ≤ 576) (hWl : Ws.flatten.length ≤ 900) (hWn : ∀ x, x ∈ Ws.flatten → x < N) :
    Calls Tryd.prog 124 #[.agg #[.slice R N cr], .slice T nT cT] w (MakesE 2 w (redW (RDep ds) Ws.flatten).length (ints (redW (RDep ds) Ws.flatten))) := by
  refine calls_of_marks Tryd.func124 rfl ?_
  simp only [Tryd.ntmps124, List.size_toArray, List.length_cons, List.length_nil, Nat.reduceAdd, Nat.reduceSub, Array.replicate_succ, Array.replicate_zero, List.push_toArray, List.append_toArray, List.nil_append, List.cons_append]
  obtain ⟨W1, hW1⟩ : ∃ W1, (w.alloc (.cells #[.slice R N cr] 93)).alloc (.cells #[.slice none 0 0] 22) = W1 := ⟨_, rfl⟩
  have hb1 : Below w.heap.size w W1 := by rw [← hW1]; exact ((Below.refl _ w).alloc (Nat.le_refl _) _).alloc (by simp) _
  have v1 : Boxed W1 (w.heap.size + 1) 22 (.slice none 0 0) := by rw [← hW1]; have := Boxed.new (w.alloc (.cells #[.slice R N cr] 93)) 22 (.slice none 0 0); rwa [World.size_alloc] at this
  have g1 : W1.heap[w.heap.size]? = some (.cells #[.slice R N cr] 93 (0, 0)) := by rw [← hW1]; exact (Below.heap_alloc _ _ _ (by simp)).trans (World.alloc_heap_new w _)
  have HCO := Lib.hid (concat_int T nT cT ts (Ws.map ints) W1 (hT.below hb1) hnT (by rw [List.length_map]; exact hlW) (fun k t hk => by rw [hW k t hk]; simp [List.getD_eq_getElem?_getD]; cases Ws[k]? <;> rfl) (fun k => by have := hWm k; simp [List.getD_eq_getElem?_getD] at *; cases hk : Ws[k]? with
    | none => simp [hk]
    | some z => rw [hk] at this; simp [hk, ints_len]; simp at this; omega))
  have HFL : Hid ((Ws.map ints).flatten = ints Ws.flatten) := Lib.hid (by unfold ints; rw [List.map_flatten])
  rw [HFL.out, ints_len] at HCO
  obtain ⟨V, hV⟩ : ∃ V, V = Ws.flatten := ⟨_, rfl⟩
  rw [← hV] at HCO hWl hWn ⊢
  clear hV HFL hW hlW hWm
  obtain ⟨m, hm⟩ : ∃ m, m = V.length := ⟨_, rfl⟩
  rw [← hm] at HCO hWl
  have HM := Lib.hid hm
  clear hm
  go_wp2_with fail
  refine HCO.out.mono ?_
  rintro e w2 ⟨A2, c2, rfl, o2, hb2⟩
  go_wp2_with fail
  refine (backward_any A2 m c2 _).mono ?_
  rintro e w3 ⟨rfl, hw3⟩
  have hb3 : Below w2.heap.size w2 w3 := by rw [hw3]; exact (Below.refl _ _).alloc (Nat.le_refl _) _
  have bs3 : w3.cell? ⟨w2.heap.size, 0, none⟩ = some (.slice A2 m c2) := by rw [hw3]; exact cell_new0 w2 _ _
  have hs3 : w3.heap.size = w2.heap.size + 1 := by rw [hw3]; simp
  have hs1 : W1.heap.size = w.heap.size + 2 := by rw [← hW1]; simp
  have hs2 := hb2.size
  have v3 : Boxed w3 (w.heap.size + 1) 22 (.slice none 0 0) := (hb3.block _ (by omega)).trans ((hb2.block _ (by omega)).trans v1)
  have g3 : w3.heap[w.heap.size]? = some (.cells #[.slice R N cr] 93 (0, 0)) := (hb3.block _ (by omega)).trans ((hb2.block _ (by omega)).trans g1)
  have hbw3 : Below w.heap.size w w3 := (hb1.trans (hb2.mono hb1.size)).trans (hb3.mono (by omega))
  have hRW : Rd w3 R N (ints ds) := hR.below hbw3
  have HGD := Lib.hid hgd
  have HR := Lib.hid hr
  have HLT2 : Hid (∀ k, A2.map (·.block) = some k → k < w3.heap.size ∧ k ≠ w.heap.size + 1) := Lib.hid (fun k hk => by have := o2.lt k hk; omega)
  have HST := Lib.hid (back_stops Fence.wide 2 (show Fence.wide.fn 177 from trivial) rfl (by decide) w2.heap.size w3.heap.size (w.heap.size + 1) m c2 N A2 V hWn (by omega) w3 (by omega) (by omega) (by omega) (Nat.le_refl _) bs3 (o2.rd.below hb3) HLT2.out)
  obtain ⟨n₀, hn₀⟩ : ∃ n₀, n₀ = w3.heap.size := ⟨_, rfl⟩
  rw [← hn₀] at HST
  have HN0 := Lib.hid hn₀
  have HS : Hid (w.heap.size + 1 < n₀) := Lib.hid (by omega)
  have HRV : Hid (∀ ys : List (Bk N), ys.map (fun x => x.1.2) = V.reverse → (bvals ys).reverse = V) := Lib.hid (fun ys h => by unfold bvals; rw [h, List.reverse_reverse])
  clear hgd hr hw3 hW1 hn₀ hb1 hb2 hb3 v1 g1 o2 bs3 hs3 hs1 hs2 hT
  go_wp2_with fail
  refine (wpIn_wide (n := 3)).1 (wpIn_rangeFunc_ownG rfl (by decide) (gf := 177) (lb := #[.pointer (some ⟨w2.heap.size, 0, none⟩)]) rfl (show Fence.wide.fn 177 from trivial) (enters_of Tryd.func177 (by kernel_rfl) rfl) HST.out KpO.trans (kpO_b (by rw [HN0.out]; exact Nat.le_refl _)) (Below.refl _ _) (fun _ => rfl)
    (RedI (RDep ds) N w w3 n₀ (w.heap.size + 1)) (fun _ _ _ => False) (by have := redI_own (RDep ds) N w w3 n₀ (w.heap.size + 1) (by omega) HS.out (by rw [HN0.out]; exact Nat.le_refl _); rw [← HN0.out]; exact this) (fun c s A B row hf => hf.elim) ⟨none, 0, v3, Own.nil _ _ _, hbw3, KpO.refl _ _ _⟩
    (fun x => { tmps := #[.agg #[.slice R N cr], .slice T nT cT, .pointer (some ⟨w.heap.size, 0, none⟩), undef, .slice none 0 0, .pointer (some ⟨w.heap.size + 1, 0, none⟩), undef, .int .i64 (x.1.2 : Int), undef, undef, .slice T nT cT, .slice A2 m c2, .func (.func 177) #[] #[.pointer (some ⟨w2.heap.size, 0, none⟩)], .int .i64 (x.1.1 : Int), .int .i64 (x.1.2 : Int), undef, undef, undef, undef, undef, undef, undef, undef, undef, undef, undef, undef, undef, undef, undef, undef], defers := [] }) ?assign ?body ?done ?stop)
  case assign =>
    intro l x W K hK
    dsimp only [bkEnc]
    gi_wp2
    exact hK
  case stop =>
    rintro D cd pre W hD _ hf hK
    exact hf.elim
  case done =>
    rintro D ys W hD hS ⟨A3, c3, h1, h2, h3, h4⟩ hK
    have hS' := HRV.out ys hS
    rw [hS'] at h1 h2
    obtain ⟨Z, hZ⟩ : ∃ Z, Z = redW (RDep ds) V := ⟨_, rfl⟩
    rw [← hZ] at h1 h2
    have HZ := Lib.hid hZ
    have c33 := h1.cell
    clear hZ
    go_wp2_with fail
    refine ⟨by simp, .inl ⟨D, _, rfl, run_takeDeferred hK, ?_⟩⟩
    obtain rfl := HZ.out
    refine ⟨.slice A3 (redW (RDep ds) V).length c3, by simp [results, Tryd.results124, go_sem], A3, c3, rfl, (own_abides h2 (grownBy_putObj' W D _) (fun r e => by cases e; exact .inr ⟨_, hK, rfl⟩)).mono (B' := w.heap.size) (by have := HS.out; omega), h3.grown (grownBy_putObj' W D _) h3.size (fun r e => by cases e; have := HS.out; have := HN0.out; omega)⟩
  case body =>
    rintro l pre x W ⟨A3, c3, h1, h2, h3, h4⟩ hpl
    have hx := x.2
    have HUP : Hid (redW (RDep ds) (bvals (pre ++ [x])).reverse = act (RDep ds) x.1.2 (redW (RDep ds) (bvals pre).reverse)) := Lib.hid (by unfold bvals; rw [List.map_append, List.reverse_append]; rfl)
    have HLN : Hid ((redW (RDep ds) (bvals pre).reverse).length ≤ 900) := Lib.hid (by
      have h9 := redW_len (D := RDep ds) (bvals pre).reverse
      have e9 : (bvals pre).reverse.length = pre.length := by unfold bvals; rw [List.length_reverse, List.length_map]
      omega)
    have HUS : Hid (∀ z, z ∈ redW (RDep ds) (bvals pre).reverse → z < N) := Lib.hid (redW_lt (fun z hz => by
      unfold bvals at hz
      obtain ⟨y, _, rfl⟩ := List.mem_map.1 (List.mem_reverse.1 hz)
      exact y.2))
    obtain ⟨us, hus⟩ : ∃ us, us = redW (RDep ds) (bvals pre).reverse := ⟨_, rfl⟩
    rw [← hus] at h1 h2 HUP HLN HUS
    have HGO : Hid (∀ (W' : World) (A' : Option Addr) (c' : Nat), Boxed W' (w.heap.size + 1) 22 (.slice A' (act (RDep ds) x.1.2 us).length c') → Own 2 W' n₀ A' (act (RDep ds) x.1.2 us).length c' (ints (act (RDep ds) x.1.2 us)) → Below w.heap.size w W' → KpO n₀ (w.heap.size + 1) w3 W' → RedI (RDep ds) N w w3 n₀ (w.heap.size + 1) (pre ++ [x]) W') := Lib.hid (fun W' A' c' k1 k2 k3 k4 => by
      refine ⟨A', c', ?_, ?_, k3, k4⟩
      · rw [HUP.out]; exact k1
      · rw [HUP.out]; exact k2)
    obtain ⟨k, hk⟩ : ∃ k, k = us.length := ⟨_, rfl⟩
    rw [← hk] at h1 h2 HLN
    have HK := Lib.hid hk
    have gc : W.cell? ⟨w.heap.size, 0, none⟩ = some (.slice R N cr) := by
      have e := (h4.same w.heap.size (by have := HS.out; omega) (by omega)).trans g3
      unfold World.cell?; rw [e]; rfl
    have wc := h1.cell
    have wf := h1.frozen
    have hRd := hR.below h3
    have hn0W : n₀ ≤ W.heap.size := by rw [HN0.out]; exact h4.size
    have HOP := Lib.hid (fun ww : World => opposite_any x.1.2 (by omega) ww)
    have ha := HGD.out.lt _ hx
    have HWO := Lib.hid (fun (ww : World) (hw : Below W.heap.size W ww) => without_any R A3 N cr k c3 (opp x.1.2) ds us ww (hRd.below hw) (by omega) HR.out HGD.out.sym HGD.out.ref (h2.below hw).rd (by have := HLN.out; omega) (own_cap h2) HUS.out ha)
    obtain ⟨a, hxa⟩ : ∃ a, a = x.1.2 := ⟨_, rfl⟩
    obtain ⟨ix, hix⟩ : ∃ ix, ix = x.1.1 := ⟨_, rfl⟩
    rw [← hxa] at hx HUP HGO HOP ha HWO
    simp only [← hxa, ← hix]
    clear hus hk hxa hix HST HRV v3 g3 hbw3 hWn HCO
    cases hf : freeB (RDep ds) us (opp a) with
    | true =>
      have HF := Lib.hid hf
      have HWT : Hid (∀ (ww : World), Below W.heap.size W ww → Calls Tryd.prog 160 #[.slice R N cr, .int .i64 ((opp a : Nat) : Int), .slice A3 k c3] ww fun e w' => ∃ A' c', e = .returned (.tuple #[.slice A' (k - 1) c', .bool true]) ∧ Own 2 w' ww.heap.size A' (k - 1) c' (ints (us.erase (opp a))) ∧ Below ww.heap.size ww w') := Lib.hid (fun ww hw => (HWO.out ww hw).mono (by
        rintro e w' (⟨_, _, h9⟩ | ⟨h9, _⟩)
        · exact h9
        · rw [HF.out] at h9; cases h9))
      clear HWO hf
      gi_wp2
      gi_region_with (first
        | (refine ⟨trivial, ?_⟩; gi_at_call 126; refine (CallsIn.inRound l (callsIn_wide.2 (HOP.out _))).mono ?_; rintro e w9 ⟨rfl, rfl⟩)
        | (refine ⟨trivial, ?_⟩; gi_at_call 160; refine (CallsIn.inRound l (callsIn_wide.2 (HWT.out _ (Below.refl _ _).drew))).mono ?_; rintro e w9 ⟨A4, c4, rfl, o4, hb4⟩))
      all_goals (
        have hW9 : Below W.heap.size W w9 := ((Below.refl _ W).drew).trans hb4
        have b9 : Boxed w9 (w.heap.size + 1) 22 (.slice A3 k c3) := (hW9.block _ h1.lt).trans h1
        have c9 := b9.cell
        have f9 := b9.frozen
        have HB9 := Lib.hid hW9
        have HO9 := Lib.hid (o4.mono (B' := n₀) hn0W)
        have HX9 := Lib.hid b9
        clear hb4 o4 hW9 b9
        gi_wp2
        have hW9 := HB9.out
        have hlen : (us.erase (opp a)).length = k - 1 := by have := HO9.out.len; rwa [ints_len] at this
        refine ⟨(((KeepsOthers.drew W).trans (KeepsOthers.of_grownBy (grownBy_of_below (show Below W.drew.heap.size W.drew w9 from ⟨hW9.os, hW9.tape, hW9.output, hW9.size, hW9.block⟩)) (fun j o hj _ => by cases hj))).trans (KeepsOthers.setCell _ _ _)).from _, kpO_set (kpO_grown (KpO.refl _ _ _) hn0W (grownBy_of_below hW9) (fun r e => by cases e)) _, HGO.out _ A4 c4 ?_ ?_ ?_ ?_⟩
        · rw [act_yes HF.out, hlen]; exact HX9.out.set _
        · rw [act_yes HF.out, hlen]; exact own_other HO9.out _ 0 _ (fun q hq => by have := (HO9.out.lt q hq).1; have := HS.out; omega)
        · exact (h3.trans (hW9.mono h3.size)).setCell (p := ⟨w.heap.size + 1, 0, none⟩) (Nat.le_succ _) _
        · exact kpO_set (h4.trans (kpO_grown (KpO.refl _ _ _) hn0W (grownBy_of_below hW9) (fun r e => by cases e))) _)
    | false =>
      have HF := Lib.hid hf
      have HWT : Hid (∀ (ww : World), Below W.heap.size W ww → Calls Tryd.prog 160 #[.slice R N cr, .int .i64 ((opp a : Nat) : Int), .slice A3 k c3] ww fun e w' => e = .returned (.tuple #[.slice none 0 0, .bool false]) ∧ ww = w') := Lib.hid (fun ww hw => (HWO.out ww hw).mono (by
        rintro e w' (⟨h9, _⟩ | ⟨_, h9⟩)
        · rw [HF.out] at h9; cases h9
        · exact h9))
      clear HWO hf
      have HIN : Hid (Calls Tryd.prog 161 #[.slice A3 k c3, .int .i64 0, .slice (some ⟨W.heap.size, 0, none⟩) 1 1] (W.drew.alloc (.cells #[.int .i64 (a : Int)] 2)) fun e w' => ∃ A' c', e = .returned (.slice A' (k + 1) c') ∧ Own 2 w' n₀ A' (k + 1) c' ((a : Int) :: ints us) ∧ (W.drew.alloc (.cells #[.int .i64 (a : Int)] 2)).grownBy w' (A3.map (·.block))) :=
        Lib.hid (insert_any n₀ A3 k c3 W.heap.size 1 (ints us) (a : Int) _ (World.ownsRow.alloc h2 _) (by rw [World.size_alloc]; exact Nat.le_succ_of_le hn0W) (by have := HLN.out; omega) 2 (World.alloc_heap_new W.drew _) (fun e => by have := (h2.lt _ e).2; omega))
      gi_wp2
      gi_region_with (first
        | (refine ⟨trivial, ?_⟩; gi_at_call 126; refine (CallsIn.inRound l (callsIn_wide.2 (HOP.out _))).mono ?_; rintro e w9 ⟨rfl, rfl⟩)
        | (refine ⟨trivial, ?_⟩; gi_at_call 160; refine (CallsIn.inRound l (callsIn_wide.2 (HWT.out _ (Below.refl _ _).drew))).mono ?_; rintro e w9 ⟨rfl, rfl⟩))
      all_goals (
        gi_wp2_with (refine ⟨trivial, ?_⟩; gi_at_call 161; refine (CallsIn.inRound l (callsIn_wide.2 HIN.out)).mono ?_; rintro e w9 ⟨A4, c4, rfl, o4, hg4⟩; have b9 : Boxed w9 (w.heap.size + 1) 22 (.slice A3 k c3) := Boxed.kept (Boxed.alloc (show Boxed W.drew (w.heap.size + 1) 22 (.slice A3 k c3) from h1) _) hg4 (fun e9 => by have := (h2.lt _ e9.symm).1; have := HS.out; omega); have c9 := b9.cell; have f9 := b9.frozen; have HO9 := Lib.hid o4; have HX9 := Lib.hid b9; have HG9 := Lib.hid hg4; clear o4 b9 hg4)
        have hG9 : W.grownBy w9 (A3.map (·.block)) := ((World.grownBy_alloc W _ _).trans (show (W.alloc (.cells #[.int .i64 (a : Int)] 2)).grownBy w9 (A3.map (·.block)) from ⟨HG9.out.os, HG9.out.tape, HG9.out.output, HG9.out.size, HG9.out.block⟩))
        have hrow : ∀ r, A3.map (·.block) = some r → n₀ ≤ r := fun r e => (h2.lt r e).1
        refine ⟨((KeepsOthers.of_grownBy hG9 (own_cellsB h2)).trans (KeepsOthers.setCell _ _ _)).from _, kpO_set (kpO_grown (KpO.refl _ _ _) hn0W hG9 hrow) _, HGO.out _ A4 c4 ?_ ?_ ?_ ?_⟩
        · rw [act_no HF.out, List.length_cons, ← HK.out]; exact HX9.out.set _
        · rw [act_no HF.out, List.length_cons, ← HK.out]; exact own_other HO9.out _ 0 _ (fun q hq => by have := (HO9.out.lt q hq).1; have := HS.out; omega)
        · exact (h3.grown hG9 h3.size (fun r e => by have := hrow r e; have := HS.out; omega)).setCell (p := ⟨w.heap.size + 1, 0, none⟩) (Nat.le_succ _) _
        · exact kpO_set (h4.trans (kpO_grown (KpO.refl _ _ _) hn0W hG9 hrow)) _)
end Go.Proofs.YtdafdffmkjhhcaaDoor
