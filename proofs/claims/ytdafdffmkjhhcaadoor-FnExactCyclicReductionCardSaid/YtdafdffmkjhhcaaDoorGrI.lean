/-
  slices.Insert of one number at the head of an own slice.
-/
import Derived.Test.YtdafdffmkjhhcaaDoorGrP
import Derived.Lib.Overlaps
import Derived.Lib.AppendZeros
import Derived.Lib.AppendZerosOnto
import Derived.Laws.Externs
import Derived.Laws.CopyOwn
import Derived.Deep.RegionLaw
namespace Go.Proofs.YtdafdffmkjhhcaaDoor
open Go Go.RowKit
set_option linter.unusedVariables false
set_option linter.unusedSimpArgs false
set_option maxRecDepth 100000

theorem grown_setRow (w : World) (g : Nat) (cs : Array Value) : w.grownBy (w.setRow g cs) (some g) :=
  ⟨rfl, rfl, rfl, by simp [World.setRow], fun k hk hne => setRow_other w g k cs (fun e => hne (by rw [e]))⟩
theorem wpList_copy_in {P : Program} {w : World} {ops : Array Oper} {rest : List Oper} {o : Oper} {a : Act} {Q : Exit → Act → World → Prop} (hgd : o.guard = none) (d s : Operand) (dT sT : TypeId)
    (ho : o.op = .call { callee := .builtin .copy, args := #[d, s], argTypes := #[dT, sT] }) (elem : TypeId) (hu : P.underlying dT = some (.slice elem)) (hsz : (P.info? elem).map (·.size) = some 1)
    (dLen dCap sLen sCap : Nat) (ad : Addr) (g off : Nat) (hd : a.eval d = .slice (some ⟨g, off, none⟩) dLen dCap) (hs : a.eval s = .slice (some ad) sLen sCap)
    (cur : List Value) (t : TypeId) (hg : w.heap[g]? = some (.cells cur.toArray t (0, 0))) (cs : List Value) (hn : cs.length = Nat.min sLen dLen)
    (hsrc : ∀ j v, cs[j]? = some v → w.cell? (ad.add j) = some v) (hfit : off + cs.length ≤ cur.length) (h1 : ∀ v ∈ cs, v.oneCell' = true)
    (h : ∀ w', Hid (w'.heap[g]? = some (.cells (splice cur off cs).toArray t (0, 0))) → w.grownBy w' (some g) → wpList P ops Q rest (a.put o.dst (goInt cs.length)) w') :
    wpList P ops Q (o :: rest) a w := by
  refine wpList_copy_own hgd d s dT sT ho elem hu hsz g off dLen dCap ad sLen sCap hd hs cur.toArray t hg cs hn hsrc (by simpa using hfit) h1 ?_
  exact h _ (show _ = _ by simpa [splice] using setRow_heap w g _ _ t _ hg) (grown_setRow w g _)
theorem step_copy_in {P : Program} {ops : Array Oper} {o : Oper} {a : Act} {w : World} {K : Act → World → Prop} {Q : Exit → Act → World → Prop} {E : Prop} (hgd : o.guard = none) (d s : Operand) (dT sT : TypeId)
    (ho : o.op = .call { callee := .builtin .copy, args := #[d, s], argTypes := #[dT, sT] }) (elem : TypeId) (hu : P.underlying dT = some (.slice elem)) (hsz : (P.info? elem).map (·.size) = some 1)
    (dLen dCap sLen sCap : Nat) (ad : Addr) (g off : Nat) (hd : a.eval d = .slice (some ⟨g, off, none⟩) dLen dCap) (hs : a.eval s = .slice (some ad) sLen sCap)
    (cur : List Value) (t : TypeId) (hg : w.heap[g]? = some (.cells cur.toArray t (0, 0))) (cs : List Value) (hn : cs.length = Nat.min sLen dLen)
    (hsrc : ∀ j v, cs[j]? = some v → w.cell? (ad.add j) = some v) (hfit : off + cs.length ≤ cur.length) (h1 : ∀ v ∈ cs, v.oneCell' = true)
    (h : ∀ w', Hid (w'.heap[g]? = some (.cells (splice cur off cs).toArray t (0, 0))) → w.grownBy w' (some g) → K (a.put o.dst (goInt cs.length)) w') :
    if Region.wanted o (yielded ops a.tmps) = true then Oper.wp P o a w K Q else E := by
  have hw : Region.wanted o (yielded ops a.tmps) = true := by simp [Region.wanted, hgd]
  rw [if_pos hw]
  have hrun := run_copy_row (P := P) w dT sT o.type elem g off dLen dCap ad sLen sCap cur.toArray t cs hu hsz hg hn hsrc (by simpa using hfit) h1
  unfold Oper.wp
  simp [execOp, ho, resolve, invoke, builtin, hd, hs, hrun, Result.andThen]
  exact h _ (show _ = _ by simpa [splice] using setRow_heap w g _ _ t _ hg) (grown_setRow w g _)
theorem grown_row {w w' : World} {row : Option Nat} (h : w.grownBy w' none) : w.grownBy w' row := ⟨h.os, h.tape, h.output, h.size, fun k hk _ => h.block k hk (by simp)⟩
/-- Where an own slice lies. -/
theorem Own.row {E : TypeId} {w : World} {B n c : Nat} {A : Option Addr} {xs : List Int} (h : Own E w B A n c xs) (hn : 0 < n) :
    ∃ (g : Nat) (cur : List Value), A = some ⟨g, 0, none⟩ ∧ B ≤ g ∧ w.heap[g]? = some (.cells cur.toArray E (0, 0)) ∧ n ≤ c ∧ c ≤ maxLen ∧ cur.length = c ∧ cur.take n = xs.map (Value.int .i64) := by
  rcases h.2 with ⟨h0, h1⟩ | ⟨g, cap, cur, e1, h2, h3, h4, h5, h6, h7⟩
  · omega
  · injection e1 with e1 _ e3
    subst e3
    exact ⟨g, cur.toList, e1, h2, by simpa using h3, h4, h5, by simpa using h6, by simpa using h7⟩
theorem Own.of_row {E : TypeId} {w : World} {B n c g : Nat} {xs : List Int} {cur : List Value} (hB : B ≤ g) (hg : w.heap[g]? = some (.cells cur.toArray E (0, 0))) (hnc : n ≤ c) (hc : c ≤ maxLen) (hl : cur.length = c) (ht : cur.take n = xs.map (Value.int .i64)) : Own E w B (some ⟨g, 0, none⟩) n c xs := by
  refine ⟨?_, .inr ⟨g, c, cur.toArray, rfl, hB, hg, hnc, hc, by simpa using hl, by simpa using ht⟩⟩
  have := congrArg List.length ht
  simp at this
  simp; omega
theorem splice_head {α : Type} (cur us : List α) (x : α) (n : Nat) (hu : us.length = n) (hc : n + 1 ≤ cur.length) : (splice (splice cur 1 us) 0 [x]).take (n + 1) = x :: us := by
  cases cur with
  | nil => simp at hc
  | cons y r =>
    unfold splice
    simp
    rw [List.take_append_of_le_length (by omega), List.take_of_length_le (by omega)]
theorem splice_headG {α : Type} (cur us : List α) (x : α) (n : Nat) (hu : us.length = n) (hc : n + 1 ≤ cur.length) : (splice (splice cur 0 [x]) 1 us).take (n + 1) = x :: us := by
  cases cur with
  | nil => simp at hc
  | cons y r =>
    unfold splice
    simp
    rw [List.take_append_of_le_length (by omega), List.take_of_length_le (by omega)]
theorem one_src {w : World} {b : Nat} {x : Value} (h : w.cell? ⟨b, 0, none⟩ = some x) : ∀ j u, [x][j]? = some u → w.cell? ((⟨b, 0, none⟩ : Addr).add j) = some u := fun j u hu => by
  cases j with
  | zero => simp at hu; subst hu; exact h
  | succ j => simp at hu
theorem one_cells (x : Int) : ∀ u ∈ [Value.int .i64 x], u.oneCell' = true := fun u hu => by simp at hu; subst hu; rfl
set_option maxHeartbeats 4000000 in
theorem insert_any (B : Nat) (A : Option Addr) (n c vb vc : Nat) (us : List Int) (x : Int) (w : World) (ho : Own 2 w B A n c us) (hB : B ≤ w.heap.size) (hn : n ≤ 1000) (tA : TypeId) (hv : w.heap[vb]? = some (.cells #[.int .i64 x] tA (0, 0))) (hvb : A.map (·.block) ≠ some vb) :
    Calls Tryd.prog 161 #[.slice A n c, .int .i64 0, .slice (some ⟨vb, 0, none⟩) 1 vc] w fun e w' => ∃ A' c', e = .returned (.slice A' (n + 1) c') ∧ Own 2 w' B A' (n + 1) c' (x :: us) ∧ w.grownBy w' (A.map (·.block)) := by
  have mixed : Tryd.prog.follows .mixedOrders = true := by kernel_rfl
  obtain ⟨i0, hi, hz0, hz1, hz2⟩ := info_parts info_int
  have hsz : (Tryd.prog.info? 2).map (·.size) = some 1 := by rw [hi]; simp [hz1]
  have hvc : w.cell? ⟨vb, 0, none⟩ = some (.int .i64 x) := by unfold World.cell?; rw [hv]; rfl
  have hvf : ∀ k, w.frozen? ⟨vb, k, none⟩ = false := fun k => by simp [World.frozen?, hv]
  have hvw : vb < w.heap.size := block_lt_of_cell hvc
  have HL : Hid (us.length = n) := Lib.hid ho.len
  rcases Nat.eq_zero_or_pos n with h0 | h0
  · subst h0
    have hus : us = [] := List.eq_nil_of_length_eq_zero HL.out
    subst hus
    go_enter Tryd.func161, Tryd.ntmps161
    go_wp2_with (at_builtin; refine wpList_append_own _ rfl _ _ 22 rfl B 2 i0 (.int .i64 0) 1 8 Tryd.underlying22 hi hz0 hz1 hz2 rfl (by decide) (.slice A 0 c) 0 [] rfl ho ⟨vb, 0, none⟩ 1 vc [.int .i64 x] rfl rfl ?c1 ?c2 (by unfold maxLen; omega) (by omega) hB ?_)
    case c1 => intro j u hu; cases j with
      | zero => simp at hu; subst hu; exact hvc
      | succ j => simp at hu
    case c2 => intro u hu; simp at hu; subst hu; rfl
    intro v' w2 hown hg _
    obtain ⟨A2, c2, hv2, ho2⟩ := own_shape (xs := [x]) hown
    have HG := Lib.hid hg
    rw [hv2]
    clear hown hv2 hg
    go_wp2_with fail
    go_ret
    refine ⟨A2, c2, rfl, ho2, ?_⟩
    cases A with
    | none => exact HG.out
    | some a => exact HG.out
  · obtain ⟨g, cur, rfl, hBg, hgc, hnc, hcm, hcl, hct⟩ := ho.row h0
    have hne : vb ≠ g := fun e => hvb (by rw [e]; rfl)
    have hgw : g < w.heap.size := (Array.getElem?_eq_some_iff.1 hgc).1
    have hc63 : c ≤ 9223372036854775807 := by unfold maxLen at hcm; omega
    have hcells : ∀ j v, (us.map (Value.int .i64))[j]? = some v → w.cell? ⟨g, j, none⟩ = some v := fun j v hj => by
      rw [List.getElem?_map] at hj
      cases hu : us[j]? with
      | none => rw [hu] at hj; cases hj
      | some u => rw [hu] at hj; injection hj with hj; rw [← hj]; exact ho.cell hu
    have h1c : ∀ v ∈ us.map (Value.int .i64), v.oneCell' = true := ints_oneCell .i64 us
    obtain ⟨cs, hcs⟩ : ∃ cs, cs = us.map (Value.int .i64) := ⟨_, rfl⟩
    have HCS := Lib.hid hcs
    rw [← hcs] at hct hcells h1c
    have hcl2 : cs.length = n := by rw [hcs, List.length_map, HL.out]
    clear hcs
    have hz2' : ¬ ((0 : Int) = (n : Int)) := by omega
    have hz3 : ¬ (n : Int) = 0 := by omega
    by_cases hroom : n + 1 ≤ c
    · have hov : ∀ lb cb, (callFunc 178 #[.slice (some ⟨vb, 0, none⟩) 1 vc, .slice (some ⟨g, 1, none⟩) lb cb]).run Tryd.prog w = .ok (.value (.bool false)) w := fun lb cb => by
        rw [run_callFunc_extern Tryd.func178 (by kernel_rfl) (by kernel_rfl) (by kernel_rfl) (e := Extern.SlicesOverlaps.overlaps #[22, 22] #[4]) (by kernel_rfl),
          Lib.run_overlaps_apart w 22 4 2 Tryd.underlying22 1 Tryd.sizeOf2 ⟨vb, 0, none⟩ ⟨g, 1, none⟩ 1 vc lb cb hne tA 2 1 c (by simp [World.shape?, hv]) (by simp [World.shape?, hgc, hcl]) (by omega) (hvf 0) (hvf 1)]
        rfl
      have hle : ¬ (c : Int) < (n : Int) + 1 := by omega
      have hw1 : IntKind.i64.wrap ((n : Int) + 1) = (n : Int) + 1 := by rw [IntKind.wrap_i64]; omega
      have hcE : ¬ (c = 1) := by omega
      have hc0 : ¬ (c = 0) := by omega
      have hw11 : IntKind.i64.wrap 1 = 1 := by rw [IntKind.wrap_i64]; rfl
      have h11 : (1 : Int) ≤ (n : Int) + 1 := by omega
      have h01 : (0 : Int) ≤ (n : Int) + 1 := by omega
      have hgd : w.drew.heap[g]? = some (.cells cur.toArray 2 (0, 0)) := hgc
      have hn1 : cs.length = Nat.min (n + 1) n := by rw [hcl2]; simp [Nat.min_def]
      have hsr : ∀ j v, cs[j]? = some v → w.drew.cell? ((⟨g, 0, none⟩ : Addr).add j) = some v := fun j v hj => by rw [add_zero_off]; exact hcells j v hj
      have hft : 1 + cs.length ≤ cur.length := by omega
      have HSL : Hid ((splice cur 1 cs).length = c) := Lib.hid (by rw [length_splice _ _ _ hft]; exact hcl)
      have HTK : Hid ((splice (splice cur 1 cs) 0 [Value.int .i64 x]).take (n + 1) = (x :: us).map (Value.int .i64)) := Lib.hid (by rw [splice_head cur cs (.int .i64 x) n hcl2 (by omega), HCS.out]; rfl)
      have HOV := Lib.hid hov
      clear hcells hct hgc hvf hov
      go_enter Tryd.func161, Tryd.ntmps161
      go_wp2_with (simp only [HOV.out])
      go_region_law_o (refine step_copy_in rfl _ _ 22 22 rfl 2 Tryd.underlying22 hsz n (c - 1) (n + 1) c ⟨g, 0, none⟩ g 1 (by simp [Act.eval, Act.put]) (by simp [Act.eval, Act.put]) cur 2 hgd cs hn1 hsr hft h1c ?_; intro w4 hg4 hb4)
      have hv4 : w4.heap[vb]? = some (.cells #[.int .i64 x] tA (0, 0)) := (hb4.block vb hvw (fun e => hne (Option.some.inj e))).trans hv
      have hvc4 : w4.cell? ⟨vb, 0, none⟩ = some (.int .i64 x) := by unfold World.cell?; rw [hv4]; rfl
      obtain ⟨Z, hZ⟩ : ∃ Z, Z = splice cur 1 cs := ⟨_, rfl⟩
      rw [← hZ] at hg4 HSL HTK
      have hZl := HSL.out
      clear hZ
      go_wp2_with (refine wpList_copy_in rfl _ _ 22 22 rfl 2 Tryd.underlying22 hsz (n + 1) c 1 vc ⟨vb, 0, none⟩ g 0 rfl rfl Z 2 hg4.out [.int .i64 x] (by simp [Nat.min_def]) (one_src hvc4) (by simp; omega) (one_cells x) ?_; intro w5 hg5 hb5)
      have HO5 : Hid (Own 2 w5 B (some ⟨g, 0, none⟩) (n + 1) c (x :: us)) := Lib.hid (Own.of_row hBg hg5.out hroom hcm (by rw [length_splice _ _ _ (by simp; omega)]; exact hZl) HTK.out)
      have HG5 : Hid (w.grownBy w5 (some g)) := Lib.hid (by
        have h4 : w.grownBy w4 (some g) := ⟨hb4.os, hb4.tape, hb4.output, hb4.size, hb4.block⟩
        exact h4.trans hb5)
      clear hg5 hb5 hg4 hb4 hv4 hvc4
      go_wp2_with fail
      go_ret
      exact ⟨_, c, rfl, HO5.out, HG5.out⟩
    · have hcn : n = c := by omega
      subst hcn
      obtain ⟨G, hG⟩ : ∃ G, G = grownCap w (n + 1) n 2 := ⟨_, rfl⟩
      have hGn : n + 1 ≤ G := by rw [hG]; exact grownCap_ge w _ _ _
      have hG63 : G ≤ maxLen := by rw [hG]; exact grownCap_le_maxLen w (n + 1) n 2 (by unfold maxLen; omega)
      obtain ⟨ROW, hROW⟩ : ∃ ROW : Array Value, ROW = ([] : List Value).toArray ++ Builtin.zeroCells (Value.int .i64 0).cells (n + 1) ++ Builtin.zeroCells (Value.int .i64 0).cells (G - (n + 1)) := ⟨_, rfl⟩
      have hRl : ROW.toList.length = G := by
        rw [hROW]
        simp [Builtin.zeroCells, Value.cells]
        omega
      have hold : (Builtin.firstCells i0.size 0 (.slice (some ⟨g, 0, none⟩) 0 n)).run Tryd.prog w.drew = .ok ([] : List Value).toArray w.drew := by
        rw [hz1]
        exact run_firstCells_some w.drew 1 0 ⟨g, 0, none⟩ 0 n [] (by simp) (fun j v hj => by simp at hj)
      have hrz : ∀ ty, (Builtin.append_ #[22, 3] ty #[.slice (some ⟨g, 0, none⟩) 0 n, .int .i64 ((n : Int) + 1)]).run Tryd.prog w = .ok (.slice (some ⟨w.heap.size, 0, none⟩) (n + 1) G) (w.drew.alloc (.cells ROW 2)) := fun ty => by
        have h := Lib.run_append_grow_zeros w 22 3 ty 2 i0 _ .i64 .i64 Tryd.underlying22 Tryd.underlying3 hi hz0 (some ⟨g, 0, none⟩) 0 n [] hold (n + 1) (by omega) (by omega) (by omega) (by omega) (by rw [hz2]; omega) (by rw [hz2, Nat.zero_add]; exact growslice_fits (by omega) (by omega))
        rw [Nat.zero_add, ← hG, ← hROW] at h
        rw [show (n : Int) + 1 = ((n + 1 : Nat) : Int) by omega]
        exact h
      clear hold hROW hG
      obtain ⟨W1, hW1⟩ : ∃ W1, W1 = w.drew.alloc (.cells ROW 2) := ⟨_, rfl⟩
      have hg1 : W1.heap[w.heap.size]? = some (.cells ROW.toList.toArray 2 (0, 0)) := by rw [hW1]; exact World.alloc_heap_new w.drew _
      have hB1 : Below w.heap.size w W1 := by rw [hW1]; exact (Below.refl _ _).drew.alloc (Nat.le_refl _) _
      rw [← hW1] at hrz
      have hvc1 : W1.cell? ⟨vb, 0, none⟩ = some (.int .i64 x) := (hB1.cell hvw).trans hvc
      have hft0 : 0 + [Value.int .i64 x].length ≤ ROW.toList.length := by simp only [List.length_cons, List.length_nil]; omega
      have HSL : Hid ((splice ROW.toList 0 [Value.int .i64 x]).length = G) := Lib.hid (by rw [length_splice _ _ _ hft0]; exact hRl)
      have HTK : Hid ((splice (splice ROW.toList 0 [Value.int .i64 x]) 1 cs).take (n + 1) = (x :: us).map (Value.int .i64)) := Lib.hid (by rw [splice_headG ROW.toList cs (.int .i64 x) n hcl2 (by omega), HCS.out]; rfl)
      have hw11 : IntKind.i64.wrap 1 = 1 := by rw [IntKind.wrap_i64]; rfl
      have hw1 : IntKind.i64.wrap ((n : Int) + 1) = (n : Int) + 1 := by rw [IntKind.wrap_i64]; omega
      have hw2 : IntKind.i64.wrap ((n : Int) + 1 - 0) = (n : Int) + 1 := by rw [IntKind.wrap_i64]; omega
      have h11 : (1 : Int) ≤ (n : Int) + 1 := by omega
      have h01 : (0 : Int) ≤ (n : Int) + 1 := by omega
      have h00 : (0 : Int) ≤ (n : Int) := by omega
      have hlt9 : (n : Int) < (n : Int) + 1 := by omega
      have hG1 : ¬ (G = 1) := by omega
      have hG0 : ¬ (G = 0) := by omega
      have hn0 : ¬ (n = 0) := by omega
      obtain ⟨RL, hRL⟩ : ∃ RL, RL = ROW.toList := ⟨_, rfl⟩
      rw [← hRL] at hg1 hRl hft0 HSL HTK
      have HG1 := Lib.hid hg1
      have HRZ := Lib.hid hrz
      clear hct hgc hvf hRL hg1 hW1 hrz
      go_enter Tryd.func161, Tryd.ntmps161
      go_wp2_with (first
        | (at_builtin; refine Lib.wpList_append_run _ rfl _ _ _ _ rfl _ _ rfl rfl _ _ (HRZ.out _) ?_)
        | (refine wpList_copy_in rfl _ _ 22 22 rfl 2 Tryd.underlying22 hsz (n + 1) G 1 vc ⟨vb, 0, none⟩ w.heap.size 0 rfl rfl RL 2 HG1.out [.int .i64 x] (by simp [Nat.min_def]) (one_src hvc1) (by simp; omega) (one_cells x) ?_; intro w4 hg4 hb4))
      have hB4 : Below w.heap.size w w4 := hB1.grown hb4 (hB1.size) (fun k e9 => by cases e9; exact Nat.le_refl _)
      have hg4' : w4.drew.heap[w.heap.size]? = some (.cells (splice RL 0 [Value.int .i64 x]).toArray 2 (0, 0)) := hg4.out
      obtain ⟨Z, hZ⟩ : ∃ Z, Z = splice RL 0 [Value.int .i64 x] := ⟨_, rfl⟩
      rw [← hZ] at hg4' HSL HTK
      have hZl := HSL.out
      have hn1 : cs.length = Nat.min n n := by rw [hcl2]; exact (Nat.min_self n).symm
      have hsr : ∀ j v, cs[j]? = some v → w4.drew.cell? ((⟨g, 0, none⟩ : Addr).add j) = some v := fun j v hj => by
        rw [add_zero_off]
        exact (hB4.cell (p := ⟨g, j, none⟩) hgw).trans (hcells j v hj)
      have hft : 1 + cs.length ≤ Z.length := by omega
      clear hZ hg4 hcells HRZ HG1 hvc1
      go_region_law_o (refine step_copy_in rfl _ _ 22 22 rfl 2 Tryd.underlying22 hsz n (G - 1) n n ⟨g, 0, none⟩ w.heap.size 1 (by simp [Act.eval, Act.put]) (by simp [Act.eval, Act.put]) Z 2 hg4' cs hn1 hsr hft h1c ?_; intro w5 hg5 hb5)
      have HO5 : Hid (Own 2 w5 B (some ⟨w.heap.size, 0, none⟩) (n + 1) G (x :: us)) := Lib.hid (Own.of_row hB hg5.out hGn hG63 (by rw [length_splice _ _ _ hft]; exact hZl) HTK.out)
      have HG5 : Hid (w.grownBy w5 (some g)) := Lib.hid (grown_row (grownBy_of_below (hB4.grown (show w4.grownBy w5 (some w.heap.size) from ⟨hb5.os, hb5.tape, hb5.output, hb5.size, hb5.block⟩) hB4.size (fun k e9 => by cases e9; exact Nat.le_refl _))))
      clear hg5 hb5 hg4' hb4
      go_wp2_with fail
      go_ret
      exact ⟨_, G, rfl, HO5.out, HG5.out⟩
end Go.Proofs.YtdafdffmkjhhcaaDoor
