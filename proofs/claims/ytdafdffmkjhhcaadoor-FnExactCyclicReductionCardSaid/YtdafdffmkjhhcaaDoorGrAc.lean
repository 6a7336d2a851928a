/-
  Graph groups: cyclic reduction by the program.
-/
import Derived.Test.YtdafdffmkjhhcaaDoorGrAo
import Derived.Maps.AppendAt
import Derived.Deep.RegionLaw
import Derived.Deep.RegionHeld3
namespace Go.Proofs.YtdafdffmkjhhcaaDoor
open Go Go.RowKit
set_option linter.unusedVariables false
set_option linter.unusedSimpArgs false
set_option maxRecDepth 100000

theorem ints_appA (a b : List Nat) : ints (a ++ b) = ints a ++ ints b := by simp [ints]
theorem step_append_atA {w : World} {ops : Array Oper} {o : Oper} {a : Act} {K : Act → World → Prop} {Q : Exit → Act → World → Prop} {E : Prop} (hgd : o.guard = none) (s x : Operand)
    (ho : o.op = .call { callee := .builtin .append, args := #[s, x], argTypes := #[22, 22] }) (base : Nat) (A : Option Addr) (N cA : Nat) (all : List Nat) (hs : a.eval s = .slice A N cA) (hown : Own 2 w base A N cA (ints all))
    (A2 : Option Addr) (m c2 : Nat) (ss : List Nat) (hx : a.eval x = .slice A2 m c2) (h2 : Rd w A2 m (ints ss)) (h63 : N + m ≤ maxLen) (hby : (N + m) * 8 ≤ 140737488355328) (hbase : base ≤ w.heap.size)
    (h : ∀ v' w', (∃ A' c', v' = .slice A' (N + m) c' ∧ Own 2 w' base A' (N + m) c' (ints (all ++ ss)) ∧ (A'.map (·.block) = A.map (·.block) ∨ A'.map (·.block) = some w.heap.size)) → w.grownBy w' (A.map (·.block)) → K (a.put o.dst v') w') :
    if Region.wanted o (yielded ops a.tmps) = true then Oper.wp Tryd.prog o a w K Q else E := by
  have hw : Region.wanted o (yielded ops a.tmps) = true := by simp [Region.wanted, hgd]
  rw [if_pos hw]
  obtain ⟨i0, hi, hz0, hz1, hz2⟩ := info_parts info_int
  cases A2 with
  | none =>
    have hm0 : m = 0 := by
      rcases Nat.eq_zero_or_pos m with h0 | h0
      · exact h0
      · obtain ⟨b, off, e9, _⟩ := h2.2 h0; cases e9
    subst hm0
    have hs0 : ss = [] := List.eq_nil_of_length_eq_zero (by have := h2.1; rw [ints_len] at this; exact this)
    subst hs0
    have hrun := run_append_nothing (P := Tryd.prog) w 22 22 o.type 2 i0 Tryd.underlying22 hi A N cA (own_cap hown) (.slice none 0 c2) (Src.ofNil w Tryd.underlying22 c2)
    unfold Oper.wp
    simp [execOp, ho, resolve, invoke, builtin, hs, hx, hrun, Result.andThen]
    exact h (.slice A N cA) w ⟨A, cA, rfl, by rw [List.append_nil]; exact hown, .inl rfl⟩ (World.grownBy.refl _ _)
  | some ad =>
    have hl2 : ((ints ss).map (Value.int .i64)).length = m * 1 := by rw [List.length_map, h2.1, Nat.mul_one]
    obtain ⟨v', w', hr, hown', hg, _, hat⟩ := run_append_own_at (P := Tryd.prog) w base 22 o.type 2 i0 (.int .i64 0) 1 8 Tryd.underlying22 hi hz0 hz1 hz2 rfl (by decide) (.slice A N cA) N ((ints all).map (Value.int .i64)) hown ad m c2 ((ints ss).map (Value.int .i64)) hl2 (by
      intro j u hu
      have hj : 0 < m := by
        rcases Nat.eq_zero_or_pos m with h0 | h0
        · have h8 : (ints ss).map (Value.int .i64) = [] := List.eq_nil_of_length_eq_zero (by rw [hl2, h0])
          rw [h8] at hu; simp at hu
        · exact h0
      obtain ⟨b, off, e9, _⟩ := h2.2 hj
      injection e9 with e9
      subst e9
      exact rd_news h2 hj j u hu) (ints_oneCell .i64 _) h63 hby hbase
    unfold Oper.wp execOp
    simp only [ho, resolve, invoke, builtin, Sem.run_bind, Sem.run_pure, Result.andThen_ok, List.map_toArray, List.map_cons, List.map_nil, hs, hx, hr]
    have e8 : (ints all).map (Value.int .i64) ++ (ints ss).map (Value.int .i64) = (ints (all ++ ss)).map (Value.int .i64) := by rw [ints_appA, List.map_append]
    rw [e8] at hown'
    obtain ⟨A3, c3, rfl, ho3⟩ := own_shape hown'
    rw [own_block] at hg
    rw [own_block, own_block] at hat
    exact h _ w' ⟨A3, c3, rfl, ho3, hat⟩ hg
theorem Below.al {w w' : World} (h : Below w.heap.size w w') (o : Obj) : Below w.heap.size w (w'.alloc o) := h.alloc h.size o
theorem rd_one_of {w : World} {g : Nat} {x : Int} (hb : g < w.heap.size) (hc : w.cell? ⟨g, 0, none⟩ = some (.int .i64 x)) : Rd w (some ⟨g, 0, none⟩) 1 [x] := by
  refine ⟨rfl, fun _ => ⟨g, 0, rfl, hb, fun j v hj => ?_⟩⟩
  match j, hj with
  | 0, hj => injection hj with hj; subst hj; rw [Nat.zero_add]; exact hc
  | j + 1, hj => simp at hj
theorem rdT_three {w : World} {g1 g2 g3 n c : Nat} {x y : Int} {A : Option Addr} {xs : List Int} (hb1 : g1 < w.heap.size) (h1 : w.cell? ⟨g1, 0, none⟩ = some (.int .i64 x)) (hb2 : g2 < w.heap.size) (h2 : w.cell? ⟨g2, 0, none⟩ = some (.int .i64 y))
    (hb3 : g3 < w.heap.size) (c0 : w.cell? ⟨g3, 0, none⟩ = some (.slice (some ⟨g1, 0, none⟩) 1 1)) (c1 : w.cell? ⟨g3, 1, none⟩ = some (.slice A n c)) (c2 : w.cell? ⟨g3, 2, none⟩ = some (.slice (some ⟨g2, 0, none⟩) 1 1)) (hA : Rd w A n xs) (hn : n ≤ maxLen) :
    RdT w (some ⟨g3, 0, none⟩) 3 [(some ⟨g1, 0, none⟩, 1, 1, [x]), (A, n, c, xs), (some ⟨g2, 0, none⟩, 1, 1, [y])] := by
  refine ⟨rfl, fun t ht => ?_, fun _ => ⟨g3, 0, rfl, hb3, fun j t hj => ?_⟩⟩
  · simp at ht
    rcases ht with rfl | rfl | rfl
    · exact ⟨rd_one_of hb1 h1, show 1 ≤ maxLen by unfold maxLen; omega⟩
    · exact ⟨hA, hn⟩
    · exact ⟨rd_one_of hb2 h2, show 1 ≤ maxLen by unfold maxLen; omega⟩
  · match j, hj with
    | 0, hj => injection hj with hj; subst hj; exact c0
    | 1, hj => injection hj with hj; subst hj; exact c1
    | 2, hj => injection hj with hj; subst hj; exact c2
    | j + 3, hj => simp at hj
theorem below_then {a b c : World} (h1 : Below a.heap.size a b) (h2 : Below b.heap.size b c) : Below a.heap.size a c := h1.trans (h2.mono h1.size)
theorem own_then {E : TypeId} {a b w : World} {A : Option Addr} {n c : Nat} {xs : List Int} (h1 : Below a.heap.size a b) (o : Own E w b.heap.size A n c xs) : Own E w a.heap.size A n c xs := o.mono h1.size
theorem rd_kept {b w5 : World} {g : Nat} {x : Int} (hb5 : Below b.heap.size b w5) (hq : g < b.heap.size) (hv : b.cell? ⟨g, 0, none⟩ = some (.int .i64 x)) : Rd w5 (some ⟨g, 0, none⟩) 1 [x] :=
  rd_one_of (Nat.lt_of_lt_of_le hq hb5.size) ((hb5.cell (p := ⟨g, 0, none⟩) hq).trans hv)
set_option maxHeartbeats 6400000 in
theorem cyclicReduction_any (R A : Option Addr) (N cr m c : Nat) (ds W : List Nat) (w : World) (hR : Rd w R N (ints ds)) (hN : N ≤ 16) (hl : ds.length = N) (hr : ∀ i, ds.getD i 0 < 2 ^ N) (hgd : GD (RDep ds) N)
    (h2 : Rd w A m (ints W)) (hm : m ≤ 24) (hW : ∀ x, x ∈ W → x < N) :
    Calls Tryd.prog 75 #[.agg #[.slice R N cr], .slice A m c] w fun e w' => ∃ (A1 A2 : Option Addr) (c1 c2 : Nat),
      e = .returned (.tuple #[.slice A1 (cycP (RDep ds) N (redW (RDep ds) W).length (redW (RDep ds) W) []).1.length c1, .slice A2 (cycP (RDep ds) N (redW (RDep ds) W).length (redW (RDep ds) W) []).2.length c2]) ∧
      Own 2 w' w.heap.size A1 (cycP (RDep ds) N (redW (RDep ds) W).length (redW (RDep ds) W) []).1.length c1 (ints (cycP (RDep ds) N (redW (RDep ds) W).length (redW (RDep ds) W) []).1) ∧
      Own 2 w' w.heap.size A2 (cycP (RDep ds) N (redW (RDep ds) W).length (redW (RDep ds) W) []).2.length c2 (ints (cycP (RDep ds) N (redW (RDep ds) W).length (redW (RDep ds) W) []).2) ∧ Below w.heap.size w w' := by
  have HB := Lib.hid (below1 w (.cells #[.slice R N cr] 93))
  have g0 : Boxed (w.alloc (.cells #[.slice R N cr] 93)) w.heap.size 93 (.slice R N cr) := Boxed.new w _ _
  have hWm : W.length = m := by have := h2.1; rw [ints_len] at this; exact this
  have HDR := Lib.hid hr
  have HGD := Lib.hid hgd
  have HRN : Hid (∀ x, x ∈ redW (RDep ds) W → x < N) := Lib.hid (redW_lt hW)
  have HRR : Hid (rdB (RDep ds) (redW (RDep ds) W)) := Lib.hid (redW_rd hgd hW)
  have HRL : Hid ((redW (RDep ds) W).length ≤ 24) := Lib.hid (Nat.le_trans (redW_len _) (by omega))
  obtain ⟨wx, hwx⟩ : ∃ wx, wx = w.alloc (.cells #[.slice R N cr] 93) := ⟨_, rfl⟩
  rw [← hwx] at HB g0
  have hRx : Rd wx R N (ints ds) := hR.below HB.out
  have h2x : Rd wx A m (ints W) := h2.below HB.out
  have HRE1 : Hid (Calls Tryd.prog 124 #[.agg #[.slice R N cr], .slice (some ⟨wx.heap.size, 0, none⟩) 1 1] (wx.alloc (.cells #[.slice A m c] 22)) (MakesE 2 (wx.alloc (.cells #[.slice A m c] 22)) (redW (RDep ds) W).length (ints (redW (RDep ds) W)))) := Lib.hid (by
    have h9 := reduced_any R _ N cr 1 1 ds _ [W] (wx.alloc (.cells #[.slice A m c] 22)) (hRx.below (below1 _ _)) hN hl hr hgd (rdT_one wx A m c (ints W) 22 h2x (by unfold maxLen; omega)) (by omega) rfl (fun k t hk => by
      match k, hk with
      | 0, hk => injection hk with hk; subst hk; rfl
      | k + 1, hk => simp at hk) (fun k => by
      match k with
      | 0 => show W.length ≤ 576; omega
      | k + 1 => simp) (by rw [show [W].flatten = W by simp]; omega) (by rw [show [W].flatten = W by simp]; exact hW)
    rw [show [W].flatten = W by simp] at h9
    exact h9)
  have gcx := g0.cell
  obtain ⟨W0, hW0⟩ : ∃ W0, W0 = redW (RDep ds) W := ⟨_, rfl⟩
  rw [← hW0] at HRN HRR HRL HRE1 ⊢
  obtain ⟨K0, hK0⟩ : ∃ K0, K0 = W0.length := ⟨_, rfl⟩
  have HK0 := Lib.hid hK0
  rw [← hK0] at HRE1 HRL ⊢
  obtain ⟨CE, FE, hCF⟩ : ∃ a b, cycP (RDep ds) N K0 W0 [] = (a, b) := ⟨_, _, rfl⟩
  rw [hCF]
  have HCF := Lib.hid hCF
  have HWX := Lib.hid hwx
  clear hr hgd hW0 hK0 hCF h2 hR h2x hW hWm
  have gcr := (Boxed.new w 93 (.slice R N cr)).cell
  have hsz : wx.heap.size = w.heap.size + 1 := by rw [hwx]; simp
  rw [hsz] at HRE1
  have HSZ := Lib.hid hsz
  clear hsz
  go_enter Tryd.func75, Tryd.ntmps75
  go_wp2_with fail
  rw [← hwx]
  clear hwx gcr
  refine HRE1.out.mono ?_
  rintro e w2 ⟨A1, c1, rfl, o1, hb1⟩
  have hbx : Below wx.heap.size wx w2 := (below1 wx _).trans (hb1.mono (below1 wx _).size)
  have g2 : Boxed w2 w.heap.size 93 (.slice R N cr) := (hbx.block _ g0.lt).trans g0
  have gc := g2.cell
  have o1 := o1.mono (below1 wx (.cells #[.slice A m c] 22)).size
  have HOL := Lib.hid (outerLetter_any R A1 N cr K0 c1 ds W0 w2 (hRx.below hbx) hN hl HDR.out HGD.out o1.rd HRL.out (own_cap o1) HRN.out)
  clear HRE1 hb1
  go_wp2_with fail
  refine HOL.out.mono ?_
  rintro e w3 ⟨rfl, hb3⟩
  have hbx3 : Below wx.heap.size wx w3 := hbx.trans (hb3.mono hbx.size)
  have o13 := o1.below hb3
  clear HOL hb3 gc g2 hbx
  go_wp2_with fail
  go_loopw [4, 5, 6, 7] (fun p q s o wr => ∃ (K nC nF : Nat) (C F : List Nat) (A1 A2 : Option Addr) (c1 c2 : Nat), p = .slice A1 nC c1 ∧ q = .slice A2 nF c2 ∧ s = .int .i64 (((outL (RDep ds) N C).getD 0 : Nat) : Int) ∧ o = .bool (outL (RDep ds) N C).isSome ∧ nC ≤ K ∧ nC + 2 * nF ≤ 24 ∧
    Hid (C.length = nC ∧ rdB (RDep ds) C ∧ (∀ x, x ∈ C → x < N) ∧ cycP (RDep ds) N K C F = (CE, FE)) ∧ Own 2 wr wx.heap.size A1 nC c1 (ints C) ∧ Own 2 wr wx.heap.size A2 nF c2 (ints F) ∧ (∀ r, A1.map (·.block) = some r → A2.map (·.block) ≠ some r) ∧ Below wx.heap.size wx wr) (fun p _ _ _ _ => sliceLen p)
  case atStart => exact ⟨K0, K0, 0, W0, [], A1, none, c1, 0, rfl, rfl, rfl, rfl, Nat.le_refl _, by have := HRL.out; omega, Lib.hid ⟨HK0.out.symm, HRR.out, HRN.out, HCF.out⟩, o13, Own.nil _ _ _, (fun r _ h9 => by cases h9), hbx3⟩
  case round =>
    clear o13 hbx3 HCF HRR HRN HK0
    obtain ⟨K, nC, nF, C, F, A1, A2, c1, c2, rfl, rfl, rfl, rfl, hK, h24, HH, o1, o2, hap, hb⟩ := hrel
    have gr : Boxed wr w.heap.size 93 (.slice R N cr) := (hb.block _ g0.lt).trans g0
    have gc := gr.cell
    have HFL : Hid (F.length = nF) := Lib.hid (by have := o2.len; rw [ints_len] at this; exact this)
    cases ho : outL (RDep ds) N C with
    | none =>
      have HE : Hid (C = CE ∧ F = FE) := Lib.hid (by have h9 := HH.out.2.2.2; rw [cycP_end ho] at h9; injection h9 with h8 h9; exact ⟨h8, h9⟩)
      have HCL := Lib.hid HH.out.1
      clear ho HH
      go_wp2_with fail
      go_ret2
      obtain ⟨rfl, rfl⟩ := HE.out
      obtain rfl := HCL.out
      obtain rfl := HFL.out
      exact ⟨A1, A2, c1, c2, rfl, o1.mono HB.out.size, o2.mono HB.out.size, HB.out.trans (hb.mono HB.out.size)⟩
    | some a =>
      have HCN := Lib.hid HH.out.2.2.1
      obtain ⟨haN, _, _⟩ := outL_some ho
      obtain ⟨K', hK', hL2, hRT, hcyc⟩ := cycP_step (f := F) HGD.out HCN.out HH.out.2.1 (by rw [HH.out.1]; exact hK) ho
      have HST : Hid (cycP (RDep ds) N K' (turnP (RDep ds) a C) (F ++ [a]) = (CE, FE)) := Lib.hid (by rw [← hcyc]; exact HH.out.2.2.2)
      have HTN : Hid (∀ x, x ∈ turnP (RDep ds) a C → x < N) := Lib.hid (turn_lt HGD.out haN HCN.out)
      have HRT := Lib.hid hRT
      rw [HH.out.1] at hL2
      have hopN := HGD.out.lt a haN
      have HRED : Hid (∀ (ww : World) (g1 g2 g3 : Nat), Below wr.heap.size wr ww → g1 < ww.heap.size → ww.cell? ⟨g1, 0, none⟩ = some (.int .i64 ((opp a : Nat) : Int)) → g2 < ww.heap.size → ww.cell? ⟨g2, 0, none⟩ = some (.int .i64 (a : Int)) → g3 < ww.heap.size → ww.cell? ⟨g3, 0, none⟩ = some (.slice (some ⟨g1, 0, none⟩) 1 1) → ww.cell? ⟨g3, 1, none⟩ = some (.slice A1 nC c1) → ww.cell? ⟨g3, 2, none⟩ = some (.slice (some ⟨g2, 0, none⟩) 1 1) →
          Calls Tryd.prog 124 #[.agg #[.slice R N cr], .slice (some ⟨g3, 0, none⟩) 3 3] ww (MakesE 2 ww (turnP (RDep ds) a C).length (ints (turnP (RDep ds) a C)))) := Lib.hid (fun ww g1 g2 g3 hw b1 k1 b2 k2 b3 e0 e1 e2 => by
        have hCl := HH.out.1
        have hft : [[opp a], C, [a]].flatten = opp a :: (C ++ [a]) := by simp
        have h9 := reduced_any R _ N cr 3 3 ds _ [[opp a], C, [a]] ww ((hRx.below hb).below hw) hN hl HDR.out HGD.out (rdT_three b1 k1 b2 k2 b3 e0 e1 e2 (o1.rd.below hw) (by unfold maxLen; omega)) (by omega) rfl (fun k t hk => by
          match k, hk with
          | 0, hk => injection hk with hk; subst hk; rfl
          | 1, hk => injection hk with hk; subst hk; rfl
          | 2, hk => injection hk with hk; subst hk; rfl
          | k + 3, hk => simp at hk) (fun k => by
          match k with
          | 0 => show 1 ≤ 576; omega
          | 1 => show C.length ≤ 576; omega
          | 2 => show 1 ≤ 576; omega
          | k + 3 => simp) (by rw [hft]; simp; omega) (by
            rw [hft]
            intro x hx
            rcases List.mem_cons.1 hx with rfl | hx
            · exact hopN
            · rcases List.mem_append.1 hx with hx | hx
              · exact HCN.out x hx
              · rw [List.mem_singleton.1 hx]; exact haN)
        rw [hft] at h9
        exact h9)
      have HRED : Hid (∀ (ww : World) (g3 : Nat), Below wr.heap.size wr ww → (∃ g1 g2, g1 < ww.heap.size ∧ ww.cell? ⟨g1, 0, none⟩ = some (.int .i64 ((opp a : Nat) : Int)) ∧ g2 < ww.heap.size ∧ ww.cell? ⟨g2, 0, none⟩ = some (.int .i64 (a : Int)) ∧ g3 < ww.heap.size ∧ ww.cell? ⟨g3, 0, none⟩ = some (.slice (some ⟨g1, 0, none⟩) 1 1) ∧ ww.cell? ⟨g3, 1, none⟩ = some (.slice A1 nC c1) ∧ ww.cell? ⟨g3, 2, none⟩ = some (.slice (some ⟨g2, 0, none⟩) 1 1)) →
          Calls Tryd.prog 124 #[.agg #[.slice R N cr], .slice (some ⟨g3, 0, none⟩) 3 3] ww (MakesE 2 ww (turnP (RDep ds) a C).length (ints (turnP (RDep ds) a C)))) := Lib.hid (fun ww g3 hw ⟨g1, g2, b1, k1, b2, k2, b3, e0, e1, e2⟩ => HRED.out ww g1 g2 g3 hw b1 k1 b2 k2 b3 e0 e1 e2)
      obtain ⟨C', hC'⟩ : ∃ C', C' = turnP (RDep ds) a C := ⟨_, rfl⟩
      rw [← hC'] at HRED HTN HRT HST hL2 hK'
      obtain ⟨n5, hn5⟩ : ∃ n5, n5 = C'.length := ⟨_, rfl⟩
      have HN5 := Lib.hid hn5
      rw [← hn5] at HRED hL2 hK'
      have HOL : Hid (∀ (ww : World) (A : Option Addr) (c : Nat), Below wx.heap.size wx ww → Own 2 ww wx.heap.size A n5 c (ints C') → Calls Tryd.prog 125 #[.agg #[.slice R N cr], .slice A n5 c] ww fun e w' => e = .returned (.tuple #[.int .i64 ((((outL (RDep ds) N C').getD 0 : Nat)) : Int), .bool (outL (RDep ds) N C').isSome]) ∧ Below ww.heap.size ww w') := Lib.hid (fun ww A c hw o => outerLetter_any R A N cr n5 c ds C' ww (hRx.below hw) hN hl HDR.out HGD.out o.rd (by omega) (own_cap o) HTN.out)
      have HOP := Lib.hid (fun ww : World => opposite_any a (by omega) ww)
      obtain ⟨oa, hoa⟩ : ∃ oa, oa = opp a := ⟨_, rfl⟩
      rw [← hoa] at HRED HOP
      have hml : nF + 1 ≤ maxLen := by unfold maxLen; omega
      have hby : (nF + 1) * 8 ≤ 140737488355328 := by omega
      have hC : Below wr.heap.size wr wr.drew := (Below.refl _ _).drew
      have hcd : wr.drew.cell? ⟨w.heap.size, 0, none⟩ = some (.slice R N cr) := Boxed.cell (show Boxed wr.drew w.heap.size 93 (.slice R N cr) from (hC.block _ gr.lt).trans gr)
      have HGC : Hid (∀ ww, Below wr.heap.size wr ww → ww.cell? ⟨w.heap.size, 0, none⟩ = some (.slice R N cr)) := Lib.hid (fun ww hw => Boxed.cell (show Boxed ww w.heap.size 93 (.slice R N cr) from (hw.block _ gr.lt).trans gr))
      have HAP := Lib.hid hap
      clear hC' hn5 hoa hopN HCN HH hcyc hRT ho hap
      go_wp2_with fail
      go_region_held3 (fun w' => w'.cell? ⟨w.heap.size, 0, none⟩ = some (.slice R N cr)) (first | exact hcd | exact gc77 | exact HGC.out _ (by repeat (first | assumption | exact Below.refl _ _ | apply Below.al | apply Below.drew)) | go_keep) (first
        | (go_at_call 126; (with_reducible refine (HOP.out _).mono ?_); rintro e w9 ⟨rfl, rfl⟩)
        | (go_at_call 124; (with_reducible refine (HRED.out _ _ (by repeat (first | exact Below.refl _ _ | exact hC | apply Below.al | apply Below.drew)) (by first | (refine ⟨wr.heap.size, wr.heap.size + 1, ?_, ?_, ?_, ?_, ?_, ?_, ?_, ?_⟩ <;> (go_simp; done)) | (refine ⟨wr.heap.size + 1, wr.heap.size, ?_, ?_, ?_, ?_, ?_, ?_, ?_, ?_⟩ <;> (go_simp; done)) | (refine ⟨wr.heap.size + 1, wr.heap.size + 2, ?_, ?_, ?_, ?_, ?_, ?_, ?_, ?_⟩ <;> (go_simp; done)) | (refine ⟨wr.heap.size + 2, wr.heap.size + 1, ?_, ?_, ?_, ?_, ?_, ?_, ?_, ?_⟩ <;> (go_simp; done)) | (refine ⟨wr.heap.size, wr.heap.size + 2, ?_, ?_, ?_, ?_, ?_, ?_, ?_, ?_⟩ <;> (go_simp; done)) | (refine ⟨wr.heap.size + 2, wr.heap.size, ?_, ?_, ?_, ?_, ?_, ?_, ?_, ?_⟩ <;> (go_simp; done)))).mono ?_); rintro e w5 ⟨A5, c5, rfl, o5, hb5⟩; have hc5 : Below wr.heap.size wr w5 := below_then (by repeat (first | exact Below.refl _ _ | exact hC | apply Below.al | apply Below.drew)) hb5; have o5w := own_then (a := wr) (by repeat (first | exact Below.refl _ _ | exact hC | apply Below.al | apply Below.drew)) o5; have hbw5 : Below wx.heap.size wx w5 := hb.trans (hc5.mono hb.size); have o25 := o2.below hc5)
        | (refine step_append_atA rfl (.tmp 34) (.tmp 36) rfl wx.heap.size A2 nF c2 F (by go_simp) (by first | exact o25 | exact o25.below (below1 _ _) | exact o25.below ((Below.refl _ _).drew) | exact o25.below ((below1 _ _).drew)) (some ⟨_, 0, none⟩) 1 1 [a] (by rfl) (by first | (refine rd_kept hb5 ?_ ?_ <;> (go_simp; done)) | (refine rd_one_of ?_ ?_ <;> (go_simp; done))) hml hby (by first | exact hbw5.size | exact (Below.al hbw5 _).size) ?_; rintro v3 w7 ⟨A7, c7, rfl, o7, hat7⟩ hg7
           have hB7 : Below wx.heap.size wx w7 := by first | exact hbw5.grown hg7 hbw5.size (fun r hr => (o2.lt r hr).1) | exact (Below.al hbw5 _).grown hg7 (Below.al hbw5 _).size (fun r hr => (o2.lt r hr).1)
           have o57 : Own 2 w7 wr.heap.size A5 n5 c5 (ints C') := by first | exact o5w.apart hg7 (fun r h1 h2 => by have h3 := (o5w.lt r h1).1; have h4 := (o2.lt r h2).2; omega) | exact Own.apart (o5w.below (below1 _ _)) hg7 (fun r h1 h2 => by have h3 := (o5w.lt r h1).1; have h4 := (o2.lt r h2).2; omega)
           have hap7 : ∀ r, A5.map (·.block) = some r → A7.map (·.block) ≠ some r := fun r h1 h2 => by
             have h3 := o5w.lt r h1
             rcases hat7 with h9 | h9
             · have h4 := (o2.lt r (by rw [← h9]; exact h2)).2; omega
             · rw [h2] at h9; injection h9 with h9; first | omega | (simp at h9; omega)
           have gc77 : w7.cell? ⟨w.heap.size, 0, none⟩ = some (.slice R N cr) := Boxed.cell (show Boxed w7 w.heap.size 93 (.slice R N cr) from (hB7.block _ g0.lt).trans g0)
           clear hat7 hg7 o5 o5w o25 hb5 hc5 hbw5))
      all_goals
        have g7 : Boxed w7 w.heap.size 93 (.slice R N cr) := (hB7.block _ g0.lt).trans g0
        have gc7 := g7.cell
        have HO7 := Lib.hid (HOL.out w7 A5 c5 hB7 (o57.mono hb.size))
        go_wp2_with fail
        refine HO7.out.mono ?_
        rintro e w8 ⟨rfl, hb8⟩
        go_wp2_with fail
        go_roundw
        case rel => exact ⟨K', n5, nF + 1, C', F ++ [a], A5, A7, c5, c7, rfl, rfl, rfl, rfl, hK', by omega, Lib.hid ⟨HN5.out.symm, HRT.out, HTN.out, HST.out⟩, (o57.mono hb.size).below hb8, o7.below hb8, hap7, hB7.trans (hb8.mono hB7.size)⟩
        case measure => simp [sliceLen]; omega
end Go.Proofs.YtdafdffmkjhhcaaDoor
