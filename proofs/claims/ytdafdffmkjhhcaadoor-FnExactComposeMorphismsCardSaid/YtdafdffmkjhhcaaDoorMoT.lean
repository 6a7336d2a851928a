/-
  Morphisms: the model's test of the images.
-/
import Derived.Test.YtdafdffmkjhhcaaDoorMoM
import Derived.Deep.RegionWith
import Derived.Deep.RegionLaw
import Derived.Deep.RegionHeld3
namespace Go.Proofs.YtdafdffmkjhhcaaDoor
open Go Go.RowKit
set_option linter.unusedVariables false
set_option linter.unusedSimpArgs false
set_option maxRecDepth 100000

theorem step_append_atg {w : World} {ops : Array Oper} {o : Oper} {a : Act} {K : Act → World → Prop} {Q : Exit → Act → World → Prop} {E : Prop} (hw : Region.wanted o (yielded ops a.tmps) = true) (s x : Operand)
    (ho : o.op = .call { callee := .builtin .append, args := #[s, x], argTypes := #[22, 22] }) (base : Nat) (A : Option Addr) (N cA : Nat) (all : List Nat) (hs : a.eval s = .slice A N cA) (hown : Own 2 w base A N cA (ints all))
    (A2 : Option Addr) (m c2 : Nat) (ss : List Nat) (hx : a.eval x = .slice A2 m c2) (h2 : Rd w A2 m (ints ss)) (h63 : N + m ≤ maxLen) (hby : (N + m) * 8 ≤ 140737488355328) (hbase : base ≤ w.heap.size)
    (h : ∀ v' w', (∃ A' c', v' = .slice A' (N + m) c' ∧ Own 2 w' base A' (N + m) c' (ints (all ++ ss)) ∧ (A'.map (·.block) = A.map (·.block) ∨ A'.map (·.block) = some w.heap.size)) → w.grownBy w' (A.map (·.block)) → K (a.put o.dst v') w') :
    if Region.wanted o (yielded ops a.tmps) = true then Oper.wp Tryd.prog o a w K Q else E := by
  have h9 := step_append_at (ops := ops) (o := { o with guard := none }) (a := a) (K := K) (Q := Q) (E := E) rfl s x ho base A N cA all hs hown A2 m c2 ss hx h2 h63 hby hbase h
  have hw9 : Region.wanted { o with guard := none } (yielded ops a.tmps) = true := by simp [Region.wanted]
  rw [if_pos hw9] at h9
  rw [if_pos hw]
  exact h9
set_option maxHeartbeats 12800000 in
theorem l08Morphism_any (R1 R2 A : Option Addr) (n1 c1 n2 c2 c : Nat) (rs1 rs2 : List Nat) (ts : List (Option Addr × Nat × Nat × List Int)) (Ws : List (List Nat)) (w : World)
    (h1 : Rd w R1 n1 (ints rs1)) (h8 : n1 ≤ 8) (hr1 : ∀ i, rs1.getD i 0 < 2 ^ n1) (h2 : Rd w R2 n2 (ints rs2)) (h28 : n2 ≤ 8) (hr2 : ∀ i, rs2.getD i 0 < 2 ^ n2)
    (h : RdT w A n1 ts) (hW : ∀ k t, ts[k]? = some t → t.2.2.2 = ints (Ws.getD k [])) (hWw : ∀ W, W ∈ Ws → W.length ≤ 24 ∧ ∀ x, x ∈ W → x < n2) :
    Calls Tryd.prog 60 #[.agg #[.int .i64 (n1 : Int), .slice R1 n1 c1], .agg #[.int .i64 (n2 : Int), .slice R2 n2 c2], .slice A n1 c] w fun e w' => e = .returned (.bool (morB rs1 rs2 Ws)) ∧ Below w.heap.size w w' := by
  have HB := Lib.hid (below2 w (.cells #[.int .i64 (n1 : Int), .slice R1 n1 c1] 29) (.cells #[.int .i64 (n2 : Int), .slice R2 n2 c2] 29))
  have x0 := (box_new 29 w (n1 : Int) R1 n1 c1).next (below1 _ (.cells #[.int .i64 (n2 : Int), .slice R2 n2 c2] 29))
  have x1 := box_new 29 (w.alloc (.cells #[.int .i64 (n1 : Int), .slice R1 n1 c1] 29)) (n2 : Int) R2 n2 c2
  have hsz := size1' w (.cells #[.int .i64 (n1 : Int), .slice R1 n1 c1] 29)
  rw [hsz] at x1
  have hl1 : rs1.length = n1 := by have := h1.1; rw [ints_len] at this; exact this
  have HNO : Hid (∀ a b, a < n1 → b < n1 → RDep rs1 a b = false → acF rs2 (Ws.getD a []) (Ws.getD b []) = false → morB rs1 rs2 Ws = false) := Lib.hid (fun a b ha hb h3 h4 => morB_not rs1 rs2 Ws a b (by rw [hl1]; exact ha) (by rw [hl1]; exact hb) h3 h4)
  have HYES : Hid ((∀ a b, a < n1 → b < n1 → RDep rs1 a b = false → acF rs2 (Ws.getD a []) (Ws.getD b []) = true) → morB rs1 rs2 Ws = true) := Lib.hid (fun h9 => (morB_iff rs1 rs2 Ws).2 (by rw [hl1]; exact h9))
  have hh1 := h1.below HB.out
  have hh2 := h2.below HB.out
  have hh := h.below HB.out
  obtain ⟨w1, hw1⟩ : ∃ w1, w1 = (w.alloc (.cells #[.int .i64 (n1 : Int), .slice R1 n1 c1] 29)).alloc (.cells #[.int .i64 (n2 : Int), .slice R2 n2 c2] 29) := ⟨_, rfl⟩
  have HW1 := Lib.hid hw1
  rw [← hw1] at HB x0 x1 hh1 hh2 hh
  have HR1 := Lib.hid hr1
  have HR2 := Lib.hid hr2
  have HWT := Lib.hid hW
  have HWW := Lib.hid hWw
  clear hsz hw1 h h1 h2 hl1 hr1 hr2 hW hWw
  go_enter Tryd.func60, Tryd.ntmps60
  go_wp2_with fail
  rw [← HW1.out]
  go_loopw [7] (fun i wr => ∃ k : Nat, k ≤ n1 ∧ i = .int .i64 (k : Int) ∧ Below w1.heap.size w1 wr ∧ Hid (∀ a b, a < k → b < n1 → RDep rs1 a b = false → acF rs2 (Ws.getD a []) (Ws.getD b []) = true)) (fun i _ => n1 - (intOf i).toNat)
  case atStart => exact ⟨0, Nat.zero_le _, rfl, Below.refl _ _, Lib.hid (fun a b ha => absurd ha (Nat.not_lt_zero _))⟩
  case round =>
    obtain ⟨k, hk, rfl, hb0, HALL⟩ := hrel
    obtain ⟨wo, hwo⟩ : ∃ wo, wo = wr := ⟨_, rfl⟩
    rw [← hwo] at hb0 ⊢
    clear hwo
    have u0 := (x0.next hb0).c0
    by_cases hlt : k < n1
    · go_wp2_with fail
      go_loopw [8] (fun i wr => ∃ j : Nat, j ≤ n1 ∧ i = .int .i64 (j : Int) ∧ Below w1.heap.size w1 wr ∧ Hid (∀ b, b < j → RDep rs1 k b = false → acF rs2 (Ws.getD k []) (Ws.getD b []) = true)) (fun i _ => n1 - (intOf i).toNat)
      case atStart => exact ⟨0, Nat.zero_le _, rfl, hb0, Lib.hid (fun b hb => absurd hb (Nat.not_lt_zero _))⟩
      case round =>
        obtain ⟨j, hj, rfl, hb, HIN⟩ := hrel
        clear u0
        have u0 := (x0.next hb).c0
        by_cases hlt2 : j < n1
        · have hcur : Below wr.heap.size wr wr.drew := (Below.refl _ _).drew
          have hbd := hb.trans (hcur.mono hb.size)
          have u1 := (x0.next hbd).c0
          have u2 := (x0.next hbd).c1
          have HDP : Hid (∀ ww, Below wr.heap.size wr ww → Calls Tryd.prog 103 #[.agg #[.int .i64 (n1 : Int), .slice R1 n1 c1], .int .i64 (k : Int), .int .i64 (j : Int)] ww fun e w' => e = .returned (.bool (RDep rs1 k j)) ∧ Below ww.heap.size ww w') := Lib.hid (fun ww hw => dep_any (n1 : Int) R1 n1 c1 k j rs1 ww ((hh1.below hb).below hw) (by omega) HR1.out hlt hlt2)
          cases hdep : RDep rs1 k j
          · rw [hdep] at HDP
            have HDE := Lib.hid hdep
            obtain ⟨b, off, C, m, d, xs, rfl, hbs, hts, hcell, hr2, hq⟩ := (hh.below hb).at_ hlt
            obtain ⟨b', off', C', q', d', xs', e6, hbs', hts', hcell', hr3, hq'⟩ := (hh.below hb).at_ hlt2
            injection e6 with e6
            injection e6 with e7 e8
            subst e7 e8
            have hx1 : xs = ints (Ws.getD k []) := HWT.out k _ hts
            have hx2 : xs' = ints (Ws.getD j []) := HWT.out j _ hts'
            obtain ⟨vs, hvs⟩ : ∃ vs, vs = Ws.getD k [] := ⟨_, rfl⟩
            obtain ⟨ys, hys⟩ : ∃ ys, ys = Ws.getD j [] := ⟨_, rfl⟩
            have hv9 := lm_at HWW.out k
            have hy9 := lm_at HWW.out j
            rw [← hvs] at hx1 hv9
            rw [← hys] at hx2 hy9
            subst hx1 hx2
            have hm1 : vs.length = m := by have := hr2.1; rw [ints_len] at this; exact this
            have hq1 : ys.length = q' := by have := hr3.1; rw [ints_len] at this; exact this
            have hm24 : m ≤ 24 := by omega
            have hq24 : q' ≤ 24 := by omega
            have HVN := Lib.hid hv9.2
            have HYN := Lib.hid hy9.2
            have HVS := Lib.hid hvs
            have HYS := Lib.hid hys
            have HKA : Hid (∀ ww, Below wr.heap.size wr ww → ww.cell? ⟨b, off + k, none⟩ = some (.slice C m d)) := Lib.hid (fun ww hw => (hw.cell (p := ⟨b, off + k, none⟩) hbs).trans hcell)
            have HKB : Hid (∀ ww, Below wr.heap.size wr ww → ww.cell? ⟨b, off + j, none⟩ = some (.slice C' q' d')) := Lib.hid (fun ww hw => (hw.cell (p := ⟨b, off + j, none⟩) hbs).trans hcell')
            have hml : m + q' ≤ maxLen := by unfold maxLen; omega
            have hml2 : q' + m ≤ maxLen := by unfold maxLen; omega
            have hby : (m + q') * 8 ≤ 140737488355328 := by omega
            have hby2 : (q' + m) * 8 ≤ 140737488355328 := by omega
            have HO1 : Hid (∀ ww, Below wr.heap.size wr ww → Calls Tryd.prog 80 #[.slice C m d] ww (MakesE 2 ww m (ints vs))) := Lib.hid fun ww hw => own_any C m d (ints vs) ww (hr2.below hw) (by omega)
            have HO2 : Hid (∀ ww, Below wr.heap.size wr ww → Calls Tryd.prog 80 #[.slice C' q' d'] ww (MakesE 2 ww q' (ints ys))) := Lib.hid fun ww hw => own_any C' q' d' (ints ys) ww (hr3.below hw) (by omega)
            have HSM : Hid (∀ ww A3 c3 A4 c4, Below wr.heap.size wr ww → Rd ww A3 (m + q') (ints (vs ++ ys)) → Rd ww A4 (q' + m) (ints (ys ++ vs)) → Calls Tryd.prog 104 #[.agg #[.int .i64 (n2 : Int), .slice R2 n2 c2], .slice A3 (m + q') c3, .slice A4 (q' + m) c4] ww fun e w' => e = .returned (.bool (acF rs2 vs ys)) ∧ Below ww.heap.size ww w') := Lib.hid fun ww A3 c3 A4 c4 hw h3 h4 =>
              l03SameW_any R2 A3 A4 n2 c2 (m + q') c3 (q' + m) c4 rs2 (vs ++ ys) (ys ++ vs) ww ((hh2.below hb).below hw) (by omega) HR2.out h3 (by omega) h4 (by omega) (fun x hx => (List.mem_append.1 hx).elim (HVN.out x) (HYN.out x)) (fun x hx => (List.mem_append.1 hx).elim (HYN.out x) (HVN.out x))
            clear hdep hts hts' hcell hcell' hm1 hq1 hv9 hy9 hvs hys hq hq' hbs' hbd
            obtain ⟨V, hV⟩ : ∃ V, V = acF rs2 vs ys := ⟨_, rfl⟩
            have HV : Hid (V = acF rs2 (Ws.getD k []) (Ws.getD j [])) := Lib.hid (by rw [hV, HVS.out, HYS.out])
            rw [← hV] at HSM
            clear hV
            go_wp2_with fail
            go_upto_region 7 with fail
            go_cut [50] from 21 to 50 (fun v wx => v = .bool (!V) ∧ Below wr.heap.size wr wx)
            case first =>
              have HS9 : Hid (∀ ww, Below wr.heap.size wr ww → ww.cell? ⟨w.heap.size, 0, none⟩ = some (.int .i64 (n1 : Int)) ∧ ww.cell? ⟨w.heap.size, 1, none⟩ = some (.slice R1 n1 c1) ∧ ww.cell? ⟨w.heap.size + 1, 0, none⟩ = some (.int .i64 (n2 : Int)) ∧ ww.cell? ⟨w.heap.size + 1, 1, none⟩ = some (.slice R2 n2 c2) ∧ ww.cell? ⟨b, off + k, none⟩ = some (.slice C m d) ∧ ww.cell? ⟨b, off + j, none⟩ = some (.slice C' q' d')) := Lib.hid (fun ww hw => ⟨(x0.next (hb.trans (hw.mono hb.size))).c0, (x0.next (hb.trans (hw.mono hb.size))).c1, (x1.next (hb.trans (hw.mono hb.size))).c0, (x1.next (hb.trans (hw.mono hb.size))).c1, HKA.out _ hw, HKB.out _ hw⟩)
              have hcd := HS9.out _ hcur
              clear u0 u1 u2
              go_region_held3 (fun w' => w'.cell? ⟨w.heap.size, 0, none⟩ = some (.int .i64 (n1 : Int)) ∧ w'.cell? ⟨w.heap.size, 1, none⟩ = some (.slice R1 n1 c1) ∧ w'.cell? ⟨w.heap.size + 1, 0, none⟩ = some (.int .i64 (n2 : Int)) ∧ w'.cell? ⟨w.heap.size + 1, 1, none⟩ = some (.slice R2 n2 c2) ∧ w'.cell? ⟨b, off + k, none⟩ = some (.slice C m d) ∧ w'.cell? ⟨b, off + j, none⟩ = some (.slice C' q' d')) (first | exact hcd | exact HS9.out _ hcur | go_keep) (first
                | (go_at_call 103; (with_reducible refine (HDP.out _ hcur).mono ?_); rintro e wd ⟨rfl, hbd⟩; have hcz := hcur.size; have hcur := hcur.trans (hbd.mono hcz))
                | (go_at_call 80; first
                    | ((with_reducible refine (HO1.out _ hcur).mono ?_); rintro e wa ⟨Aa, ca, rfl, oa, hba⟩; have hcz := hcur.size; have hcur := hcur.trans (hba.mono hcz); have oa := oa.mono hcz; obtain ⟨ba, hA⟩ : ∃ b, b = Aa.map (·.block) := ⟨_, rfl⟩)
                    | ((with_reducible refine (HO2.out _ hcur).mono ?_); rintro e wb ⟨Ab, cb, rfl, ob, hbb⟩; obtain ⟨bb, hB⟩ : ∃ b, b = Ab.map (·.block) := ⟨_, rfl⟩; have hsep : ∀ k, bb = some k → ba ≠ some k := fun k h1 h2 => (by have h3 := (ob.lt k (hB.symm.trans h1)).1; have h4 := (oa.lt k (hA.symm.trans h2)).2; omega); have oa := oa.below hbb; have hcz := hcur.size; have hcur := hcur.trans (hbb.mono hcz); have ob := ob.mono hcz))
                | (refine step_append_atg (by go_simp) (.tmp 32) (.tmp 36) rfl wr.heap.size Aa m ca vs (by go_simp) oa C' q' d' ys (by go_simp) (hr3.below hcur) hml hby hcur.size ?_; rintro v3 wc ⟨Ac, cc, rfl, oc, hatc⟩ hgc; have hold := oa.lt; have hgr := hcur.grown hgc hcur.size (fun k e9 => (hold k e9).1); (try have obx := ob.apart hgc (fun k h1 h2 => hsep k (hB.trans h1) (hA.trans h2))); obtain ⟨ba, hA2⟩ : ∃ b, b = Ac.map (·.block) := ⟨_, rfl⟩; (try have hsx : ∀ k, bb = some k → ba ≠ some k := fun k h1 h2 => (by rcases hatc with h3 | h3 <;> rw [← hA2] at h3 <;> first | (rw [← hA] at h3; exact hsep k h1 (h3.symm.trans h2)) | (rw [h3] at h2; injection h2 with h2; have h4 := (ob.lt k (hB.symm.trans h1)).2; omega))); (try have hsep := hsx); (try have ob := obx); have hA := hA2; have oa := oc; have hcur := hgr)
                | (refine step_append_atg (by go_simp) (.tmp 42) (.tmp 46) rfl wr.heap.size Ab q' cb ys (by go_simp) ob C m d vs (by go_simp) (hr2.below hcur) hml2 hby2 hcur.size ?_; rintro v4 we ⟨Ae, ce, rfl, oe, hate⟩ hge; have hold := ob.lt; have hgr := hcur.grown hge hcur.size (fun k e9 => (hold k e9).1); have oax := oa.apart hge (fun k h1 h2 => hsep k (hB.trans h2) (hA.trans h1)); obtain ⟨bb, hB2⟩ : ∃ b, b = Ae.map (·.block) := ⟨_, rfl⟩; have hsx : ∀ k, bb = some k → ba ≠ some k := fun k h1 h2 => (by rcases hate with h3 | h3 <;> rw [← hB2] at h3 <;> first | (rw [← hB] at h3; exact hsep k (h3.symm.trans h1) h2) | (rw [h3] at h1; injection h1 with h1; have h4 := (oa.lt k (hA.symm.trans h2)).2; omega)); have hsep := hsx; have hB := hB2; have oa := oax; have ob := oe; have hcur := hgr)
                | (go_at_call 104; refine (HSM.out _ _ _ _ _ hcur oa.rd ob.rd).mono ?_; rintro e w4 ⟨rfl, hb4⟩; have hcz := hcur.size; have hcur := hcur.trans (hb4.mono hcz)))
              all_goals (
                go_wp2_with fail
                go_meet
                exact ⟨rfl, hcur⟩)
            case rest =>
              obtain ⟨rfl, hb14⟩ := hcut
              have hb15 := hb.trans (hb14.mono hb.size)
              have v0 := (x0.next hb15).c0
              cases V
              · have HF : Hid (morB rs1 rs2 Ws = false) := Lib.hid (HNO.out k j hlt hlt2 HDE.out HV.out.symm)
                go_wp2_with fail
                go_ret
                exact ⟨ret_b _ _ HF.out.symm, HB.out.trans (hb15.mono HB.out.size)⟩
              · go_wp2_with fail
                go_roundw
                case rel => exact ⟨j + 1, hlt2, by go_num, hb15, Lib.hid (fun b hb hd => by
                  by_cases e : b = j
                  · subst e; exact HV.out.symm
                  · exact HIN.out b (by omega) hd)⟩
                case measure => simp [intOf]; omega
          · rw [hdep] at HDP
            have HDE := Lib.hid hdep
            clear hdep
            have HKP : Hid (∀ ww, Below wr.heap.size wr ww → ww.cell? ⟨w.heap.size, 0, none⟩ = some (.int .i64 (n1 : Int)) ∧ ww.cell? ⟨w.heap.size, 1, none⟩ = some (.slice R1 n1 c1)) := Lib.hid (fun ww hw => ⟨(x0.next (hb.trans (hw.mono hb.size))).c0, (x0.next (hb.trans (hw.mono hb.size))).c1⟩)
            have kd := HKP.out _ hcur
            clear u1 u2
            go_wp2_with fail
            refine wp_region_held_drew (S := (fun ww => ww.cell? ⟨w.heap.size, 0, none⟩ = some (.int .i64 (n1 : Int)) ∧ ww.cell? ⟨w.heap.size, 1, none⟩ = some (.slice R1 n1 c1))) (by kernel_rfl) kd (fun hHeld => ?_)
            refine wpAnyH_take (i := 0) (oi := ⟨some 21, _, _, _, _, _⟩) (v := ?_) rfl (by kernel_rfl) (by kernel_rfl) (by kernel_rfl) (fun _ _ _ h => h) (Or.inl ⟨by kernel_rfl, ?_⟩) (by assumption) ?_
            rotate_left
            · (intro w9 hS9; (try dsimp only at hS9); go_simp; try with_reducible rfl)
            simp only [Act.put, List.setIfInBounds_toArray, List.set_cons_zero, List.set_cons_succ]
            refine wpAnyH_take (i := 1) (oi := ⟨some 22, _, _, _, _, _⟩) (v := ?_) rfl (by kernel_rfl) (by kernel_rfl) (by kernel_rfl) (fun _ _ _ h => h) (Or.inl ⟨by kernel_rfl, ?_⟩) (by assumption) ?_
            rotate_left
            · (intro w9 hS9; (try dsimp only at hS9); go_simp; try with_reducible rfl)
            simp only [Act.put, List.setIfInBounds_toArray, List.set_cons_zero, List.set_cons_succ]
            refine wpAnyH_take (i := 2) (oi := ⟨some 23, _, _, _, _, _⟩) (v := ?_) rfl (by kernel_rfl) (by kernel_rfl) (by kernel_rfl) (fun _ _ _ h => h) (Or.inl ⟨by kernel_rfl, ?_⟩) (by assumption) ?_
            rotate_left
            · (intro w9 hS9; (try dsimp only at hS9); go_simp; try with_reducible rfl)
            simp only [Act.put, List.setIfInBounds_toArray, List.set_cons_zero, List.set_cons_succ]
            refine wpAnyH_ready (rs := [3]) (by kernel_rfl) (by simp) ?_
            refine AllReadyH.cons (o := _) rfl (fun K hK => ?_) AllReadyH.nil
            go_simp
            go_at_call 103
            with_reducible refine (HDP.out _ hcur).mono ?_
            rintro e wF ⟨rfl, bF⟩
            have hF := hcur.trans (bF.mono hcur.size)
            have kf := HKP.out _ hF
            go_wp2_with fail
            refine hK.out _ _ kf (fun hHeldwF => ?_)
            clear hK K
            try simp only [Act.put, List.setIfInBounds_toArray, List.set_cons_zero, List.set_cons_succ]
            refine wpAnyH_take (i := 4) (oi := ⟨some 25, _, _, _, _, _⟩) (v := ?_) rfl (by kernel_rfl) (by kernel_rfl) (by kernel_rfl) (fun _ _ _ h => h) (Or.inl ⟨by kernel_rfl, ?_⟩) (by assumption) ?_
            rotate_left
            · (intro w9 hS9; (try dsimp only at hS9); go_simp; try with_reducible rfl)
            simp only [Act.put, List.setIfInBounds_toArray, List.set_cons_zero, List.set_cons_succ]
            refine wpAnyH_take (i := 5) (oi := ⟨some 26, _, _, _, _, _⟩) (v := ?_) rfl (by kernel_rfl) (by kernel_rfl) (by kernel_rfl) (fun _ _ _ h => h) (Or.inl ⟨by kernel_rfl, ?_⟩) (by assumption) ?_
            rotate_left
            · (intro w9 hS9; (try dsimp only at hS9); go_simp; try with_reducible rfl)
            simp only [Act.put, List.setIfInBounds_toArray, List.set_cons_zero, List.set_cons_succ]
            refine wpAnyH_take (i := 6) (oi := ⟨some 27, _, _, _, _, _⟩) (v := undef) rfl (by kernel_rfl) (by kernel_rfl) (by kernel_rfl) (fun _ _ _ h => h) (Or.inr ⟨by kernel_rfl, rfl⟩) (by assumption) ?_
            simp only [Act.put, List.setIfInBounds_toArray, List.set_cons_zero, List.set_cons_succ]
            refine wpAnyH_take (i := 7) (oi := ⟨some 28, _, _, _, _, _⟩) (v := undef) rfl (by kernel_rfl) (by kernel_rfl) (by kernel_rfl) (fun _ _ _ h => h) (Or.inr ⟨by kernel_rfl, rfl⟩) (by assumption) ?_
            simp only [Act.put, List.setIfInBounds_toArray, List.set_cons_zero, List.set_cons_succ]
            refine wpAnyH_take (i := 8) (oi := ⟨some 29, _, _, _, _, _⟩) (v := undef) rfl (by kernel_rfl) (by kernel_rfl) (by kernel_rfl) (fun _ _ _ h => h) (Or.inr ⟨by kernel_rfl, rfl⟩) (by assumption) ?_
            simp only [Act.put, List.setIfInBounds_toArray, List.set_cons_zero, List.set_cons_succ]
            refine wpAnyH_take (i := 9) (oi := ⟨some 30, _, _, _, _, _⟩) (v := undef) rfl (by kernel_rfl) (by kernel_rfl) (by kernel_rfl) (fun _ _ _ h => h) (Or.inr ⟨by kernel_rfl, rfl⟩) (by assumption) ?_
            simp only [Act.put, List.setIfInBounds_toArray, List.set_cons_zero, List.set_cons_succ]
            refine wpAnyH_take (i := 10) (oi := ⟨some 31, _, _, _, _, _⟩) (v := undef) rfl (by kernel_rfl) (by kernel_rfl) (by kernel_rfl) (fun _ _ _ h => h) (Or.inr ⟨by kernel_rfl, rfl⟩) (by assumption) ?_
            simp only [Act.put, List.setIfInBounds_toArray, List.set_cons_zero, List.set_cons_succ]
            refine wpAnyH_take (i := 11) (oi := ⟨some 32, _, _, _, _, _⟩) (v := undef) rfl (by kernel_rfl) (by kernel_rfl) (by kernel_rfl) (fun _ _ _ h => h) (Or.inr ⟨by kernel_rfl, rfl⟩) (by assumption) ?_
            simp only [Act.put, List.setIfInBounds_toArray, List.set_cons_zero, List.set_cons_succ]
            refine wpAnyH_take (i := 12) (oi := ⟨some 33, _, _, _, _, _⟩) (v := undef) rfl (by kernel_rfl) (by kernel_rfl) (by kernel_rfl) (fun _ _ _ h => h) (Or.inr ⟨by kernel_rfl, rfl⟩) (by assumption) ?_
            simp only [Act.put, List.setIfInBounds_toArray, List.set_cons_zero, List.set_cons_succ]
            refine wpAnyH_take (i := 13) (oi := ⟨some 34, _, _, _, _, _⟩) (v := undef) rfl (by kernel_rfl) (by kernel_rfl) (by kernel_rfl) (fun _ _ _ h => h) (Or.inr ⟨by kernel_rfl, rfl⟩) (by assumption) ?_
            simp only [Act.put, List.setIfInBounds_toArray, List.set_cons_zero, List.set_cons_succ]
            refine wpAnyH_take (i := 14) (oi := ⟨some 35, _, _, _, _, _⟩) (v := undef) rfl (by kernel_rfl) (by kernel_rfl) (by kernel_rfl) (fun _ _ _ h => h) (Or.inr ⟨by kernel_rfl, rfl⟩) (by assumption) ?_
            simp only [Act.put, List.setIfInBounds_toArray, List.set_cons_zero, List.set_cons_succ]
            refine wpAnyH_take (i := 15) (oi := ⟨some 36, _, _, _, _, _⟩) (v := undef) rfl (by kernel_rfl) (by kernel_rfl) (by kernel_rfl) (fun _ _ _ h => h) (Or.inr ⟨by kernel_rfl, rfl⟩) (by assumption) ?_
            simp only [Act.put, List.setIfInBounds_toArray, List.set_cons_zero, List.set_cons_succ]
            refine wpAnyH_take (i := 16) (oi := ⟨some 37, _, _, _, _, _⟩) (v := undef) rfl (by kernel_rfl) (by kernel_rfl) (by kernel_rfl) (fun _ _ _ h => h) (Or.inr ⟨by kernel_rfl, rfl⟩) (by assumption) ?_
            simp only [Act.put, List.setIfInBounds_toArray, List.set_cons_zero, List.set_cons_succ]
            refine wpAnyH_take (i := 17) (oi := ⟨some 38, _, _, _, _, _⟩) (v := undef) rfl (by kernel_rfl) (by kernel_rfl) (by kernel_rfl) (fun _ _ _ h => h) (Or.inr ⟨by kernel_rfl, rfl⟩) (by assumption) ?_
            simp only [Act.put, List.setIfInBounds_toArray, List.set_cons_zero, List.set_cons_succ]
            refine wpAnyH_take (i := 18) (oi := ⟨some 39, _, _, _, _, _⟩) (v := undef) rfl (by kernel_rfl) (by kernel_rfl) (by kernel_rfl) (fun _ _ _ h => h) (Or.inr ⟨by kernel_rfl, rfl⟩) (by assumption) ?_
            simp only [Act.put, List.setIfInBounds_toArray, List.set_cons_zero, List.set_cons_succ]
            refine wpAnyH_take (i := 19) (oi := ⟨some 40, _, _, _, _, _⟩) (v := undef) rfl (by kernel_rfl) (by kernel_rfl) (by kernel_rfl) (fun _ _ _ h => h) (Or.inr ⟨by kernel_rfl, rfl⟩) (by assumption) ?_
            simp only [Act.put, List.setIfInBounds_toArray, List.set_cons_zero, List.set_cons_succ]
            refine wpAnyH_take (i := 20) (oi := ⟨some 41, _, _, _, _, _⟩) (v := undef) rfl (by kernel_rfl) (by kernel_rfl) (by kernel_rfl) (fun _ _ _ h => h) (Or.inr ⟨by kernel_rfl, rfl⟩) (by assumption) ?_
            simp only [Act.put, List.setIfInBounds_toArray, List.set_cons_zero, List.set_cons_succ]
            refine wpAnyH_take (i := 21) (oi := ⟨some 42, _, _, _, _, _⟩) (v := undef) rfl (by kernel_rfl) (by kernel_rfl) (by kernel_rfl) (fun _ _ _ h => h) (Or.inr ⟨by kernel_rfl, rfl⟩) (by assumption) ?_
            simp only [Act.put, List.setIfInBounds_toArray, List.set_cons_zero, List.set_cons_succ]
            refine wpAnyH_take (i := 22) (oi := ⟨some 43, _, _, _, _, _⟩) (v := undef) rfl (by kernel_rfl) (by kernel_rfl) (by kernel_rfl) (fun _ _ _ h => h) (Or.inr ⟨by kernel_rfl, rfl⟩) (by assumption) ?_
            simp only [Act.put, List.setIfInBounds_toArray, List.set_cons_zero, List.set_cons_succ]
            refine wpAnyH_take (i := 23) (oi := ⟨some 44, _, _, _, _, _⟩) (v := undef) rfl (by kernel_rfl) (by kernel_rfl) (by kernel_rfl) (fun _ _ _ h => h) (Or.inr ⟨by kernel_rfl, rfl⟩) (by assumption) ?_
            simp only [Act.put, List.setIfInBounds_toArray, List.set_cons_zero, List.set_cons_succ]
            refine wpAnyH_take (i := 24) (oi := ⟨some 45, _, _, _, _, _⟩) (v := undef) rfl (by kernel_rfl) (by kernel_rfl) (by kernel_rfl) (fun _ _ _ h => h) (Or.inr ⟨by kernel_rfl, rfl⟩) (by assumption) ?_
            simp only [Act.put, List.setIfInBounds_toArray, List.set_cons_zero, List.set_cons_succ]
            refine wpAnyH_take (i := 25) (oi := ⟨some 46, _, _, _, _, _⟩) (v := undef) rfl (by kernel_rfl) (by kernel_rfl) (by kernel_rfl) (fun _ _ _ h => h) (Or.inr ⟨by kernel_rfl, rfl⟩) (by assumption) ?_
            simp only [Act.put, List.setIfInBounds_toArray, List.set_cons_zero, List.set_cons_succ]
            refine wpAnyH_take (i := 26) (oi := ⟨some 47, _, _, _, _, _⟩) (v := undef) rfl (by kernel_rfl) (by kernel_rfl) (by kernel_rfl) (fun _ _ _ h => h) (Or.inr ⟨by kernel_rfl, rfl⟩) (by assumption) ?_
            simp only [Act.put, List.setIfInBounds_toArray, List.set_cons_zero, List.set_cons_succ]
            refine wpAnyH_take (i := 27) (oi := ⟨some 48, _, _, _, _, _⟩) (v := undef) rfl (by kernel_rfl) (by kernel_rfl) (by kernel_rfl) (fun _ _ _ h => h) (Or.inr ⟨by kernel_rfl, rfl⟩) (by assumption) ?_
            simp only [Act.put, List.setIfInBounds_toArray, List.set_cons_zero, List.set_cons_succ]
            refine wpAnyH_take (i := 28) (oi := ⟨some 49, _, _, _, _, _⟩) (v := undef) rfl (by kernel_rfl) (by kernel_rfl) (by kernel_rfl) (fun _ _ _ h => h) (Or.inr ⟨by kernel_rfl, rfl⟩) (by assumption) ?_
            simp only [Act.put, List.setIfInBounds_toArray, List.set_cons_zero, List.set_cons_succ]
            refine wpAnyH_take (i := 29) (oi := ⟨some 50, _, _, _, _, _⟩) (v := ?_) rfl (by kernel_rfl) (by kernel_rfl) (by kernel_rfl) (fun _ _ _ h => h) (Or.inl ⟨by kernel_rfl, ?_⟩) (by assumption) ?_
            rotate_left
            · (intro w9 hS9; (try dsimp only at hS9); go_simp; try with_reducible rfl)
            simp only [Act.put, List.setIfInBounds_toArray, List.set_cons_zero, List.set_cons_succ]
            refine wpAnyH_done (by kernel_rfl) ?_ _
            have hb15 := hb.trans (hF.mono hb.size)
            have v0 := (x0.next hb15).c0
            clear hHeld hHeldwF kd kf
            go_wp2_with fail
            go_roundw
            case rel => exact ⟨j + 1, hlt2, by go_num, hb15, Lib.hid (fun b hb hd => by
              by_cases e : b = j
              · subst e; rw [HDE.out] at hd; cases hd
              · exact HIN.out b (by omega) hd)⟩
            case measure => simp [intOf]; omega
        · obtain rfl : j = n1 := by omega
          have HKK : Hid (∀ a b, a < k + 1 → b < j → RDep rs1 a b = false → acF rs2 (Ws.getD a []) (Ws.getD b []) = true) := Lib.hid (fun a b ha hb hd => by
            by_cases e : a = k
            · subst e; exact HIN.out b hb hd
            · exact HALL.out a b (by omega) hb hd)
          go_wp2_with fail
          go_roundw
          case rel => exact ⟨k + 1, by omega, by go_num, hb, HKK⟩
          case measure => simp [intOf]; omega
    · obtain rfl : k = n1 := by omega
      have HF := Lib.hid (HYES.out HALL.out)
      go_wp2_with fail
      go_ret
      exact ⟨ret_b _ _ HF.out.symm, HB.out.trans (hb0.mono HB.out.size)⟩
end Go.Proofs.YtdafdffmkjhhcaaDoor
