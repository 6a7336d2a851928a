/-
  The dependence of the numbers of signed letters; signed words of an alphabet: the program's side.
-/
import Derived.Test.YtdafdffmkjhhcaaDoorGrR
import Derived.Deep.RegionLaw
import Derived.Deep.AppendLies
namespace Go.Proofs.YtdafdffmkjhhcaaDoor
open Go Go.RowKit
set_option linter.unusedVariables false
set_option linter.unusedSimpArgs false
set_option maxRecDepth 100000

theorem made_set2 (S : Int) : [S, S].map (Value.int .i64) = [.int .i64 S, .int .i64 S] := rfl
set_option maxHeartbeats 3200000 in
theorem relSigned_any (A : Option Addr) (n c : Nat) (rs : List Nat) (w : World) (h : Rd w A n (ints rs)) (h8 : n ≤ 8) (hl : rs.length = n) (hr : ∀ i, rs.getD i 0 < 2 ^ n) (hT : Tab w) :
    Calls Tryd.prog 123 #[.slice A n c] w fun e w' => ∃ A' c', e = .returned (.agg #[.slice A' (2 * n) c']) ∧ Own 77 w' w.heap.size A' (2 * n) c' (ints (dblR rs)) ∧ Below w.heap.size w w' := by
  have mixed : Tryd.prog.follows .mixedOrders = true := by kernel_rfl
  obtain ⟨i0, hi, hz0, hz1, hz2⟩ := info_parts info_set
  have HL := Lib.hid hl
  have HFU := Lib.hid (dblK_full rs n hl h8 hr)
  have HR8 : Hid (∀ i, rs.getD i 0 < 256) := Lib.hid (fun i => Nat.lt_of_lt_of_le (hr i) (by rw [show 256 = 2 ^ 8 by decide]; exact Nat.pow_le_pow_right (by decide) h8))
  clear hl hr
  have HB2 := Lib.hid (below2 w (.cells #[.slice none 0 0] 93) (.cells #[.slice none 0 0] 93))
  have b0 : Boxed ((w.alloc (.cells #[.slice none 0 0] 93)).alloc (.cells #[.slice none 0 0] 93)) w.heap.size 93 (.slice none 0 0) := (Boxed.new w 93 (.slice none 0 0)).alloc _
  have b1 : Boxed ((w.alloc (.cells #[.slice none 0 0] 93)).alloc (.cells #[.slice none 0 0] 93)) (w.heap.size + 1) 93 (.slice none 0 0) := by have := Boxed.new (w.alloc (.cells #[.slice none 0 0] 93)) 93 (.slice none 0 0); rwa [World.size_alloc] at this
  go_enter Tryd.func123, Tryd.ntmps123
  go_wp2_with fail
  obtain ⟨wA, hwA⟩ : ∃ wA, wA = (w.alloc (.cells #[.slice none 0 0] 93)).alloc (.cells #[.slice none 0 0] 93) := ⟨_, rfl⟩
  rw [← hwA] at HB2 b0 b1 ⊢
  clear hwA
  go_loopw [8] (fun i wr => ∃ (k : Nat) (A1 : Option Addr) (c1 : Nat), k ≤ n ∧ i = .int .i64 k ∧ Boxed wr w.heap.size 93 (.slice none 0 0) ∧ Boxed wr (w.heap.size + 1) 93 (.slice A1 (2 * k) c1) ∧ Own 77 wr (w.heap.size + 1 + 1) A1 (2 * k) c1 (ints (dblK rs k)) ∧ Below w.heap.size w wr) (fun i _ => n - (intOf i).toNat)
  case atStart => exact ⟨0, none, 0, Nat.zero_le _, rfl, b0, b1, Own.nil _ _ _, HB2.out⟩
  case round =>
    clear b0 b1
    obtain ⟨k, A1, c1, hk, rfl, rb, gb, ho, hb⟩ := hrel
    by_cases hlt : k < n
    · obtain ⟨bb, off, x0, eA, hbs, hx0, hcx⟩ := (h.below hb).at_ hlt
      rw [ints_getD rs k (by rw [HL.out]; exact hlt)] at hx0
      injection hx0 with hx0
      have HSG : Hid (∀ ww : World, Below wr.heap.size wr ww → Calls Tryd.prog 158 #[.int .i64 ((rs.getD k 0 : Nat) : Int)] ww fun e w' => e = .returned (.int .i64 ((sgL (bitsOf (rs.getD k 0)) : Nat) : Int)) ∧ Below ww.heap.size ww w') := Lib.hid (fun ww hw => setSigned_any _ (HR8.out k) ww ((hT.below hb).below hw))
      have HNX : Hid (ints (dblK rs (k + 1)) = ints (dblK rs k) ++ [((sgL (bitsOf (rs.getD k 0)) : Nat) : Int), ((sgL (bitsOf (rs.getD k 0)) : Nat) : Int)]) := Lib.hid (by rw [dblK_next]; unfold ints; rw [List.map_append]; rfl)
      obtain ⟨x, hx⟩ : ∃ x, x = rs.getD k 0 := ⟨_, rfl⟩
      rw [← hx] at hx0 HSG HNX
      obtain ⟨S, hS⟩ : ∃ S, S = sgL (bitsOf x) := ⟨_, rfl⟩
      rw [← hS] at HSG HNX
      subst hx0 eA
      clear hx hS
      have hml : 2 * k + 2 ≤ maxLen := by unfold maxLen; omega
      have hby2 : (2 * k + 2) * 8 ≤ 140737488355328 := by omega
      have hC : Below wr.heap.size wr wr.drew := (Below.refl _ _).drew
      have HLS : Hid (w.heap.size + 1 < wr.heap.size) := Lib.hid gb.lt
      have gc := gb.cell
      go_wp2_with fail
      go_region_law (first
        | (refine step_append_own' (by rfl) _ _ _ (by rfl) (w.heap.size + 1 + 1) 77 i0 _ 1 8 Tryd.underlying66 hi hz0 hz1 hz2 rfl (by omega) (.slice A1 (2 * k) c1) (2 * k) ((ints (dblK rs k)).map (Value.int .i64)) (by rfl) (World.ownsRow.alloc (ho.below hC) _) ⟨wq.heap.size, 0, none⟩ 2 2 [.int .i64 (S : Int), .int .i64 (S : Int)] (by rfl) (by rfl) (World.news_of_block (cs := #[.int .i64 (S : Int), .int .i64 (S : Int)]) (t := 77) (fr := (0, 0)) (heap_alloc_new wq _)) (by simp [Value.oneCell']) hml hby2 (by have := hC.size; have := HLS.out; simp; omega) ?_; intro v3 w3 hown hg; obtain ⟨A2, c2, hv, ho3⟩ := own_shape (xs := ints (dblK rs k) ++ [(S : Int), (S : Int)]) (by rw [List.map_append]; exact hown); subst hv; have gb3 : Boxed w3 (w.heap.size + 1) 93 (.slice A1 (2 * k) c1) := (Boxed.alloc (show Boxed wq (w.heap.size + 1) 93 (.slice A1 (2 * k) c1) from (hC.block _ HLS.out).trans gb) _).kept hg (fun e9 => by have := (ho.lt _ (ownBlock_map' e9.symm)).1; omega); have gc3 := gb3.cell; have gf3 := gb3.frozen; have HG3 := Lib.hid hg; have HC3 := Lib.hid hC; clear hown hg)
        | (go_simp; have hh7 := HSG.out _ hC; (with_reducible refine hh7.mono ?_); rintro e wq ⟨rfl, hq⟩; have hC := hC.trans (hq.mono hC.size); have gc : wq.cell? ⟨w.heap.size + 1, 0, none⟩ = some (.slice A1 (2 * k) c1) := Boxed.cell (t := 93) ((hC.block _ HLS.out).trans gb); have gcl : ∀ o : Obj, (wq.alloc o).cell? ⟨w.heap.size + 1, 0, none⟩ = some (.slice A1 (2 * k) c1) := fun o => Boxed.cell (t := 93) (Boxed.alloc ((hC.block _ HLS.out).trans gb) o)))
      all_goals
        have hBq := HC3.out
        have rb3 : Boxed w3 w.heap.size 93 (.slice none 0 0) := (Boxed.alloc (show Boxed wq w.heap.size 93 (.slice none 0 0) from (hBq.block _ (by have := HLS.out; omega)).trans rb) _).kept HG3.out (fun e9 => by have := (ho.lt _ (ownBlock_map' e9.symm)).1; omega)
        have hb3 : Below w.heap.size w w3 := ((hb.trans (hBq.mono hb.size)).alloc (hb.trans (hBq.mono hb.size)).size _).grown HG3.out (by have := (hb.trans (hBq.mono hb.size)).size; simp; omega) (fun r hr => by have h9 := (ho.lt _ (ownBlock_map' hr)).1; omega)
        have gb4 := gb3.set (.slice A2 (2 * k + 2) c2)
        have rb4 : Boxed (w3.setCell ⟨w.heap.size + 1, 0, none⟩ (.slice A2 (2 * k + 2) c2)) w.heap.size 93 (.slice none 0 0) := (Below.heap_setCell w3 _ _ _ (fun e => by have e' : w.heap.size = w.heap.size + 1 := e; omega)).trans rb3
        have ho4 := own_other ho3 (w.heap.size + 1) 0 (.slice A2 (2 * k + 2) c2) (fun q hq => by have := (ho3.lt q hq).1; omega)
        have hb4 := hb3.setCell (p := ⟨w.heap.size + 1, 0, none⟩) (Nat.le_succ _) (.slice A2 (2 * k + 2) c2)
        rw [← HNX.out] at ho4
        clear gc3 gf3 gc
        go_wp2_with fail
        go_roundw
        case rel => exact ⟨k + 1, A2, c2, by omega, by go_num, rb4, gb4, ho4, hb4⟩
        case measure => simp [intOf]; omega
    · have hkn : k = n := by omega
      subst hkn
      rw [HFU.out] at ho
      have rc := rb.cell
      have rf := rb.frozen
      have gc := gb.cell
      go_wp2_with fail
      refine ret_gen (fun W => Boxed W w.heap.size 93 (.slice A1 (2 * k) c1) ∧ Own 77 W w.heap.size A1 (2 * k) c1 (ints (dblR rs)) ∧ Below w.heap.size w W) ⟨rb.set _, own_other (ho.mono (by omega)) _ _ _ (fun q hq => by have := (ho.lt q hq).1; omega), hb.setCell (p := ⟨w.heap.size, 0, none⟩) (Nat.le_refl _) _⟩ ?_
      rintro W ⟨x, o, b⟩
      have e0 := x.cell
      exact bodyPost_ret (v := .agg #[.slice A1 (2 * k) c1]) (by simp [results, Tryd.results123, go_sem, e0]) rfl ⟨_, _, rfl, o, b⟩
end Go.Proofs.YtdafdffmkjhhcaaDoor
