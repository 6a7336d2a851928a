/-
  Concatenate: helpers.
-/
import Derived.Test.YtmooanfcedgfnaaDoorDv2
import Derived.Lib.AppendZeros
namespace Go.Proofs.YtmooanfcedgfnaaDoor
open Go Go.RowKit
set_option linter.unusedVariables false
set_option maxRecDepth 100000

theorem step_append_rd {w : World} {ops : Array Oper} {o : Oper} {a : Act} {K : Act → World → Prop} {Q : Exit → Act → World → Prop} {E : Prop} (hgd : o.guard = none) (s x : Operand)
    (ho : o.op = .call { callee := .builtin .append, args := #[s, x], argTypes := #[22, 22] }) (base : Nat) (A : Option Addr) (N cA : Nat) (all : List Nat) (hs : a.eval s = .slice A N cA) (hown : Own 2 w base A N cA (ints all))
    (A2 : Option Addr) (m c2 : Nat) (ss : List Nat) (hx : a.eval x = .slice A2 m c2) (h2 : Rd w A2 m (ints ss)) (h63 : N + m ≤ maxLen) (hby : (N + m) * 8 ≤ 140737488355328) (hbase : base ≤ w.heap.size)
    (h : ∀ v' w', (∃ A' c', v' = .slice A' (N + m) c' ∧ Own 2 w' base A' (N + m) c' (ints (all ++ ss))) → w.grownBy w' (Value.slice A N cA).ownBlock → K (a.put o.dst v') w') :
    if Region.wanted o (yielded ops a.tmps) = true then Oper.wp Tryd.prog o a w K Q else E := by
  have hw : Region.wanted o (yielded ops a.tmps) = true := by simp [Region.wanted, hgd]
  rw [if_pos hw]
  obtain ⟨i0, hi, hz0, hz1, hz2⟩ := info_parts info_int
  cases A2 with
  | none =>
    have hm0 : m = 0 := by
      rcases Nat.eq_zero_or_pos m with h0 | h0
      · exact h0
      · obtain ⟨b, off, e9, _⟩ := h2.2 h0; cases e9
    subst hm0
    have hs0 : ss = [] := List.eq_nil_of_length_eq_zero (by have := h2.1; rw [ints_len] at this; exact this)
    subst hs0
    have hrun := run_append_nothing (P := Tryd.prog) w 22 22 o.type 2 i0 Tryd.underlying22 hi A N cA (own_cap hown) (.slice none 0 c2) (Src.ofNil w Tryd.underlying22 c2)
    unfold Oper.wp
    simp [execOp, ho, resolve, invoke, builtin, hs, hx, hrun, Result.andThen]
    exact h (.slice A N cA) w ⟨A, cA, rfl, by rw [List.append_nil]; exact hown⟩ (World.grownBy.refl _ _)
  | some ad =>
    have hl2 : ((ints ss).map (Value.int .i64)).length = m * 1 := by rw [List.length_map, h2.1, Nat.mul_one]
    refine wp_append_own (P := Tryd.prog) w s x 22 ho base 2 i0 (.int .i64 0) 1 8 Tryd.underlying22 hi hz0 hz1 hz2 rfl (by decide) (.slice A N cA) N ((ints all).map (Value.int .i64)) hs hown ad m c2 ((ints ss).map (Value.int .i64)) hx hl2 ?_ (ints_oneCell .i64 _) h63 hby hbase ?_
    · intro j u hu
      have hj : 0 < m := by
        rcases Nat.eq_zero_or_pos m with h0 | h0
        · have h8 : (ints ss).map (Value.int .i64) = [] := List.eq_nil_of_length_eq_zero (by rw [hl2, h0])
          rw [h8] at hu; simp at hu
        · exact h0
      obtain ⟨b, off, e9, _⟩ := h2.2 hj
      injection e9 with e9
      subst e9
      exact rd_news h2 hj j u hu
    · intro v' w' hown' hg _
      have e8 : (ints all).map (Value.int .i64) ++ (ints ss).map (Value.int .i64) = (ints (all ++ ss)).map (Value.int .i64) := by rw [ints_app, List.map_append]
      rw [e8] at hown'
      obtain ⟨A3, c3, rfl, ho3⟩ := own_shape hown'
      exact h _ w' ⟨A3, c3, rfl, ho3⟩ hg
set_option maxHeartbeats 1600000 in
theorem growNil_any (n : Nat) (hn : n ≤ 100000) (w : World) :
    Calls Tryd.prog 116 #[.slice none 0 0, .int .i64 (n : Int)] w fun e w' => ∃ (A : Option Addr) (c : Nat), e = .returned (.slice A 0 c) ∧ Own 2 w' w.heap.size A 0 c (ints []) ∧ Below w.heap.size w w' := by
  obtain ⟨i0, hi, hz0, hz1, hz2⟩ := info_parts info_int
  have hw0 : IntKind.i64.wrap ((n : Int) - 0) = (n : Int) := by rw [IntWalk.i64_left]; unfold wrap64; omega
  have hw1 : wrap64 (n : Int) = (n : Int) := by unfold wrap64; omega
  have hn0 : (0 : Int) ≤ (n : Int) := by omega
  rcases Nat.eq_zero_or_pos n with h0 | h0
  · subst h0
    go_enter Tryd.func116, Tryd.ntmps116
    go_wp2_with fail
    go_ret
    exact ⟨none, 0, rfl, Own.nil _ _ _, Below.refl _ _⟩
  · have hnp : (0 : Int) < (n : Int) := by omega
    have hrun := Lib.run_append_nil_zeros (P := Tryd.prog) w 22 3 22 2 i0 (.int .i64 0) .i64 .i64 Tryd.underlying22 Tryd.underlying3 hi hz0 n h0 (by omega) (by omega) (by rw [hz2]; omega)
    obtain ⟨cp, hcp⟩ : ∃ cp, cp = grownCap w n 0 2 := ⟨_, rfl⟩
    have hge : n ≤ cp := by rw [hcp]; exact grownCap_ge w n 0 _
    have hle : cp ≤ maxLen := by rw [hcp]; exact grownCap_le_maxLen w n 0 _ (by unfold maxLen; omega)
    rw [← hcp] at hrun
    obtain ⟨row, hrow⟩ : ∃ row, row = Builtin.zeroCells (Value.int .i64 0).cells n ++ Builtin.zeroCells (Value.int .i64 0).cells (cp - n) := ⟨_, rfl⟩
    have hrs : row.size = cp := by
      rw [hrow, Array.size_append]
      have hzc : ∀ k, (Builtin.zeroCells (Value.int .i64 0).cells k).size = k := fun k => by simp [Builtin.zeroCells, Value.cells]
      rw [hzc, hzc]; omega
    rw [← hrow] at hrun
    have HOWN : Hid (Own 2 (w.drew.alloc (.cells row 2)) w.heap.size (some ⟨w.heap.size, 0, none⟩) 0 cp (ints [])) := Lib.hid ⟨rfl, .inr ⟨w.heap.size, cp, row, rfl, Nat.le_refl _, World.alloc_heap_new w.drew _, Nat.zero_le _, hle, by rw [hrs, Nat.mul_one], by simp [ints]⟩⟩
    have HBE : Hid (Below w.heap.size w (w.drew.alloc (.cells row 2))) := Lib.hid ((Below.refl _ _).drew.alloc (Nat.le_refl _) _)
    clear hrow hcp
    go_enter Tryd.func116, Tryd.ntmps116
    go_wp2_with (at_builtin; refine Lib.wpList_append_run _ rfl _ _ _ _ rfl _ _ rfl rfl _ _ hrun ?_)
    go_wp2_with fail
    go_ret
    exact ⟨_, cp, rfl, HOWN.out, HBE.out⟩
end Go.Proofs.YtmooanfcedgfnaaDoor
