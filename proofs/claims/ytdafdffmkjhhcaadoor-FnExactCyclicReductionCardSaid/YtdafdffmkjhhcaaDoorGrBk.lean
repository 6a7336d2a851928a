/-
  The model's l03Back: a list read from its end.
-/
import Derived.Test.YtdafdffmkjhhcaaDoorGrX
namespace Go.Proofs.YtdafdffmkjhhcaaDoor
open Go Go.RowKit
set_option linter.unusedVariables false
set_option maxRecDepth 100000

theorem rev_take (us : List Nat) (k : Nat) (hk : k < us.length) : (us.reverse).take (us.length - k) = (us.reverse).take (us.length - (k + 1)) ++ [us.getD k 0] := by
  have e : us.length - k = us.length - (k + 1) + 1 := by omega
  rw [e, List.take_add_one, List.getElem?_reverse (by omega)]
  have e2 : us.length - 1 - (us.length - (k + 1)) = k := by omega
  rw [e2, List.getD_eq_getElem?_getD, List.getElem?_eq_getElem hk]; rfl
set_option maxHeartbeats 1600000 in
theorem back_any (A : Option Addr) (n c : Nat) (us : List Nat) (w : World) (h : Rd w A n (ints us)) (hn : n ≤ 1048576) :
    Calls Tryd.prog 119 #[.slice A n c] w (MakesE 2 w n (ints us.reverse)) := by
  obtain ⟨i0, hi, hz0, hz1, hz2⟩ := info_parts info_int
  have hlen : us.length = n := by have := h.1; rw [ints_len] at this; exact this
  have HL := Lib.hid hlen
  have hw0 : wrap64 ((n : Int) - 1) = (n : Int) - 1 := by unfold wrap64; omega
  clear hlen
  go_enter Tryd.func119, Tryd.ntmps119
  go_wp2_with fail
  go_loopw [3, 4] (fun p q wr => ∃ (k : Nat) (A1 : Option Addr) (c1 : Nat), k ≤ n ∧ p = .slice A1 k c1 ∧ q = .int .i64 ((n : Int) - 1 - (k : Int)) ∧ Own 2 wr w.heap.size A1 k c1 (ints (us.reverse.take k)) ∧ Below w.heap.size w wr) (fun p _ _ => n - sliceLen p)
  case atStart => exact ⟨0, _, 0, Nat.zero_le _, rfl, by simp, World.ownsRow_lit w #[] 0 (Nat.le_refl _) (by unfold maxLen; omega) rfl, (Below.refl _ _).alloc (Nat.le_refl _) _⟩
  case round =>
    obtain ⟨k, A1, c1, hk, rfl, rfl, ho, hb⟩ := hrel
    by_cases hlt : k < n
    · obtain ⟨q, hq⟩ : ∃ q, q = n - 1 - k := ⟨_, rfl⟩
      have hqe : (n : Int) - 1 - (k : Int) = (q : Int) := by omega
      rw [hqe]
      have hqn : q < n := by omega
      obtain ⟨b, off, x, eA, hbs, hx, hcx⟩ := (h.below hb).at_ hqn
      rw [ints_getD us q (by rw [HL.out]; exact hqn)] at hx
      injection hx with hx
      have HNX : Hid (ints (us.reverse.take (k + 1)) = ints (us.reverse.take k ++ [us.getD q 0])) := Lib.hid (by
        have := rev_take us q (by rw [HL.out]; exact hqn)
        rw [HL.out, show n - q = k + 1 by omega, show n - (q + 1) = k by omega] at this
        rw [this])
      obtain ⟨X, hX⟩ : ∃ X, X = us.getD q 0 := ⟨_, rfl⟩
      rw [← hX] at hx HNX
      subst hx eA
      have HQ := Lib.hid hqe
      have hq0 : (0 : Int) ≤ (q : Int) := Int.natCast_nonneg _
      have hml : k + 1 ≤ maxLen := by unfold maxLen; omega
      have hby2 : (k + 1) * 8 ≤ 140737488355328 := by omega
      have hw1 : wrap64 ((q : Int) - 1) = (q : Int) - 1 := by unfold wrap64; omega
      clear hX hq hqe
      go_wp2_with (at_builtin; refine wpList_append_own _ rfl _ _ 22 rfl w.heap.size 2 i0 (.int .i64 0) 1 8 Tryd.underlying22 hi hz0 hz1 hz2 rfl (by decide) (.slice A1 k c1) k ((ints (us.reverse.take k)).map (Value.int .i64)) rfl (World.ownsRow.alloc ho _) ⟨wr.heap.size, 0, none⟩ 1 1 [.int .i64 (X : Int)] rfl rfl ?c1 ?c2 hml hby2 ?c5 ?_)
      case c1 => exact cell_one_new _ _ _
      case c2 => intro u hu; simp at hu; subst hu; rfl
      case c5 => have := hb.size; simp; omega
      intro v' w2 hown hg _
      rw [ints_snoc_map, ← HNX.out] at hown
      have hb2 : Below w.heap.size w w2 := (hb.alloc hb.size _).grown hg (by have := hb.size; simp; omega) (fun r hr => (World.ownsRow.lt ho r hr).1)
      obtain ⟨A2, c2, hv, ho2⟩ := own_shape hown
      rw [hv]
      clear hg hown hv ho hb hw0
      go_wp2_with fail
      go_roundw
      case rel => exact ⟨k + 1, A2, c2, by omega, rfl, by (have := HQ.out; go_num), ho2, hb2⟩
      case measure => simp [sliceLen]; omega
    · have hkn : k = n := by omega
      subst hkn
      have HT : Hid (us.reverse.take k = us.reverse) := Lib.hid (List.take_of_length_le (by rw [List.length_reverse, HL.out]; exact Nat.le_refl _))
      have hd : decide ((0 : Int) ≤ (k : Int) - 1 - (k : Int)) = false := decide_eq_false (by omega)
      go_wp2_with fail
      go_ret
      exact ⟨A1, c1, rfl, by rw [← HT.out]; exact ho, hb⟩
end Go.Proofs.YtdafdffmkjhhcaaDoor
