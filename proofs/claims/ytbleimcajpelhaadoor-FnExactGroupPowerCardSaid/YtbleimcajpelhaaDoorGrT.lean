/-
  The double alphabet, inverse words and the reduction of the model.
-/
import Derived.Test.YtbleimcajpelhaaDoorGrS
import Derived.BigQuiet
namespace Go.Proofs.YtbleimcajpelhaaDoor
open Go Go.RowKit
set_option linter.unusedVariables false
set_option linter.unusedSimpArgs false
set_option maxRecDepth 100000

theorem rev_at (vs : List Nat) (q : Nat) (h : q < vs.length) : vs.reverse.take (vs.length - q) = vs.reverse.take (vs.length - (q + 1)) ++ [vs.getD q 0] := by
  have e1 : vs.length - q = (vs.length - (q + 1)) + 1 := by omega
  rw [e1, List.take_add_one, List.getElem?_reverse (by omega), show vs.length - 1 - (vs.length - (q + 1)) = q by omega, List.getElem?_eq_getElem h, List.getD_eq_getElem?_getD, List.getElem?_eq_getElem h]; rfl
theorem inv_at (vs : List Nat) (q : Nat) (h : q < vs.length) : (ints (invW vs)).take (vs.length - q) = (ints (invW vs)).take (vs.length - (q + 1)) ++ [((opp (vs.getD q 0) : Nat) : Int)] := by
  unfold ints invW
  rw [← List.map_take, ← List.map_take, ← List.map_take, ← List.map_take, rev_at vs q h, List.map_append, List.map_append]; rfl
set_option maxHeartbeats 1600000 in
theorem l09Back_any (A : Option Addr) (n c : Nat) (vs : List Nat) (w : World) (h : Rd w A n (ints vs)) (hn : n ≤ 1024) (hu : ∀ x, x ∈ vs → x < 48) :
    Calls Tryd.prog 54 #[.slice A n c] w (MakesE 2 w n (ints (invW vs))) := by
  obtain ⟨i0, hi, hz0, hz1, hz2⟩ := info_parts info_int
  have HL : Hid (vs.length = n) := Lib.hid (by have := h.1; rw [ints_len] at this; exact this)
  have hw0 : wrap64 ((n : Int) - 1) = (n : Int) - 1 := by unfold wrap64; omega
  have HIA : Hid (∀ q, q < n → (ints (invW vs)).take (n - q) = (ints (invW vs)).take (n - (q + 1)) ++ [((opp (vs.getD q 0) : Nat) : Int)]) := Lib.hid (fun q hq => by have := inv_at vs q (by rw [HL.out]; exact hq); rwa [HL.out] at this)
  have HLZ : Hid ((ints (invW vs)).length = n) := Lib.hid (by rw [ints_len, invW_len, HL.out])
  obtain ⟨zs, hzs⟩ : ∃ zs, zs = ints (invW vs) := ⟨_, rfl⟩
  rw [← hzs] at HIA HLZ ⊢
  clear hzs
  go_enter Tryd.func54, Tryd.ntmps54
  go_wp2_with fail
  go_loopw [3, 4] (fun p q wr => ∃ (k : Nat) (A1 : Option Addr) (c1 : Nat), k ≤ n ∧ p = .slice A1 k c1 ∧ q = .int .i64 ((n : Int) - 1 - (k : Int)) ∧ Own 2 wr w.heap.size A1 k c1 (zs.take k) ∧ Below w.heap.size w wr) (fun p _ _ => n - sliceLen p)
  case atStart => exact ⟨0, _, 0, Nat.zero_le _, rfl, by simp, World.ownsRow_lit w #[] 0 (Nat.le_refl _) (by unfold maxLen; omega) rfl, (Below.refl _ _).alloc (Nat.le_refl _) _⟩
  case round =>
    obtain ⟨k, A1, c1, hk, rfl, rfl, ho, hb⟩ := hrel
    by_cases hlt : k < n
    · obtain ⟨q, hq⟩ : ∃ q, q = n - 1 - k := ⟨_, rfl⟩
      have hqe : (n : Int) - 1 - (k : Int) = (q : Int) := by omega
      rw [hqe]
      have hqn : q < n := by omega
      obtain ⟨b, off, x0, eA, hbs, hx0, hcx⟩ := (h.below hb).at_ hqn
      obtain ⟨x, hx, rfl⟩ := ints_get vs q x0 hx0
      have HNX : Hid (zs.take (k + 1) = zs.take k ++ [((opp x : Nat) : Int)]) := Lib.hid (by
        have := HIA.out q hqn
        rw [show n - q = k + 1 by omega, show n - (q + 1) = k by omega, List.getD_eq_getElem?_getD, hx] at this
        exact this)
      subst eA
      have HQ := Lib.hid hqe
      have hq0 : (0 : Int) ≤ (q : Int) := Int.natCast_nonneg _
      have hml : k + 1 ≤ maxLen := by unfold maxLen; omega
      have hby2 : (k + 1) * 8 ≤ 140737488355328 := by omega
      have hw1 : wrap64 ((q : Int) - 1) = (q : Int) - 1 := by unfold wrap64; omega
      have HOP := Lib.hid (fun ww : World => l09Opposite_any x (by have := hu x (List.mem_of_getElem? hx); omega) ww)
      obtain ⟨y, hy⟩ : ∃ y, y = opp x := ⟨_, rfl⟩
      rw [← hy] at HNX HOP
      clear hx hx0 hq hqe hy
      go_wp2_with (first
        | (go_at_call 80; refine (HOP.out _).mono ?_; rintro e w9 ⟨rfl, rfl⟩)
        | (at_builtin; refine wpList_append_own _ rfl _ _ 22 rfl w.heap.size 2 i0 (.int .i64 0) 1 8 Tryd.underlying22 hi hz0 hz1 hz2 rfl (by decide) (.slice A1 k c1) k ((zs.take k).map (Value.int .i64)) rfl (World.ownsRow.alloc ho _) ⟨wr.heap.size, 0, none⟩ 1 1 [.int .i64 (y : Int)] rfl rfl (cell_one_new _ _ _) (by intro u hu; simp at hu; subst hu; rfl) hml hby2 (by have := hb.size; simp; omega) ?_; intro v' w2 hown hg _))
      rw [show (zs.take k).map (Value.int .i64) ++ [Value.int .i64 (y : Int)] = (zs.take (k + 1)).map (Value.int .i64) from by rw [HNX.out, List.map_append]; rfl] at hown
      have hb2 : Below w.heap.size w w2 := (hb.alloc hb.size _).grown hg (by have := hb.size; simp; omega) (fun r hr => (World.ownsRow.lt ho r hr).1)
      obtain ⟨A2, c2, hv, ho2⟩ := own_shape hown
      rw [hv]
      clear hg hown hv ho hb hw0
      go_wp2_with fail
      go_roundw
      case rel => exact ⟨k + 1, A2, c2, by omega, rfl, by (have := HQ.out; go_num), ho2, hb2⟩
      case measure => simp [sliceLen]; omega
    · obtain rfl : k = n := by omega
      rw [List.take_of_length_le (by rw [HLZ.out]; exact Nat.le_refl _)] at ho
      go_wp2_with fail
      go_ret
      exact ⟨A1, c1, rfl, ho, hb⟩
end Go.Proofs.YtbleimcajpelhaaDoor
