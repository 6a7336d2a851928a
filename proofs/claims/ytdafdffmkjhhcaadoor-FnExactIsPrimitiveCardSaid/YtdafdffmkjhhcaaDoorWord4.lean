/-
  ContentOf: the model's side.
-/
import Derived.Test.YtdafdffmkjhhcaaDoorM2
namespace Go.Proofs.YtdafdffmkjhhcaaDoor
open Go.RowKit
set_option linter.unusedVariables false
set_option maxRecDepth 100000

set_option maxHeartbeats 3200000 in
theorem l03Content_any (A : Option Addr) (n c : Nat) (rs : List Nat) (A1 : Option Addr) (m d : Nat) (vs : List Nat) (w : World) (h : Rd w A n (ints rs)) (hn : n ≤ 8) (h2 : Rd w A1 m (ints vs)) (hv24 : vs.length ≤ 24) (hvn : ∀ u, u ∈ vs → u < n) :
    Calls Tryd.prog 134 #[.agg #[.int .i64 (n : Int), .slice A n c], .slice A1 m d] w (MakesE 2 w n (ints (contM n vs))) := by
  have hm1 := h2.1
  rw [ints_len] at hm1
  have hm24 : m ≤ 24 := by omega
  have HM := Lib.hid hm1
  have HVN := Lib.hid hvn
  clear hm1 hvn
  obtain ⟨i0, hi, hz0, hz1, hz2⟩ := info_parts info_int
  have hml : n ≤ maxLen := by unfold maxLen; omega
  have hby : i0.bytes * n ≤ 281474976710656 := by rw [hz2]; omega
  have x0 := box_new 29 w (n : Int) A n c
  have hsz := size1' w (.cells #[.int .i64 (n : Int), .slice A n c] 29)
  have HB := Lib.hid (below1 w (.cells #[.int .i64 (n : Int), .slice A n c] 29))
  have hh2 := h2.below HB.out
  obtain ⟨w1, hw1⟩ : ∃ w1, w1 = w.alloc (.cells #[.int .i64 (n : Int), .slice A n c] 29) := ⟨_, rfl⟩
  rw [← hw1] at x0 hsz hh2
  have HB1 := Lib.hid (show Below w.heap.size w w1 by rw [hw1]; exact HB.out)
  have y0 := x0.c0
  have HSZ := Lib.hid hsz
  clear HB h h2 hsz
  go_enter Tryd.func134, Tryd.ntmps134
  go_wp2_with (first | (at_make; rw [← hw1]; clear hw1; refine wpList_make_full _ rfl _ _ _ rfl w1.heap.size 2 i0 (.int .i64 0) 1 Tryd.underlying22 hi hz0 hz1 _ _ (n : Int) (n : Int) n rfl rfl rfl rfl hby hml (Nat.le_refl _) ?_; intro w2 hown0 hg2))
  have hown := own_made hown0
  rw [← contM_nil] at hown
  clear hown0
  have hb2 : Below w1.heap.size w1 w2 := (Below.refl _ _).grown hg2 (Nat.le_refl _) (by simp)
  clear hg2
  go_loopw [6] (fun i wr => ∃ k : Nat, k ≤ m ∧ i = .int .i64 k ∧ Own 2 wr w1.heap.size (some ⟨w1.heap.size, 0, none⟩) n n (ints (contM n (vs.take k))) ∧ Below w1.heap.size w1 wr) (fun i _ => m - (intOf i).toNat)
  case atStart => exact ⟨0, Nat.zero_le _, rfl, hown, hb2⟩
  case round =>
    clear hown hb2
    obtain ⟨k, hk, rfl, ho, hb⟩ := hrel
    by_cases hlt : k < m
    · obtain ⟨b, off, x, rfl, hbs, hx, hcx⟩ := (hh2.below hb).at_ hlt
      obtain ⟨u, hu, rfl⟩ := ints_at? vs k x hx
      have hun := HVN.out u (List.mem_of_getElem? hu)
      have HS : Hid (contM n (vs.take (k + 1)) = (contM n (vs.take k)).set u ((contM n (vs.take k)).getD u 0 + 1)) := Lib.hid (by rw [take_snoc vs k u hu, contM_snoc n _ u hun])
      have hle := contM_le n (vs.take k) u (by rw [List.length_take]; omega)
      obtain ⟨g, hg, _, hcell, hfr, hset⟩ := own_stored ho hun
      cases hg
      obtain ⟨X, hX⟩ : ∃ X, X = (contM n (vs.take k)).getD u 0 := ⟨_, rfl⟩
      rw [← hX] at hle hcell HS
      have ho2 := hset (X + 1)
      rw [← HS.out, Int.natCast_succ] at ho2
      have hb2 := hb.setCell (p := ⟨w1.heap.size, u, none⟩) (Nat.le_refl _) (.int .i64 ((X : Int) + 1))
      clear hx hu hX hset
      go_wp2_with fail
      go_roundw
      case rel => exact ⟨k + 1, by omega, by go_num, ho2, hb2⟩
      case measure => simp [intOf]; omega
    · obtain rfl : k = m := by omega
      have e9 : vs.take k = vs := List.take_of_length_le (by have := HM.out; omega)
      rw [e9] at ho
      clear e9
      go_wp2_with fail
      go_ret
      exact ⟨_, _, rfl, ho.mono HB1.out.size, HB1.out.trans (hb.mono HB1.out.size)⟩
end Go.Proofs.YtdafdffmkjhhcaaDoor
