/-
  The walk of FnExactMembersOf.
-/
import Derived.Test.YtfcipdojgkamgaaDoorMem
namespace Go.Proofs.YtfcipdojgkamgaaDoor
open Go.RowKit
set_option linter.unusedVariables false
set_option maxRecDepth 100000

set_option maxHeartbeats 1600000 in
theorem walkMembersOf (m : Int) (w : World) (hm1 : -9223372036854775808 ≤ m) (hm2 : m ≤ 9223372036854775807) (hT : Tab w) :
    Calls Tryd.prog 3 #[.int .i64 m] w fun e w' => e = .returned (.bool true) ∧ Below w.heap.size w w' := by
  have hys : (memAns m).1.length ≤ 1048576 := by have := memAns_small m; omega
  have hys2 : (memAns m).1.length ≤ 9223372036854775807 := by omega
  obtain ⟨N, hN⟩ : ∃ N, N = (memAns m).1.length := ⟨_, rfl⟩
  rw [← hN] at hys hys2
  have HN := Lib.hid hN
  clear hN
  go_enter Tryd.func3, Tryd.ntmps3
  go_wp2_with fail
  refine (specMembersOf m _).mono ?_
  rintro e w1 ⟨Aw, cw, rfl, ho1, hb1⟩
  rw [← HN.out] at ho1 ⊢
  have hT1 := hT.below hb1
  go_wp2_with fail
  refine (implMembersOf m hm1 hm2 _ hT1).mono ?_
  rintro e w2 ⟨Ag, cg, rfl, hg2, hb2⟩
  rw [← HN.out] at hg2 ⊢
  have hb12 := hb1.trans (hb2.mono hb1.size)
  have ho2 := ho1.below hb2
  go_wp2_with fail
  refine (eq_true _ _ _ _ _ _ _ hg2.rd ho2.rd hys2).mono ?_
  rintro e w3 ⟨rfl, hb3⟩
  have hb13 := hb12.trans (hb3.mono hb12.size)
  have ho3 := ho2.below hb3
  have hg3 := hg2.below hb3
  clear ho2
  go_wp2_with fail
  refine (mark_any _ _ _ _ _ 1 _ _ hg3 hys (by omega)).mono ?_
  rintro e w4 ⟨rfl, hg4, hgr4⟩
  have hb14 := hb13.grown hgr4 hb13.size (fun k hk => by have := (hg3.lt k hk).1; have := hb1.size; omega)
  have ho4 := ho3.apart hgr4 (fun k hk e => by have h1 := (ho1.lt k hk).2; have h2 := (hg3.lt k e).1; omega)
  have hT4 := hT.below hb14
  clear ho3 hg3
  go_wp2_with fail
  refine (held_any _ _ _ 1 _ hg4.rd hys (by omega)).mono ?_
  rintro e w' ⟨rfl, rfl⟩
  go_wp2_with fail
  refine (implMembersOf m hm1 hm2 _ hT4).mono ?_
  rintro e w5 ⟨Ah, ch, rfl, hh5, hb5⟩
  rw [← HN.out] at hh5 ⊢
  have hb15 := hb14.trans (hb5.mono hb14.size)
  have ho5 := ho4.below hb5
  have hg5 := hg4.below hb5
  go_wp2_with fail
  refine (eq_true _ _ _ _ _ _ _ hh5.rd ho5.rd hys2).mono ?_
  rintro e w6 ⟨rfl, hb6⟩
  have hb16 := hb15.trans (hb6.mono hb15.size)
  have hg6 := hg5.below hb6
  clear ho5 hg5 hh5
  go_wp2_with fail
  refine (held_any _ _ _ 1 _ hg6.rd hys (by omega)).mono ?_
  rintro e w' ⟨rfl, rfl⟩
  go_wp2_with fail
  go_ret
  exact ⟨rfl, hb16⟩
end Go.Proofs.YtfcipdojgkamgaaDoor
