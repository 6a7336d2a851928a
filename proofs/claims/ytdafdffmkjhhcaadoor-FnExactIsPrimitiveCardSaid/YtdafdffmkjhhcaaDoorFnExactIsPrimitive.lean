/-
  FnExactIsPrimitive: For every two values, IsPrimitive reports whether the trace is primitive as the model does, and leaves its arguments as they were.
-/
import Derived.Test.YtdafdffmkjhhcaaDoorRows
import Derived.Test.YtdafdffmkjhhcaaDoorTie
import Derived.Test.YtdafdffmkjhhcaaDoorCards
import Derived.Test.YtdafdffmkjhhcaaDoorJfc
import Derived.Test.YtdafdffmkjhhcaaDoorLaid
import Derived.Test.YtdafdffmkjhhcaaDoorWIsPrimitive
import Derived.WalkKit
import Derived.ProofKit
import Derived.LaidMore
import Derived.OpenShut
import Derived.ChangeOld
import Derived.Below
import Derived.Stop.Joined
import Derived.SevenTiedAt
import Derived.Lib.SmallJoins
namespace Go.Proofs.YtdafdffmkjhhcaaDoor.fnExactIsPrimitive
open Go.ChangeShapes Go.WideShapes Go.ChangeAt Go.RowKit
set_option linter.unusedVariables false

theorem cellsAlph : Tryd.prog.cellsOf 24 = 2 := by kernel_rfl

set_option maxRecDepth 100000 in
set_option maxHeartbeats 1600000 in
theorem lifted (os : Os) (started : os.Started) (H : Type) (enc : TypeId × Value → H) :
    ReturnsInHanded {} Tryd.checked os 11 .any (fun w args => (Rows.fnExactIsPrimitiveSpec.pre enc Tryd.prog Tryd.f11 [] false w args ∧ laidMetH Tryd.prog lst w) ∧ sizedMet enc Tryd.prog Tryd.f11 (OpenSpec.ofChange Rows.fnExactIsPrimitiveSpec) false w args)
      (Rows.fnExactIsPrimitiveSpec.post enc Tryd.prog Tryd.f11 false true false false) := by
  refine returnsInHanded_of_change_and (C := Tryd.checked) (X := fun w _ => laidMetH Tryd.prog lst w) (fun _ _ _ hh h => h.of_heap hh) ownK started (by kernel_rfl) Tryd.func11
    (ChangeSpec.witness_shaped (enc := enc) (C := Tryd.checked) (os := os) (X := fun w _ => laidMetH Tryd.prog lst w) false (World.doorLaid Tryd.prog 400 os) #[.agg #[.int .i64 0, .slice none 0 0], .slice none 0 0] 8 rfl (World.shaped_of_RefB (by kernel_rfl) (by kernel_rfl)) (by kernel_rfl) (by kernel_rfl) (by kernel_rfl) (door_met os _)) ?_
  intro W base args ds gs before hval0 hW _ _ hL _
  have hval : ∀ (j : Nat) t v, Tryd.f11.params[j]? = some t → args[j]? = some v → Value.okWide Tryd.prog W .any base t v := hval0
  have hW' := hW
  obtain ⟨p, q, hA0, hV, rfl, hfz, hnd⟩ := hW
  have hA : DataW.TrodAll enc Tryd.prog W 0 (fun _ => true) true Tryd.f11.params.toList args.toList ds p := hA0
  rw [Tryd.params11] at hA hval
  obtain ⟨v0, vs0, d0, ds0, p0, q0, hargs, rfl, rfl, h0, r0⟩ := trodAll_cons hA
  obtain ⟨v1, vs1, d1, ds1, p1, q1, rfl, rfl, rfl, h1, r1⟩ := trodAll_cons r0
  obtain ⟨rfl, rfl, rfl⟩ := trodAll_nil r1
  obtain rfl : args = #[v0, v1] := by cases args; simp_all
  obtain ⟨rfl, rfl⟩ := trodVars_none hV
  have k0 := h0
  have lt0 : ∀ x ∈ p0, x.block < W.heap.size := by obtain ⟨m, hm⟩ := k0; exact DataW.trod_lt m _ _ _ hm
  obtain ⟨c00, c01, y00, y01, m0, rfl, rfl, rfl, hy00, hy01⟩ := Go.Joins.open_agg2 Tryd.underlying24 (by kernel_rfl) cellsAlph (hval 0 24 v0 rfl rfl) h0
  obtain ⟨L0, e0, rfl, w0⟩ := DataW.trod_int Tryd.underlying2 hy00
  simp at e0
  subst e0
  have hbd0 : -9223372036854775808 ≤ L0 ∧ L0 ≤ 9223372036854775807 := bounds_i64 w0
  obtain ⟨a0, len0, cap0, ec0⟩ := Go.Joins.slice_form Tryd.underlying22 hy01
  simp at ec0
  subst ec0
  obtain ⟨xs0, hr0, hwf0, hlen0⟩ : ∃ xs, Rd W a0 len0 xs ∧ Wf xs ∧ len0 ≤ maxLen := by
    rcases open_ints Tryd.underlying22 Tryd.underlying2 (by kernel_rfl) hy01 with ⟨hcs, _⟩ | ⟨x, l, c, zs, hcs, _, hl, hm, hz, _, hcell, hwz⟩
    · simp [] at hcs
      obtain ⟨rfl, rfl, rfl⟩ := hcs
      exact rd_of_row (zs := []) (cap := 0) (.inl ⟨rfl, rfl, rfl, rfl⟩)
    · simp [] at hcs
      obtain ⟨rfl, rfl, rfl⟩ := hcs
      exact rd_of_row (zs := zs) (.inr ⟨_, rfl, hl, hm, by simpa using hz, hcell, hwz⟩)
  have k1 := h1
  have lt1 : ∀ x ∈ p1, x.block < W.heap.size := by obtain ⟨m, hm⟩ := k1; exact DataW.trod_lt m _ _ _ hm
  obtain ⟨a1, len1, cap1, rfl⟩ := okWide_slice Tryd.underlying22 (hval 1 22 v1 rfl rfl)
  obtain ⟨fuel1, hf1⟩ := h1
  obtain ⟨xs1, hr1, hwf1, hlen1⟩ : ∃ xs, Rd W a1 len1 xs ∧ Wf xs ∧ len1 ≤ maxLen := by
    rcases open_ints Tryd.underlying22 Tryd.underlying2 (by kernel_rfl) hf1 with ⟨hcs, _⟩ | ⟨x, l, c, zs, hcs, _, hl, hm, hz, _, hcell, hwz⟩
    · simp [Value.cells] at hcs
      obtain ⟨rfl, rfl, rfl⟩ := hcs
      exact rd_of_row (zs := []) (cap := 0) (.inl ⟨rfl, rfl, rfl, rfl⟩)
    · simp [Value.cells] at hcs
      obtain ⟨rfl, rfl, rfl⟩ := hcs
      exact rd_of_row (zs := zs) (.inr ⟨_, rfl, hl, hm, by simpa using hz, hcell, hwz⟩)
  clear hA0 hval0
  refine (walkIsPrimitive L0 a0 len0 cap0 xs0 a1 len1 cap1 xs1 W hbd0.1 hbd0.2 hr0 hwf0 hlen0 hr1 hwf1 hlen1 (tab_of_laid hL)).mono fun e W' ⟨he, bel⟩ => ?_
  subst he
  exact ⟨_, rfl, _, _, _, [], _, [], hW', trodAll_mk1 (shut_bool Tryd.underlying4 _), (trodAll_cons_mk (Below.trod laidOut (by kernel_rfl) (of_decide_eq_true (by kernel_rfl)) k0 bel lt0) (trodAll_cons_mk (Below.trod laidOut (by kernel_rfl) (of_decide_eq_true (by kernel_rfl)) k1 bel lt1) trodAll_mk0)), rfl, bel.frame _, fun h => by cases h⟩

theorem closed : joinedFacts Tryd.pinned.checked.prog 11 Tryd.f11 Rows.fnExactIsPrimitiveSpec Rows.fnExactIsPrimitiveRow = true := by
  unfold joinedFacts
  rw [jf_mayEnter, jf_lifts, jf_make]
  kernel_rfl

theorem over : Rows.FnExactIsPrimitiveSaid :=
  OpenClaim.holds_of_wide 11 Tryd.f11 rfl rfl rfl rfl rfl rfl rfl ⟨rfl, rfl, rfl, rfl, rfl⟩ rfl rfl rfl rfl rfl (by kernel_rfl) Tryd.func11 closed
    (of_decide_eq_true (by kernel_rfl)) (by unfold Func.isWrapper; first | (rw [if_pos (by decide +kernel)]; kernel_rfl) | (rw [if_neg (by decide +kernel)]; exact ⟨rfl, rfl⟩))
    (fun os started H enc _ => lifted os started H enc)

theorem isMain : Tryd.pinned.checked.prog.mainIs = some (true, ("1b425bcd47dcf37d78ef17ff3afdfffac424df250b2619ca989c85650bb81716" : String).toList) := by kernel_rfl
theorem lookF : false = Tryd.pinned.checked.prog.looks [] := by kernel_rfl
theorem goesF : false = Rows.fnExactIsPrimitiveRow.goesBy Tryd.pinned.checked.prog := by kernel_rfl
theorem nameF : Tryd.prog.funcNamed "loop.example/g01094/laws.FnExactIsPrimitive" = some 11 := by kernel_rfl
theorem standF : ([24, 22].all fun u => !Tryd.prog.wantsStandIn u) = true := by kernel_rfl
theorem proved : Rows.FnExactIsPrimitiveCardSaid :=
  Claim7.holds_tied_plain_at .later [] [.data] true (true, "1b425bcd47dcf37d78ef17ff3afdfffac424df250b2619ca989c85650bb81716") false
    over (fun _ h => by cases h) (by kernel_rfl) (fun _ h => by cases h) fnExactIsPrimitive_row_tie rfl ⟨rfl, rfl⟩ isMain rfl
    (fun f fn hf hfn => by
      obtain rfl : f = 11 := Option.some.inj (nameF.symm.trans hf) |>.symm
      obtain rfl : fn = Tryd.f11 := (Option.some.inj (Tryd.func11.symm.trans hfn)).symm
      exact ⟨lookF, fun j t ht => by
        rw [Tryd.params11] at ht
        have hm : t ∈ [24, 22] := by simpa using Array.mem_of_getElem? ht
        have hall : ([24, 22].all fun u => !Tryd.prog.wantsStandIn u) = true := standF
        exact (show Tryd.prog.wantsStandIn t = false by simpa using List.all_eq_true.1 hall t hm)⟩)
    goesF
#print axioms proved
end Go.Proofs.YtdafdffmkjhhcaaDoor.fnExactIsPrimitive
