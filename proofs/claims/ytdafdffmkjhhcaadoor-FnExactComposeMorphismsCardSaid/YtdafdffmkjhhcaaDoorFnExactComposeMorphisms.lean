/-
  FnExactComposeMorphisms: For every three values and every two lists of lists, ComposeMorphisms returns what the model returns, leaves its arguments as they were, and hands back no memory that it shares.
-/
import Derived.Test.YtdafdffmkjhhcaaDoorRows
import Derived.Test.YtdafdffmkjhhcaaDoorTie
import Derived.Test.YtdafdffmkjhhcaaDoorCards
import Derived.Test.YtdafdffmkjhhcaaDoorJfc
import Derived.Test.YtdafdffmkjhhcaaDoorLaid
import Derived.Test.YtdafdffmkjhhcaaDoorWComposeMorphisms
import Derived.WalkKit
import Derived.ProofKit
import Derived.LaidMore
import Derived.OpenShut
import Derived.ChangeOld
import Derived.Below
import Derived.Stop.Joined
import Derived.SevenTiedAt
import Derived.Lib.SmallJoins
namespace Go.Proofs.YtdafdffmkjhhcaaDoor.fnExactComposeMorphisms
open Go.ChangeShapes Go.WideShapes Go.ChangeAt Go.RowKit
set_option linter.unusedVariables false

theorem cellsAlph : Tryd.prog.cellsOf 24 = 2 := by kernel_rfl

set_option maxRecDepth 100000 in
set_option maxHeartbeats 1600000 in
theorem lifted (os : Os) (started : os.Started) (H : Type) (enc : TypeId × Value → H) :
    ReturnsInHanded {} Tryd.checked os 6 .any (fun w args => (Rows.fnExactComposeMorphismsSpec.pre enc Tryd.prog Tryd.f6 [] false w args ∧ laidMetH Tryd.prog lst w) ∧ sizedMet enc Tryd.prog Tryd.f6 (OpenSpec.ofChange Rows.fnExactComposeMorphismsSpec) false w args)
      (Rows.fnExactComposeMorphismsSpec.post enc Tryd.prog Tryd.f6 false true false false) := by
  refine returnsInHanded_of_change_and (C := Tryd.checked) (X := fun w _ => laidMetH Tryd.prog lst w) (fun _ _ _ hh h => h.of_heap hh) ownK started (by kernel_rfl) Tryd.func6
    (ChangeSpec.witness_shaped (enc := enc) (C := Tryd.checked) (os := os) (X := fun w _ => laidMetH Tryd.prog lst w) false (World.doorLaid Tryd.prog 400 os) #[.agg #[.int .i64 0, .slice none 0 0], .agg #[.int .i64 0, .slice none 0 0], .agg #[.int .i64 0, .slice none 0 0], .slice none 0 0, .slice none 0 0] 8 rfl (World.shaped_of_RefB (by kernel_rfl) (by kernel_rfl)) (by kernel_rfl) (by kernel_rfl) (by kernel_rfl) (door_met os _)) ?_
  intro W base args ds gs before hval0 hW _ _ hL _
  have hval : ∀ (j : Nat) t v, Tryd.f6.params[j]? = some t → args[j]? = some v → Value.okWide Tryd.prog W .any base t v := hval0
  have hW' := hW
  obtain ⟨p, q, hA0, hV, rfl, hfz, hnd⟩ := hW
  have hA : DataW.TrodAll enc Tryd.prog W 0 (fun _ => true) true Tryd.f6.params.toList args.toList ds p := hA0
  rw [Tryd.params6] at hA hval
  obtain ⟨v0, vs0, d0, ds0, p0, q0, hargs, rfl, rfl, h0, r0⟩ := trodAll_cons hA
  obtain ⟨v1, vs1, d1, ds1, p1, q1, rfl, rfl, rfl, h1, r1⟩ := trodAll_cons r0
  obtain ⟨v2, vs2, d2, ds2, p2, q2, rfl, rfl, rfl, h2, r2⟩ := trodAll_cons r1
  obtain ⟨v3, vs3, d3, ds3, p3, q3, rfl, rfl, rfl, h3, r3⟩ := trodAll_cons r2
  obtain ⟨v4, vs4, d4, ds4, p4, q4, rfl, rfl, rfl, h4, r4⟩ := trodAll_cons r3
  obtain ⟨rfl, rfl, rfl⟩ := trodAll_nil r4
  obtain rfl : args = #[v0, v1, v2, v3, v4] := by cases args; simp_all
  obtain ⟨rfl, rfl⟩ := trodVars_none hV
  have k0 := h0
  have lt0 : ∀ x ∈ p0, x.block < W.heap.size := by obtain ⟨m, hm⟩ := k0; exact DataW.trod_lt m _ _ _ hm
  obtain ⟨c00, c01, y00, y01, m0, rfl, rfl, rfl, hy00, hy01⟩ := Go.Joins.open_agg2 Tryd.underlying24 (by kernel_rfl) cellsAlph (hval 0 24 v0 rfl rfl) h0
  obtain ⟨L0, e0, rfl, w0⟩ := DataW.trod_int Tryd.underlying2 hy00
  simp at e0
  subst e0
  have hbd0 : -9223372036854775808 ≤ L0 ∧ L0 ≤ 9223372036854775807 := bounds_i64 w0
  obtain ⟨a0, len0, cap0, ec0⟩ := Go.Joins.slice_form Tryd.underlying22 hy01
  simp at ec0
  subst ec0
  obtain ⟨xs0, hr0, hwf0, hlen0⟩ : ∃ xs, Rd W a0 len0 xs ∧ Wf xs ∧ len0 ≤ maxLen := by
    rcases open_ints Tryd.underlying22 Tryd.underlying2 (by kernel_rfl) hy01 with ⟨hcs, _⟩ | ⟨x, l, c, zs, hcs, _, hl, hm, hz, _, hcell, hwz⟩
    · simp [] at hcs
      obtain ⟨rfl, rfl, rfl⟩ := hcs
      exact rd_of_row (zs := []) (cap := 0) (.inl ⟨rfl, rfl, rfl, rfl⟩)
    · simp [] at hcs
      obtain ⟨rfl, rfl, rfl⟩ := hcs
      exact rd_of_row (zs := zs) (.inr ⟨_, rfl, hl, hm, by simpa using hz, hcell, hwz⟩)
  have k1 := h1
  have lt1 : ∀ x ∈ p1, x.block < W.heap.size := by obtain ⟨m, hm⟩ := k1; exact DataW.trod_lt m _ _ _ hm
  obtain ⟨c10, c11, y10, y11, m1, rfl, rfl, rfl, hy10, hy11⟩ := Go.Joins.open_agg2 Tryd.underlying24 (by kernel_rfl) cellsAlph (hval 1 24 v1 rfl rfl) h1
  obtain ⟨L1, e1, rfl, w1⟩ := DataW.trod_int Tryd.underlying2 hy10
  simp at e1
  subst e1
  have hbd1 : -9223372036854775808 ≤ L1 ∧ L1 ≤ 9223372036854775807 := bounds_i64 w1
  obtain ⟨a1, len1, cap1, ec1⟩ := Go.Joins.slice_form Tryd.underlying22 hy11
  simp at ec1
  subst ec1
  obtain ⟨xs1, hr1, hwf1, hlen1⟩ : ∃ xs, Rd W a1 len1 xs ∧ Wf xs ∧ len1 ≤ maxLen := by
    rcases open_ints Tryd.underlying22 Tryd.underlying2 (by kernel_rfl) hy11 with ⟨hcs, _⟩ | ⟨x, l, c, zs, hcs, _, hl, hm, hz, _, hcell, hwz⟩
    · simp [] at hcs
      obtain ⟨rfl, rfl, rfl⟩ := hcs
      exact rd_of_row (zs := []) (cap := 0) (.inl ⟨rfl, rfl, rfl, rfl⟩)
    · simp [] at hcs
      obtain ⟨rfl, rfl, rfl⟩ := hcs
      exact rd_of_row (zs := zs) (.inr ⟨_, rfl, hl, hm, by simpa using hz, hcell, hwz⟩)
  have k2 := h2
  have lt2 : ∀ x ∈ p2, x.block < W.heap.size := by obtain ⟨m, hm⟩ := k2; exact DataW.trod_lt m _ _ _ hm
  obtain ⟨c20, c21, y20, y21, m2, rfl, rfl, rfl, hy20, hy21⟩ := Go.Joins.open_agg2 Tryd.underlying24 (by kernel_rfl) cellsAlph (hval 2 24 v2 rfl rfl) h2
  obtain ⟨L2, e2, rfl, w2⟩ := DataW.trod_int Tryd.underlying2 hy20
  simp at e2
  subst e2
  have hbd2 : -9223372036854775808 ≤ L2 ∧ L2 ≤ 9223372036854775807 := bounds_i64 w2
  obtain ⟨a2, len2, cap2, ec2⟩ := Go.Joins.slice_form Tryd.underlying22 hy21
  simp at ec2
  subst ec2
  obtain ⟨xs2, hr2, hwf2, hlen2⟩ : ∃ xs, Rd W a2 len2 xs ∧ Wf xs ∧ len2 ≤ maxLen := by
    rcases open_ints Tryd.underlying22 Tryd.underlying2 (by kernel_rfl) hy21 with ⟨hcs, _⟩ | ⟨x, l, c, zs, hcs, _, hl, hm, hz, _, hcell, hwz⟩
    · simp [] at hcs
      obtain ⟨rfl, rfl, rfl⟩ := hcs
      exact rd_of_row (zs := []) (cap := 0) (.inl ⟨rfl, rfl, rfl, rfl⟩)
    · simp [] at hcs
      obtain ⟨rfl, rfl, rfl⟩ := hcs
      exact rd_of_row (zs := zs) (.inr ⟨_, rfl, hl, hm, by simpa using hz, hcell, hwz⟩)
  have k3 := h3
  have lt3 : ∀ x ∈ p3, x.block < W.heap.size := by obtain ⟨m, hm⟩ := k3; exact DataW.trod_lt m _ _ _ hm
  obtain ⟨a3, len3, cap3, rfl⟩ := okWide_slice Tryd.underlying25 (hval 3 25 v3 rfl rfl)
  obtain ⟨fuel3, hf3⟩ := h3
  obtain ⟨a3', len3', cap3', ts3, hcs3, hr3, hwf3, hlen3⟩ := open_lists Tryd.underlying25 Tryd.underlying22 Tryd.underlying2 (by kernel_rfl) (by kernel_rfl) hf3
  simp [Value.cells] at hcs3
  obtain ⟨rfl, rfl, rfl⟩ := hcs3
  have k4 := h4
  have lt4 : ∀ x ∈ p4, x.block < W.heap.size := by obtain ⟨m, hm⟩ := k4; exact DataW.trod_lt m _ _ _ hm
  obtain ⟨a4, len4, cap4, rfl⟩ := okWide_slice Tryd.underlying25 (hval 4 25 v4 rfl rfl)
  obtain ⟨fuel4, hf4⟩ := h4
  obtain ⟨a4', len4', cap4', ts4, hcs4, hr4, hwf4, hlen4⟩ := open_lists Tryd.underlying25 Tryd.underlying22 Tryd.underlying2 (by kernel_rfl) (by kernel_rfl) hf4
  simp [Value.cells] at hcs4
  obtain ⟨rfl, rfl, rfl⟩ := hcs4
  clear hA0 hval0
  refine (walkComposeMorphisms L0 a0 len0 cap0 xs0 L1 a1 len1 cap1 xs1 L2 a2 len2 cap2 xs2 a3 len3 cap3 ts3 a4 len4 cap4 ts4 W hbd0.1 hbd0.2 hr0 hwf0 hlen0 hbd1.1 hbd1.2 hr1 hwf1 hlen1 hbd2.1 hbd2.2 hr2 hwf2 hlen2 hr3 hwf3 hlen3 hr4 hwf4 hlen4 (tab_of_laid hL)).mono fun e W' ⟨he, bel⟩ => ?_
  subst he
  exact ⟨_, rfl, _, _, _, [], _, [], hW', trodAll_mk1 (shut_bool Tryd.underlying4 _), (trodAll_cons_mk (Below.trod laidOut (by kernel_rfl) (of_decide_eq_true (by kernel_rfl)) k0 bel lt0) (trodAll_cons_mk (Below.trod laidOut (by kernel_rfl) (of_decide_eq_true (by kernel_rfl)) k1 bel lt1) (trodAll_cons_mk (Below.trod laidOut (by kernel_rfl) (of_decide_eq_true (by kernel_rfl)) k2 bel lt2) (trodAll_cons_mk (Below.trod laidOut (by kernel_rfl) (of_decide_eq_true (by kernel_rfl)) k3 bel lt3) (trodAll_cons_mk (Below.trod laidOut (by kernel_rfl) (of_decide_eq_true (by kernel_rfl)) k4 bel lt4) trodAll_mk0))))), rfl, bel.frame _, fun h => by cases h⟩

theorem closed : joinedFacts Tryd.pinned.checked.prog 6 Tryd.f6 Rows.fnExactComposeMorphismsSpec Rows.fnExactComposeMorphismsRow = true := by
  unfold joinedFacts
  rw [jf_mayEnter, jf_lifts, jf_make]
  kernel_rfl

theorem over : Rows.FnExactComposeMorphismsSaid :=
  OpenClaim.holds_of_wide 6 Tryd.f6 rfl rfl rfl rfl rfl rfl rfl ⟨rfl, rfl, rfl, rfl, rfl⟩ rfl rfl rfl rfl rfl (by kernel_rfl) Tryd.func6 closed
    (of_decide_eq_true (by kernel_rfl)) (by unfold Func.isWrapper; first | (rw [if_pos (by decide +kernel)]; kernel_rfl) | (rw [if_neg (by decide +kernel)]; exact ⟨rfl, rfl⟩))
    (fun os started H enc _ => lifted os started H enc)

theorem isMain : Tryd.pinned.checked.prog.mainIs = some (true, ("1b425bcd47dcf37d78ef17ff3afdfffac424df250b2619ca989c85650bb81716" : String).toList) := by kernel_rfl
theorem lookF : false = Tryd.pinned.checked.prog.looks [] := by kernel_rfl
theorem goesF : false = Rows.fnExactComposeMorphismsRow.goesBy Tryd.pinned.checked.prog := by kernel_rfl
theorem nameF : Tryd.prog.funcNamed "loop.example/g01094/laws.FnExactComposeMorphisms" = some 6 := by kernel_rfl
theorem standF : ([24, 24, 24, 25, 25].all fun u => !Tryd.prog.wantsStandIn u) = true := by kernel_rfl
theorem proved : Rows.FnExactComposeMorphismsCardSaid :=
  Claim7.holds_tied_plain_at .later [] [.data] true (true, "1b425bcd47dcf37d78ef17ff3afdfffac424df250b2619ca989c85650bb81716") false
    over (fun _ h => by cases h) (by kernel_rfl) (fun _ h => by cases h) fnExactComposeMorphisms_row_tie rfl ⟨rfl, rfl⟩ isMain rfl
    (fun f fn hf hfn => by
      obtain rfl : f = 6 := Option.some.inj (nameF.symm.trans hf) |>.symm
      obtain rfl : fn = Tryd.f6 := (Option.some.inj (Tryd.func6.symm.trans hfn)).symm
      exact ⟨lookF, fun j t ht => by
        rw [Tryd.params6] at ht
        have hm : t ∈ [24, 24, 24, 25, 25] := by simpa using Array.mem_of_getElem? ht
        have hall : ([24, 24, 24, 25, 25].all fun u => !Tryd.prog.wantsStandIn u) = true := standF
        exact (show Tryd.prog.wantsStandIn t = false by simpa using List.all_eq_true.1 hall t hm)⟩)
    goesF
#print axioms proved
end Go.Proofs.YtdafdffmkjhhcaaDoor.fnExactComposeMorphisms
