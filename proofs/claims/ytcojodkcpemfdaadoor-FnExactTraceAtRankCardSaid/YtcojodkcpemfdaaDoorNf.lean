/-
  The normal form of a trace: the first one of its words.
-/
import Derived.Test.YtcojodkcpemfdaaDoorExt2
namespace Go.Proofs.YtcojodkcpemfdaaDoor
open Go Go.RowKit
set_option linter.unusedVariables false
set_option maxRecDepth 100000
attribute [local go_sem] Oper.semAt_some

theorem words_any (m c m' d : Nat) (A B : Option Addr) (w : World) :
    Calls Tryd.prog 170 #[.agg #[.slice A m c, .slice B m' d]] w fun e w' => ∃ bt, e = .returned (.func (.func 205) #[] #[.pointer (some ⟨bt, 0, none⟩)]) ∧ Below w.heap.size w w' ∧ w'.cell? ⟨bt, 0, none⟩ = some (.slice A m c) ∧ w'.cell? ⟨bt, 1, none⟩ = some (.slice B m' d) := by
  have h2 : (w.alloc (.cells #[.slice A m c, .slice B m' d] 116)).heap[w.heap.size]? = some (.cells #[.slice A m c, .slice B m' d] 116 (0, 0)) := World.alloc_heap_new w _
  go_enter Tryd.func170, Tryd.ntmps170
  go_wp2
  go_ret
  exact ⟨w.heap.size, rfl, (Below.refl _ w).alloc (Nat.le_refl _) _, by unfold World.cell?; rw [h2]; rfl, by unfold World.cell?; rw [h2]; rfl⟩
theorem own_abides {E : TypeId} {A B : World} {base n c : Nat} {ad : Option Addr} {xs : List Int} {row : Option Nat} (h : Own E A base ad n c xs) (hg : A.grownBy B row) (hr : ∀ r, row = some r → r < base ∨ ∃ o : Obj, A.heap[r]? = some o ∧ o.isCells = false) : Own E B base ad n c xs := by
  refine h.apart hg fun k hk e => ?_
  rcases hr k e with h1 | ⟨o, ho, hc⟩
  · have := (h.lt k hk).1; omega
  · rcases h.2 with ⟨h0, _⟩ | ⟨g, cap, cur, e1, _, h3, _⟩
    · cases ad with
      | none => cases hk
      | some _ => injection h0 with h0; cases h0
    · injection e1 with e1
      subst e1
      injection hk with hk
      subst hk
      have h3' : A.heap[g]? = some o := ho
      rw [h3] at h3'
      injection h3' with h3'
      subst h3'
      cases hc
set_option maxHeartbeats 1000000 in
theorem normalForm_any (m c d : Nat) (TA TB : Option Addr) (ls bs full : List Nat) (w : World)
    (hA : Rd w TA m (ints ls)) (hB : Rd w TB m (ints bs)) (hm : m ≤ 24) (hbs : ∀ i, bs.getD i 0 < 2 ^ m) (hT : Tab w)
    (hG : Goes (fun e => bs.getD e 0) m (2 ^ m - 1)) (hfull : full = nfB (fun e => ls.getD e 0) (fun e => bs.getD e 0) m (2 ^ m - 1)) :
    Calls Tryd.prog 110 #[.agg #[.slice TA m c, .slice TB m d]] w (MakesE 2 w m (ints full)) := by
  refine calls_of_marks Tryd.func110 rfl ?_
  simp only [Tryd.ntmps110, List.size_toArray, List.length_cons, List.length_nil, Nat.reduceAdd, Nat.reduceSub, Array.replicate_succ, Array.replicate_zero, List.push_toArray, List.append_toArray, List.nil_append, List.cons_append]
  obtain ⟨W1, hW1⟩ : ∃ W1, (w.alloc (.cells #[.slice TA m c, .slice TB m d] 116)).alloc (.cells #[.slice none 0 0] 22) = W1 := ⟨_, rfl⟩
  have hb1 : Below w.heap.size w W1 := by rw [← hW1]; exact ((Below.refl _ w).alloc (Nat.le_refl _) _).alloc (by simp) _
  have v1 : Boxed W1 (w.heap.size + 1) 22 (.slice none 0 0) := by rw [← hW1]; have := Boxed.new (w.alloc (.cells #[.slice TA m c, .slice TB m d] 116)) 22 (.slice none 0 0); rwa [World.size_alloc] at this
  have h2 : W1.heap[w.heap.size]? = some (.cells #[.slice TA m c, .slice TB m d] 116 (0, 0)) := by rw [← hW1]; exact (Below.heap_alloc _ _ _ (by simp)).trans (World.alloc_heap_new w _)
  have t0 : W1.cell? ⟨w.heap.size, 0, none⟩ = some (.slice TA m c) := by simp [World.cell?, h2]
  have t1 : W1.cell? ⟨w.heap.size, 1, none⟩ = some (.slice TB m d) := by simp [World.cell?, h2]
  have HG := Lib.hid hG
  have HF := Lib.hid hfull
  clear hG hfull h2
  go_wp2_with fail
  refine (words_any m c m d TA TB _).mono ?_
  rintro e w2 ⟨bt, rfl, hb2, t20, t21⟩
  go_wp2_with fail
  have hw2 : Below w.heap.size w w2 := hb1.trans (hb2.mono hb1.size)
  have v2 : Boxed w2 (w.heap.size + 1) 22 (.slice none 0 0) := (hb2.block _ v1.lt).trans v1
  have hseq := words1_first bt m c d TA TB ls bs full w2 t20 t21 (hA.below hw2) (hB.below hw2) hm hbs (hT.below hw2) HG.out HF.out
  have hlt2 := v2.lt
  have HLT2 := Lib.hid hlt2
  have hsz2 := hw2.size
  refine wp_rangeFunc_first (gf := 205) (lb := #[.pointer (some ⟨bt, 0, none⟩)]) rfl (enters_of Tryd.func205 (by kernel_rfl) rfl) hseq (Below.refl _ _) (fun _ => rfl)
    (fun x n1 W l o o' hS hl ho => ⟨own_abides hS.1 (grownBy_putObj' W l o') (fun r e => by cases e; exact .inr ⟨o, hl, ho⟩), hS.2⟩)
    (fun cd x W3 => cd = .exit 0 ∧ Boxed W3 (w.heap.size + 1) 22 (.slice x.1 m x.2.1) ∧ WordS full m x w.heap.size W3 ∧ Below w.heap.size w W3) ?abide
    (fun x => { tmps := #[.agg #[.slice TA m c, .slice TB m d], .pointer (some ⟨w.heap.size, 0, none⟩), .slice none 0 0, .pointer (some ⟨w.heap.size + 1, 0, none⟩), .slice x.1 m x.2.1, .agg #[.slice TA m c, .slice TB m d], .func (.func 205) #[] #[.pointer (some ⟨bt, 0, none⟩)], .slice x.1 m x.2.1, undef, undef], defers := [] }) ?assign ?body ?stop
  case abide =>
    rintro cd x P Q row ⟨rfl, h1, h2, h3⟩ hg hr
    exact ⟨rfl, h1.kept hg (fun e => by have := (hr _ e.symm).1; omega), ⟨own_abides h2.1 hg (fun r e => (hr r e).2), h2.2⟩, h3.grown hg h3.size (fun r e => by have := (hr r e).1; omega)⟩
  case assign =>
    intro l2 x W3 K hK
    dsimp only [wordEnc]
    gi_wp2
    exact hK
  case body =>
    rintro l2 ⟨A3, c3, B3⟩ W3 hx hb3 hs3
    have v3 : Boxed W3 (w.heap.size + 1) 22 (.slice none 0 0) := (hb3.block _ v2.lt).trans v2
    have hw3 : Below w.heap.size w W3 := hw2.trans (hb3.mono hsz2)
    have c33 := v3.cell
    have f33 := v3.frozen
    clear hlt2
    gi_wp2
    have hx1 : Own 2 W3 B3 A3 m c3 (ints full) := hx.1
    have hx2 : w2.heap.size + 2 ≤ B3 := hx.2
    have hL := HLT2.out
    refine ⟨⟨by rw [World.size_setCell]; exact Nat.le_refl _, fun k o hk ho => (Below.heap_setCell W3 _ _ k (fun e => ?_)).trans ho⟩, rfl, v3.set _, ⟨own_other hx1 _ 0 _ (fun q hq => ?_), ?_⟩, hw3.setCell (p := ⟨w.heap.size + 1, 0, none⟩) (Nat.le_succ _) _⟩
    · have e' : k = w.heap.size + 1 := e
      omega
    · have := (hx1.lt q hq).1
      omega
    · show w.heap.size ≤ B3
      omega
  case stop =>
    rintro D cd ⟨A3, c3, B3⟩ W3 hD ⟨rfl, h1, h2, h3⟩ hK
    have c33 : W3.cell? ⟨w.heap.size + 1, 0, none⟩ = some (.slice A3 m c3) := h1.cell
    clear hlt2
    go_wp2_with fail
    refine ⟨by simp, .inl ⟨D, _, rfl, run_takeDeferred hK, ?_⟩⟩
    refine ⟨.slice A3 m c3, by simp [results, Tryd.results110, go_sem], A3, c3, rfl, (own_abides h2.1 (grownBy_putObj' W3 D _) (fun r e => by cases e; exact .inr ⟨_, hK, rfl⟩)).mono h2.2, h3.grown (grownBy_putObj' W3 D _) h3.size (fun r e => by cases e; omega)⟩
end Go.Proofs.YtcojodkcpemfdaaDoor
