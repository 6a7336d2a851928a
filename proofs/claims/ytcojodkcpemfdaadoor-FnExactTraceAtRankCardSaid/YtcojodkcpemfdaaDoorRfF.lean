/-
  A range over a function whose first round says 'no more': the iterator's contract, and the statement's law.
-/
import Derived.RangeFuncNested
import Derived.RangeFuncLeaves
import Derived.RangeFuncBound
import Derived.RangeFuncCalls
import Derived.Shelf.Abstract
import Derived.Shelf.RegionOpen
import Derived.WalkKit
import Derived.OwnWalkIn
import Derived.TacticsInMore
import Derived.LoopNIn
import Derived.LoopIn
import Derived.StillTailTactics
import Derived.Test.YtcojodkcpemfdaaDoorB1
namespace Go.Proofs.YtcojodkcpemfdaaDoor
open Go Go.RowKit
set_option linter.unusedVariables false
set_option maxRecDepth 100000

/-- What is said of x abides what an iterator does that began at n1: blocks that are no cells are turned, and cells of blocks below those of x. -/
def AbidesTo {α : Type} (n1 : Nat) (base : α → Nat) (J : α → World → Prop) : Prop :=
  ∀ x A B row, J x A → A.grownBy B row → (∀ r, row = some r → n1 ≤ r ∧ (r < base x ∨ ∃ o : Obj, A.heap[r]? = some o ∧ o.isCells = false)) → J x B
/-- All blocks from B on lie as they lay. -/
structure KeepsAll (B : Nat) (W W' : World) : Prop where
  size : W.heap.size ≤ W'.heap.size
  same : ∀ (k : Nat) (o : Obj), B ≤ k → W.heap[k]? = some o → W'.heap[k]? = some o
theorem KeepsAll.refl (B : Nat) (W : World) : KeepsAll B W W := ⟨Nat.le_refl _, fun _ _ _ h => h⟩
theorem KeepsAll.trans {B : Nat} {X Y Z : World} (h : KeepsAll B X Y) (k : KeepsAll B Y Z) : KeepsAll B X Z := ⟨Nat.le_trans h.size k.size, fun i o hB hi => k.same i o hB (h.same i o hB hi)⟩
theorem KeepsAll.above {B B' : Nat} {W W' : World} (h : KeepsAll B W W') (hB : B ≤ B') : KeepsAll B' W W' := ⟨h.size, fun k o hk => h.same k o (by omega)⟩
theorem keeps_put {B l : Nat} (W : World) (o' : Obj) (h : l < B) : KeepsAll B W (W.putObj l o') := ⟨by simp, fun k o hk ho => (World.putObj_heap_other (by omega)).trans ho⟩
/-- An iterator whose first round says 'no more'. -/
def FirstSeq {α : Type} (P : Program) (g : Nat) (lb : Array Value) (encs : α → Array Value) (S : α → Nat → World → Prop) (base : α → Nat) (w : World) : Prop :=
  ∀ (l : Nat) (J : α → World → Prop) (W : World), Below w.heap.size w W → AbidesTo W.heap.size base J →
    (∀ x W1, S x W.heap.size W1 → Below W.heap.size W W1 → YieldAt Fence.wide 0 P l (encs x) W1 fun e W' => e = .returned (.bool false) ∧ J x W' ∧ KeepsAll W.heap.size W1 W') →
    Calls P g (#[.func (.yield l) #[] #[]] ++ lb) W fun e W' => (∃ v, e = .returned v) ∧ ∃ x, J x W'
def firstPost {α : Type} (B : Nat) (Jx : Code → α → World → Prop) (x : α) (W : World) : Exit → Act → World → Prop
  | .ret, _, W' => KeepsAll B W W' ∧ Jx .ret x W'
  | .exit id, _, W' => KeepsAll B W W' ∧ Jx (.exit id) x W'
  | .goto t, _, W' => KeepsAll B W W' ∧ Jx (.goto t) x W'
  | _, _, _ => False
theorem wide_depth {m : Nat} : Fence.wide.depth.isSome = true → 1 ≤ m := fun h => by simp [Fence.wide] at h
theorem wp_rangeFunc_first {α : Type} {P : Program} {g : Operand} {ps : Array Tmp} {assign body : Code} {Q : Exit → Act → World → Prop} {a : Act} {w : World}
    {gf : Nat} {lb : Array Value} (hg : a.eval g = .func (.func gf) #[] lb) (eg : ∀ args w, (callFunc gf args).run P w = .ok (.enter gf args) w)
    {encs : α → Array Value} {S : α → Nat → World → Prop} {base : α → Nat} {w0 : World} (hseq : FirstSeq P gf lb encs S base w0) (hb0 : Below w0.heap.size w0 w) (hps : ∀ x, (encs x).size = ps.size)
    (hS : ∀ x n1 W l o o', S x n1 W → W.heap[l]? = some o → o.isCells = false → S x n1 (W.putObj l o'))
    (Jx : Code → α → World → Prop) (hJ : ∀ c, AbidesTo w.heap.size base (Jx c)) (a₁ : α → Act)
    (hassign : ∀ (l : Nat) (x : α) (W : World) (K : Act → World → Prop), K (a₁ x) W →
      assign.wpIn (Fence.wide.inRound l) 0 P (Exit.then K (fun _ _ _ => False)) { tmps := (ps.zip (encs x)).foldl (fun t (p, v) => t.setIfInBounds p v) a.tmps, defers := [] } W)
    (hbody : ∀ (l : Nat) (x : α) (W : World), S x (w.heap.size + 2) W → Below w.heap.size w W → w.heap.size + 2 ≤ W.heap.size → body.wpIn (Fence.wide.inRound l) 0 P (firstPost w.heap.size Jx x W) (a₁ x) W)
    (hstop : ∀ (D : Nat) (c : Code) (x : α) (W : World), w.heap.size ≤ D → Jx c x W → W.heap[D]? = some (.deferred (some [])) → c.wp P Q { a with defers := { target := .collected D, args := #[] } :: a.defers } W) :
    (Code.rangeFunc g ps assign body).wp P Q a w := by
  refine (wpIn_wide (n := 0)).1 (wpIn_rangeFunc ?_)
  intro fn _
  obtain ⟨rec, hrec⟩ : ∃ rec : LoopState → Option Code → Loop, rec = fun st pe => { state := st, pending := pe, fn, tmps := a.tmps, params := ps, assign, body, defers := w.heap.size } := ⟨_, rfl⟩
  obtain ⟨W1, hW1⟩ : ∃ W1, (w.alloc (.deferred (some []))).alloc (.loop (rec .ready none)) = W1 := ⟨_, rfl⟩
  have hL1 : W1.heap[w.heap.size + 1]? = some (.loop (rec .ready none)) := by
    rw [← hW1]; have := World.alloc_heap_new (w.alloc (.deferred (some []))) (.loop (rec .ready none)); rwa [World.size_alloc] at this
  have hK1 : W1.heap[w.heap.size]? = some (.deferred (some [])) := by
    rw [← hW1]; exact (Below.heap_alloc _ _ _ (by simp)).trans (World.alloc_heap_new w _)
  have hsz : W1.heap.size = w.heap.size + 2 := by rw [← hW1]; simp
  have hbw : Below w.heap.size w W1 := by rw [← hW1]; exact ((Below.refl _ w).alloc (Nat.le_refl _) _).alloc (by simp) _
  have hb1 : Below w0.heap.size w0 W1 := hb0.trans (hbw.mono hb0.size)
  refine ⟨w.heap.size + 1, [{ target := .collected w.heap.size, args := #[] }], W1, { target := .fn (.func gf) lb, args := #[.func (.yield (w.heap.size + 1)) #[] #[]] }, W1, gf,
    #[.func (.yield (w.heap.size + 1)) #[] #[]] ++ lb, W1, ?_, ?_, ?_, ?_, wide_depth, ?_⟩
  · rw [← hW1, hrec]; exact run_enterLoop_outer _ _ _ _ _
  · simp only [resolve, hg]
    simp [go_sem]
  · intro f' _; trivial
  · simp [invoke, go_sem, eg]
  · refine callsIn_wide.2 ((hseq (w.heap.size + 1)
      (fun x W => ∃ c, Jx c x W ∧ W.heap[w.heap.size + 1]? = some (.loop (rec .done (some c))) ∧ W.heap[w.heap.size]? = some (.deferred (some [])))
      W1 hb1 ?_ ?_).mono ?_)
    · rintro x A B row ⟨c, h1, h2, h3⟩ hg' hr
      have hne : ∀ k, k < W1.heap.size → some k ≠ row := fun k hk e => by have := (hr k e.symm).1; omega
      refine ⟨c, hJ c x A B row h1 hg' (fun r e => ⟨by have := (hr r e).1; omega, (hr r e).2⟩), ?_, ?_⟩
      · exact (hg'.block _ (Array.getElem?_eq_some_iff.1 h2).1 (hne _ (by omega))).trans h2
      · exact (hg'.block _ (Array.getElem?_eq_some_iff.1 h3).1 (hne _ (by omega))).trans h3
    · intro x W hSx hbel
      have hl : W.heap[w.heap.size + 1]? = some (.loop (rec .ready none)) := (hbel.block _ (by omega)).trans hL1
      have hk : W.heap[w.heap.size]? = some (.deferred (some [])) := (hbel.block _ (by omega)).trans hK1
      have hlt : w.heap.size + 1 < W.heap.size := (Array.getElem?_eq_some_iff.1 hl).1
      have hy := run_yield (P := P) (args := encs x) hl (by rw [hrec]; exact hps x)
      rw [hrec] at hy
      refine ⟨fn, _, assign, body, hy, roundIn_of_wpIn trivial (hassign _ x W _ ⟨_, run_beginRound hl (by rw [hrec]), ?_⟩)⟩
      have hl2 : (W.putObj (w.heap.size + 1) (.loop { rec .ready none with state := .busy })).heap[w.heap.size + 1]? = some (.loop { rec .ready none with state := .busy }) := World.putObj_heap_same hlt
      have hk2 : (W.putObj (w.heap.size + 1) (.loop { rec .ready none with state := .busy })).heap[w.heap.size]? = some (.deferred (some [])) := (World.putObj_heap_other (by omega)).trans hk
      have hbW : Below w.heap.size w (W.putObj (w.heap.size + 1) (.loop { rec .ready none with state := .busy })) := (hbw.trans (hbel.mono hbw.size)).trans (belowK_b (Nat.le_refl _) W _ _ _ (by omega) hl rfl rfl)
      rw [hsz] at hSx
      refine wpIn_mono (hbody _ x _ (hS x _ W _ _ _ hSx hl rfl) hbW (by simp; omega)) ?_
      have fin : ∀ (jump : Code) (W3 : World), KeepsAll w.heap.size (W.putObj (w.heap.size + 1) (.loop { rec .ready none with state := .busy })) W3 → Jx jump x W3 →
          ∃ v w', (Instr.endRound (w.heap.size + 1) (some jump)).run P W3 = .ok v w' ∧ (Ending.returned v = .returned (.bool false) ∧ (∃ c, Jx c x w' ∧ w'.heap[w.heap.size + 1]? = some (.loop (rec .done (some c))) ∧ w'.heap[w.heap.size]? = some (.deferred (some []))) ∧ KeepsAll W1.heap.size W w') := fun jump W3 hk3 hj3 => by
        have hl3 := hk3.same _ _ (by omega) hl2
        have := run_endRound (P := P) (some jump) hl3
        rw [hrec] at this ⊢
        refine ⟨_, _, this, rfl, ⟨jump, ?_, World.putObj_heap_same (Array.getElem?_eq_some_iff.1 hl3).1, (World.putObj_heap_other (by omega)).trans (hk3.same _ _ (by omega) hk2)⟩, ((keeps_put W _ (by omega)).trans (hk3.above (by omega))).trans (keeps_put W3 _ (by omega))⟩
        exact hJ jump x W3 _ (some (w.heap.size + 1)) hj3 (grownBy_putObj' _ _ _) (fun r e => by cases e; exact ⟨by omega, .inr ⟨_, hl3, rfl⟩⟩)
      rintro e a3 W3 hp
      cases e with
      | ret => exact fin .ret W3 hp.1 hp.2
      | exit id => exact fin (.exit id) W3 hp.1 hp.2
      | goto t => exact fin (.goto t) W3 hp.1 hp.2
      | normal => exact hp.elim
      | panic ch => exact hp.elim
      | outgrown => exact hp.elim
    · rintro e W2 ⟨⟨v, rfl⟩, x, c, hi, hl, hk⟩
      refine ⟨some c, _, by have := run_endLoop (P := P) hl (by rw [hrec]; simp); rw [hrec] at this; exact this, wpIn_wide.2 (hstop _ c x _ (Nat.le_refl _) ?_ ((World.putObj_heap_other (by omega)).trans hk))⟩
      exact hJ c x W2 _ (some (w.heap.size + 1)) hi (grownBy_putObj' _ _ _) (fun r e => by cases e; exact ⟨by omega, .inr ⟨_, hl, rfl⟩⟩)
/-- A function whose body holds a range over a function, walked by the plain words. -/
theorem calls_of_marks {P : Program} {f : FuncId} {fn : Func} {c : Code} {args : Array Value} {w : World} {R : Ending → World → Prop}
    (hf : P.funcs[f]? = some fn) (hb : fn.body = some c)
    (h : c.wp P (bodyPostM Fence.wide 0 P fn R) { tmps := args ++ Array.replicate (fn.ntmps - args.size) undef, defers := [] } w) : Calls P f args w R :=
  callsIn_wide.1 (callsIn_of_wp_marks (F := Fence.wide) (n := 0) hf hb trivial (wpIn_wide.2 h) rfl)
end Go.Proofs.YtcojodkcpemfdaaDoor
