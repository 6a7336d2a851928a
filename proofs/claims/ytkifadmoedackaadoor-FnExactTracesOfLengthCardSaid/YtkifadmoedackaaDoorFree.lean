/-
  The alphabet of a dependence, and the alphabet of letters that are all independent: by contracts.
-/
import Derived.Test.YtkifadmoedackaaDoorIsAl
import Derived.Test.YtkifadmoedackaaDoorAlJoin
import Derived.Test.YtkifadmoedackaaDoorParts
import Derived.Deep.AppendLies
namespace Go.Proofs.YtkifadmoedackaaDoor
open Go.RowKit
set_option linter.unusedVariables false
set_option maxRecDepth 100000

theorem ownBlock_map {A : Option Addr} {n c q : Nat} (h : (Value.slice A n c).ownBlock = some q) : A.map (·.block) = some q := by
  cases A with
  | none => cases h
  | some a => simpa [Value.ownBlock] using h
theorem size1 (w : World) (o : Obj) : (w.alloc o).heap.size = w.heap.size + 1 := by simp
theorem AlPost.from_ {w w1 w' : World} {VL : Int} {VN : Nat} {VX : List Int} {C : Int} {e : Ending} (h : AlPost w1 VL VN VX C e w') (hb : Below w.heap.size w w1) : AlPost w VL VN VX C e w' := by
  obtain ⟨A, c, rfl, ho, hb2⟩ := h
  exact ⟨A, c, rfl, ho.mono hb.size, hb.trans (hb2.mono hb.size)⟩
/-- What a maker of an alphabet leaves. -/
def MakesAl (w : World) (L : Int) (n : Nat) (xs : List Int) (e : Ending) (w' : World) : Prop :=
  ∃ A c, e = .returned (.agg #[.int .i64 L, .slice A n c]) ∧ Own 2 w' w.heap.size A n c xs ∧ Below w.heap.size w w'
end Go.Proofs.YtkifadmoedackaaDoor
