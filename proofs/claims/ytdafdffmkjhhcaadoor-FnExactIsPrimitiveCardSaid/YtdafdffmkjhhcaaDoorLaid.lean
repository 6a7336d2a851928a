/-
  From the card's condition to the walk's fact: the library's table lies in its variable as its text lays it.
-/
import Derived.Test.YtdafdffmkjhhcaaDoorRows
import Derived.Test.YtdafdffmkjhhcaaDoorTie
import Derived.Test.YtdafdffmkjhhcaaDoorB1
import Derived.ProofKit
import Derived.LaidMore
import Derived.Lib.LaidTab
import Derived.Stop.Joined
namespace Go.Proofs.YtdafdffmkjhhcaaDoor
open Go.ChangeShapes Go.WideShapes Go.ChangeAt Go.RowKit
set_option linter.unusedVariables false
set_option maxRecDepth 100000

theorem ownK : ownKnob Tryd.prog.godebug = none := by kernel_rfl
theorem laidOut : laidOutB Tryd.prog = true := by kernel_rfl
def lst : List (String × DataW Unit) := [("math/bits.deBruijn64tab", Rows.laid_math_bits_deBruijn64tab)]
theorem gTab : Tryd.prog.globalNamed "math/bits.deBruijn64tab" = some 0 := by kernel_rfl
theorem tTab : (Tryd.prog.globals[0]?).map (·.type) = some 182 := by kernel_rfl
theorem uTab : Tryd.prog.underlying 182 = some (.array 64 5) := by kernel_rfl
theorem cTab : Tryd.prog.cellsOf 182 = 64 := by kernel_rfl
theorem cU8 : Tryd.prog.cellsOf 5 = 1 := by kernel_rfl
theorem lst_tab : lst = [("math/bits.deBruijn64tab", Lib.tabData .u8 (Lib.deBruijn64tab.map fun k => ((k : Nat) : Int)))] := rfl
theorem door_met (os : Os) (args : Array Value) : laidMetH Tryd.prog lst ((World.doorLaid Tryd.prog 400 os).forCall (fun _ _ => 0) ⟨#[], args, []⟩).memory :=
  laidMetH_of_parts3 (fuel := 8) (laidMet_of_run' 8 (by kernel_rfl) (by kernel_rfl)) (by kernel_rfl) (by kernel_rfl)
theorem tab_of_laid {W : World} (h : laidMetH Tryd.prog lst W) : Tab W := by
  rw [MakeChecks.laidMetH_plain _ _ _ (by kernel_rfl), lst_tab] at h
  have ht := Lib.tabIs_of_head gTab tTab uTab Tryd.underlying5 cU8 cTab h
  intro j hj
  have hc := ht.cell gTab j (by simpa using (show j < Lib.deBruijn64tab.length from hj))
  rw [hc]
  congr 2
  simp only [List.getD_eq_getElem?_getD, List.getElem?_map]
  cases Lib.deBruijn64tab[j]? <;> rfl
end Go.Proofs.YtdafdffmkjhhcaaDoor
