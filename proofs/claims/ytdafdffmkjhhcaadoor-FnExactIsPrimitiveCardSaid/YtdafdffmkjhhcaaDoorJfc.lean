/-
  Three facts of the whole program that each frame asks, each checked apart.
-/
import Derived.Test.YtdafdffmkjhhcaaDoorRows
import Derived.JoinedOf
import Derived.KernelRfl
namespace Go.Proofs.YtdafdffmkjhhcaaDoor
theorem jf_mayEnter : Tryd.pinned.checked.prog.mayEnter = true := by kernel_rfl
theorem jf_lifts : Tryd.pinned.checked.prog.liftsFinal = Rows.fnExactIsMorphismRow.lifted := by kernel_rfl
theorem jf_make : Tryd.pinned.checked.prog.make = some Rows.fnExactIsMorphismRow.make := by kernel_rfl
end Go.Proofs.YtdafdffmkjhhcaaDoor
