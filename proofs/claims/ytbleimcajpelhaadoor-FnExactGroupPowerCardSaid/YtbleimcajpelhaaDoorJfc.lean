/-
  Three facts of the whole program that each frame asks, each checked apart.
-/
import Derived.Test.YtbleimcajpelhaaDoorRows
import Derived.JoinedOf
import Derived.KernelRfl
namespace Go.Proofs.YtbleimcajpelhaaDoor
theorem jf_mayEnter : Tryd.pinned.checked.prog.mayEnter = true := by kernel_rfl
theorem jf_lifts : Tryd.pinned.checked.prog.liftsFinal = Rows.fnExactIsSignedWordRow.lifted := by kernel_rfl
theorem jf_make : Tryd.pinned.checked.prog.make = some Rows.fnExactIsSignedWordRow.make := by kernel_rfl
end Go.Proofs.YtbleimcajpelhaaDoor
