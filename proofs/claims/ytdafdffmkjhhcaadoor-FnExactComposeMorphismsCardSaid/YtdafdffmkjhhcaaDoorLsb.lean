/-
  Three boxes.
-/
import Derived.Test.YtdafdffmkjhhcaaDoorLsa
namespace Go.Proofs.YtdafdffmkjhhcaaDoor
open Go Go.RowKit
theorem below3L (w : World) (o1 o2 o3 : Obj) : Below w.heap.size w (((w.alloc o1).alloc o2).alloc o3) := (((Below.refl _ _).alloc (Nat.le_refl _) o1).alloc (by simp) o2).alloc (by simp; omega) o3
end Go.Proofs.YtdafdffmkjhhcaaDoor
