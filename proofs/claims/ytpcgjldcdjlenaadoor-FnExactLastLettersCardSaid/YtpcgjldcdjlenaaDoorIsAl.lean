/-
  IsAlphabet and AreDependent: both sides; the walks of their laws.
-/
import Derived.Test.YtpcgjldcdjlenaaDoorAlDep
namespace Go.Proofs.YtpcgjldcdjlenaaDoor
open Go.RowKit
set_option linter.unusedVariables false
set_option maxRecDepth 100000

end Go.Proofs.YtpcgjldcdjlenaaDoor
