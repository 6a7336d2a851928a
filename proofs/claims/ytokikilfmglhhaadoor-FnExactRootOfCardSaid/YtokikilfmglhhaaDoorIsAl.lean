/-
  IsAlphabet and AreDependent: both sides; the walks of their laws.
-/
import Derived.Test.YtokikilfmglhhaaDoorAlDep
namespace Go.Proofs.YtokikilfmglhhaaDoor
open Go.RowKit
set_option linter.unusedVariables false
set_option maxRecDepth 100000

end Go.Proofs.YtokikilfmglhhaaDoor
