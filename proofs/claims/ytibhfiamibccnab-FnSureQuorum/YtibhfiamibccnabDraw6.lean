/-
  The draws of the laws on chains: two chains, or one, of whatever content.
-/
import Derived.Test.YtibhfiamibccnabDraw5
namespace Go.Proofs.Ytibhfiamibccnab
set_option linter.unusedVariables false
open Go.RowKit
attribute [local simp] far_const

end Go.Proofs.Ytibhfiamibccnab
