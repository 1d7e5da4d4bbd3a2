/-
  The draws of the laws on chains: two chains, or one, of whatever content.
-/
import Derived.Test.YtibhfiamibccnaaDraw5
namespace Go.Proofs.Ytibhfiamibccnaa
set_option linter.unusedVariables false
open Go.RowKit
attribute [local simp] far_const

end Go.Proofs.Ytibhfiamibccnaa
