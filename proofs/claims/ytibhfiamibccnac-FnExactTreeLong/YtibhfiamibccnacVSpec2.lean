/-
  What the specification's VotesFor answers.
-/
import Derived.Test.YtibhfiamibccnacVMap3
namespace Go.Proofs.Ytibhfiamibccnac
set_option linter.unusedVariables false
open Go.RowKit
attribute [local simp] far_const

end Go.Proofs.Ytibhfiamibccnac
