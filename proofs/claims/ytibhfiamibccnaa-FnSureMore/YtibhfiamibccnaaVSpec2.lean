/-
  What the specification's VotesFor answers.
-/
import Derived.Test.YtibhfiamibccnaaVMap3
namespace Go.Proofs.Ytibhfiamibccnaa
set_option linter.unusedVariables false
open Go.RowKit
attribute [local simp] far_const

end Go.Proofs.Ytibhfiamibccnaa
