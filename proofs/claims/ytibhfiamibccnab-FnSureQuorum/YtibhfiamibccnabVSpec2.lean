/-
  What the specification's VotesFor answers.
-/
import Derived.Test.YtibhfiamibccnabVMap3
namespace Go.Proofs.Ytibhfiamibccnab
set_option linter.unusedVariables false
open Go.RowKit
attribute [local simp] far_const

end Go.Proofs.Ytibhfiamibccnab
