/-
  What the specification's VotesFor answers.
-/
import Derived.Test.YtjcnbacbnfmkjaaVMap3
namespace Go.Proofs.Ytjcnbacbnfmkjaa
set_option linter.unusedVariables false
open Go.RowKit
attribute [local simp] far_const

end Go.Proofs.Ytjcnbacbnfmkjaa
