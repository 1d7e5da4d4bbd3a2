/-
  What the specification's VotesFor answers.
-/
import Derived.Test.YtjcnbacbnfmkjabVMapA
namespace Go.Proofs.Ytjcnbacbnfmkjab
set_option linter.unusedVariables false
open Go.RowKit
attribute [local simp] far_const

end Go.Proofs.Ytjcnbacbnfmkjab
