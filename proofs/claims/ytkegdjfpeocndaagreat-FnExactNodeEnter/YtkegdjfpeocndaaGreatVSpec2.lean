/-
  What the specification's VotesFor answers.
-/
import Derived.Test.YtkegdjfpeocndaaGreatVMapA
namespace Go.Proofs.YtkegdjfpeocndaaGreat
set_option linter.unusedVariables false
open Go.RowKit
attribute [local simp] far_const

end Go.Proofs.YtkegdjfpeocndaaGreat
