/-
  The draws of the laws on chains: two chains, or one, of whatever content.
-/
import Derived.Test.YtpflkbmmkcaocaaDraw5
namespace Go.Proofs.Ytpflkbmmkcaocaa
set_option linter.unusedVariables false
open Go.RowKit
attribute [local simp] far_const

end Go.Proofs.Ytpflkbmmkcaocaa
