/-
  The draws of the laws on chains: two chains, or one, of whatever content.
-/
import Derived.Test.YtfonpbglnkggfaaDraw5
namespace Go.Proofs.Ytfonpbglnkggfaa
set_option linter.unusedVariables false
open Go.RowKit
attribute [local simp] far_const

end Go.Proofs.Ytfonpbglnkggfaa
