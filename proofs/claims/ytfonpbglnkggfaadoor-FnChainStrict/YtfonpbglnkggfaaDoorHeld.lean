/-
  Rows of items that are held against their marks.
-/
import Derived.Test.YtfonpbglnkggfaaDoorMark
namespace Go.Proofs.YtfonpbglnkggfaaDoor
set_option linter.unusedVariables false
open Go.RowKit
attribute [local simp] far_const

end Go.Proofs.YtfonpbglnkggfaaDoor
