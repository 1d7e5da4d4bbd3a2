/-
  A payment made, in the specification: l2Pay.
-/
import Derived.Test.YteemihgakcmamaaBook2
namespace Go.Proofs.Yteemihgakcmamaa
set_option linter.unusedVariables false
open Go.RowKit
attribute [local simp] far_const

end Go.Proofs.Yteemihgakcmamaa
