/-
  A payment made, in the specification: l2Pay.
-/
import Derived.Test.YtppikkppgojbpaaBook2
namespace Go.Proofs.Ytppikkppgojbpaa
set_option linter.unusedVariables false
open Go.RowKit
attribute [local simp] far_const

end Go.Proofs.Ytppikkppgojbpaa
