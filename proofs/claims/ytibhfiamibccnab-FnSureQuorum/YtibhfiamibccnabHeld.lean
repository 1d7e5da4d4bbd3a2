/-
  Rows of items that are held against their marks.
-/
import Derived.Test.YtibhfiamibccnabMark
namespace Go.Proofs.Ytibhfiamibccnab
set_option linter.unusedVariables false
open Go.RowKit
attribute [local simp] far_const

end Go.Proofs.Ytibhfiamibccnab
