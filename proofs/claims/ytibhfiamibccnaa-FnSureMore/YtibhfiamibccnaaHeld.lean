/-
  Rows of items that are held against their marks.
-/
import Derived.Test.YtibhfiamibccnaaMark
namespace Go.Proofs.Ytibhfiamibccnaa
set_option linter.unusedVariables false
open Go.RowKit
attribute [local simp] far_const

end Go.Proofs.Ytibhfiamibccnaa
