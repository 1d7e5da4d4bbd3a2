/-
  The same contracts, told of slice values: what a call answered is handed on as it is.
-/
import Derived.Test.YtpimbbfcmgpckaaNumsA
import Derived.Test.YtpimbbfcmgpckaaBook5
namespace Go.Proofs.Ytpimbbfcmgpckaa
set_option linter.unusedVariables false
open Go.RowKit
attribute [local simp] far_const

end Go.Proofs.Ytpimbbfcmgpckaa
