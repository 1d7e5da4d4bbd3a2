/-
  Two chains that are drawn, and the draws of the laws on chains.
-/
import Derived.Test.YtpflkbmmkcaocaaDraw4
namespace Go.Proofs.Ytpflkbmmkcaocaa
set_option linter.unusedVariables false
open Go.RowKit
attribute [local simp] far_const

theorem OwnL.grown {w w' : World} {base : Nat} {v : Value} {l : List It} {row : Option Nat} (h : OwnL w base v l) (g : w.grownBy w' row) (hne : ∀ i k, v.ownBlock = some i → row = some k → i ≠ k) : OwnL w' base v l :=
  h.kept fun i _ hi hv => g.block i hi (fun e => hne i i hv e.symm rfl)

end Go.Proofs.Ytpflkbmmkcaocaa
