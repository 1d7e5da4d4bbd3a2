/-
  What TreeAll answers.
-/
import Derived.RangeFuncNested
import Derived.RangeFuncBound
import Derived.RangeFuncCalls
import Derived.RangeFuncLeaves
import Derived.Shelf.Abstract
import Derived.Shelf.RegionOpen
import Derived.WalkKit
import Derived.OwnWalkIn
import Derived.TacticsInMore
import Derived.LoopNIn
import Derived.LoopIn
import Derived.Deep.RegionHeld
import Derived.Test.YteemihgakcmamaaTAllA
namespace Go.Proofs.Yteemihgakcmamaa
set_option linter.unusedVariables false
open Go.RowKit Go.Shelf
attribute [local go_sem] Oper.semAt_some
attribute [local simp] far_const

/-- A chain of a row, told by its number. -/
theorem wf_size {n : Nat} (h : n ≤ 1048576) : n ≤ maxLen := by unfold maxLen; omega

end Go.Proofs.Yteemihgakcmamaa
