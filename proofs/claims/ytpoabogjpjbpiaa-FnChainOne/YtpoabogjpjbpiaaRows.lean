/-
  No cell of these rows narrows 'for every input' (looked for: loops, veiled, ifaces, maps, wideKeys, modest, calm, conditions, laid).
  DERIVED. THE GIVEN ROWS OF THIS SEAT. 9 by the template 'for every input the law returns true; each argument reads behind the call as it read before'; 0 by the template 'total and deterministic' (their statements: YtpoabogjpjbpiaaTotals.lean).
  GIVEN WITH THE SEED: the statements are not yours to turn. If you find one false, say at which input.
  Laid BY PROGRAM, IN A SANDBOX (cutbox-rows.mjs): the forced cells as the released guide's own fill.sh prints them over the translation 24cea76e6033e6ac… (all of the seat's roots in one cut). By AI agents, Wed Nov 11 2026. No macro, syntax, notation, axiom, sorry.
-/
import Derived.Test.YtpoabogjpjbpiaaChecked
import GoSem.Claim
import GoSem.ClaimJoined
import GoSem.ClaimMapViews
import Derived.JoinedTies
import Derived.KernelRfl
namespace Go.Proofs.Ytpoabogjpjbpiaa
/- THE CELL 'sum', in the pinned program and in every row, IS THE sha256 OF THE DUMP (.gsa) THAT YtpoabogjpjbpiaaProg.lean LOADS. Nothing in Lean hashes anything: it is a label: what it is worth is what the hold of that sum in a sandbox is worth. -/
noncomputable def Try.pinned : Pinned := { name := "ytpoabogjpjbpiaa", sum := "24cea76e6033e6acf04ec7d103881431605afab378b17698308fd62c42d953fc", checked := Try.checked }
namespace Rows
def none {H : Type} : Left H := { results := [], args := [] }

/-- 'laws.FnChainIn': WHATEVER THE INPUT: true; the input reads as it did. -/
def fnChainInSpec : ChangeSpec := { name := "fnChainIn", fn := fun _ => fun
  | [d1, d2] => { results := [.lit (.bool true)], args := [d1, d2] }
  | _ => none }
def fnChainInRow : OpenClaim := { program := "ytpoabogjpjbpiaa", sum := "24cea76e6033e6acf04ec7d103881431605afab378b17698308fd62c42d953fc", func := "loop.example/witan/laws.FnChainIn", spec := "fnChainIn", unfollowed := true, recurses := true, apart := false }
def FnChainInSaid : Prop := fnChainInRow.holds Try.pinned (OpenSpec.ofChange fnChainInSpec)

/-- ITS FALSE NEIGHBOUR: 'it returns false'. Refute it at one input. -/
def fnChainInWrong : ChangeSpec := { name := "fnChainIn", fn := fun _ => fun
  | [d1, d2] => { results := [.lit (.bool false)], args := [d1, d2] }
  | _ => none }
def FnChainInWrongFalsely : Prop := fnChainInRow.holds Try.pinned (OpenSpec.ofChange fnChainInWrong)

/-- 'laws.FnChainBoth': WHATEVER THE INPUT: true; the input reads as it did. -/
def fnChainBothSpec : ChangeSpec := { name := "fnChainBoth", fn := fun _ => fun
  | [d] => { results := [.lit (.bool true)], args := [d] }
  | _ => none }
def fnChainBothRow : OpenClaim := { program := "ytpoabogjpjbpiaa", sum := "24cea76e6033e6acf04ec7d103881431605afab378b17698308fd62c42d953fc", func := "loop.example/witan/laws.FnChainBoth", spec := "fnChainBoth", unfollowed := true, recurses := true, apart := false }
def FnChainBothSaid : Prop := fnChainBothRow.holds Try.pinned (OpenSpec.ofChange fnChainBothSpec)

/-- ITS FALSE NEIGHBOUR: 'it returns false'. Refute it at one input. -/
def fnChainBothWrong : ChangeSpec := { name := "fnChainBoth", fn := fun _ => fun
  | [d] => { results := [.lit (.bool false)], args := [d] }
  | _ => none }
def FnChainBothWrongFalsely : Prop := fnChainBothRow.holds Try.pinned (OpenSpec.ofChange fnChainBothWrong)

/-- 'laws.FnChainOne': WHATEVER THE INPUT: true; the input reads as it did. -/
def fnChainOneSpec : ChangeSpec := { name := "fnChainOne", fn := fun _ => fun
  | [d1, d2] => { results := [.lit (.bool true)], args := [d1, d2] }
  | _ => none }
def fnChainOneRow : OpenClaim := { program := "ytpoabogjpjbpiaa", sum := "24cea76e6033e6acf04ec7d103881431605afab378b17698308fd62c42d953fc", func := "loop.example/witan/laws.FnChainOne", spec := "fnChainOne", unfollowed := true, recurses := true, apart := false }
def FnChainOneSaid : Prop := fnChainOneRow.holds Try.pinned (OpenSpec.ofChange fnChainOneSpec)

/-- ITS FALSE NEIGHBOUR: 'it returns false'. Refute it at one input. -/
def fnChainOneWrong : ChangeSpec := { name := "fnChainOne", fn := fun _ => fun
  | [d1, d2] => { results := [.lit (.bool false)], args := [d1, d2] }
  | _ => none }
def FnChainOneWrongFalsely : Prop := fnChainOneRow.holds Try.pinned (OpenSpec.ofChange fnChainOneWrong)

/-- 'laws.FnBothThree': WHATEVER THE INPUT: true; the input reads as it did. -/
def fnBothThreeSpec : ChangeSpec := { name := "fnBothThree", fn := fun _ => fun
  | [d1, d2] => { results := [.lit (.bool true)], args := [d1, d2] }
  | _ => none }
def fnBothThreeRow : OpenClaim := { program := "ytpoabogjpjbpiaa", sum := "24cea76e6033e6acf04ec7d103881431605afab378b17698308fd62c42d953fc", func := "loop.example/witan/laws.FnBothThree", spec := "fnBothThree", unfollowed := true, recurses := true, apart := false }
def FnBothThreeSaid : Prop := fnBothThreeRow.holds Try.pinned (OpenSpec.ofChange fnBothThreeSpec)

/-- ITS FALSE NEIGHBOUR: 'it returns false'. Refute it at one input. -/
def fnBothThreeWrong : ChangeSpec := { name := "fnBothThree", fn := fun _ => fun
  | [d1, d2] => { results := [.lit (.bool false)], args := [d1, d2] }
  | _ => none }
def FnBothThreeWrongFalsely : Prop := fnBothThreeRow.holds Try.pinned (OpenSpec.ofChange fnBothThreeWrong)

/-- 'laws.FnExactPayOk': WHATEVER THE INPUT: true; the input reads as it did. -/
def fnExactPayOkSpec : ChangeSpec := { name := "fnExactPayOk", fn := fun _ => fun
  | [d] => { results := [.lit (.bool true)], args := [d] }
  | _ => none }
def fnExactPayOkRow : OpenClaim := { program := "ytpoabogjpjbpiaa", sum := "24cea76e6033e6acf04ec7d103881431605afab378b17698308fd62c42d953fc", func := "loop.example/witan/laws.FnExactPayOk", spec := "fnExactPayOk", apart := false }
def FnExactPayOkSaid : Prop := fnExactPayOkRow.holds Try.pinned (OpenSpec.ofChange fnExactPayOkSpec)

/-- ITS FALSE NEIGHBOUR: 'it returns false'. Refute it at one input. -/
def fnExactPayOkWrong : ChangeSpec := { name := "fnExactPayOk", fn := fun _ => fun
  | [d] => { results := [.lit (.bool false)], args := [d] }
  | _ => none }
def FnExactPayOkWrongFalsely : Prop := fnExactPayOkRow.holds Try.pinned (OpenSpec.ofChange fnExactPayOkWrong)

/-- 'laws.FnExactChainOk': WHATEVER THE INPUT: true; the input reads as it did. -/
def fnExactChainOkSpec : ChangeSpec := { name := "fnExactChainOk", fn := fun _ => fun
  | [d] => { results := [.lit (.bool true)], args := [d] }
  | _ => none }
def fnExactChainOkRow : OpenClaim := { program := "ytpoabogjpjbpiaa", sum := "24cea76e6033e6acf04ec7d103881431605afab378b17698308fd62c42d953fc", func := "loop.example/witan/laws.FnExactChainOk", spec := "fnExactChainOk", unfollowed := true, recurses := true, apart := false }
def FnExactChainOkSaid : Prop := fnExactChainOkRow.holds Try.pinned (OpenSpec.ofChange fnExactChainOkSpec)

/-- ITS FALSE NEIGHBOUR: 'it returns false'. Refute it at one input. -/
def fnExactChainOkWrong : ChangeSpec := { name := "fnExactChainOk", fn := fun _ => fun
  | [d] => { results := [.lit (.bool false)], args := [d] }
  | _ => none }
def FnExactChainOkWrongFalsely : Prop := fnExactChainOkRow.holds Try.pinned (OpenSpec.ofChange fnExactChainOkWrong)

/-- 'laws.FnExactChainIn': WHATEVER THE INPUT: true; the input reads as it did. -/
def fnExactChainInSpec : ChangeSpec := { name := "fnExactChainIn", fn := fun _ => fun
  | [d1, d2] => { results := [.lit (.bool true)], args := [d1, d2] }
  | _ => none }
def fnExactChainInRow : OpenClaim := { program := "ytpoabogjpjbpiaa", sum := "24cea76e6033e6acf04ec7d103881431605afab378b17698308fd62c42d953fc", func := "loop.example/witan/laws.FnExactChainIn", spec := "fnExactChainIn", unfollowed := true, recurses := true, apart := false }
def FnExactChainInSaid : Prop := fnExactChainInRow.holds Try.pinned (OpenSpec.ofChange fnExactChainInSpec)

/-- ITS FALSE NEIGHBOUR: 'it returns false'. Refute it at one input. -/
def fnExactChainInWrong : ChangeSpec := { name := "fnExactChainIn", fn := fun _ => fun
  | [d1, d2] => { results := [.lit (.bool false)], args := [d1, d2] }
  | _ => none }
def FnExactChainInWrongFalsely : Prop := fnExactChainInRow.holds Try.pinned (OpenSpec.ofChange fnExactChainInWrong)

/-- 'laws.FnExactChainBoth': WHATEVER THE INPUT: true; the input reads as it did. -/
def fnExactChainBothSpec : ChangeSpec := { name := "fnExactChainBoth", fn := fun _ => fun
  | [d1, d2] => { results := [.lit (.bool true)], args := [d1, d2] }
  | _ => none }
def fnExactChainBothRow : OpenClaim := { program := "ytpoabogjpjbpiaa", sum := "24cea76e6033e6acf04ec7d103881431605afab378b17698308fd62c42d953fc", func := "loop.example/witan/laws.FnExactChainBoth", spec := "fnExactChainBoth", unfollowed := true, recurses := true, apart := false }
def FnExactChainBothSaid : Prop := fnExactChainBothRow.holds Try.pinned (OpenSpec.ofChange fnExactChainBothSpec)

/-- ITS FALSE NEIGHBOUR: 'it returns false'. Refute it at one input. -/
def fnExactChainBothWrong : ChangeSpec := { name := "fnExactChainBoth", fn := fun _ => fun
  | [d1, d2] => { results := [.lit (.bool false)], args := [d1, d2] }
  | _ => none }
def FnExactChainBothWrongFalsely : Prop := fnExactChainBothRow.holds Try.pinned (OpenSpec.ofChange fnExactChainBothWrong)

/-- 'laws.FnExactChainText': WHATEVER THE INPUT: true; the input reads as it did. -/
def fnExactChainTextSpec : ChangeSpec := { name := "fnExactChainText", fn := fun _ => fun
  | [d] => { results := [.lit (.bool true)], args := [d] }
  | _ => none }
def fnExactChainTextRow : OpenClaim := { program := "ytpoabogjpjbpiaa", sum := "24cea76e6033e6acf04ec7d103881431605afab378b17698308fd62c42d953fc", func := "loop.example/witan/laws.FnExactChainText", spec := "fnExactChainText", unfollowed := true, recurses := true, apart := false }
def FnExactChainTextSaid : Prop := fnExactChainTextRow.holds Try.pinned (OpenSpec.ofChange fnExactChainTextSpec)

/-- ITS FALSE NEIGHBOUR: 'it returns false'. Refute it at one input. -/
def fnExactChainTextWrong : ChangeSpec := { name := "fnExactChainText", fn := fun _ => fun
  | [d] => { results := [.lit (.bool false)], args := [d] }
  | _ => none }
def FnExactChainTextWrongFalsely : Prop := fnExactChainTextRow.holds Try.pinned (OpenSpec.ofChange fnExactChainTextWrong)

/- THE SECOND FORM. 'bulk': how many values and letters a reading holds, each counted each time it is reached (what is shared counts as often as it is met; a slice's spare places count too). A statement '..UptoSaid' is the law's where the arguments, and the package variables that the reading takes, are together of bulk at most 1048576: NARROWER than '..Said'. Prove '..Said' where nothing that the law and all that it calls make is longer than what came in: it says more and counts as full. Else prove '..UptoSaid'. A law counts once. -/
mutual
def uptoBulk {H : Type} : DataW H → Nat
  | .lit (.string bytes) => bytes.length + 1
  | .lit _ => 1
  | .nil => 1
  | .ptr d => uptoBulk d + 1
  | .slice elems spare => uptoBulkAll elems + uptoBulkAll spare + 1
  | .agg parts => uptoBulkAll parts + 1
  | .iface _ d => uptoBulk d + 1
  | .map entries => uptoBulkEntries entries + 1
  | .held _ => 1
def uptoBulkAll {H : Type} : List (DataW H) → Nat
  | [] => 0
  | d :: r => uptoBulk d + uptoBulkAll r
def uptoBulkEntries {H : Type} : List (Lit × DataW H) → Nat
  | [] => 0
  | x :: r => uptoBulkEntry x + uptoBulkEntries r
def uptoBulkEntry {H : Type} : Lit × DataW H → Nat
  | (.string bytes, d) => bytes.length + uptoBulk d + 1
  | (_, d) => uptoBulk d + 1
 end
def uptoSmall : (H : Type) → List (DataW H) → Bool := fun _ ds => decide (uptoBulkAll ds ≤ 1048576)
def OpenSpec.upto (s : _root_.Go.ChangeSpec) : _root_.Go.OpenSpec := { _root_.Go.OpenSpec.ofChange s with cond := some uptoSmall }

/-- 'laws.FnChainIn', WHERE WHAT IT READS IS OF BULK AT MOST 1048576: true; the input reads as it did. -/
def fnChainInUptoRow : OpenClaim := { program := "ytpoabogjpjbpiaa", sum := "24cea76e6033e6acf04ec7d103881431605afab378b17698308fd62c42d953fc", func := "loop.example/witan/laws.FnChainIn", spec := "fnChainIn", unfollowed := true, recurses := true, apart := false, narrowed := true }
def FnChainInUptoSaid : Prop := fnChainInUptoRow.holds Try.pinned (OpenSpec.upto fnChainInSpec)

/-- 'laws.FnChainBoth', WHERE WHAT IT READS IS OF BULK AT MOST 1048576: true; the input reads as it did. -/
def fnChainBothUptoRow : OpenClaim := { program := "ytpoabogjpjbpiaa", sum := "24cea76e6033e6acf04ec7d103881431605afab378b17698308fd62c42d953fc", func := "loop.example/witan/laws.FnChainBoth", spec := "fnChainBoth", unfollowed := true, recurses := true, apart := false, narrowed := true }
def FnChainBothUptoSaid : Prop := fnChainBothUptoRow.holds Try.pinned (OpenSpec.upto fnChainBothSpec)

/-- 'laws.FnChainOne', WHERE WHAT IT READS IS OF BULK AT MOST 1048576: true; the input reads as it did. -/
def fnChainOneUptoRow : OpenClaim := { program := "ytpoabogjpjbpiaa", sum := "24cea76e6033e6acf04ec7d103881431605afab378b17698308fd62c42d953fc", func := "loop.example/witan/laws.FnChainOne", spec := "fnChainOne", unfollowed := true, recurses := true, apart := false, narrowed := true }
def FnChainOneUptoSaid : Prop := fnChainOneUptoRow.holds Try.pinned (OpenSpec.upto fnChainOneSpec)

/-- 'laws.FnBothThree', WHERE WHAT IT READS IS OF BULK AT MOST 1048576: true; the input reads as it did. -/
def fnBothThreeUptoRow : OpenClaim := { program := "ytpoabogjpjbpiaa", sum := "24cea76e6033e6acf04ec7d103881431605afab378b17698308fd62c42d953fc", func := "loop.example/witan/laws.FnBothThree", spec := "fnBothThree", unfollowed := true, recurses := true, apart := false, narrowed := true }
def FnBothThreeUptoSaid : Prop := fnBothThreeUptoRow.holds Try.pinned (OpenSpec.upto fnBothThreeSpec)

/-- 'laws.FnExactPayOk', WHERE WHAT IT READS IS OF BULK AT MOST 1048576: true; the input reads as it did. -/
def fnExactPayOkUptoRow : OpenClaim := { program := "ytpoabogjpjbpiaa", sum := "24cea76e6033e6acf04ec7d103881431605afab378b17698308fd62c42d953fc", func := "loop.example/witan/laws.FnExactPayOk", spec := "fnExactPayOk", apart := false, narrowed := true }
def FnExactPayOkUptoSaid : Prop := fnExactPayOkUptoRow.holds Try.pinned (OpenSpec.upto fnExactPayOkSpec)

/-- 'laws.FnExactChainOk', WHERE WHAT IT READS IS OF BULK AT MOST 1048576: true; the input reads as it did. -/
def fnExactChainOkUptoRow : OpenClaim := { program := "ytpoabogjpjbpiaa", sum := "24cea76e6033e6acf04ec7d103881431605afab378b17698308fd62c42d953fc", func := "loop.example/witan/laws.FnExactChainOk", spec := "fnExactChainOk", unfollowed := true, recurses := true, apart := false, narrowed := true }
def FnExactChainOkUptoSaid : Prop := fnExactChainOkUptoRow.holds Try.pinned (OpenSpec.upto fnExactChainOkSpec)

/-- 'laws.FnExactChainIn', WHERE WHAT IT READS IS OF BULK AT MOST 1048576: true; the input reads as it did. -/
def fnExactChainInUptoRow : OpenClaim := { program := "ytpoabogjpjbpiaa", sum := "24cea76e6033e6acf04ec7d103881431605afab378b17698308fd62c42d953fc", func := "loop.example/witan/laws.FnExactChainIn", spec := "fnExactChainIn", unfollowed := true, recurses := true, apart := false, narrowed := true }
def FnExactChainInUptoSaid : Prop := fnExactChainInUptoRow.holds Try.pinned (OpenSpec.upto fnExactChainInSpec)

/-- 'laws.FnExactChainBoth', WHERE WHAT IT READS IS OF BULK AT MOST 1048576: true; the input reads as it did. -/
def fnExactChainBothUptoRow : OpenClaim := { program := "ytpoabogjpjbpiaa", sum := "24cea76e6033e6acf04ec7d103881431605afab378b17698308fd62c42d953fc", func := "loop.example/witan/laws.FnExactChainBoth", spec := "fnExactChainBoth", unfollowed := true, recurses := true, apart := false, narrowed := true }
def FnExactChainBothUptoSaid : Prop := fnExactChainBothUptoRow.holds Try.pinned (OpenSpec.upto fnExactChainBothSpec)

/-- 'laws.FnExactChainText', WHERE WHAT IT READS IS OF BULK AT MOST 1048576: true; the input reads as it did. -/
def fnExactChainTextUptoRow : OpenClaim := { program := "ytpoabogjpjbpiaa", sum := "24cea76e6033e6acf04ec7d103881431605afab378b17698308fd62c42d953fc", func := "loop.example/witan/laws.FnExactChainText", spec := "fnExactChainText", unfollowed := true, recurses := true, apart := false, narrowed := true }
def FnExactChainTextUptoSaid : Prop := fnExactChainTextUptoRow.holds Try.pinned (OpenSpec.upto fnExactChainTextSpec)

end Rows
end Go.Proofs.Ytpoabogjpjbpiaa
