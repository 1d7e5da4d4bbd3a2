/-
  No cell of these rows narrows 'for every input' (looked for: loops, veiled, ifaces, maps, wideKeys, modest, calm, conditions, laid).
  DERIVED. THE GIVEN ROWS OF THIS SEAT. 7 by the template 'for every input the law returns true; each argument reads behind the call as it read before'; 0 by the template 'total and deterministic' (their statements: YtibhfiamibccnaaTotals.lean).
  GIVEN WITH THE SEED: the statements are not yours to turn. If you find one false, say at which input.
  Laid BY PROGRAM, IN A SANDBOX (cutbox-rows.mjs): the forced cells as the released guide's own fill.sh prints them over the translation e4fbfd2693db51e9… (all of the seat's roots in one cut). By AI agents, Wed Nov 11 2026. No macro, syntax, notation, axiom, sorry.
-/
import Derived.Test.YtibhfiamibccnaaChecked
import GoSem.Claim
import GoSem.ClaimJoined
import GoSem.ClaimMapViews
import Derived.JoinedTies
import Derived.KernelRfl
namespace Go.Proofs.Ytibhfiamibccnaa
/- THE CELL 'sum', in the pinned program and in every row, IS THE sha256 OF THE DUMP (.gsa) THAT YtibhfiamibccnaaProg.lean LOADS. Nothing in Lean hashes anything: it is a label: what it is worth is what the hold of that sum in a sandbox is worth. -/
noncomputable def Try.pinned : Pinned := { name := "ytibhfiamibccnaa", sum := "e4fbfd2693db51e95eb3e54f82396d8aa02f1b4fbb128c2965fb646659da28ef", checked := Try.checked }
namespace Rows
def none {H : Type} : Left H := { results := [], args := [] }

/-- 'laws.FnSureLess': WHATEVER THE INPUT: true; the input reads as it did. -/
def fnSureLessSpec : ChangeSpec := { name := "fnSureLess", fn := fun _ => fun
  | [d1, d2] => { results := [.lit (.bool true)], args := [d1, d2] }
  | _ => none }
def fnSureLessRow : OpenClaim := { program := "ytibhfiamibccnaa", sum := "e4fbfd2693db51e95eb3e54f82396d8aa02f1b4fbb128c2965fb646659da28ef", func := "loop.example/witan/laws.FnSureLess", spec := "fnSureLess", unfollowed := true, recurses := true, apart := false }
def FnSureLessSaid : Prop := fnSureLessRow.holds Try.pinned (OpenSpec.ofChange fnSureLessSpec)

/-- ITS FALSE NEIGHBOUR: 'it returns false'. Refute it at one input. -/
def fnSureLessWrong : ChangeSpec := { name := "fnSureLess", fn := fun _ => fun
  | [d1, d2] => { results := [.lit (.bool false)], args := [d1, d2] }
  | _ => none }
def FnSureLessWrongFalsely : Prop := fnSureLessRow.holds Try.pinned (OpenSpec.ofChange fnSureLessWrong)

/-- 'laws.FnSureMore': WHATEVER THE INPUT: true; the input reads as it did. -/
def fnSureMoreSpec : ChangeSpec := { name := "fnSureMore", fn := fun _ => fun
  | [d1, d2] => { results := [.lit (.bool true)], args := [d1, d2] }
  | _ => none }
def fnSureMoreRow : OpenClaim := { program := "ytibhfiamibccnaa", sum := "e4fbfd2693db51e95eb3e54f82396d8aa02f1b4fbb128c2965fb646659da28ef", func := "loop.example/witan/laws.FnSureMore", spec := "fnSureMore", unfollowed := true, recurses := true, apart := false }
def FnSureMoreSaid : Prop := fnSureMoreRow.holds Try.pinned (OpenSpec.ofChange fnSureMoreSpec)

/-- ITS FALSE NEIGHBOUR: 'it returns false'. Refute it at one input. -/
def fnSureMoreWrong : ChangeSpec := { name := "fnSureMore", fn := fun _ => fun
  | [d1, d2] => { results := [.lit (.bool false)], args := [d1, d2] }
  | _ => none }
def FnSureMoreWrongFalsely : Prop := fnSureMoreRow.holds Try.pinned (OpenSpec.ofChange fnSureMoreWrong)

/-- 'laws.FnSureCount': WHATEVER THE INPUT: true; the input reads as it did. -/
def fnSureCountSpec : ChangeSpec := { name := "fnSureCount", fn := fun _ => fun
  | [d] => { results := [.lit (.bool true)], args := [d] }
  | _ => none }
def fnSureCountRow : OpenClaim := { program := "ytibhfiamibccnaa", sum := "e4fbfd2693db51e95eb3e54f82396d8aa02f1b4fbb128c2965fb646659da28ef", func := "loop.example/witan/laws.FnSureCount", spec := "fnSureCount", unfollowed := true, recurses := true, apart := false }
def FnSureCountSaid : Prop := fnSureCountRow.holds Try.pinned (OpenSpec.ofChange fnSureCountSpec)

/-- ITS FALSE NEIGHBOUR: 'it returns false'. Refute it at one input. -/
def fnSureCountWrong : ChangeSpec := { name := "fnSureCount", fn := fun _ => fun
  | [d] => { results := [.lit (.bool false)], args := [d] }
  | _ => none }
def FnSureCountWrongFalsely : Prop := fnSureCountRow.holds Try.pinned (OpenSpec.ofChange fnSureCountWrong)

/-- 'laws.FnAllSure': WHATEVER THE INPUT: true; the input reads as it did. -/
def fnAllSureSpec : ChangeSpec := { name := "fnAllSure", fn := fun _ => fun
  | [d] => { results := [.lit (.bool true)], args := [d] }
  | _ => none }
def fnAllSureRow : OpenClaim := { program := "ytibhfiamibccnaa", sum := "e4fbfd2693db51e95eb3e54f82396d8aa02f1b4fbb128c2965fb646659da28ef", func := "loop.example/witan/laws.FnAllSure", spec := "fnAllSure", unfollowed := true, recurses := true, apart := false }
def FnAllSureSaid : Prop := fnAllSureRow.holds Try.pinned (OpenSpec.ofChange fnAllSureSpec)

/-- ITS FALSE NEIGHBOUR: 'it returns false'. Refute it at one input. -/
def fnAllSureWrong : ChangeSpec := { name := "fnAllSure", fn := fun _ => fun
  | [d] => { results := [.lit (.bool false)], args := [d] }
  | _ => none }
def FnAllSureWrongFalsely : Prop := fnAllSureRow.holds Try.pinned (OpenSpec.ofChange fnAllSureWrong)

/-- 'laws.FnTipLongest': WHATEVER THE INPUT: true; the input reads as it did. -/
def fnTipLongestSpec : ChangeSpec := { name := "fnTipLongest", fn := fun _ => fun
  | [d] => { results := [.lit (.bool true)], args := [d] }
  | _ => none }
def fnTipLongestRow : OpenClaim := { program := "ytibhfiamibccnaa", sum := "e4fbfd2693db51e95eb3e54f82396d8aa02f1b4fbb128c2965fb646659da28ef", func := "loop.example/witan/laws.FnTipLongest", spec := "fnTipLongest", unfollowed := true, recurses := true, apart := false }
def FnTipLongestSaid : Prop := fnTipLongestRow.holds Try.pinned (OpenSpec.ofChange fnTipLongestSpec)

/-- ITS FALSE NEIGHBOUR: 'it returns false'. Refute it at one input. -/
def fnTipLongestWrong : ChangeSpec := { name := "fnTipLongest", fn := fun _ => fun
  | [d] => { results := [.lit (.bool false)], args := [d] }
  | _ => none }
def FnTipLongestWrongFalsely : Prop := fnTipLongestRow.holds Try.pinned (OpenSpec.ofChange fnTipLongestWrong)

/-- 'laws.FnLongMore': WHATEVER THE INPUT: true; the input reads as it did. -/
def fnLongMoreSpec : ChangeSpec := { name := "fnLongMore", fn := fun _ => fun
  | [d1, d2] => { results := [.lit (.bool true)], args := [d1, d2] }
  | _ => none }
def fnLongMoreRow : OpenClaim := { program := "ytibhfiamibccnaa", sum := "e4fbfd2693db51e95eb3e54f82396d8aa02f1b4fbb128c2965fb646659da28ef", func := "loop.example/witan/laws.FnLongMore", spec := "fnLongMore", unfollowed := true, recurses := true, apart := false }
def FnLongMoreSaid : Prop := fnLongMoreRow.holds Try.pinned (OpenSpec.ofChange fnLongMoreSpec)

/-- ITS FALSE NEIGHBOUR: 'it returns false'. Refute it at one input. -/
def fnLongMoreWrong : ChangeSpec := { name := "fnLongMore", fn := fun _ => fun
  | [d1, d2] => { results := [.lit (.bool false)], args := [d1, d2] }
  | _ => none }
def FnLongMoreWrongFalsely : Prop := fnLongMoreRow.holds Try.pinned (OpenSpec.ofChange fnLongMoreWrong)

/-- 'laws.FnFinalSure': WHATEVER THE INPUT: true; the input reads as it did. -/
def fnFinalSureSpec : ChangeSpec := { name := "fnFinalSure", fn := fun _ => fun
  | [d] => { results := [.lit (.bool true)], args := [d] }
  | _ => none }
def fnFinalSureRow : OpenClaim := { program := "ytibhfiamibccnaa", sum := "e4fbfd2693db51e95eb3e54f82396d8aa02f1b4fbb128c2965fb646659da28ef", func := "loop.example/witan/laws.FnFinalSure", spec := "fnFinalSure", unfollowed := true, recurses := true, apart := false }
def FnFinalSureSaid : Prop := fnFinalSureRow.holds Try.pinned (OpenSpec.ofChange fnFinalSureSpec)

/-- ITS FALSE NEIGHBOUR: 'it returns false'. Refute it at one input. -/
def fnFinalSureWrong : ChangeSpec := { name := "fnFinalSure", fn := fun _ => fun
  | [d] => { results := [.lit (.bool false)], args := [d] }
  | _ => none }
def FnFinalSureWrongFalsely : Prop := fnFinalSureRow.holds Try.pinned (OpenSpec.ofChange fnFinalSureWrong)

/- THE SECOND FORM. 'bulk': how many values and letters a reading holds, each counted each time it is reached (what is shared counts as often as it is met; a slice's spare places count too). A statement '..UptoSaid' is the law's where the arguments, and the package variables that the reading takes, are together of bulk at most 1048576: NARROWER than '..Said'. Prove '..Said' where nothing that the law and all that it calls make is longer than what came in: it says more and counts as full. Else prove '..UptoSaid'. A law counts once. -/
mutual
def uptoBulk {H : Type} : DataW H → Nat
  | .lit (.string bytes) => bytes.length + 1
  | .lit _ => 1
  | .nil => 1
  | .ptr d => uptoBulk d + 1
  | .slice elems spare => uptoBulkAll elems + uptoBulkAll spare + 1
  | .agg parts => uptoBulkAll parts + 1
  | .iface _ d => uptoBulk d + 1
  | .map entries => uptoBulkEntries entries + 1
  | .held _ => 1
def uptoBulkAll {H : Type} : List (DataW H) → Nat
  | [] => 0
  | d :: r => uptoBulk d + uptoBulkAll r
def uptoBulkEntries {H : Type} : List (Lit × DataW H) → Nat
  | [] => 0
  | x :: r => uptoBulkEntry x + uptoBulkEntries r
def uptoBulkEntry {H : Type} : Lit × DataW H → Nat
  | (.string bytes, d) => bytes.length + uptoBulk d + 1
  | (_, d) => uptoBulk d + 1
 end
def uptoSmall : (H : Type) → List (DataW H) → Bool := fun _ ds => decide (uptoBulkAll ds ≤ 1048576)
def OpenSpec.upto (s : _root_.Go.ChangeSpec) : _root_.Go.OpenSpec := { _root_.Go.OpenSpec.ofChange s with cond := some uptoSmall }

/-- 'laws.FnSureLess', WHERE WHAT IT READS IS OF BULK AT MOST 1048576: true; the input reads as it did. -/
def fnSureLessUptoRow : OpenClaim := { program := "ytibhfiamibccnaa", sum := "e4fbfd2693db51e95eb3e54f82396d8aa02f1b4fbb128c2965fb646659da28ef", func := "loop.example/witan/laws.FnSureLess", spec := "fnSureLess", unfollowed := true, recurses := true, apart := false, narrowed := true }
def FnSureLessUptoSaid : Prop := fnSureLessUptoRow.holds Try.pinned (OpenSpec.upto fnSureLessSpec)

/-- 'laws.FnSureMore', WHERE WHAT IT READS IS OF BULK AT MOST 1048576: true; the input reads as it did. -/
def fnSureMoreUptoRow : OpenClaim := { program := "ytibhfiamibccnaa", sum := "e4fbfd2693db51e95eb3e54f82396d8aa02f1b4fbb128c2965fb646659da28ef", func := "loop.example/witan/laws.FnSureMore", spec := "fnSureMore", unfollowed := true, recurses := true, apart := false, narrowed := true }
def FnSureMoreUptoSaid : Prop := fnSureMoreUptoRow.holds Try.pinned (OpenSpec.upto fnSureMoreSpec)

/-- 'laws.FnSureCount', WHERE WHAT IT READS IS OF BULK AT MOST 1048576: true; the input reads as it did. -/
def fnSureCountUptoRow : OpenClaim := { program := "ytibhfiamibccnaa", sum := "e4fbfd2693db51e95eb3e54f82396d8aa02f1b4fbb128c2965fb646659da28ef", func := "loop.example/witan/laws.FnSureCount", spec := "fnSureCount", unfollowed := true, recurses := true, apart := false, narrowed := true }
def FnSureCountUptoSaid : Prop := fnSureCountUptoRow.holds Try.pinned (OpenSpec.upto fnSureCountSpec)

/-- 'laws.FnAllSure', WHERE WHAT IT READS IS OF BULK AT MOST 1048576: true; the input reads as it did. -/
def fnAllSureUptoRow : OpenClaim := { program := "ytibhfiamibccnaa", sum := "e4fbfd2693db51e95eb3e54f82396d8aa02f1b4fbb128c2965fb646659da28ef", func := "loop.example/witan/laws.FnAllSure", spec := "fnAllSure", unfollowed := true, recurses := true, apart := false, narrowed := true }
def FnAllSureUptoSaid : Prop := fnAllSureUptoRow.holds Try.pinned (OpenSpec.upto fnAllSureSpec)

/-- 'laws.FnTipLongest', WHERE WHAT IT READS IS OF BULK AT MOST 1048576: true; the input reads as it did. -/
def fnTipLongestUptoRow : OpenClaim := { program := "ytibhfiamibccnaa", sum := "e4fbfd2693db51e95eb3e54f82396d8aa02f1b4fbb128c2965fb646659da28ef", func := "loop.example/witan/laws.FnTipLongest", spec := "fnTipLongest", unfollowed := true, recurses := true, apart := false, narrowed := true }
def FnTipLongestUptoSaid : Prop := fnTipLongestUptoRow.holds Try.pinned (OpenSpec.upto fnTipLongestSpec)

/-- 'laws.FnLongMore', WHERE WHAT IT READS IS OF BULK AT MOST 1048576: true; the input reads as it did. -/
def fnLongMoreUptoRow : OpenClaim := { program := "ytibhfiamibccnaa", sum := "e4fbfd2693db51e95eb3e54f82396d8aa02f1b4fbb128c2965fb646659da28ef", func := "loop.example/witan/laws.FnLongMore", spec := "fnLongMore", unfollowed := true, recurses := true, apart := false, narrowed := true }
def FnLongMoreUptoSaid : Prop := fnLongMoreUptoRow.holds Try.pinned (OpenSpec.upto fnLongMoreSpec)

/-- 'laws.FnFinalSure', WHERE WHAT IT READS IS OF BULK AT MOST 1048576: true; the input reads as it did. -/
def fnFinalSureUptoRow : OpenClaim := { program := "ytibhfiamibccnaa", sum := "e4fbfd2693db51e95eb3e54f82396d8aa02f1b4fbb128c2965fb646659da28ef", func := "loop.example/witan/laws.FnFinalSure", spec := "fnFinalSure", unfollowed := true, recurses := true, apart := false, narrowed := true }
def FnFinalSureUptoSaid : Prop := fnFinalSureUptoRow.holds Try.pinned (OpenSpec.upto fnFinalSureSpec)

end Rows
end Go.Proofs.Ytibhfiamibccnaa
