/-
  No cell of these rows narrows 'for every input' (looked for: loops, veiled, ifaces, maps, wideKeys, modest, calm, conditions, laid).
  DERIVED. THE GIVEN ROWS OF THIS SEAT. 7 by the template 'for every input the law returns true; each argument reads behind the call as it read before'; 0 by the template 'total and deterministic' (their statements: YtjcnbacbnfmkjaaTotals.lean).
  GIVEN WITH THE SEED: the statements are not yours to turn. If you find one false, say at which input.
  Laid BY PROGRAM, IN A SANDBOX (cutbox-rows.mjs): the forced cells as the released guide's own fill.sh prints them over the translation 8b9de5ae979da207… (all of the seat's roots in one cut). By AI agents, Wed Nov 11 2026. No macro, syntax, notation, axiom, sorry.
-/
import Derived.Test.YtjcnbacbnfmkjaaChecked
import GoSem.Claim
import GoSem.ClaimJoined
import GoSem.ClaimMapViews
import Derived.JoinedTies
import Derived.KernelRfl
namespace Go.Proofs.Ytjcnbacbnfmkjaa
/- THE CELL 'sum', in the pinned program and in every row, IS THE sha256 OF THE DUMP (.gsa) THAT YtjcnbacbnfmkjaaProg.lean LOADS. Nothing in Lean hashes anything: it is a label: what it is worth is what the hold of that sum in a sandbox is worth. -/
noncomputable def Try.pinned : Pinned := { name := "ytjcnbacbnfmkjaa", sum := "8b9de5ae979da2079c268233e6c5ec550c98951b3994f4b113e70cfb8f9ec791", checked := Try.checked }
namespace Rows
def none {H : Type} : Left H := { results := [], args := [] }

/-- 'laws.FnExactTreeTip': WHATEVER THE INPUT: true; the input reads as it did. -/
def fnExactTreeTipSpec : ChangeSpec := { name := "fnExactTreeTip", fn := fun _ => fun
  | [d] => { results := [.lit (.bool true)], args := [d] }
  | _ => none }
def fnExactTreeTipRow : OpenClaim := { program := "ytjcnbacbnfmkjaa", sum := "8b9de5ae979da2079c268233e6c5ec550c98951b3994f4b113e70cfb8f9ec791", func := "loop.example/witan/laws.FnExactTreeTip", spec := "fnExactTreeTip", unfollowed := true, recurses := true, apart := false }
def FnExactTreeTipSaid : Prop := fnExactTreeTipRow.holds Try.pinned (OpenSpec.ofChange fnExactTreeTipSpec)

/-- ITS FALSE NEIGHBOUR: 'it returns false'. Refute it at one input. -/
def fnExactTreeTipWrong : ChangeSpec := { name := "fnExactTreeTip", fn := fun _ => fun
  | [d] => { results := [.lit (.bool false)], args := [d] }
  | _ => none }
def FnExactTreeTipWrongFalsely : Prop := fnExactTreeTipRow.holds Try.pinned (OpenSpec.ofChange fnExactTreeTipWrong)

/-- 'laws.FnExactTreeAll': WHATEVER THE INPUT: true; the input reads as it did. -/
def fnExactTreeAllSpec : ChangeSpec := { name := "fnExactTreeAll", fn := fun _ => fun
  | [d] => { results := [.lit (.bool true)], args := [d] }
  | _ => none }
def fnExactTreeAllRow : OpenClaim := { program := "ytjcnbacbnfmkjaa", sum := "8b9de5ae979da2079c268233e6c5ec550c98951b3994f4b113e70cfb8f9ec791", func := "loop.example/witan/laws.FnExactTreeAll", spec := "fnExactTreeAll", unfollowed := true, recurses := true, apart := false }
def FnExactTreeAllSaid : Prop := fnExactTreeAllRow.holds Try.pinned (OpenSpec.ofChange fnExactTreeAllSpec)

/-- ITS FALSE NEIGHBOUR: 'it returns false'. Refute it at one input. -/
def fnExactTreeAllWrong : ChangeSpec := { name := "fnExactTreeAll", fn := fun _ => fun
  | [d] => { results := [.lit (.bool false)], args := [d] }
  | _ => none }
def FnExactTreeAllWrongFalsely : Prop := fnExactTreeAllRow.holds Try.pinned (OpenSpec.ofChange fnExactTreeAllWrong)

/-- 'laws.FnExactTreeFinal': WHATEVER THE INPUT: true; the input reads as it did. -/
def fnExactTreeFinalSpec : ChangeSpec := { name := "fnExactTreeFinal", fn := fun _ => fun
  | [d] => { results := [.lit (.bool true)], args := [d] }
  | _ => none }
def fnExactTreeFinalRow : OpenClaim := { program := "ytjcnbacbnfmkjaa", sum := "8b9de5ae979da2079c268233e6c5ec550c98951b3994f4b113e70cfb8f9ec791", func := "loop.example/witan/laws.FnExactTreeFinal", spec := "fnExactTreeFinal", unfollowed := true, recurses := true, apart := false }
def FnExactTreeFinalSaid : Prop := fnExactTreeFinalRow.holds Try.pinned (OpenSpec.ofChange fnExactTreeFinalSpec)

/-- ITS FALSE NEIGHBOUR: 'it returns false'. Refute it at one input. -/
def fnExactTreeFinalWrong : ChangeSpec := { name := "fnExactTreeFinal", fn := fun _ => fun
  | [d] => { results := [.lit (.bool false)], args := [d] }
  | _ => none }
def FnExactTreeFinalWrongFalsely : Prop := fnExactTreeFinalRow.holds Try.pinned (OpenSpec.ofChange fnExactTreeFinalWrong)

/-- 'laws.FnExactNodeNew': WHATEVER THE INPUT: true; the input reads as it did. -/
def fnExactNodeNewSpec : ChangeSpec := { name := "fnExactNodeNew", fn := fun _ => fun
  | [d] => { results := [.lit (.bool true)], args := [d] }
  | _ => none }
def fnExactNodeNewRow : OpenClaim := { program := "ytjcnbacbnfmkjaa", sum := "8b9de5ae979da2079c268233e6c5ec550c98951b3994f4b113e70cfb8f9ec791", func := "loop.example/witan/laws.FnExactNodeNew", spec := "fnExactNodeNew", apart := false }
def FnExactNodeNewSaid : Prop := fnExactNodeNewRow.holds Try.pinned (OpenSpec.ofChange fnExactNodeNewSpec)

/-- ITS FALSE NEIGHBOUR: 'it returns false'. Refute it at one input. -/
def fnExactNodeNewWrong : ChangeSpec := { name := "fnExactNodeNew", fn := fun _ => fun
  | [d] => { results := [.lit (.bool false)], args := [d] }
  | _ => none }
def FnExactNodeNewWrongFalsely : Prop := fnExactNodeNewRow.holds Try.pinned (OpenSpec.ofChange fnExactNodeNewWrong)

/-- 'laws.FnExactNodeOk': WHATEVER THE INPUT: true; the input reads as it did. -/
def fnExactNodeOkSpec : ChangeSpec := { name := "fnExactNodeOk", fn := fun _ => fun
  | [d] => { results := [.lit (.bool true)], args := [d] }
  | _ => none }
def fnExactNodeOkRow : OpenClaim := { program := "ytjcnbacbnfmkjaa", sum := "8b9de5ae979da2079c268233e6c5ec550c98951b3994f4b113e70cfb8f9ec791", func := "loop.example/witan/laws.FnExactNodeOk", spec := "fnExactNodeOk", unfollowed := true, recurses := true, apart := false }
def FnExactNodeOkSaid : Prop := fnExactNodeOkRow.holds Try.pinned (OpenSpec.ofChange fnExactNodeOkSpec)

/-- ITS FALSE NEIGHBOUR: 'it returns false'. Refute it at one input. -/
def fnExactNodeOkWrong : ChangeSpec := { name := "fnExactNodeOk", fn := fun _ => fun
  | [d] => { results := [.lit (.bool false)], args := [d] }
  | _ => none }
def FnExactNodeOkWrongFalsely : Prop := fnExactNodeOkRow.holds Try.pinned (OpenSpec.ofChange fnExactNodeOkWrong)

/-- 'laws.FnExactNodeBook': WHATEVER THE INPUT: true; the input reads as it did. -/
def fnExactNodeBookSpec : ChangeSpec := { name := "fnExactNodeBook", fn := fun _ => fun
  | [d] => { results := [.lit (.bool true)], args := [d] }
  | _ => none }
def fnExactNodeBookRow : OpenClaim := { program := "ytjcnbacbnfmkjaa", sum := "8b9de5ae979da2079c268233e6c5ec550c98951b3994f4b113e70cfb8f9ec791", func := "loop.example/witan/laws.FnExactNodeBook", spec := "fnExactNodeBook", unfollowed := true, recurses := true, apart := false }
def FnExactNodeBookSaid : Prop := fnExactNodeBookRow.holds Try.pinned (OpenSpec.ofChange fnExactNodeBookSpec)

/-- ITS FALSE NEIGHBOUR: 'it returns false'. Refute it at one input. -/
def fnExactNodeBookWrong : ChangeSpec := { name := "fnExactNodeBook", fn := fun _ => fun
  | [d] => { results := [.lit (.bool false)], args := [d] }
  | _ => none }
def FnExactNodeBookWrongFalsely : Prop := fnExactNodeBookRow.holds Try.pinned (OpenSpec.ofChange fnExactNodeBookWrong)

/-- 'laws.FnNodeNew': WHATEVER THE INPUT: true; the input reads as it did. -/
def fnNodeNewSpec : ChangeSpec := { name := "fnNodeNew", fn := fun _ => fun
  | [d] => { results := [.lit (.bool true)], args := [d] }
  | _ => none }
def fnNodeNewRow : OpenClaim := { program := "ytjcnbacbnfmkjaa", sum := "8b9de5ae979da2079c268233e6c5ec550c98951b3994f4b113e70cfb8f9ec791", func := "loop.example/witan/laws.FnNodeNew", spec := "fnNodeNew", unfollowed := true, recurses := true, apart := false }
def FnNodeNewSaid : Prop := fnNodeNewRow.holds Try.pinned (OpenSpec.ofChange fnNodeNewSpec)

/-- ITS FALSE NEIGHBOUR: 'it returns false'. Refute it at one input. -/
def fnNodeNewWrong : ChangeSpec := { name := "fnNodeNew", fn := fun _ => fun
  | [d] => { results := [.lit (.bool false)], args := [d] }
  | _ => none }
def FnNodeNewWrongFalsely : Prop := fnNodeNewRow.holds Try.pinned (OpenSpec.ofChange fnNodeNewWrong)

/- THE SECOND FORM. 'bulk': how many values and letters a reading holds, each counted each time it is reached (what is shared counts as often as it is met; a slice's spare places count too). A statement '..UptoSaid' is the law's where the arguments, and the package variables that the reading takes, are together of bulk at most 1048576: NARROWER than '..Said'. Prove '..Said' where nothing that the law and all that it calls make is longer than what came in: it says more and counts as full. Else prove '..UptoSaid'. A law counts once. -/
mutual
def uptoBulk {H : Type} : DataW H → Nat
  | .lit (.string bytes) => bytes.length + 1
  | .lit _ => 1
  | .nil => 1
  | .ptr d => uptoBulk d + 1
  | .slice elems spare => uptoBulkAll elems + uptoBulkAll spare + 1
  | .agg parts => uptoBulkAll parts + 1
  | .iface _ d => uptoBulk d + 1
  | .map entries => uptoBulkEntries entries + 1
  | .held _ => 1
def uptoBulkAll {H : Type} : List (DataW H) → Nat
  | [] => 0
  | d :: r => uptoBulk d + uptoBulkAll r
def uptoBulkEntries {H : Type} : List (Lit × DataW H) → Nat
  | [] => 0
  | x :: r => uptoBulkEntry x + uptoBulkEntries r
def uptoBulkEntry {H : Type} : Lit × DataW H → Nat
  | (.string bytes, d) => bytes.length + uptoBulk d + 1
  | (_, d) => uptoBulk d + 1
 end
def uptoSmall : (H : Type) → List (DataW H) → Bool := fun _ ds => decide (uptoBulkAll ds ≤ 1048576)
def OpenSpec.upto (s : _root_.Go.ChangeSpec) : _root_.Go.OpenSpec := { _root_.Go.OpenSpec.ofChange s with cond := some uptoSmall }

/-- 'laws.FnExactTreeTip', WHERE WHAT IT READS IS OF BULK AT MOST 1048576: true; the input reads as it did. -/
def fnExactTreeTipUptoRow : OpenClaim := { program := "ytjcnbacbnfmkjaa", sum := "8b9de5ae979da2079c268233e6c5ec550c98951b3994f4b113e70cfb8f9ec791", func := "loop.example/witan/laws.FnExactTreeTip", spec := "fnExactTreeTip", unfollowed := true, recurses := true, apart := false, narrowed := true }
def FnExactTreeTipUptoSaid : Prop := fnExactTreeTipUptoRow.holds Try.pinned (OpenSpec.upto fnExactTreeTipSpec)

/-- 'laws.FnExactTreeAll', WHERE WHAT IT READS IS OF BULK AT MOST 1048576: true; the input reads as it did. -/
def fnExactTreeAllUptoRow : OpenClaim := { program := "ytjcnbacbnfmkjaa", sum := "8b9de5ae979da2079c268233e6c5ec550c98951b3994f4b113e70cfb8f9ec791", func := "loop.example/witan/laws.FnExactTreeAll", spec := "fnExactTreeAll", unfollowed := true, recurses := true, apart := false, narrowed := true }
def FnExactTreeAllUptoSaid : Prop := fnExactTreeAllUptoRow.holds Try.pinned (OpenSpec.upto fnExactTreeAllSpec)

/-- 'laws.FnExactTreeFinal', WHERE WHAT IT READS IS OF BULK AT MOST 1048576: true; the input reads as it did. -/
def fnExactTreeFinalUptoRow : OpenClaim := { program := "ytjcnbacbnfmkjaa", sum := "8b9de5ae979da2079c268233e6c5ec550c98951b3994f4b113e70cfb8f9ec791", func := "loop.example/witan/laws.FnExactTreeFinal", spec := "fnExactTreeFinal", unfollowed := true, recurses := true, apart := false, narrowed := true }
def FnExactTreeFinalUptoSaid : Prop := fnExactTreeFinalUptoRow.holds Try.pinned (OpenSpec.upto fnExactTreeFinalSpec)

/-- 'laws.FnExactNodeNew', WHERE WHAT IT READS IS OF BULK AT MOST 1048576: true; the input reads as it did. -/
def fnExactNodeNewUptoRow : OpenClaim := { program := "ytjcnbacbnfmkjaa", sum := "8b9de5ae979da2079c268233e6c5ec550c98951b3994f4b113e70cfb8f9ec791", func := "loop.example/witan/laws.FnExactNodeNew", spec := "fnExactNodeNew", apart := false, narrowed := true }
def FnExactNodeNewUptoSaid : Prop := fnExactNodeNewUptoRow.holds Try.pinned (OpenSpec.upto fnExactNodeNewSpec)

/-- 'laws.FnExactNodeOk', WHERE WHAT IT READS IS OF BULK AT MOST 1048576: true; the input reads as it did. -/
def fnExactNodeOkUptoRow : OpenClaim := { program := "ytjcnbacbnfmkjaa", sum := "8b9de5ae979da2079c268233e6c5ec550c98951b3994f4b113e70cfb8f9ec791", func := "loop.example/witan/laws.FnExactNodeOk", spec := "fnExactNodeOk", unfollowed := true, recurses := true, apart := false, narrowed := true }
def FnExactNodeOkUptoSaid : Prop := fnExactNodeOkUptoRow.holds Try.pinned (OpenSpec.upto fnExactNodeOkSpec)

/-- 'laws.FnExactNodeBook', WHERE WHAT IT READS IS OF BULK AT MOST 1048576: true; the input reads as it did. -/
def fnExactNodeBookUptoRow : OpenClaim := { program := "ytjcnbacbnfmkjaa", sum := "8b9de5ae979da2079c268233e6c5ec550c98951b3994f4b113e70cfb8f9ec791", func := "loop.example/witan/laws.FnExactNodeBook", spec := "fnExactNodeBook", unfollowed := true, recurses := true, apart := false, narrowed := true }
def FnExactNodeBookUptoSaid : Prop := fnExactNodeBookUptoRow.holds Try.pinned (OpenSpec.upto fnExactNodeBookSpec)

/-- 'laws.FnNodeNew', WHERE WHAT IT READS IS OF BULK AT MOST 1048576: true; the input reads as it did. -/
def fnNodeNewUptoRow : OpenClaim := { program := "ytjcnbacbnfmkjaa", sum := "8b9de5ae979da2079c268233e6c5ec550c98951b3994f4b113e70cfb8f9ec791", func := "loop.example/witan/laws.FnNodeNew", spec := "fnNodeNew", unfollowed := true, recurses := true, apart := false, narrowed := true }
def FnNodeNewUptoSaid : Prop := fnNodeNewUptoRow.holds Try.pinned (OpenSpec.upto fnNodeNewSpec)

end Rows
end Go.Proofs.Ytjcnbacbnfmkjaa
