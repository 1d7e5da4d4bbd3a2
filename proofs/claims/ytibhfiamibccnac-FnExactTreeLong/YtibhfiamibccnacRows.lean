/-
  No cell of these rows narrows 'for every input' (looked for: loops, veiled, ifaces, maps, wideKeys, modest, calm, conditions, laid).
  DERIVED. THE GIVEN ROWS OF THIS SEAT. 6 by the template 'for every input the law returns true; each argument reads behind the call as it read before'; 0 by the template 'total and deterministic' (their statements: YtibhfiamibccnacTotals.lean).
  GIVEN WITH THE SEED: the statements are not yours to turn. If you find one false, say at which input.
  Laid BY PROGRAM, IN A SANDBOX (cutbox-rows.mjs): the forced cells as the released guide's own fill.sh prints them over the translation 16b8e92858f64bf2… (all of the seat's roots in one cut). By AI agents, Wed Nov 11 2026. No macro, syntax, notation, axiom, sorry.
-/
import Derived.Test.YtibhfiamibccnacChecked
import GoSem.Claim
import GoSem.ClaimJoined
import GoSem.ClaimMapViews
import Derived.JoinedTies
import Derived.KernelRfl
namespace Go.Proofs.Ytibhfiamibccnac
/- THE CELL 'sum', in the pinned program and in every row, IS THE sha256 OF THE DUMP (.gsa) THAT YtibhfiamibccnacProg.lean LOADS. Nothing in Lean hashes anything: it is a label: what it is worth is what the hold of that sum in a sandbox is worth. -/
noncomputable def Try.pinned : Pinned := { name := "ytibhfiamibccnac", sum := "16b8e92858f64bf2d40ceed9b5c399376a80257e796008e9a10800b36772416c", checked := Try.checked }
namespace Rows
def none {H : Type} : Left H := { results := [], args := [] }

/-- 'laws.FnTreeNone': WHATEVER THE INPUT: true; the input reads as it did. -/
def fnTreeNoneSpec : ChangeSpec := { name := "fnTreeNone", fn := fun _ => fun
  | [d1, d2] => { results := [.lit (.bool true)], args := [d1, d2] }
  | _ => none }
def fnTreeNoneRow : OpenClaim := { program := "ytibhfiamibccnac", sum := "16b8e92858f64bf2d40ceed9b5c399376a80257e796008e9a10800b36772416c", func := "loop.example/witan/laws.FnTreeNone", spec := "fnTreeNone", unfollowed := true, recurses := true, apart := false }
def FnTreeNoneSaid : Prop := fnTreeNoneRow.holds Try.pinned (OpenSpec.ofChange fnTreeNoneSpec)

/-- ITS FALSE NEIGHBOUR: 'it returns false'. Refute it at one input. -/
def fnTreeNoneWrong : ChangeSpec := { name := "fnTreeNone", fn := fun _ => fun
  | [d1, d2] => { results := [.lit (.bool false)], args := [d1, d2] }
  | _ => none }
def FnTreeNoneWrongFalsely : Prop := fnTreeNoneRow.holds Try.pinned (OpenSpec.ofChange fnTreeNoneWrong)

/-- 'laws.FnExactTreeSure': WHATEVER THE INPUT: true; the input reads as it did. -/
def fnExactTreeSureSpec : ChangeSpec := { name := "fnExactTreeSure", fn := fun _ => fun
  | [d1, d2] => { results := [.lit (.bool true)], args := [d1, d2] }
  | _ => none }
def fnExactTreeSureRow : OpenClaim := { program := "ytibhfiamibccnac", sum := "16b8e92858f64bf2d40ceed9b5c399376a80257e796008e9a10800b36772416c", func := "loop.example/witan/laws.FnExactTreeSure", spec := "fnExactTreeSure", unfollowed := true, recurses := true, apart := false }
def FnExactTreeSureSaid : Prop := fnExactTreeSureRow.holds Try.pinned (OpenSpec.ofChange fnExactTreeSureSpec)

/-- ITS FALSE NEIGHBOUR: 'it returns false'. Refute it at one input. -/
def fnExactTreeSureWrong : ChangeSpec := { name := "fnExactTreeSure", fn := fun _ => fun
  | [d1, d2] => { results := [.lit (.bool false)], args := [d1, d2] }
  | _ => none }
def FnExactTreeSureWrongFalsely : Prop := fnExactTreeSureRow.holds Try.pinned (OpenSpec.ofChange fnExactTreeSureWrong)

/-- 'laws.FnExactTreeAll': WHATEVER THE INPUT: true; the input reads as it did. -/
def fnExactTreeAllSpec : ChangeSpec := { name := "fnExactTreeAll", fn := fun _ => fun
  | [d] => { results := [.lit (.bool true)], args := [d] }
  | _ => none }
def fnExactTreeAllRow : OpenClaim := { program := "ytibhfiamibccnac", sum := "16b8e92858f64bf2d40ceed9b5c399376a80257e796008e9a10800b36772416c", func := "loop.example/witan/laws.FnExactTreeAll", spec := "fnExactTreeAll", unfollowed := true, recurses := true, apart := false }
def FnExactTreeAllSaid : Prop := fnExactTreeAllRow.holds Try.pinned (OpenSpec.ofChange fnExactTreeAllSpec)

/-- ITS FALSE NEIGHBOUR: 'it returns false'. Refute it at one input. -/
def fnExactTreeAllWrong : ChangeSpec := { name := "fnExactTreeAll", fn := fun _ => fun
  | [d] => { results := [.lit (.bool false)], args := [d] }
  | _ => none }
def FnExactTreeAllWrongFalsely : Prop := fnExactTreeAllRow.holds Try.pinned (OpenSpec.ofChange fnExactTreeAllWrong)

/-- 'laws.FnExactTreeLong': WHATEVER THE INPUT: true; the input reads as it did. -/
def fnExactTreeLongSpec : ChangeSpec := { name := "fnExactTreeLong", fn := fun _ => fun
  | [d] => { results := [.lit (.bool true)], args := [d] }
  | _ => none }
def fnExactTreeLongRow : OpenClaim := { program := "ytibhfiamibccnac", sum := "16b8e92858f64bf2d40ceed9b5c399376a80257e796008e9a10800b36772416c", func := "loop.example/witan/laws.FnExactTreeLong", spec := "fnExactTreeLong", unfollowed := true, recurses := true, apart := false }
def FnExactTreeLongSaid : Prop := fnExactTreeLongRow.holds Try.pinned (OpenSpec.ofChange fnExactTreeLongSpec)

/-- ITS FALSE NEIGHBOUR: 'it returns false'. Refute it at one input. -/
def fnExactTreeLongWrong : ChangeSpec := { name := "fnExactTreeLong", fn := fun _ => fun
  | [d] => { results := [.lit (.bool false)], args := [d] }
  | _ => none }
def FnExactTreeLongWrongFalsely : Prop := fnExactTreeLongRow.holds Try.pinned (OpenSpec.ofChange fnExactTreeLongWrong)

/-- 'laws.FnExactTreeTip': WHATEVER THE INPUT: true; the input reads as it did. -/
def fnExactTreeTipSpec : ChangeSpec := { name := "fnExactTreeTip", fn := fun _ => fun
  | [d] => { results := [.lit (.bool true)], args := [d] }
  | _ => none }
def fnExactTreeTipRow : OpenClaim := { program := "ytibhfiamibccnac", sum := "16b8e92858f64bf2d40ceed9b5c399376a80257e796008e9a10800b36772416c", func := "loop.example/witan/laws.FnExactTreeTip", spec := "fnExactTreeTip", unfollowed := true, recurses := true, apart := false }
def FnExactTreeTipSaid : Prop := fnExactTreeTipRow.holds Try.pinned (OpenSpec.ofChange fnExactTreeTipSpec)

/-- ITS FALSE NEIGHBOUR: 'it returns false'. Refute it at one input. -/
def fnExactTreeTipWrong : ChangeSpec := { name := "fnExactTreeTip", fn := fun _ => fun
  | [d] => { results := [.lit (.bool false)], args := [d] }
  | _ => none }
def FnExactTreeTipWrongFalsely : Prop := fnExactTreeTipRow.holds Try.pinned (OpenSpec.ofChange fnExactTreeTipWrong)

/-- 'laws.FnExactTreeFinal': WHATEVER THE INPUT: true; the input reads as it did. -/
def fnExactTreeFinalSpec : ChangeSpec := { name := "fnExactTreeFinal", fn := fun _ => fun
  | [d] => { results := [.lit (.bool true)], args := [d] }
  | _ => none }
def fnExactTreeFinalRow : OpenClaim := { program := "ytibhfiamibccnac", sum := "16b8e92858f64bf2d40ceed9b5c399376a80257e796008e9a10800b36772416c", func := "loop.example/witan/laws.FnExactTreeFinal", spec := "fnExactTreeFinal", unfollowed := true, recurses := true, apart := false }
def FnExactTreeFinalSaid : Prop := fnExactTreeFinalRow.holds Try.pinned (OpenSpec.ofChange fnExactTreeFinalSpec)

/-- ITS FALSE NEIGHBOUR: 'it returns false'. Refute it at one input. -/
def fnExactTreeFinalWrong : ChangeSpec := { name := "fnExactTreeFinal", fn := fun _ => fun
  | [d] => { results := [.lit (.bool false)], args := [d] }
  | _ => none }
def FnExactTreeFinalWrongFalsely : Prop := fnExactTreeFinalRow.holds Try.pinned (OpenSpec.ofChange fnExactTreeFinalWrong)

/- THE SECOND FORM. 'bulk': how many values and letters a reading holds, each counted each time it is reached (what is shared counts as often as it is met; a slice's spare places count too). A statement '..UptoSaid' is the law's where the arguments, and the package variables that the reading takes, are together of bulk at most 1048576: NARROWER than '..Said'. Prove '..Said' where nothing that the law and all that it calls make is longer than what came in: it says more and counts as full. Else prove '..UptoSaid'. A law counts once. -/
mutual
def uptoBulk {H : Type} : DataW H → Nat
  | .lit (.string bytes) => bytes.length + 1
  | .lit _ => 1
  | .nil => 1
  | .ptr d => uptoBulk d + 1
  | .slice elems spare => uptoBulkAll elems + uptoBulkAll spare + 1
  | .agg parts => uptoBulkAll parts + 1
  | .iface _ d => uptoBulk d + 1
  | .map entries => uptoBulkEntries entries + 1
  | .held _ => 1
def uptoBulkAll {H : Type} : List (DataW H) → Nat
  | [] => 0
  | d :: r => uptoBulk d + uptoBulkAll r
def uptoBulkEntries {H : Type} : List (Lit × DataW H) → Nat
  | [] => 0
  | x :: r => uptoBulkEntry x + uptoBulkEntries r
def uptoBulkEntry {H : Type} : Lit × DataW H → Nat
  | (.string bytes, d) => bytes.length + uptoBulk d + 1
  | (_, d) => uptoBulk d + 1
 end
def uptoSmall : (H : Type) → List (DataW H) → Bool := fun _ ds => decide (uptoBulkAll ds ≤ 1048576)
def OpenSpec.upto (s : _root_.Go.ChangeSpec) : _root_.Go.OpenSpec := { _root_.Go.OpenSpec.ofChange s with cond := some uptoSmall }

/-- 'laws.FnTreeNone', WHERE WHAT IT READS IS OF BULK AT MOST 1048576: true; the input reads as it did. -/
def fnTreeNoneUptoRow : OpenClaim := { program := "ytibhfiamibccnac", sum := "16b8e92858f64bf2d40ceed9b5c399376a80257e796008e9a10800b36772416c", func := "loop.example/witan/laws.FnTreeNone", spec := "fnTreeNone", unfollowed := true, recurses := true, apart := false, narrowed := true }
def FnTreeNoneUptoSaid : Prop := fnTreeNoneUptoRow.holds Try.pinned (OpenSpec.upto fnTreeNoneSpec)

/-- 'laws.FnExactTreeSure', WHERE WHAT IT READS IS OF BULK AT MOST 1048576: true; the input reads as it did. -/
def fnExactTreeSureUptoRow : OpenClaim := { program := "ytibhfiamibccnac", sum := "16b8e92858f64bf2d40ceed9b5c399376a80257e796008e9a10800b36772416c", func := "loop.example/witan/laws.FnExactTreeSure", spec := "fnExactTreeSure", unfollowed := true, recurses := true, apart := false, narrowed := true }
def FnExactTreeSureUptoSaid : Prop := fnExactTreeSureUptoRow.holds Try.pinned (OpenSpec.upto fnExactTreeSureSpec)

/-- 'laws.FnExactTreeAll', WHERE WHAT IT READS IS OF BULK AT MOST 1048576: true; the input reads as it did. -/
def fnExactTreeAllUptoRow : OpenClaim := { program := "ytibhfiamibccnac", sum := "16b8e92858f64bf2d40ceed9b5c399376a80257e796008e9a10800b36772416c", func := "loop.example/witan/laws.FnExactTreeAll", spec := "fnExactTreeAll", unfollowed := true, recurses := true, apart := false, narrowed := true }
def FnExactTreeAllUptoSaid : Prop := fnExactTreeAllUptoRow.holds Try.pinned (OpenSpec.upto fnExactTreeAllSpec)

/-- 'laws.FnExactTreeLong', WHERE WHAT IT READS IS OF BULK AT MOST 1048576: true; the input reads as it did. -/
def fnExactTreeLongUptoRow : OpenClaim := { program := "ytibhfiamibccnac", sum := "16b8e92858f64bf2d40ceed9b5c399376a80257e796008e9a10800b36772416c", func := "loop.example/witan/laws.FnExactTreeLong", spec := "fnExactTreeLong", unfollowed := true, recurses := true, apart := false, narrowed := true }
def FnExactTreeLongUptoSaid : Prop := fnExactTreeLongUptoRow.holds Try.pinned (OpenSpec.upto fnExactTreeLongSpec)

/-- 'laws.FnExactTreeTip', WHERE WHAT IT READS IS OF BULK AT MOST 1048576: true; the input reads as it did. -/
def fnExactTreeTipUptoRow : OpenClaim := { program := "ytibhfiamibccnac", sum := "16b8e92858f64bf2d40ceed9b5c399376a80257e796008e9a10800b36772416c", func := "loop.example/witan/laws.FnExactTreeTip", spec := "fnExactTreeTip", unfollowed := true, recurses := true, apart := false, narrowed := true }
def FnExactTreeTipUptoSaid : Prop := fnExactTreeTipUptoRow.holds Try.pinned (OpenSpec.upto fnExactTreeTipSpec)

/-- 'laws.FnExactTreeFinal', WHERE WHAT IT READS IS OF BULK AT MOST 1048576: true; the input reads as it did. -/
def fnExactTreeFinalUptoRow : OpenClaim := { program := "ytibhfiamibccnac", sum := "16b8e92858f64bf2d40ceed9b5c399376a80257e796008e9a10800b36772416c", func := "loop.example/witan/laws.FnExactTreeFinal", spec := "fnExactTreeFinal", unfollowed := true, recurses := true, apart := false, narrowed := true }
def FnExactTreeFinalUptoSaid : Prop := fnExactTreeFinalUptoRow.holds Try.pinned (OpenSpec.upto fnExactTreeFinalSpec)

end Rows
end Go.Proofs.Ytibhfiamibccnac
