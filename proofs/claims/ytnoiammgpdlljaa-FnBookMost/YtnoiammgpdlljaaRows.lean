/-
  No cell of these rows narrows 'for every input' (looked for: loops, veiled, ifaces, maps, wideKeys, modest, calm, conditions, laid).
  DERIVED. THE GIVEN ROWS OF THIS SEAT. 11 by the template 'for every input the law returns true; each argument reads behind the call as it read before'; 0 by the template 'total and deterministic' (their statements: YtnoiammgpdlljaaTotals.lean).
  GIVEN WITH THE SEED: the statements are not yours to turn. If you find one false, say at which input.
  Laid BY PROGRAM, IN A SANDBOX (cutbox-rows.mjs): the forced cells as the released guide's own fill.sh prints them over the translation c3e45bd22f802e66… (all of the seat's roots in one cut). By AI agents, Wed Nov 11 2026. No macro, syntax, notation, axiom, sorry.
-/
import Derived.Test.YtnoiammgpdlljaaChecked
import GoSem.Claim
import GoSem.ClaimJoined
import GoSem.ClaimMapViews
import Derived.JoinedTies
import Derived.KernelRfl
namespace Go.Proofs.Ytnoiammgpdlljaa
/- THE CELL 'sum', in the pinned program and in every row, IS THE sha256 OF THE DUMP (.gsa) THAT YtnoiammgpdlljaaProg.lean LOADS. Nothing in Lean hashes anything: it is a label: what it is worth is what the hold of that sum in a sandbox is worth. -/
noncomputable def Try.pinned : Pinned := { name := "ytnoiammgpdlljaa", sum := "c3e45bd22f802e66fe7b1a82db9a11256406996d4b9ddddd340003bcd7f6b3cf", checked := Try.checked }
namespace Rows
def none {H : Type} : Left H := { results := [], args := [] }

/-- 'laws.FnBookAll': WHATEVER THE INPUT: true; the input reads as it did. -/
def fnBookAllSpec : ChangeSpec := { name := "fnBookAll", fn := fun _ => fun
  | [d] => { results := [.lit (.bool true)], args := [d] }
  | _ => none }
def fnBookAllRow : OpenClaim := { program := "ytnoiammgpdlljaa", sum := "c3e45bd22f802e66fe7b1a82db9a11256406996d4b9ddddd340003bcd7f6b3cf", func := "loop.example/witan/laws.FnBookAll", spec := "fnBookAll", unfollowed := true, recurses := true, apart := false }
def FnBookAllSaid : Prop := fnBookAllRow.holds Try.pinned (OpenSpec.ofChange fnBookAllSpec)

/-- ITS FALSE NEIGHBOUR: 'it returns false'. Refute it at one input. -/
def fnBookAllWrong : ChangeSpec := { name := "fnBookAll", fn := fun _ => fun
  | [d] => { results := [.lit (.bool false)], args := [d] }
  | _ => none }
def FnBookAllWrongFalsely : Prop := fnBookAllRow.holds Try.pinned (OpenSpec.ofChange fnBookAllWrong)

/-- 'laws.FnBookPay': WHATEVER THE INPUT: true; the input reads as it did. -/
def fnBookPaySpec : ChangeSpec := { name := "fnBookPay", fn := fun _ => fun
  | [d] => { results := [.lit (.bool true)], args := [d] }
  | _ => none }
def fnBookPayRow : OpenClaim := { program := "ytnoiammgpdlljaa", sum := "c3e45bd22f802e66fe7b1a82db9a11256406996d4b9ddddd340003bcd7f6b3cf", func := "loop.example/witan/laws.FnBookPay", spec := "fnBookPay", unfollowed := true, recurses := true, apart := false }
def FnBookPaySaid : Prop := fnBookPayRow.holds Try.pinned (OpenSpec.ofChange fnBookPaySpec)

/-- ITS FALSE NEIGHBOUR: 'it returns false'. Refute it at one input. -/
def fnBookPayWrong : ChangeSpec := { name := "fnBookPay", fn := fun _ => fun
  | [d] => { results := [.lit (.bool false)], args := [d] }
  | _ => none }
def FnBookPayWrongFalsely : Prop := fnBookPayRow.holds Try.pinned (OpenSpec.ofChange fnBookPayWrong)

/-- 'laws.FnBookBack': WHATEVER THE INPUT: true; the input reads as it did. -/
def fnBookBackSpec : ChangeSpec := { name := "fnBookBack", fn := fun _ => fun
  | [d] => { results := [.lit (.bool true)], args := [d] }
  | _ => none }
def fnBookBackRow : OpenClaim := { program := "ytnoiammgpdlljaa", sum := "c3e45bd22f802e66fe7b1a82db9a11256406996d4b9ddddd340003bcd7f6b3cf", func := "loop.example/witan/laws.FnBookBack", spec := "fnBookBack", unfollowed := true, recurses := true, apart := false }
def FnBookBackSaid : Prop := fnBookBackRow.holds Try.pinned (OpenSpec.ofChange fnBookBackSpec)

/-- ITS FALSE NEIGHBOUR: 'it returns false'. Refute it at one input. -/
def fnBookBackWrong : ChangeSpec := { name := "fnBookBack", fn := fun _ => fun
  | [d] => { results := [.lit (.bool false)], args := [d] }
  | _ => none }
def FnBookBackWrongFalsely : Prop := fnBookBackRow.holds Try.pinned (OpenSpec.ofChange fnBookBackWrong)

/-- 'laws.FnBookSplit': WHATEVER THE INPUT: true; the input reads as it did. -/
def fnBookSplitSpec : ChangeSpec := { name := "fnBookSplit", fn := fun _ => fun
  | [d] => { results := [.lit (.bool true)], args := [d] }
  | _ => none }
def fnBookSplitRow : OpenClaim := { program := "ytnoiammgpdlljaa", sum := "c3e45bd22f802e66fe7b1a82db9a11256406996d4b9ddddd340003bcd7f6b3cf", func := "loop.example/witan/laws.FnBookSplit", spec := "fnBookSplit", unfollowed := true, recurses := true, apart := false }
def FnBookSplitSaid : Prop := fnBookSplitRow.holds Try.pinned (OpenSpec.ofChange fnBookSplitSpec)

/-- ITS FALSE NEIGHBOUR: 'it returns false'. Refute it at one input. -/
def fnBookSplitWrong : ChangeSpec := { name := "fnBookSplit", fn := fun _ => fun
  | [d] => { results := [.lit (.bool false)], args := [d] }
  | _ => none }
def FnBookSplitWrongFalsely : Prop := fnBookSplitRow.holds Try.pinned (OpenSpec.ofChange fnBookSplitWrong)

/-- 'laws.FnBookRing': WHATEVER THE INPUT: true; the input reads as it did. -/
def fnBookRingSpec : ChangeSpec := { name := "fnBookRing", fn := fun _ => fun
  | [d] => { results := [.lit (.bool true)], args := [d] }
  | _ => none }
def fnBookRingRow : OpenClaim := { program := "ytnoiammgpdlljaa", sum := "c3e45bd22f802e66fe7b1a82db9a11256406996d4b9ddddd340003bcd7f6b3cf", func := "loop.example/witan/laws.FnBookRing", spec := "fnBookRing", unfollowed := true, recurses := true, apart := false }
def FnBookRingSaid : Prop := fnBookRingRow.holds Try.pinned (OpenSpec.ofChange fnBookRingSpec)

/-- ITS FALSE NEIGHBOUR: 'it returns false'. Refute it at one input. -/
def fnBookRingWrong : ChangeSpec := { name := "fnBookRing", fn := fun _ => fun
  | [d] => { results := [.lit (.bool false)], args := [d] }
  | _ => none }
def FnBookRingWrongFalsely : Prop := fnBookRingRow.holds Try.pinned (OpenSpec.ofChange fnBookRingWrong)

/-- 'laws.FnBookNone': WHATEVER THE INPUT: true; the input reads as it did. -/
def fnBookNoneSpec : ChangeSpec := { name := "fnBookNone", fn := fun _ => fun
  | [d1, d2] => { results := [.lit (.bool true)], args := [d1, d2] }
  | _ => none }
def fnBookNoneRow : OpenClaim := { program := "ytnoiammgpdlljaa", sum := "c3e45bd22f802e66fe7b1a82db9a11256406996d4b9ddddd340003bcd7f6b3cf", func := "loop.example/witan/laws.FnBookNone", spec := "fnBookNone", unfollowed := true, recurses := true, apart := false }
def FnBookNoneSaid : Prop := fnBookNoneRow.holds Try.pinned (OpenSpec.ofChange fnBookNoneSpec)

/-- ITS FALSE NEIGHBOUR: 'it returns false'. Refute it at one input. -/
def fnBookNoneWrong : ChangeSpec := { name := "fnBookNone", fn := fun _ => fun
  | [d1, d2] => { results := [.lit (.bool false)], args := [d1, d2] }
  | _ => none }
def FnBookNoneWrongFalsely : Prop := fnBookNoneRow.holds Try.pinned (OpenSpec.ofChange fnBookNoneWrong)

/-- 'laws.FnBookMost': WHATEVER THE INPUT: true; the input reads as it did. -/
def fnBookMostSpec : ChangeSpec := { name := "fnBookMost", fn := fun _ => fun
  | [d1, d2] => { results := [.lit (.bool true)], args := [d1, d2] }
  | _ => none }
def fnBookMostRow : OpenClaim := { program := "ytnoiammgpdlljaa", sum := "c3e45bd22f802e66fe7b1a82db9a11256406996d4b9ddddd340003bcd7f6b3cf", func := "loop.example/witan/laws.FnBookMost", spec := "fnBookMost", unfollowed := true, recurses := true, apart := false }
def FnBookMostSaid : Prop := fnBookMostRow.holds Try.pinned (OpenSpec.ofChange fnBookMostSpec)

/-- ITS FALSE NEIGHBOUR: 'it returns false'. Refute it at one input. -/
def fnBookMostWrong : ChangeSpec := { name := "fnBookMost", fn := fun _ => fun
  | [d1, d2] => { results := [.lit (.bool false)], args := [d1, d2] }
  | _ => none }
def FnBookMostWrongFalsely : Prop := fnBookMostRow.holds Try.pinned (OpenSpec.ofChange fnBookMostWrong)

/-- 'laws.FnExactBookNew': WHATEVER THE INPUT: true; the input reads as it did. -/
def fnExactBookNewSpec : ChangeSpec := { name := "fnExactBookNew", fn := fun _ => fun
  | [] => { results := [.lit (.bool true)], args := [] }
  | _ => none }
def fnExactBookNewRow : OpenClaim := { program := "ytnoiammgpdlljaa", sum := "c3e45bd22f802e66fe7b1a82db9a11256406996d4b9ddddd340003bcd7f6b3cf", func := "loop.example/witan/laws.FnExactBookNew", spec := "fnExactBookNew", apart := false }
def FnExactBookNewSaid : Prop := fnExactBookNewRow.holds Try.pinned (OpenSpec.ofChange fnExactBookNewSpec)

/-- ITS FALSE NEIGHBOUR: 'it returns false'. Refute it at one input. -/
def fnExactBookNewWrong : ChangeSpec := { name := "fnExactBookNew", fn := fun _ => fun
  | [] => { results := [.lit (.bool false)], args := [] }
  | _ => none }
def FnExactBookNewWrongFalsely : Prop := fnExactBookNewRow.holds Try.pinned (OpenSpec.ofChange fnExactBookNewWrong)

/-- 'laws.FnExactBookOk': WHATEVER THE INPUT: true; the input reads as it did. -/
def fnExactBookOkSpec : ChangeSpec := { name := "fnExactBookOk", fn := fun _ => fun
  | [d] => { results := [.lit (.bool true)], args := [d] }
  | _ => none }
def fnExactBookOkRow : OpenClaim := { program := "ytnoiammgpdlljaa", sum := "c3e45bd22f802e66fe7b1a82db9a11256406996d4b9ddddd340003bcd7f6b3cf", func := "loop.example/witan/laws.FnExactBookOk", spec := "fnExactBookOk", apart := false }
def FnExactBookOkSaid : Prop := fnExactBookOkRow.holds Try.pinned (OpenSpec.ofChange fnExactBookOkSpec)

/-- ITS FALSE NEIGHBOUR: 'it returns false'. Refute it at one input. -/
def fnExactBookOkWrong : ChangeSpec := { name := "fnExactBookOk", fn := fun _ => fun
  | [d] => { results := [.lit (.bool false)], args := [d] }
  | _ => none }
def FnExactBookOkWrongFalsely : Prop := fnExactBookOkRow.holds Try.pinned (OpenSpec.ofChange fnExactBookOkWrong)

/-- 'laws.FnExactBookPay': WHATEVER THE INPUT: true; the input reads as it did. -/
def fnExactBookPaySpec : ChangeSpec := { name := "fnExactBookPay", fn := fun _ => fun
  | [d1, d2] => { results := [.lit (.bool true)], args := [d1, d2] }
  | _ => none }
def fnExactBookPayRow : OpenClaim := { program := "ytnoiammgpdlljaa", sum := "c3e45bd22f802e66fe7b1a82db9a11256406996d4b9ddddd340003bcd7f6b3cf", func := "loop.example/witan/laws.FnExactBookPay", spec := "fnExactBookPay", unfollowed := true, recurses := true, apart := false }
def FnExactBookPaySaid : Prop := fnExactBookPayRow.holds Try.pinned (OpenSpec.ofChange fnExactBookPaySpec)

/-- ITS FALSE NEIGHBOUR: 'it returns false'. Refute it at one input. -/
def fnExactBookPayWrong : ChangeSpec := { name := "fnExactBookPay", fn := fun _ => fun
  | [d1, d2] => { results := [.lit (.bool false)], args := [d1, d2] }
  | _ => none }
def FnExactBookPayWrongFalsely : Prop := fnExactBookPayRow.holds Try.pinned (OpenSpec.ofChange fnExactBookPayWrong)

/-- 'laws.FnExactBookOf': WHATEVER THE INPUT: true; the input reads as it did. -/
def fnExactBookOfSpec : ChangeSpec := { name := "fnExactBookOf", fn := fun _ => fun
  | [d] => { results := [.lit (.bool true)], args := [d] }
  | _ => none }
def fnExactBookOfRow : OpenClaim := { program := "ytnoiammgpdlljaa", sum := "c3e45bd22f802e66fe7b1a82db9a11256406996d4b9ddddd340003bcd7f6b3cf", func := "loop.example/witan/laws.FnExactBookOf", spec := "fnExactBookOf", unfollowed := true, recurses := true, apart := false }
def FnExactBookOfSaid : Prop := fnExactBookOfRow.holds Try.pinned (OpenSpec.ofChange fnExactBookOfSpec)

/-- ITS FALSE NEIGHBOUR: 'it returns false'. Refute it at one input. -/
def fnExactBookOfWrong : ChangeSpec := { name := "fnExactBookOf", fn := fun _ => fun
  | [d] => { results := [.lit (.bool false)], args := [d] }
  | _ => none }
def FnExactBookOfWrongFalsely : Prop := fnExactBookOfRow.holds Try.pinned (OpenSpec.ofChange fnExactBookOfWrong)

/- THE SECOND FORM. 'bulk': how many values and letters a reading holds, each counted each time it is reached (what is shared counts as often as it is met; a slice's spare places count too). A statement '..UptoSaid' is the law's where the arguments, and the package variables that the reading takes, are together of bulk at most 1048576: NARROWER than '..Said'. Prove '..Said' where nothing that the law and all that it calls make is longer than what came in: it says more and counts as full. Else prove '..UptoSaid'. A law counts once. -/
mutual
def uptoBulk {H : Type} : DataW H → Nat
  | .lit (.string bytes) => bytes.length + 1
  | .lit _ => 1
  | .nil => 1
  | .ptr d => uptoBulk d + 1
  | .slice elems spare => uptoBulkAll elems + uptoBulkAll spare + 1
  | .agg parts => uptoBulkAll parts + 1
  | .iface _ d => uptoBulk d + 1
  | .map entries => uptoBulkEntries entries + 1
  | .held _ => 1
def uptoBulkAll {H : Type} : List (DataW H) → Nat
  | [] => 0
  | d :: r => uptoBulk d + uptoBulkAll r
def uptoBulkEntries {H : Type} : List (Lit × DataW H) → Nat
  | [] => 0
  | x :: r => uptoBulkEntry x + uptoBulkEntries r
def uptoBulkEntry {H : Type} : Lit × DataW H → Nat
  | (.string bytes, d) => bytes.length + uptoBulk d + 1
  | (_, d) => uptoBulk d + 1
 end
def uptoSmall : (H : Type) → List (DataW H) → Bool := fun _ ds => decide (uptoBulkAll ds ≤ 1048576)
def OpenSpec.upto (s : _root_.Go.ChangeSpec) : _root_.Go.OpenSpec := { _root_.Go.OpenSpec.ofChange s with cond := some uptoSmall }

/-- 'laws.FnBookAll', WHERE WHAT IT READS IS OF BULK AT MOST 1048576: true; the input reads as it did. -/
def fnBookAllUptoRow : OpenClaim := { program := "ytnoiammgpdlljaa", sum := "c3e45bd22f802e66fe7b1a82db9a11256406996d4b9ddddd340003bcd7f6b3cf", func := "loop.example/witan/laws.FnBookAll", spec := "fnBookAll", unfollowed := true, recurses := true, apart := false, narrowed := true }
def FnBookAllUptoSaid : Prop := fnBookAllUptoRow.holds Try.pinned (OpenSpec.upto fnBookAllSpec)

/-- 'laws.FnBookPay', WHERE WHAT IT READS IS OF BULK AT MOST 1048576: true; the input reads as it did. -/
def fnBookPayUptoRow : OpenClaim := { program := "ytnoiammgpdlljaa", sum := "c3e45bd22f802e66fe7b1a82db9a11256406996d4b9ddddd340003bcd7f6b3cf", func := "loop.example/witan/laws.FnBookPay", spec := "fnBookPay", unfollowed := true, recurses := true, apart := false, narrowed := true }
def FnBookPayUptoSaid : Prop := fnBookPayUptoRow.holds Try.pinned (OpenSpec.upto fnBookPaySpec)

/-- 'laws.FnBookBack', WHERE WHAT IT READS IS OF BULK AT MOST 1048576: true; the input reads as it did. -/
def fnBookBackUptoRow : OpenClaim := { program := "ytnoiammgpdlljaa", sum := "c3e45bd22f802e66fe7b1a82db9a11256406996d4b9ddddd340003bcd7f6b3cf", func := "loop.example/witan/laws.FnBookBack", spec := "fnBookBack", unfollowed := true, recurses := true, apart := false, narrowed := true }
def FnBookBackUptoSaid : Prop := fnBookBackUptoRow.holds Try.pinned (OpenSpec.upto fnBookBackSpec)

/-- 'laws.FnBookSplit', WHERE WHAT IT READS IS OF BULK AT MOST 1048576: true; the input reads as it did. -/
def fnBookSplitUptoRow : OpenClaim := { program := "ytnoiammgpdlljaa", sum := "c3e45bd22f802e66fe7b1a82db9a11256406996d4b9ddddd340003bcd7f6b3cf", func := "loop.example/witan/laws.FnBookSplit", spec := "fnBookSplit", unfollowed := true, recurses := true, apart := false, narrowed := true }
def FnBookSplitUptoSaid : Prop := fnBookSplitUptoRow.holds Try.pinned (OpenSpec.upto fnBookSplitSpec)

/-- 'laws.FnBookRing', WHERE WHAT IT READS IS OF BULK AT MOST 1048576: true; the input reads as it did. -/
def fnBookRingUptoRow : OpenClaim := { program := "ytnoiammgpdlljaa", sum := "c3e45bd22f802e66fe7b1a82db9a11256406996d4b9ddddd340003bcd7f6b3cf", func := "loop.example/witan/laws.FnBookRing", spec := "fnBookRing", unfollowed := true, recurses := true, apart := false, narrowed := true }
def FnBookRingUptoSaid : Prop := fnBookRingUptoRow.holds Try.pinned (OpenSpec.upto fnBookRingSpec)

/-- 'laws.FnBookNone', WHERE WHAT IT READS IS OF BULK AT MOST 1048576: true; the input reads as it did. -/
def fnBookNoneUptoRow : OpenClaim := { program := "ytnoiammgpdlljaa", sum := "c3e45bd22f802e66fe7b1a82db9a11256406996d4b9ddddd340003bcd7f6b3cf", func := "loop.example/witan/laws.FnBookNone", spec := "fnBookNone", unfollowed := true, recurses := true, apart := false, narrowed := true }
def FnBookNoneUptoSaid : Prop := fnBookNoneUptoRow.holds Try.pinned (OpenSpec.upto fnBookNoneSpec)

/-- 'laws.FnBookMost', WHERE WHAT IT READS IS OF BULK AT MOST 1048576: true; the input reads as it did. -/
def fnBookMostUptoRow : OpenClaim := { program := "ytnoiammgpdlljaa", sum := "c3e45bd22f802e66fe7b1a82db9a11256406996d4b9ddddd340003bcd7f6b3cf", func := "loop.example/witan/laws.FnBookMost", spec := "fnBookMost", unfollowed := true, recurses := true, apart := false, narrowed := true }
def FnBookMostUptoSaid : Prop := fnBookMostUptoRow.holds Try.pinned (OpenSpec.upto fnBookMostSpec)

/-- 'laws.FnExactBookNew', WHERE WHAT IT READS IS OF BULK AT MOST 1048576: true; the input reads as it did. -/
def fnExactBookNewUptoRow : OpenClaim := { program := "ytnoiammgpdlljaa", sum := "c3e45bd22f802e66fe7b1a82db9a11256406996d4b9ddddd340003bcd7f6b3cf", func := "loop.example/witan/laws.FnExactBookNew", spec := "fnExactBookNew", apart := false, narrowed := true }
def FnExactBookNewUptoSaid : Prop := fnExactBookNewUptoRow.holds Try.pinned (OpenSpec.upto fnExactBookNewSpec)

/-- 'laws.FnExactBookOk', WHERE WHAT IT READS IS OF BULK AT MOST 1048576: true; the input reads as it did. -/
def fnExactBookOkUptoRow : OpenClaim := { program := "ytnoiammgpdlljaa", sum := "c3e45bd22f802e66fe7b1a82db9a11256406996d4b9ddddd340003bcd7f6b3cf", func := "loop.example/witan/laws.FnExactBookOk", spec := "fnExactBookOk", apart := false, narrowed := true }
def FnExactBookOkUptoSaid : Prop := fnExactBookOkUptoRow.holds Try.pinned (OpenSpec.upto fnExactBookOkSpec)

/-- 'laws.FnExactBookPay', WHERE WHAT IT READS IS OF BULK AT MOST 1048576: true; the input reads as it did. -/
def fnExactBookPayUptoRow : OpenClaim := { program := "ytnoiammgpdlljaa", sum := "c3e45bd22f802e66fe7b1a82db9a11256406996d4b9ddddd340003bcd7f6b3cf", func := "loop.example/witan/laws.FnExactBookPay", spec := "fnExactBookPay", unfollowed := true, recurses := true, apart := false, narrowed := true }
def FnExactBookPayUptoSaid : Prop := fnExactBookPayUptoRow.holds Try.pinned (OpenSpec.upto fnExactBookPaySpec)

/-- 'laws.FnExactBookOf', WHERE WHAT IT READS IS OF BULK AT MOST 1048576: true; the input reads as it did. -/
def fnExactBookOfUptoRow : OpenClaim := { program := "ytnoiammgpdlljaa", sum := "c3e45bd22f802e66fe7b1a82db9a11256406996d4b9ddddd340003bcd7f6b3cf", func := "loop.example/witan/laws.FnExactBookOf", spec := "fnExactBookOf", unfollowed := true, recurses := true, apart := false, narrowed := true }
def FnExactBookOfUptoSaid : Prop := fnExactBookOfUptoRow.holds Try.pinned (OpenSpec.upto fnExactBookOfSpec)

end Rows
end Go.Proofs.Ytnoiammgpdlljaa
