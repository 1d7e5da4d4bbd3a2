/-
  No cell of these rows narrows 'for every input' (looked for: loops, veiled, ifaces, maps, wideKeys, modest, calm, conditions, laid).
  DERIVED. THE GIVEN ROWS OF THIS SEAT. 7 by the template 'for every input the law returns true; each argument reads behind the call as it read before'; 0 by the template 'total and deterministic' (their statements: YtfonpbglnkggfaaTotals.lean).
  GIVEN WITH THE SEED: the statements are not yours to turn. If you find one false, say at which input.
  Laid BY PROGRAM, IN A SANDBOX (cutbox-rows.mjs): the forced cells as the released guide's own fill.sh prints them over the translation 6d9ced54b01416a1… (all of the seat's roots in one cut). By AI agents, Wed Nov 11 2026. No macro, syntax, notation, axiom, sorry.
-/
import Derived.Test.YtfonpbglnkggfaaChecked
import GoSem.Claim
import GoSem.ClaimJoined
import GoSem.ClaimMapViews
import Derived.JoinedTies
import Derived.KernelRfl
namespace Go.Proofs.Ytfonpbglnkggfaa
/- THE CELL 'sum', in the pinned program and in every row, IS THE sha256 OF THE DUMP (.gsa) THAT YtfonpbglnkggfaaProg.lean LOADS. Nothing in Lean hashes anything: it is a label: what it is worth is what the hold of that sum in a sandbox is worth. -/
noncomputable def Try.pinned : Pinned := { name := "ytfonpbglnkggfaa", sum := "6d9ced54b01416a14b50bf216b9c77412eaa5ab3280580df7ddf89e3fbd15c93", checked := Try.checked }
namespace Rows
def none {H : Type} : Left H := { results := [], args := [] }

/-- 'laws.FnPayForm': WHATEVER THE INPUT: true; the input reads as it did. -/
def fnPayFormSpec : ChangeSpec := { name := "fnPayForm", fn := fun _ => fun
  | [d] => { results := [.lit (.bool true)], args := [d] }
  | _ => none }
def fnPayFormRow : OpenClaim := { program := "ytfonpbglnkggfaa", sum := "6d9ced54b01416a14b50bf216b9c77412eaa5ab3280580df7ddf89e3fbd15c93", func := "loop.example/witan/laws.FnPayForm", spec := "fnPayForm", apart := false }
def FnPayFormSaid : Prop := fnPayFormRow.holds Try.pinned (OpenSpec.ofChange fnPayFormSpec)

/-- ITS FALSE NEIGHBOUR: 'it returns false'. Refute it at one input. -/
def fnPayFormWrong : ChangeSpec := { name := "fnPayForm", fn := fun _ => fun
  | [d] => { results := [.lit (.bool false)], args := [d] }
  | _ => none }
def FnPayFormWrongFalsely : Prop := fnPayFormRow.holds Try.pinned (OpenSpec.ofChange fnPayFormWrong)

/-- 'laws.FnChainLess': WHATEVER THE INPUT: true; the input reads as it did. -/
def fnChainLessSpec : ChangeSpec := { name := "fnChainLess", fn := fun _ => fun
  | [d1, d2] => { results := [.lit (.bool true)], args := [d1, d2] }
  | _ => none }
def fnChainLessRow : OpenClaim := { program := "ytfonpbglnkggfaa", sum := "6d9ced54b01416a14b50bf216b9c77412eaa5ab3280580df7ddf89e3fbd15c93", func := "loop.example/witan/laws.FnChainLess", spec := "fnChainLess", unfollowed := true, recurses := true, apart := false }
def FnChainLessSaid : Prop := fnChainLessRow.holds Try.pinned (OpenSpec.ofChange fnChainLessSpec)

/-- ITS FALSE NEIGHBOUR: 'it returns false'. Refute it at one input. -/
def fnChainLessWrong : ChangeSpec := { name := "fnChainLess", fn := fun _ => fun
  | [d1, d2] => { results := [.lit (.bool false)], args := [d1, d2] }
  | _ => none }
def FnChainLessWrongFalsely : Prop := fnChainLessRow.holds Try.pinned (OpenSpec.ofChange fnChainLessWrong)

/-- 'laws.FnPayOther': WHATEVER THE INPUT: true; the input reads as it did. -/
def fnPayOtherSpec : ChangeSpec := { name := "fnPayOther", fn := fun _ => fun
  | [d1, d2] => { results := [.lit (.bool true)], args := [d1, d2] }
  | _ => none }
def fnPayOtherRow : OpenClaim := { program := "ytfonpbglnkggfaa", sum := "6d9ced54b01416a14b50bf216b9c77412eaa5ab3280580df7ddf89e3fbd15c93", func := "loop.example/witan/laws.FnPayOther", spec := "fnPayOther", apart := false }
def FnPayOtherSaid : Prop := fnPayOtherRow.holds Try.pinned (OpenSpec.ofChange fnPayOtherSpec)

/-- ITS FALSE NEIGHBOUR: 'it returns false'. Refute it at one input. -/
def fnPayOtherWrong : ChangeSpec := { name := "fnPayOther", fn := fun _ => fun
  | [d1, d2] => { results := [.lit (.bool false)], args := [d1, d2] }
  | _ => none }
def FnPayOtherWrongFalsely : Prop := fnPayOtherRow.holds Try.pinned (OpenSpec.ofChange fnPayOtherWrong)

/-- 'laws.FnChainGrow': WHATEVER THE INPUT: true; the input reads as it did. -/
def fnChainGrowSpec : ChangeSpec := { name := "fnChainGrow", fn := fun _ => fun
  | [d1, d2] => { results := [.lit (.bool true)], args := [d1, d2] }
  | _ => none }
def fnChainGrowRow : OpenClaim := { program := "ytfonpbglnkggfaa", sum := "6d9ced54b01416a14b50bf216b9c77412eaa5ab3280580df7ddf89e3fbd15c93", func := "loop.example/witan/laws.FnChainGrow", spec := "fnChainGrow", unfollowed := true, recurses := true, apart := false }
def FnChainGrowSaid : Prop := fnChainGrowRow.holds Try.pinned (OpenSpec.ofChange fnChainGrowSpec)

/-- ITS FALSE NEIGHBOUR: 'it returns false'. Refute it at one input. -/
def fnChainGrowWrong : ChangeSpec := { name := "fnChainGrow", fn := fun _ => fun
  | [d1, d2] => { results := [.lit (.bool false)], args := [d1, d2] }
  | _ => none }
def FnChainGrowWrongFalsely : Prop := fnChainGrowRow.holds Try.pinned (OpenSpec.ofChange fnChainGrowWrong)

/-- 'laws.FnBookOf': WHATEVER THE INPUT: true; the input reads as it did. -/
def fnBookOfSpec : ChangeSpec := { name := "fnBookOf", fn := fun _ => fun
  | [d1, d2] => { results := [.lit (.bool true)], args := [d1, d2] }
  | _ => none }
def fnBookOfRow : OpenClaim := { program := "ytfonpbglnkggfaa", sum := "6d9ced54b01416a14b50bf216b9c77412eaa5ab3280580df7ddf89e3fbd15c93", func := "loop.example/witan/laws.FnBookOf", spec := "fnBookOf", unfollowed := true, recurses := true, apart := false }
def FnBookOfSaid : Prop := fnBookOfRow.holds Try.pinned (OpenSpec.ofChange fnBookOfSpec)

/-- ITS FALSE NEIGHBOUR: 'it returns false'. Refute it at one input. -/
def fnBookOfWrong : ChangeSpec := { name := "fnBookOf", fn := fun _ => fun
  | [d1, d2] => { results := [.lit (.bool false)], args := [d1, d2] }
  | _ => none }
def FnBookOfWrongFalsely : Prop := fnBookOfRow.holds Try.pinned (OpenSpec.ofChange fnBookOfWrong)

/-- 'laws.FnBookOk': WHATEVER THE INPUT: true; the input reads as it did. -/
def fnBookOkSpec : ChangeSpec := { name := "fnBookOk", fn := fun _ => fun
  | [d1, d2] => { results := [.lit (.bool true)], args := [d1, d2] }
  | _ => none }
def fnBookOkRow : OpenClaim := { program := "ytfonpbglnkggfaa", sum := "6d9ced54b01416a14b50bf216b9c77412eaa5ab3280580df7ddf89e3fbd15c93", func := "loop.example/witan/laws.FnBookOk", spec := "fnBookOk", apart := false }
def FnBookOkSaid : Prop := fnBookOkRow.holds Try.pinned (OpenSpec.ofChange fnBookOkSpec)

/-- ITS FALSE NEIGHBOUR: 'it returns false'. Refute it at one input. -/
def fnBookOkWrong : ChangeSpec := { name := "fnBookOk", fn := fun _ => fun
  | [d1, d2] => { results := [.lit (.bool false)], args := [d1, d2] }
  | _ => none }
def FnBookOkWrongFalsely : Prop := fnBookOkRow.holds Try.pinned (OpenSpec.ofChange fnBookOkWrong)

/-- 'laws.FnBookChain': WHATEVER THE INPUT: true; the input reads as it did. -/
def fnBookChainSpec : ChangeSpec := { name := "fnBookChain", fn := fun _ => fun
  | [d] => { results := [.lit (.bool true)], args := [d] }
  | _ => none }
def fnBookChainRow : OpenClaim := { program := "ytfonpbglnkggfaa", sum := "6d9ced54b01416a14b50bf216b9c77412eaa5ab3280580df7ddf89e3fbd15c93", func := "loop.example/witan/laws.FnBookChain", spec := "fnBookChain", unfollowed := true, recurses := true, apart := false }
def FnBookChainSaid : Prop := fnBookChainRow.holds Try.pinned (OpenSpec.ofChange fnBookChainSpec)

/-- ITS FALSE NEIGHBOUR: 'it returns false'. Refute it at one input. -/
def fnBookChainWrong : ChangeSpec := { name := "fnBookChain", fn := fun _ => fun
  | [d] => { results := [.lit (.bool false)], args := [d] }
  | _ => none }
def FnBookChainWrongFalsely : Prop := fnBookChainRow.holds Try.pinned (OpenSpec.ofChange fnBookChainWrong)

/- THE SECOND FORM. 'bulk': how many values and letters a reading holds, each counted each time it is reached (what is shared counts as often as it is met; a slice's spare places count too). A statement '..UptoSaid' is the law's where the arguments, and the package variables that the reading takes, are together of bulk at most 1048576: NARROWER than '..Said'. Prove '..Said' where nothing that the law and all that it calls make is longer than what came in: it says more and counts as full. Else prove '..UptoSaid'. A law counts once. -/
mutual
def uptoBulk {H : Type} : DataW H → Nat
  | .lit (.string bytes) => bytes.length + 1
  | .lit _ => 1
  | .nil => 1
  | .ptr d => uptoBulk d + 1
  | .slice elems spare => uptoBulkAll elems + uptoBulkAll spare + 1
  | .agg parts => uptoBulkAll parts + 1
  | .iface _ d => uptoBulk d + 1
  | .map entries => uptoBulkEntries entries + 1
  | .held _ => 1
def uptoBulkAll {H : Type} : List (DataW H) → Nat
  | [] => 0
  | d :: r => uptoBulk d + uptoBulkAll r
def uptoBulkEntries {H : Type} : List (Lit × DataW H) → Nat
  | [] => 0
  | x :: r => uptoBulkEntry x + uptoBulkEntries r
def uptoBulkEntry {H : Type} : Lit × DataW H → Nat
  | (.string bytes, d) => bytes.length + uptoBulk d + 1
  | (_, d) => uptoBulk d + 1
 end
def uptoSmall : (H : Type) → List (DataW H) → Bool := fun _ ds => decide (uptoBulkAll ds ≤ 1048576)
def OpenSpec.upto (s : _root_.Go.ChangeSpec) : _root_.Go.OpenSpec := { _root_.Go.OpenSpec.ofChange s with cond := some uptoSmall }

/-- 'laws.FnPayForm', WHERE WHAT IT READS IS OF BULK AT MOST 1048576: true; the input reads as it did. -/
def fnPayFormUptoRow : OpenClaim := { program := "ytfonpbglnkggfaa", sum := "6d9ced54b01416a14b50bf216b9c77412eaa5ab3280580df7ddf89e3fbd15c93", func := "loop.example/witan/laws.FnPayForm", spec := "fnPayForm", apart := false, narrowed := true }
def FnPayFormUptoSaid : Prop := fnPayFormUptoRow.holds Try.pinned (OpenSpec.upto fnPayFormSpec)

/-- 'laws.FnChainLess', WHERE WHAT IT READS IS OF BULK AT MOST 1048576: true; the input reads as it did. -/
def fnChainLessUptoRow : OpenClaim := { program := "ytfonpbglnkggfaa", sum := "6d9ced54b01416a14b50bf216b9c77412eaa5ab3280580df7ddf89e3fbd15c93", func := "loop.example/witan/laws.FnChainLess", spec := "fnChainLess", unfollowed := true, recurses := true, apart := false, narrowed := true }
def FnChainLessUptoSaid : Prop := fnChainLessUptoRow.holds Try.pinned (OpenSpec.upto fnChainLessSpec)

/-- 'laws.FnPayOther', WHERE WHAT IT READS IS OF BULK AT MOST 1048576: true; the input reads as it did. -/
def fnPayOtherUptoRow : OpenClaim := { program := "ytfonpbglnkggfaa", sum := "6d9ced54b01416a14b50bf216b9c77412eaa5ab3280580df7ddf89e3fbd15c93", func := "loop.example/witan/laws.FnPayOther", spec := "fnPayOther", apart := false, narrowed := true }
def FnPayOtherUptoSaid : Prop := fnPayOtherUptoRow.holds Try.pinned (OpenSpec.upto fnPayOtherSpec)

/-- 'laws.FnChainGrow', WHERE WHAT IT READS IS OF BULK AT MOST 1048576: true; the input reads as it did. -/
def fnChainGrowUptoRow : OpenClaim := { program := "ytfonpbglnkggfaa", sum := "6d9ced54b01416a14b50bf216b9c77412eaa5ab3280580df7ddf89e3fbd15c93", func := "loop.example/witan/laws.FnChainGrow", spec := "fnChainGrow", unfollowed := true, recurses := true, apart := false, narrowed := true }
def FnChainGrowUptoSaid : Prop := fnChainGrowUptoRow.holds Try.pinned (OpenSpec.upto fnChainGrowSpec)

/-- 'laws.FnBookOf', WHERE WHAT IT READS IS OF BULK AT MOST 1048576: true; the input reads as it did. -/
def fnBookOfUptoRow : OpenClaim := { program := "ytfonpbglnkggfaa", sum := "6d9ced54b01416a14b50bf216b9c77412eaa5ab3280580df7ddf89e3fbd15c93", func := "loop.example/witan/laws.FnBookOf", spec := "fnBookOf", unfollowed := true, recurses := true, apart := false, narrowed := true }
def FnBookOfUptoSaid : Prop := fnBookOfUptoRow.holds Try.pinned (OpenSpec.upto fnBookOfSpec)

/-- 'laws.FnBookOk', WHERE WHAT IT READS IS OF BULK AT MOST 1048576: true; the input reads as it did. -/
def fnBookOkUptoRow : OpenClaim := { program := "ytfonpbglnkggfaa", sum := "6d9ced54b01416a14b50bf216b9c77412eaa5ab3280580df7ddf89e3fbd15c93", func := "loop.example/witan/laws.FnBookOk", spec := "fnBookOk", apart := false, narrowed := true }
def FnBookOkUptoSaid : Prop := fnBookOkUptoRow.holds Try.pinned (OpenSpec.upto fnBookOkSpec)

/-- 'laws.FnBookChain', WHERE WHAT IT READS IS OF BULK AT MOST 1048576: true; the input reads as it did. -/
def fnBookChainUptoRow : OpenClaim := { program := "ytfonpbglnkggfaa", sum := "6d9ced54b01416a14b50bf216b9c77412eaa5ab3280580df7ddf89e3fbd15c93", func := "loop.example/witan/laws.FnBookChain", spec := "fnBookChain", unfollowed := true, recurses := true, apart := false, narrowed := true }
def FnBookChainUptoSaid : Prop := fnBookChainUptoRow.holds Try.pinned (OpenSpec.upto fnBookChainSpec)

end Rows
end Go.Proofs.Ytfonpbglnkggfaa
