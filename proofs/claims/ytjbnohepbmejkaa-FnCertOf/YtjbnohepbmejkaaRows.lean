/-
  No cell of these rows narrows 'for every input' (looked for: loops, veiled, ifaces, maps, wideKeys, modest, calm, conditions, laid).
  DERIVED. THE GIVEN ROWS OF THIS SEAT. 10 by the template 'for every input the law returns true; each argument reads behind the call as it read before'; 0 by the template 'total and deterministic' (their statements: YtjbnohepbmejkaaTotals.lean).
  GIVEN WITH THE SEED: the statements are not yours to turn. If you find one false, say at which input.
  Laid BY PROGRAM, IN A SANDBOX (cutbox-rows.mjs): the forced cells as the released guide's own fill.sh prints them over the translation ed34c34c1be38384… (all of the seat's roots in one cut). By AI agents, Wed Nov 11 2026. No macro, syntax, notation, axiom, sorry.
-/
import Derived.Test.YtjbnohepbmejkaaChecked
import GoSem.Claim
import GoSem.ClaimJoined
import GoSem.ClaimMapViews
import Derived.JoinedTies
import Derived.KernelRfl
namespace Go.Proofs.Ytjbnohepbmejkaa
/- THE CELL 'sum', in the pinned program and in every row, IS THE sha256 OF THE DUMP (.gsa) THAT YtjbnohepbmejkaaProg.lean LOADS. Nothing in Lean hashes anything: it is a label: what it is worth is what the hold of that sum in a sandbox is worth. -/
noncomputable def Try.pinned : Pinned := { name := "ytjbnohepbmejkaa", sum := "ed34c34c1be38384660973d8b228d2720ddadd3ef7479827c4bb6b072a89bab1", checked := Try.checked }
namespace Rows
def none {H : Type} : Left H := { results := [], args := [] }

/-- 'laws.FnCertForm': WHATEVER THE INPUT: true; the input reads as it did. -/
def fnCertFormSpec : ChangeSpec := { name := "fnCertForm", fn := fun _ => fun
  | [d] => { results := [.lit (.bool true)], args := [d] }
  | _ => none }
def fnCertFormRow : OpenClaim := { program := "ytjbnohepbmejkaa", sum := "ed34c34c1be38384660973d8b228d2720ddadd3ef7479827c4bb6b072a89bab1", func := "loop.example/witan/laws.FnCertForm", spec := "fnCertForm", unfollowed := true, recurses := true, apart := false }
def FnCertFormSaid : Prop := fnCertFormRow.holds Try.pinned (OpenSpec.ofChange fnCertFormSpec)

/-- ITS FALSE NEIGHBOUR: 'it returns false'. Refute it at one input. -/
def fnCertFormWrong : ChangeSpec := { name := "fnCertForm", fn := fun _ => fun
  | [d] => { results := [.lit (.bool false)], args := [d] }
  | _ => none }
def FnCertFormWrongFalsely : Prop := fnCertFormRow.holds Try.pinned (OpenSpec.ofChange fnCertFormWrong)

/-- 'laws.FnCertOf': WHATEVER THE INPUT: true; the input reads as it did. -/
def fnCertOfSpec : ChangeSpec := { name := "fnCertOf", fn := fun _ => fun
  | [d] => { results := [.lit (.bool true)], args := [d] }
  | _ => none }
def fnCertOfRow : OpenClaim := { program := "ytjbnohepbmejkaa", sum := "ed34c34c1be38384660973d8b228d2720ddadd3ef7479827c4bb6b072a89bab1", func := "loop.example/witan/laws.FnCertOf", spec := "fnCertOf", unfollowed := true, recurses := true, apart := false }
def FnCertOfSaid : Prop := fnCertOfRow.holds Try.pinned (OpenSpec.ofChange fnCertOfSpec)

/-- ITS FALSE NEIGHBOUR: 'it returns false'. Refute it at one input. -/
def fnCertOfWrong : ChangeSpec := { name := "fnCertOf", fn := fun _ => fun
  | [d] => { results := [.lit (.bool false)], args := [d] }
  | _ => none }
def FnCertOfWrongFalsely : Prop := fnCertOfRow.holds Try.pinned (OpenSpec.ofChange fnCertOfWrong)

/-- 'laws.FnCertMore': WHATEVER THE INPUT: true; the input reads as it did. -/
def fnCertMoreSpec : ChangeSpec := { name := "fnCertMore", fn := fun _ => fun
  | [d1, d2] => { results := [.lit (.bool true)], args := [d1, d2] }
  | _ => none }
def fnCertMoreRow : OpenClaim := { program := "ytjbnohepbmejkaa", sum := "ed34c34c1be38384660973d8b228d2720ddadd3ef7479827c4bb6b072a89bab1", func := "loop.example/witan/laws.FnCertMore", spec := "fnCertMore", unfollowed := true, recurses := true, apart := false }
def FnCertMoreSaid : Prop := fnCertMoreRow.holds Try.pinned (OpenSpec.ofChange fnCertMoreSpec)

/-- ITS FALSE NEIGHBOUR: 'it returns false'. Refute it at one input. -/
def fnCertMoreWrong : ChangeSpec := { name := "fnCertMore", fn := fun _ => fun
  | [d1, d2] => { results := [.lit (.bool false)], args := [d1, d2] }
  | _ => none }
def FnCertMoreWrongFalsely : Prop := fnCertMoreRow.holds Try.pinned (OpenSpec.ofChange fnCertMoreWrong)

/-- 'laws.FnCertEpochs': WHATEVER THE INPUT: true; the input reads as it did. -/
def fnCertEpochsSpec : ChangeSpec := { name := "fnCertEpochs", fn := fun _ => fun
  | [d] => { results := [.lit (.bool true)], args := [d] }
  | _ => none }
def fnCertEpochsRow : OpenClaim := { program := "ytjbnohepbmejkaa", sum := "ed34c34c1be38384660973d8b228d2720ddadd3ef7479827c4bb6b072a89bab1", func := "loop.example/witan/laws.FnCertEpochs", spec := "fnCertEpochs", unfollowed := true, recurses := true, apart := false }
def FnCertEpochsSaid : Prop := fnCertEpochsRow.holds Try.pinned (OpenSpec.ofChange fnCertEpochsSpec)

/-- ITS FALSE NEIGHBOUR: 'it returns false'. Refute it at one input. -/
def fnCertEpochsWrong : ChangeSpec := { name := "fnCertEpochs", fn := fun _ => fun
  | [d] => { results := [.lit (.bool false)], args := [d] }
  | _ => none }
def FnCertEpochsWrongFalsely : Prop := fnCertEpochsRow.holds Try.pinned (OpenSpec.ofChange fnCertEpochsWrong)

/-- 'laws.FnCertAgain': WHATEVER THE INPUT: true; the input reads as it did. -/
def fnCertAgainSpec : ChangeSpec := { name := "fnCertAgain", fn := fun _ => fun
  | [d] => { results := [.lit (.bool true)], args := [d] }
  | _ => none }
def fnCertAgainRow : OpenClaim := { program := "ytjbnohepbmejkaa", sum := "ed34c34c1be38384660973d8b228d2720ddadd3ef7479827c4bb6b072a89bab1", func := "loop.example/witan/laws.FnCertAgain", spec := "fnCertAgain", unfollowed := true, recurses := true, apart := false }
def FnCertAgainSaid : Prop := fnCertAgainRow.holds Try.pinned (OpenSpec.ofChange fnCertAgainSpec)

/-- ITS FALSE NEIGHBOUR: 'it returns false'. Refute it at one input. -/
def fnCertAgainWrong : ChangeSpec := { name := "fnCertAgain", fn := fun _ => fun
  | [d] => { results := [.lit (.bool false)], args := [d] }
  | _ => none }
def FnCertAgainWrongFalsely : Prop := fnCertAgainRow.holds Try.pinned (OpenSpec.ofChange fnCertAgainWrong)

/-- 'laws.FnCertLonger': WHATEVER THE INPUT: true; the input reads as it did. -/
def fnCertLongerSpec : ChangeSpec := { name := "fnCertLonger", fn := fun _ => fun
  | [d1, d2] => { results := [.lit (.bool true)], args := [d1, d2] }
  | _ => none }
def fnCertLongerRow : OpenClaim := { program := "ytjbnohepbmejkaa", sum := "ed34c34c1be38384660973d8b228d2720ddadd3ef7479827c4bb6b072a89bab1", func := "loop.example/witan/laws.FnCertLonger", spec := "fnCertLonger", unfollowed := true, recurses := true, apart := false }
def FnCertLongerSaid : Prop := fnCertLongerRow.holds Try.pinned (OpenSpec.ofChange fnCertLongerSpec)

/-- ITS FALSE NEIGHBOUR: 'it returns false'. Refute it at one input. -/
def fnCertLongerWrong : ChangeSpec := { name := "fnCertLonger", fn := fun _ => fun
  | [d1, d2] => { results := [.lit (.bool false)], args := [d1, d2] }
  | _ => none }
def FnCertLongerWrongFalsely : Prop := fnCertLongerRow.holds Try.pinned (OpenSpec.ofChange fnCertLongerWrong)

/-- 'laws.FnExactWorldNew': WHATEVER THE INPUT: true; the input reads as it did. -/
def fnExactWorldNewSpec : ChangeSpec := { name := "fnExactWorldNew", fn := fun _ => fun
  | [d] => { results := [.lit (.bool true)], args := [d] }
  | _ => none }
def fnExactWorldNewRow : OpenClaim := { program := "ytjbnohepbmejkaa", sum := "ed34c34c1be38384660973d8b228d2720ddadd3ef7479827c4bb6b072a89bab1", func := "loop.example/witan/laws.FnExactWorldNew", spec := "fnExactWorldNew", apart := false }
def FnExactWorldNewSaid : Prop := fnExactWorldNewRow.holds Try.pinned (OpenSpec.ofChange fnExactWorldNewSpec)

/-- ITS FALSE NEIGHBOUR: 'it returns false'. Refute it at one input. -/
def fnExactWorldNewWrong : ChangeSpec := { name := "fnExactWorldNew", fn := fun _ => fun
  | [d] => { results := [.lit (.bool false)], args := [d] }
  | _ => none }
def FnExactWorldNewWrongFalsely : Prop := fnExactWorldNewRow.holds Try.pinned (OpenSpec.ofChange fnExactWorldNewWrong)

/-- 'laws.FnExactWorldOk': WHATEVER THE INPUT: true; the input reads as it did. -/
def fnExactWorldOkSpec : ChangeSpec := { name := "fnExactWorldOk", fn := fun _ => fun
  | [d] => { results := [.lit (.bool true)], args := [d] }
  | _ => none }
def fnExactWorldOkRow : OpenClaim := { program := "ytjbnohepbmejkaa", sum := "ed34c34c1be38384660973d8b228d2720ddadd3ef7479827c4bb6b072a89bab1", func := "loop.example/witan/laws.FnExactWorldOk", spec := "fnExactWorldOk", unfollowed := true, recurses := true, apart := false }
def FnExactWorldOkSaid : Prop := fnExactWorldOkRow.holds Try.pinned (OpenSpec.ofChange fnExactWorldOkSpec)

/-- ITS FALSE NEIGHBOUR: 'it returns false'. Refute it at one input. -/
def fnExactWorldOkWrong : ChangeSpec := { name := "fnExactWorldOk", fn := fun _ => fun
  | [d] => { results := [.lit (.bool false)], args := [d] }
  | _ => none }
def FnExactWorldOkWrongFalsely : Prop := fnExactWorldOkRow.holds Try.pinned (OpenSpec.ofChange fnExactWorldOkWrong)

/-- 'laws.FnExactWorldShown': WHATEVER THE INPUT: true; the input reads as it did. -/
def fnExactWorldShownSpec : ChangeSpec := { name := "fnExactWorldShown", fn := fun _ => fun
  | [d1, d2] => { results := [.lit (.bool true)], args := [d1, d2] }
  | _ => none }
def fnExactWorldShownRow : OpenClaim := { program := "ytjbnohepbmejkaa", sum := "ed34c34c1be38384660973d8b228d2720ddadd3ef7479827c4bb6b072a89bab1", func := "loop.example/witan/laws.FnExactWorldShown", spec := "fnExactWorldShown", unfollowed := true, recurses := true, apart := false }
def FnExactWorldShownSaid : Prop := fnExactWorldShownRow.holds Try.pinned (OpenSpec.ofChange fnExactWorldShownSpec)

/-- ITS FALSE NEIGHBOUR: 'it returns false'. Refute it at one input. -/
def fnExactWorldShownWrong : ChangeSpec := { name := "fnExactWorldShown", fn := fun _ => fun
  | [d1, d2] => { results := [.lit (.bool false)], args := [d1, d2] }
  | _ => none }
def FnExactWorldShownWrongFalsely : Prop := fnExactWorldShownRow.holds Try.pinned (OpenSpec.ofChange fnExactWorldShownWrong)

/-- 'laws.FnWorldNew': WHATEVER THE INPUT: true; the input reads as it did. -/
def fnWorldNewSpec : ChangeSpec := { name := "fnWorldNew", fn := fun _ => fun
  | [d] => { results := [.lit (.bool true)], args := [d] }
  | _ => none }
def fnWorldNewRow : OpenClaim := { program := "ytjbnohepbmejkaa", sum := "ed34c34c1be38384660973d8b228d2720ddadd3ef7479827c4bb6b072a89bab1", func := "loop.example/witan/laws.FnWorldNew", spec := "fnWorldNew", unfollowed := true, recurses := true, apart := false }
def FnWorldNewSaid : Prop := fnWorldNewRow.holds Try.pinned (OpenSpec.ofChange fnWorldNewSpec)

/-- ITS FALSE NEIGHBOUR: 'it returns false'. Refute it at one input. -/
def fnWorldNewWrong : ChangeSpec := { name := "fnWorldNew", fn := fun _ => fun
  | [d] => { results := [.lit (.bool false)], args := [d] }
  | _ => none }
def FnWorldNewWrongFalsely : Prop := fnWorldNewRow.holds Try.pinned (OpenSpec.ofChange fnWorldNewWrong)

/- THE SECOND FORM. 'bulk': how many values and letters a reading holds, each counted each time it is reached (what is shared counts as often as it is met; a slice's spare places count too). A statement '..UptoSaid' is the law's where the arguments, and the package variables that the reading takes, are together of bulk at most 1048576: NARROWER than '..Said'. Prove '..Said' where nothing that the law and all that it calls make is longer than what came in: it says more and counts as full. Else prove '..UptoSaid'. A law counts once. -/
mutual
def uptoBulk {H : Type} : DataW H → Nat
  | .lit (.string bytes) => bytes.length + 1
  | .lit _ => 1
  | .nil => 1
  | .ptr d => uptoBulk d + 1
  | .slice elems spare => uptoBulkAll elems + uptoBulkAll spare + 1
  | .agg parts => uptoBulkAll parts + 1
  | .iface _ d => uptoBulk d + 1
  | .map entries => uptoBulkEntries entries + 1
  | .held _ => 1
def uptoBulkAll {H : Type} : List (DataW H) → Nat
  | [] => 0
  | d :: r => uptoBulk d + uptoBulkAll r
def uptoBulkEntries {H : Type} : List (Lit × DataW H) → Nat
  | [] => 0
  | x :: r => uptoBulkEntry x + uptoBulkEntries r
def uptoBulkEntry {H : Type} : Lit × DataW H → Nat
  | (.string bytes, d) => bytes.length + uptoBulk d + 1
  | (_, d) => uptoBulk d + 1
 end
def uptoSmall : (H : Type) → List (DataW H) → Bool := fun _ ds => decide (uptoBulkAll ds ≤ 1048576)
def OpenSpec.upto (s : _root_.Go.ChangeSpec) : _root_.Go.OpenSpec := { _root_.Go.OpenSpec.ofChange s with cond := some uptoSmall }

/-- 'laws.FnCertForm', WHERE WHAT IT READS IS OF BULK AT MOST 1048576: true; the input reads as it did. -/
def fnCertFormUptoRow : OpenClaim := { program := "ytjbnohepbmejkaa", sum := "ed34c34c1be38384660973d8b228d2720ddadd3ef7479827c4bb6b072a89bab1", func := "loop.example/witan/laws.FnCertForm", spec := "fnCertForm", unfollowed := true, recurses := true, apart := false, narrowed := true }
def FnCertFormUptoSaid : Prop := fnCertFormUptoRow.holds Try.pinned (OpenSpec.upto fnCertFormSpec)

/-- 'laws.FnCertOf', WHERE WHAT IT READS IS OF BULK AT MOST 1048576: true; the input reads as it did. -/
def fnCertOfUptoRow : OpenClaim := { program := "ytjbnohepbmejkaa", sum := "ed34c34c1be38384660973d8b228d2720ddadd3ef7479827c4bb6b072a89bab1", func := "loop.example/witan/laws.FnCertOf", spec := "fnCertOf", unfollowed := true, recurses := true, apart := false, narrowed := true }
def FnCertOfUptoSaid : Prop := fnCertOfUptoRow.holds Try.pinned (OpenSpec.upto fnCertOfSpec)

/-- 'laws.FnCertMore', WHERE WHAT IT READS IS OF BULK AT MOST 1048576: true; the input reads as it did. -/
def fnCertMoreUptoRow : OpenClaim := { program := "ytjbnohepbmejkaa", sum := "ed34c34c1be38384660973d8b228d2720ddadd3ef7479827c4bb6b072a89bab1", func := "loop.example/witan/laws.FnCertMore", spec := "fnCertMore", unfollowed := true, recurses := true, apart := false, narrowed := true }
def FnCertMoreUptoSaid : Prop := fnCertMoreUptoRow.holds Try.pinned (OpenSpec.upto fnCertMoreSpec)

/-- 'laws.FnCertEpochs', WHERE WHAT IT READS IS OF BULK AT MOST 1048576: true; the input reads as it did. -/
def fnCertEpochsUptoRow : OpenClaim := { program := "ytjbnohepbmejkaa", sum := "ed34c34c1be38384660973d8b228d2720ddadd3ef7479827c4bb6b072a89bab1", func := "loop.example/witan/laws.FnCertEpochs", spec := "fnCertEpochs", unfollowed := true, recurses := true, apart := false, narrowed := true }
def FnCertEpochsUptoSaid : Prop := fnCertEpochsUptoRow.holds Try.pinned (OpenSpec.upto fnCertEpochsSpec)

/-- 'laws.FnCertAgain', WHERE WHAT IT READS IS OF BULK AT MOST 1048576: true; the input reads as it did. -/
def fnCertAgainUptoRow : OpenClaim := { program := "ytjbnohepbmejkaa", sum := "ed34c34c1be38384660973d8b228d2720ddadd3ef7479827c4bb6b072a89bab1", func := "loop.example/witan/laws.FnCertAgain", spec := "fnCertAgain", unfollowed := true, recurses := true, apart := false, narrowed := true }
def FnCertAgainUptoSaid : Prop := fnCertAgainUptoRow.holds Try.pinned (OpenSpec.upto fnCertAgainSpec)

/-- 'laws.FnCertLonger', WHERE WHAT IT READS IS OF BULK AT MOST 1048576: true; the input reads as it did. -/
def fnCertLongerUptoRow : OpenClaim := { program := "ytjbnohepbmejkaa", sum := "ed34c34c1be38384660973d8b228d2720ddadd3ef7479827c4bb6b072a89bab1", func := "loop.example/witan/laws.FnCertLonger", spec := "fnCertLonger", unfollowed := true, recurses := true, apart := false, narrowed := true }
def FnCertLongerUptoSaid : Prop := fnCertLongerUptoRow.holds Try.pinned (OpenSpec.upto fnCertLongerSpec)

/-- 'laws.FnExactWorldNew', WHERE WHAT IT READS IS OF BULK AT MOST 1048576: true; the input reads as it did. -/
def fnExactWorldNewUptoRow : OpenClaim := { program := "ytjbnohepbmejkaa", sum := "ed34c34c1be38384660973d8b228d2720ddadd3ef7479827c4bb6b072a89bab1", func := "loop.example/witan/laws.FnExactWorldNew", spec := "fnExactWorldNew", apart := false, narrowed := true }
def FnExactWorldNewUptoSaid : Prop := fnExactWorldNewUptoRow.holds Try.pinned (OpenSpec.upto fnExactWorldNewSpec)

/-- 'laws.FnExactWorldOk', WHERE WHAT IT READS IS OF BULK AT MOST 1048576: true; the input reads as it did. -/
def fnExactWorldOkUptoRow : OpenClaim := { program := "ytjbnohepbmejkaa", sum := "ed34c34c1be38384660973d8b228d2720ddadd3ef7479827c4bb6b072a89bab1", func := "loop.example/witan/laws.FnExactWorldOk", spec := "fnExactWorldOk", unfollowed := true, recurses := true, apart := false, narrowed := true }
def FnExactWorldOkUptoSaid : Prop := fnExactWorldOkUptoRow.holds Try.pinned (OpenSpec.upto fnExactWorldOkSpec)

/-- 'laws.FnExactWorldShown', WHERE WHAT IT READS IS OF BULK AT MOST 1048576: true; the input reads as it did. -/
def fnExactWorldShownUptoRow : OpenClaim := { program := "ytjbnohepbmejkaa", sum := "ed34c34c1be38384660973d8b228d2720ddadd3ef7479827c4bb6b072a89bab1", func := "loop.example/witan/laws.FnExactWorldShown", spec := "fnExactWorldShown", unfollowed := true, recurses := true, apart := false, narrowed := true }
def FnExactWorldShownUptoSaid : Prop := fnExactWorldShownUptoRow.holds Try.pinned (OpenSpec.upto fnExactWorldShownSpec)

/-- 'laws.FnWorldNew', WHERE WHAT IT READS IS OF BULK AT MOST 1048576: true; the input reads as it did. -/
def fnWorldNewUptoRow : OpenClaim := { program := "ytjbnohepbmejkaa", sum := "ed34c34c1be38384660973d8b228d2720ddadd3ef7479827c4bb6b072a89bab1", func := "loop.example/witan/laws.FnWorldNew", spec := "fnWorldNew", unfollowed := true, recurses := true, apart := false, narrowed := true }
def FnWorldNewUptoSaid : Prop := fnWorldNewUptoRow.holds Try.pinned (OpenSpec.upto fnWorldNewSpec)

end Rows
end Go.Proofs.Ytjbnohepbmejkaa
