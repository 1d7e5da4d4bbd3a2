/-
  No cell of these rows narrows 'for every input' (looked for: loops, veiled, ifaces, maps, wideKeys, modest, calm, conditions, laid).
  DERIVED. THE GIVEN ROWS OF THIS SEAT. 13 by the template 'for every input the law returns true; each argument reads behind the call as it read before'; 0 by the template 'total and deterministic' (their statements: YteemihgakcmamaaTotals.lean).
  GIVEN WITH THE SEED: the statements are not yours to turn. If you find one false, say at which input.
  Laid BY PROGRAM, IN A SANDBOX (cutbox-rows.mjs): the forced cells as the released guide's own fill.sh prints them over the translation 4b64bb3499a876b1… (all of the seat's roots in one cut). By AI agents, Wed Nov 11 2026. No macro, syntax, notation, axiom, sorry.
-/
import Derived.Test.YteemihgakcmamaaChecked
import GoSem.Claim
import GoSem.ClaimJoined
import GoSem.ClaimMapViews
import Derived.JoinedTies
import Derived.KernelRfl
namespace Go.Proofs.Yteemihgakcmamaa
/- THE CELL 'sum', in the pinned program and in every row, IS THE sha256 OF THE DUMP (.gsa) THAT YteemihgakcmamaaProg.lean LOADS. Nothing in Lean hashes anything: it is a label: what it is worth is what the hold of that sum in a sandbox is worth. -/
noncomputable def Try.pinned : Pinned := { name := "yteemihgakcmamaa", sum := "4b64bb3499a876b191bcb49e251d4a4b596feed2943c41ae8cfb99c328c45d43", checked := Try.checked }
namespace Rows
def none {H : Type} : Left H := { results := [], args := [] }

/-- 'laws.FnExactCertVotes': WHATEVER THE INPUT: true; the input reads as it did. -/
def fnExactCertVotesSpec : ChangeSpec := { name := "fnExactCertVotes", fn := fun _ => fun
  | [d] => { results := [.lit (.bool true)], args := [d] }
  | _ => none }
def fnExactCertVotesRow : OpenClaim := { program := "yteemihgakcmamaa", sum := "4b64bb3499a876b191bcb49e251d4a4b596feed2943c41ae8cfb99c328c45d43", func := "loop.example/witan/laws.FnExactCertVotes", spec := "fnExactCertVotes", unfollowed := true, recurses := true, apart := false }
def FnExactCertVotesSaid : Prop := fnExactCertVotesRow.holds Try.pinned (OpenSpec.ofChange fnExactCertVotesSpec)

/-- ITS FALSE NEIGHBOUR: 'it returns false'. Refute it at one input. -/
def fnExactCertVotesWrong : ChangeSpec := { name := "fnExactCertVotes", fn := fun _ => fun
  | [d] => { results := [.lit (.bool false)], args := [d] }
  | _ => none }
def FnExactCertVotesWrongFalsely : Prop := fnExactCertVotesRow.holds Try.pinned (OpenSpec.ofChange fnExactCertVotesWrong)

/-- 'laws.FnExactCertOf': WHATEVER THE INPUT: true; the input reads as it did. -/
def fnExactCertOfSpec : ChangeSpec := { name := "fnExactCertOf", fn := fun _ => fun
  | [d] => { results := [.lit (.bool true)], args := [d] }
  | _ => none }
def fnExactCertOfRow : OpenClaim := { program := "yteemihgakcmamaa", sum := "4b64bb3499a876b191bcb49e251d4a4b596feed2943c41ae8cfb99c328c45d43", func := "loop.example/witan/laws.FnExactCertOf", spec := "fnExactCertOf", unfollowed := true, recurses := true, apart := false }
def FnExactCertOfSaid : Prop := fnExactCertOfRow.holds Try.pinned (OpenSpec.ofChange fnExactCertOfSpec)

/-- ITS FALSE NEIGHBOUR: 'it returns false'. Refute it at one input. -/
def fnExactCertOfWrong : ChangeSpec := { name := "fnExactCertOf", fn := fun _ => fun
  | [d] => { results := [.lit (.bool false)], args := [d] }
  | _ => none }
def FnExactCertOfWrongFalsely : Prop := fnExactCertOfRow.holds Try.pinned (OpenSpec.ofChange fnExactCertOfWrong)

/-- 'laws.FnCertForm': WHATEVER THE INPUT: true; the input reads as it did. -/
def fnCertFormSpec : ChangeSpec := { name := "fnCertForm", fn := fun _ => fun
  | [d] => { results := [.lit (.bool true)], args := [d] }
  | _ => none }
def fnCertFormRow : OpenClaim := { program := "yteemihgakcmamaa", sum := "4b64bb3499a876b191bcb49e251d4a4b596feed2943c41ae8cfb99c328c45d43", func := "loop.example/witan/laws.FnCertForm", spec := "fnCertForm", unfollowed := true, recurses := true, apart := false }
def FnCertFormSaid : Prop := fnCertFormRow.holds Try.pinned (OpenSpec.ofChange fnCertFormSpec)

/-- ITS FALSE NEIGHBOUR: 'it returns false'. Refute it at one input. -/
def fnCertFormWrong : ChangeSpec := { name := "fnCertForm", fn := fun _ => fun
  | [d] => { results := [.lit (.bool false)], args := [d] }
  | _ => none }
def FnCertFormWrongFalsely : Prop := fnCertFormRow.holds Try.pinned (OpenSpec.ofChange fnCertFormWrong)

/-- 'laws.FnCertFinal': WHATEVER THE INPUT: true; the input reads as it did. -/
def fnCertFinalSpec : ChangeSpec := { name := "fnCertFinal", fn := fun _ => fun
  | [d] => { results := [.lit (.bool true)], args := [d] }
  | _ => none }
def fnCertFinalRow : OpenClaim := { program := "yteemihgakcmamaa", sum := "4b64bb3499a876b191bcb49e251d4a4b596feed2943c41ae8cfb99c328c45d43", func := "loop.example/witan/laws.FnCertFinal", spec := "fnCertFinal", unfollowed := true, recurses := true, apart := false }
def FnCertFinalSaid : Prop := fnCertFinalRow.holds Try.pinned (OpenSpec.ofChange fnCertFinalSpec)

/-- ITS FALSE NEIGHBOUR: 'it returns false'. Refute it at one input. -/
def fnCertFinalWrong : ChangeSpec := { name := "fnCertFinal", fn := fun _ => fun
  | [d] => { results := [.lit (.bool false)], args := [d] }
  | _ => none }
def FnCertFinalWrongFalsely : Prop := fnCertFinalRow.holds Try.pinned (OpenSpec.ofChange fnCertFinalWrong)

/-- 'laws.FnCertVotes': WHATEVER THE INPUT: true; the input reads as it did. -/
def fnCertVotesSpec : ChangeSpec := { name := "fnCertVotes", fn := fun _ => fun
  | [d] => { results := [.lit (.bool true)], args := [d] }
  | _ => none }
def fnCertVotesRow : OpenClaim := { program := "yteemihgakcmamaa", sum := "4b64bb3499a876b191bcb49e251d4a4b596feed2943c41ae8cfb99c328c45d43", func := "loop.example/witan/laws.FnCertVotes", spec := "fnCertVotes", unfollowed := true, recurses := true, apart := false }
def FnCertVotesSaid : Prop := fnCertVotesRow.holds Try.pinned (OpenSpec.ofChange fnCertVotesSpec)

/-- ITS FALSE NEIGHBOUR: 'it returns false'. Refute it at one input. -/
def fnCertVotesWrong : ChangeSpec := { name := "fnCertVotes", fn := fun _ => fun
  | [d] => { results := [.lit (.bool false)], args := [d] }
  | _ => none }
def FnCertVotesWrongFalsely : Prop := fnCertVotesRow.holds Try.pinned (OpenSpec.ofChange fnCertVotesWrong)

/-- 'laws.FnCertMore': WHATEVER THE INPUT: true; the input reads as it did. -/
def fnCertMoreSpec : ChangeSpec := { name := "fnCertMore", fn := fun _ => fun
  | [d1, d2] => { results := [.lit (.bool true)], args := [d1, d2] }
  | _ => none }
def fnCertMoreRow : OpenClaim := { program := "yteemihgakcmamaa", sum := "4b64bb3499a876b191bcb49e251d4a4b596feed2943c41ae8cfb99c328c45d43", func := "loop.example/witan/laws.FnCertMore", spec := "fnCertMore", unfollowed := true, recurses := true, apart := false }
def FnCertMoreSaid : Prop := fnCertMoreRow.holds Try.pinned (OpenSpec.ofChange fnCertMoreSpec)

/-- ITS FALSE NEIGHBOUR: 'it returns false'. Refute it at one input. -/
def fnCertMoreWrong : ChangeSpec := { name := "fnCertMore", fn := fun _ => fun
  | [d1, d2] => { results := [.lit (.bool false)], args := [d1, d2] }
  | _ => none }
def FnCertMoreWrongFalsely : Prop := fnCertMoreRow.holds Try.pinned (OpenSpec.ofChange fnCertMoreWrong)

/-- 'laws.FnCertEpochs': WHATEVER THE INPUT: true; the input reads as it did. -/
def fnCertEpochsSpec : ChangeSpec := { name := "fnCertEpochs", fn := fun _ => fun
  | [d] => { results := [.lit (.bool true)], args := [d] }
  | _ => none }
def fnCertEpochsRow : OpenClaim := { program := "yteemihgakcmamaa", sum := "4b64bb3499a876b191bcb49e251d4a4b596feed2943c41ae8cfb99c328c45d43", func := "loop.example/witan/laws.FnCertEpochs", spec := "fnCertEpochs", unfollowed := true, recurses := true, apart := false }
def FnCertEpochsSaid : Prop := fnCertEpochsRow.holds Try.pinned (OpenSpec.ofChange fnCertEpochsSpec)

/-- ITS FALSE NEIGHBOUR: 'it returns false'. Refute it at one input. -/
def fnCertEpochsWrong : ChangeSpec := { name := "fnCertEpochs", fn := fun _ => fun
  | [d] => { results := [.lit (.bool false)], args := [d] }
  | _ => none }
def FnCertEpochsWrongFalsely : Prop := fnCertEpochsRow.holds Try.pinned (OpenSpec.ofChange fnCertEpochsWrong)

/-- 'laws.FnCertAgain': WHATEVER THE INPUT: true; the input reads as it did. -/
def fnCertAgainSpec : ChangeSpec := { name := "fnCertAgain", fn := fun _ => fun
  | [d] => { results := [.lit (.bool true)], args := [d] }
  | _ => none }
def fnCertAgainRow : OpenClaim := { program := "yteemihgakcmamaa", sum := "4b64bb3499a876b191bcb49e251d4a4b596feed2943c41ae8cfb99c328c45d43", func := "loop.example/witan/laws.FnCertAgain", spec := "fnCertAgain", unfollowed := true, recurses := true, apart := false }
def FnCertAgainSaid : Prop := fnCertAgainRow.holds Try.pinned (OpenSpec.ofChange fnCertAgainSpec)

/-- ITS FALSE NEIGHBOUR: 'it returns false'. Refute it at one input. -/
def fnCertAgainWrong : ChangeSpec := { name := "fnCertAgain", fn := fun _ => fun
  | [d] => { results := [.lit (.bool false)], args := [d] }
  | _ => none }
def FnCertAgainWrongFalsely : Prop := fnCertAgainRow.holds Try.pinned (OpenSpec.ofChange fnCertAgainWrong)

/-- 'laws.FnCertOrder': WHATEVER THE INPUT: true; the input reads as it did. -/
def fnCertOrderSpec : ChangeSpec := { name := "fnCertOrder", fn := fun _ => fun
  | [d] => { results := [.lit (.bool true)], args := [d] }
  | _ => none }
def fnCertOrderRow : OpenClaim := { program := "yteemihgakcmamaa", sum := "4b64bb3499a876b191bcb49e251d4a4b596feed2943c41ae8cfb99c328c45d43", func := "loop.example/witan/laws.FnCertOrder", spec := "fnCertOrder", unfollowed := true, recurses := true, apart := false }
def FnCertOrderSaid : Prop := fnCertOrderRow.holds Try.pinned (OpenSpec.ofChange fnCertOrderSpec)

/-- ITS FALSE NEIGHBOUR: 'it returns false'. Refute it at one input. -/
def fnCertOrderWrong : ChangeSpec := { name := "fnCertOrder", fn := fun _ => fun
  | [d] => { results := [.lit (.bool false)], args := [d] }
  | _ => none }
def FnCertOrderWrongFalsely : Prop := fnCertOrderRow.holds Try.pinned (OpenSpec.ofChange fnCertOrderWrong)

/-- 'laws.FnCertBook': WHATEVER THE INPUT: true; the input reads as it did. -/
def fnCertBookSpec : ChangeSpec := { name := "fnCertBook", fn := fun _ => fun
  | [d] => { results := [.lit (.bool true)], args := [d] }
  | _ => none }
def fnCertBookRow : OpenClaim := { program := "yteemihgakcmamaa", sum := "4b64bb3499a876b191bcb49e251d4a4b596feed2943c41ae8cfb99c328c45d43", func := "loop.example/witan/laws.FnCertBook", spec := "fnCertBook", unfollowed := true, recurses := true, apart := false }
def FnCertBookSaid : Prop := fnCertBookRow.holds Try.pinned (OpenSpec.ofChange fnCertBookSpec)

/-- ITS FALSE NEIGHBOUR: 'it returns false'. Refute it at one input. -/
def fnCertBookWrong : ChangeSpec := { name := "fnCertBook", fn := fun _ => fun
  | [d] => { results := [.lit (.bool false)], args := [d] }
  | _ => none }
def FnCertBookWrongFalsely : Prop := fnCertBookRow.holds Try.pinned (OpenSpec.ofChange fnCertBookWrong)

/-- 'laws.FnTipNew': WHATEVER THE INPUT: true; the input reads as it did. -/
def fnTipNewSpec : ChangeSpec := { name := "fnTipNew", fn := fun _ => fun
  | [d1, d2] => { results := [.lit (.bool true)], args := [d1, d2] }
  | _ => none }
def fnTipNewRow : OpenClaim := { program := "yteemihgakcmamaa", sum := "4b64bb3499a876b191bcb49e251d4a4b596feed2943c41ae8cfb99c328c45d43", func := "loop.example/witan/laws.FnTipNew", spec := "fnTipNew", unfollowed := true, recurses := true, apart := false }
def FnTipNewSaid : Prop := fnTipNewRow.holds Try.pinned (OpenSpec.ofChange fnTipNewSpec)

/-- ITS FALSE NEIGHBOUR: 'it returns false'. Refute it at one input. -/
def fnTipNewWrong : ChangeSpec := { name := "fnTipNew", fn := fun _ => fun
  | [d1, d2] => { results := [.lit (.bool false)], args := [d1, d2] }
  | _ => none }
def FnTipNewWrongFalsely : Prop := fnTipNewRow.holds Try.pinned (OpenSpec.ofChange fnTipNewWrong)

/-- 'laws.FnFinalThree': WHATEVER THE INPUT: true; the input reads as it did. -/
def fnFinalThreeSpec : ChangeSpec := { name := "fnFinalThree", fn := fun _ => fun
  | [d1, d2] => { results := [.lit (.bool true)], args := [d1, d2] }
  | _ => none }
def fnFinalThreeRow : OpenClaim := { program := "yteemihgakcmamaa", sum := "4b64bb3499a876b191bcb49e251d4a4b596feed2943c41ae8cfb99c328c45d43", func := "loop.example/witan/laws.FnFinalThree", spec := "fnFinalThree", unfollowed := true, recurses := true, apart := false }
def FnFinalThreeSaid : Prop := fnFinalThreeRow.holds Try.pinned (OpenSpec.ofChange fnFinalThreeSpec)

/-- ITS FALSE NEIGHBOUR: 'it returns false'. Refute it at one input. -/
def fnFinalThreeWrong : ChangeSpec := { name := "fnFinalThree", fn := fun _ => fun
  | [d1, d2] => { results := [.lit (.bool false)], args := [d1, d2] }
  | _ => none }
def FnFinalThreeWrongFalsely : Prop := fnFinalThreeRow.holds Try.pinned (OpenSpec.ofChange fnFinalThreeWrong)

/-- 'laws.FnNodeNew': WHATEVER THE INPUT: true; the input reads as it did. -/
def fnNodeNewSpec : ChangeSpec := { name := "fnNodeNew", fn := fun _ => fun
  | [d] => { results := [.lit (.bool true)], args := [d] }
  | _ => none }
def fnNodeNewRow : OpenClaim := { program := "yteemihgakcmamaa", sum := "4b64bb3499a876b191bcb49e251d4a4b596feed2943c41ae8cfb99c328c45d43", func := "loop.example/witan/laws.FnNodeNew", spec := "fnNodeNew", unfollowed := true, recurses := true, apart := false }
def FnNodeNewSaid : Prop := fnNodeNewRow.holds Try.pinned (OpenSpec.ofChange fnNodeNewSpec)

/-- ITS FALSE NEIGHBOUR: 'it returns false'. Refute it at one input. -/
def fnNodeNewWrong : ChangeSpec := { name := "fnNodeNew", fn := fun _ => fun
  | [d] => { results := [.lit (.bool false)], args := [d] }
  | _ => none }
def FnNodeNewWrongFalsely : Prop := fnNodeNewRow.holds Try.pinned (OpenSpec.ofChange fnNodeNewWrong)

/- THE SECOND FORM. 'bulk': how many values and letters a reading holds, each counted each time it is reached (what is shared counts as often as it is met; a slice's spare places count too). A statement '..UptoSaid' is the law's where the arguments, and the package variables that the reading takes, are together of bulk at most 1048576: NARROWER than '..Said'. Prove '..Said' where nothing that the law and all that it calls make is longer than what came in: it says more and counts as full. Else prove '..UptoSaid'. A law counts once. -/
mutual
def uptoBulk {H : Type} : DataW H → Nat
  | .lit (.string bytes) => bytes.length + 1
  | .lit _ => 1
  | .nil => 1
  | .ptr d => uptoBulk d + 1
  | .slice elems spare => uptoBulkAll elems + uptoBulkAll spare + 1
  | .agg parts => uptoBulkAll parts + 1
  | .iface _ d => uptoBulk d + 1
  | .map entries => uptoBulkEntries entries + 1
  | .held _ => 1
def uptoBulkAll {H : Type} : List (DataW H) → Nat
  | [] => 0
  | d :: r => uptoBulk d + uptoBulkAll r
def uptoBulkEntries {H : Type} : List (Lit × DataW H) → Nat
  | [] => 0
  | x :: r => uptoBulkEntry x + uptoBulkEntries r
def uptoBulkEntry {H : Type} : Lit × DataW H → Nat
  | (.string bytes, d) => bytes.length + uptoBulk d + 1
  | (_, d) => uptoBulk d + 1
 end
def uptoSmall : (H : Type) → List (DataW H) → Bool := fun _ ds => decide (uptoBulkAll ds ≤ 1048576)
def OpenSpec.upto (s : _root_.Go.ChangeSpec) : _root_.Go.OpenSpec := { _root_.Go.OpenSpec.ofChange s with cond := some uptoSmall }

/-- 'laws.FnExactCertVotes', WHERE WHAT IT READS IS OF BULK AT MOST 1048576: true; the input reads as it did. -/
def fnExactCertVotesUptoRow : OpenClaim := { program := "yteemihgakcmamaa", sum := "4b64bb3499a876b191bcb49e251d4a4b596feed2943c41ae8cfb99c328c45d43", func := "loop.example/witan/laws.FnExactCertVotes", spec := "fnExactCertVotes", unfollowed := true, recurses := true, apart := false, narrowed := true }
def FnExactCertVotesUptoSaid : Prop := fnExactCertVotesUptoRow.holds Try.pinned (OpenSpec.upto fnExactCertVotesSpec)

/-- 'laws.FnExactCertOf', WHERE WHAT IT READS IS OF BULK AT MOST 1048576: true; the input reads as it did. -/
def fnExactCertOfUptoRow : OpenClaim := { program := "yteemihgakcmamaa", sum := "4b64bb3499a876b191bcb49e251d4a4b596feed2943c41ae8cfb99c328c45d43", func := "loop.example/witan/laws.FnExactCertOf", spec := "fnExactCertOf", unfollowed := true, recurses := true, apart := false, narrowed := true }
def FnExactCertOfUptoSaid : Prop := fnExactCertOfUptoRow.holds Try.pinned (OpenSpec.upto fnExactCertOfSpec)

/-- 'laws.FnCertForm', WHERE WHAT IT READS IS OF BULK AT MOST 1048576: true; the input reads as it did. -/
def fnCertFormUptoRow : OpenClaim := { program := "yteemihgakcmamaa", sum := "4b64bb3499a876b191bcb49e251d4a4b596feed2943c41ae8cfb99c328c45d43", func := "loop.example/witan/laws.FnCertForm", spec := "fnCertForm", unfollowed := true, recurses := true, apart := false, narrowed := true }
def FnCertFormUptoSaid : Prop := fnCertFormUptoRow.holds Try.pinned (OpenSpec.upto fnCertFormSpec)

/-- 'laws.FnCertFinal', WHERE WHAT IT READS IS OF BULK AT MOST 1048576: true; the input reads as it did. -/
def fnCertFinalUptoRow : OpenClaim := { program := "yteemihgakcmamaa", sum := "4b64bb3499a876b191bcb49e251d4a4b596feed2943c41ae8cfb99c328c45d43", func := "loop.example/witan/laws.FnCertFinal", spec := "fnCertFinal", unfollowed := true, recurses := true, apart := false, narrowed := true }
def FnCertFinalUptoSaid : Prop := fnCertFinalUptoRow.holds Try.pinned (OpenSpec.upto fnCertFinalSpec)

/-- 'laws.FnCertVotes', WHERE WHAT IT READS IS OF BULK AT MOST 1048576: true; the input reads as it did. -/
def fnCertVotesUptoRow : OpenClaim := { program := "yteemihgakcmamaa", sum := "4b64bb3499a876b191bcb49e251d4a4b596feed2943c41ae8cfb99c328c45d43", func := "loop.example/witan/laws.FnCertVotes", spec := "fnCertVotes", unfollowed := true, recurses := true, apart := false, narrowed := true }
def FnCertVotesUptoSaid : Prop := fnCertVotesUptoRow.holds Try.pinned (OpenSpec.upto fnCertVotesSpec)

/-- 'laws.FnCertMore', WHERE WHAT IT READS IS OF BULK AT MOST 1048576: true; the input reads as it did. -/
def fnCertMoreUptoRow : OpenClaim := { program := "yteemihgakcmamaa", sum := "4b64bb3499a876b191bcb49e251d4a4b596feed2943c41ae8cfb99c328c45d43", func := "loop.example/witan/laws.FnCertMore", spec := "fnCertMore", unfollowed := true, recurses := true, apart := false, narrowed := true }
def FnCertMoreUptoSaid : Prop := fnCertMoreUptoRow.holds Try.pinned (OpenSpec.upto fnCertMoreSpec)

/-- 'laws.FnCertEpochs', WHERE WHAT IT READS IS OF BULK AT MOST 1048576: true; the input reads as it did. -/
def fnCertEpochsUptoRow : OpenClaim := { program := "yteemihgakcmamaa", sum := "4b64bb3499a876b191bcb49e251d4a4b596feed2943c41ae8cfb99c328c45d43", func := "loop.example/witan/laws.FnCertEpochs", spec := "fnCertEpochs", unfollowed := true, recurses := true, apart := false, narrowed := true }
def FnCertEpochsUptoSaid : Prop := fnCertEpochsUptoRow.holds Try.pinned (OpenSpec.upto fnCertEpochsSpec)

/-- 'laws.FnCertAgain', WHERE WHAT IT READS IS OF BULK AT MOST 1048576: true; the input reads as it did. -/
def fnCertAgainUptoRow : OpenClaim := { program := "yteemihgakcmamaa", sum := "4b64bb3499a876b191bcb49e251d4a4b596feed2943c41ae8cfb99c328c45d43", func := "loop.example/witan/laws.FnCertAgain", spec := "fnCertAgain", unfollowed := true, recurses := true, apart := false, narrowed := true }
def FnCertAgainUptoSaid : Prop := fnCertAgainUptoRow.holds Try.pinned (OpenSpec.upto fnCertAgainSpec)

/-- 'laws.FnCertOrder', WHERE WHAT IT READS IS OF BULK AT MOST 1048576: true; the input reads as it did. -/
def fnCertOrderUptoRow : OpenClaim := { program := "yteemihgakcmamaa", sum := "4b64bb3499a876b191bcb49e251d4a4b596feed2943c41ae8cfb99c328c45d43", func := "loop.example/witan/laws.FnCertOrder", spec := "fnCertOrder", unfollowed := true, recurses := true, apart := false, narrowed := true }
def FnCertOrderUptoSaid : Prop := fnCertOrderUptoRow.holds Try.pinned (OpenSpec.upto fnCertOrderSpec)

/-- 'laws.FnCertBook', WHERE WHAT IT READS IS OF BULK AT MOST 1048576: true; the input reads as it did. -/
def fnCertBookUptoRow : OpenClaim := { program := "yteemihgakcmamaa", sum := "4b64bb3499a876b191bcb49e251d4a4b596feed2943c41ae8cfb99c328c45d43", func := "loop.example/witan/laws.FnCertBook", spec := "fnCertBook", unfollowed := true, recurses := true, apart := false, narrowed := true }
def FnCertBookUptoSaid : Prop := fnCertBookUptoRow.holds Try.pinned (OpenSpec.upto fnCertBookSpec)

/-- 'laws.FnTipNew', WHERE WHAT IT READS IS OF BULK AT MOST 1048576: true; the input reads as it did. -/
def fnTipNewUptoRow : OpenClaim := { program := "yteemihgakcmamaa", sum := "4b64bb3499a876b191bcb49e251d4a4b596feed2943c41ae8cfb99c328c45d43", func := "loop.example/witan/laws.FnTipNew", spec := "fnTipNew", unfollowed := true, recurses := true, apart := false, narrowed := true }
def FnTipNewUptoSaid : Prop := fnTipNewUptoRow.holds Try.pinned (OpenSpec.upto fnTipNewSpec)

/-- 'laws.FnFinalThree', WHERE WHAT IT READS IS OF BULK AT MOST 1048576: true; the input reads as it did. -/
def fnFinalThreeUptoRow : OpenClaim := { program := "yteemihgakcmamaa", sum := "4b64bb3499a876b191bcb49e251d4a4b596feed2943c41ae8cfb99c328c45d43", func := "loop.example/witan/laws.FnFinalThree", spec := "fnFinalThree", unfollowed := true, recurses := true, apart := false, narrowed := true }
def FnFinalThreeUptoSaid : Prop := fnFinalThreeUptoRow.holds Try.pinned (OpenSpec.upto fnFinalThreeSpec)

/-- 'laws.FnNodeNew', WHERE WHAT IT READS IS OF BULK AT MOST 1048576: true; the input reads as it did. -/
def fnNodeNewUptoRow : OpenClaim := { program := "yteemihgakcmamaa", sum := "4b64bb3499a876b191bcb49e251d4a4b596feed2943c41ae8cfb99c328c45d43", func := "loop.example/witan/laws.FnNodeNew", spec := "fnNodeNew", unfollowed := true, recurses := true, apart := false, narrowed := true }
def FnNodeNewUptoSaid : Prop := fnNodeNewUptoRow.holds Try.pinned (OpenSpec.upto fnNodeNewSpec)

end Rows
end Go.Proofs.Yteemihgakcmamaa
