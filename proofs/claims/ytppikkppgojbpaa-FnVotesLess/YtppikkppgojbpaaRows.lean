/-
  No cell of these rows narrows 'for every input' (looked for: loops, veiled, ifaces, maps, wideKeys, modest, calm, conditions, laid).
  DERIVED. THE GIVEN ROWS OF THIS SEAT. 13 by the template 'for every input the law returns true; each argument reads behind the call as it read before'; 0 by the template 'total and deterministic' (their statements: YtppikkppgojbpaaTotals.lean).
  GIVEN WITH THE SEED: the statements are not yours to turn. If you find one false, say at which input.
  Laid BY PROGRAM, IN A SANDBOX (cutbox-rows.mjs): the forced cells as the released guide's own fill.sh prints them over the translation d9369df9dfe79ce7… (all of the seat's roots in one cut). By AI agents, Wed Nov 11 2026. No macro, syntax, notation, axiom, sorry.
-/
import Derived.Test.YtppikkppgojbpaaChecked
import GoSem.Claim
import GoSem.ClaimJoined
import GoSem.ClaimMapViews
import Derived.JoinedTies
import Derived.KernelRfl
namespace Go.Proofs.Ytppikkppgojbpaa
/- THE CELL 'sum', in the pinned program and in every row, IS THE sha256 OF THE DUMP (.gsa) THAT YtppikkppgojbpaaProg.lean LOADS. Nothing in Lean hashes anything: it is a label: what it is worth is what the hold of that sum in a sandbox is worth. -/
noncomputable def Try.pinned : Pinned := { name := "ytppikkppgojbpaa", sum := "d9369df9dfe79ce72b853bcf24d3a91c077ed6679b293ca6ab1b457eda9d926d", checked := Try.checked }
namespace Rows
def none {H : Type} : Left H := { results := [], args := [] }

/-- 'laws.FnLeaderTurn': WHATEVER THE INPUT: true; the input reads as it did. -/
def fnLeaderTurnSpec : ChangeSpec := { name := "fnLeaderTurn", fn := fun _ => fun
  | [d] => { results := [.lit (.bool true)], args := [d] }
  | _ => none }
def fnLeaderTurnRow : OpenClaim := { program := "ytppikkppgojbpaa", sum := "d9369df9dfe79ce72b853bcf24d3a91c077ed6679b293ca6ab1b457eda9d926d", func := "loop.example/witan/laws.FnLeaderTurn", spec := "fnLeaderTurn", apart := false }
def FnLeaderTurnSaid : Prop := fnLeaderTurnRow.holds Try.pinned (OpenSpec.ofChange fnLeaderTurnSpec)

/-- ITS FALSE NEIGHBOUR: 'it returns false'. Refute it at one input. -/
def fnLeaderTurnWrong : ChangeSpec := { name := "fnLeaderTurn", fn := fun _ => fun
  | [d] => { results := [.lit (.bool false)], args := [d] }
  | _ => none }
def FnLeaderTurnWrongFalsely : Prop := fnLeaderTurnRow.holds Try.pinned (OpenSpec.ofChange fnLeaderTurnWrong)

/-- 'laws.FnVoteForm': WHATEVER THE INPUT: true; the input reads as it did. -/
def fnVoteFormSpec : ChangeSpec := { name := "fnVoteForm", fn := fun _ => fun
  | [d1, d2] => { results := [.lit (.bool true)], args := [d1, d2] }
  | _ => none }
def fnVoteFormRow : OpenClaim := { program := "ytppikkppgojbpaa", sum := "d9369df9dfe79ce72b853bcf24d3a91c077ed6679b293ca6ab1b457eda9d926d", func := "loop.example/witan/laws.FnVoteForm", spec := "fnVoteForm", unfollowed := true, recurses := true, apart := false }
def FnVoteFormSaid : Prop := fnVoteFormRow.holds Try.pinned (OpenSpec.ofChange fnVoteFormSpec)

/-- ITS FALSE NEIGHBOUR: 'it returns false'. Refute it at one input. -/
def fnVoteFormWrong : ChangeSpec := { name := "fnVoteForm", fn := fun _ => fun
  | [d1, d2] => { results := [.lit (.bool false)], args := [d1, d2] }
  | _ => none }
def FnVoteFormWrongFalsely : Prop := fnVoteFormRow.holds Try.pinned (OpenSpec.ofChange fnVoteFormWrong)

/-- 'laws.FnVotesAdd': WHATEVER THE INPUT: true; the input reads as it did. -/
def fnVotesAddSpec : ChangeSpec := { name := "fnVotesAdd", fn := fun _ => fun
  | [d] => { results := [.lit (.bool true)], args := [d] }
  | _ => none }
def fnVotesAddRow : OpenClaim := { program := "ytppikkppgojbpaa", sum := "d9369df9dfe79ce72b853bcf24d3a91c077ed6679b293ca6ab1b457eda9d926d", func := "loop.example/witan/laws.FnVotesAdd", spec := "fnVotesAdd", unfollowed := true, recurses := true, apart := false }
def FnVotesAddSaid : Prop := fnVotesAddRow.holds Try.pinned (OpenSpec.ofChange fnVotesAddSpec)

/-- ITS FALSE NEIGHBOUR: 'it returns false'. Refute it at one input. -/
def fnVotesAddWrong : ChangeSpec := { name := "fnVotesAdd", fn := fun _ => fun
  | [d] => { results := [.lit (.bool false)], args := [d] }
  | _ => none }
def FnVotesAddWrongFalsely : Prop := fnVotesAddRow.holds Try.pinned (OpenSpec.ofChange fnVotesAddWrong)

/-- 'laws.FnVotesFor': WHATEVER THE INPUT: true; the input reads as it did. -/
def fnVotesForSpec : ChangeSpec := { name := "fnVotesFor", fn := fun _ => fun
  | [d] => { results := [.lit (.bool true)], args := [d] }
  | _ => none }
def fnVotesForRow : OpenClaim := { program := "ytppikkppgojbpaa", sum := "d9369df9dfe79ce72b853bcf24d3a91c077ed6679b293ca6ab1b457eda9d926d", func := "loop.example/witan/laws.FnVotesFor", spec := "fnVotesFor", unfollowed := true, recurses := true, apart := false }
def FnVotesForSaid : Prop := fnVotesForRow.holds Try.pinned (OpenSpec.ofChange fnVotesForSpec)

/-- ITS FALSE NEIGHBOUR: 'it returns false'. Refute it at one input. -/
def fnVotesForWrong : ChangeSpec := { name := "fnVotesFor", fn := fun _ => fun
  | [d] => { results := [.lit (.bool false)], args := [d] }
  | _ => none }
def FnVotesForWrongFalsely : Prop := fnVotesForRow.holds Try.pinned (OpenSpec.ofChange fnVotesForWrong)

/-- 'laws.FnVotesLess': WHATEVER THE INPUT: true; the input reads as it did. -/
def fnVotesLessSpec : ChangeSpec := { name := "fnVotesLess", fn := fun _ => fun
  | [d1, d2] => { results := [.lit (.bool true)], args := [d1, d2] }
  | _ => none }
def fnVotesLessRow : OpenClaim := { program := "ytppikkppgojbpaa", sum := "d9369df9dfe79ce72b853bcf24d3a91c077ed6679b293ca6ab1b457eda9d926d", func := "loop.example/witan/laws.FnVotesLess", spec := "fnVotesLess", unfollowed := true, recurses := true, apart := false }
def FnVotesLessSaid : Prop := fnVotesLessRow.holds Try.pinned (OpenSpec.ofChange fnVotesLessSpec)

/-- ITS FALSE NEIGHBOUR: 'it returns false'. Refute it at one input. -/
def fnVotesLessWrong : ChangeSpec := { name := "fnVotesLess", fn := fun _ => fun
  | [d1, d2] => { results := [.lit (.bool false)], args := [d1, d2] }
  | _ => none }
def FnVotesLessWrongFalsely : Prop := fnVotesLessRow.holds Try.pinned (OpenSpec.ofChange fnVotesLessWrong)

/-- 'laws.FnVotesOrder': WHATEVER THE INPUT: true; the input reads as it did. -/
def fnVotesOrderSpec : ChangeSpec := { name := "fnVotesOrder", fn := fun _ => fun
  | [d1, d2] => { results := [.lit (.bool true)], args := [d1, d2] }
  | _ => none }
def fnVotesOrderRow : OpenClaim := { program := "ytppikkppgojbpaa", sum := "d9369df9dfe79ce72b853bcf24d3a91c077ed6679b293ca6ab1b457eda9d926d", func := "loop.example/witan/laws.FnVotesOrder", spec := "fnVotesOrder", unfollowed := true, recurses := true, apart := false }
def FnVotesOrderSaid : Prop := fnVotesOrderRow.holds Try.pinned (OpenSpec.ofChange fnVotesOrderSpec)

/-- ITS FALSE NEIGHBOUR: 'it returns false'. Refute it at one input. -/
def fnVotesOrderWrong : ChangeSpec := { name := "fnVotesOrder", fn := fun _ => fun
  | [d1, d2] => { results := [.lit (.bool false)], args := [d1, d2] }
  | _ => none }
def FnVotesOrderWrongFalsely : Prop := fnVotesOrderRow.holds Try.pinned (OpenSpec.ofChange fnVotesOrderWrong)

/-- 'laws.FnForAdd': WHATEVER THE INPUT: true; the input reads as it did. -/
def fnForAddSpec : ChangeSpec := { name := "fnForAdd", fn := fun _ => fun
  | [d1, d2] => { results := [.lit (.bool true)], args := [d1, d2] }
  | _ => none }
def fnForAddRow : OpenClaim := { program := "ytppikkppgojbpaa", sum := "d9369df9dfe79ce72b853bcf24d3a91c077ed6679b293ca6ab1b457eda9d926d", func := "loop.example/witan/laws.FnForAdd", spec := "fnForAdd", unfollowed := true, recurses := true, apart := false }
def FnForAddSaid : Prop := fnForAddRow.holds Try.pinned (OpenSpec.ofChange fnForAddSpec)

/-- ITS FALSE NEIGHBOUR: 'it returns false'. Refute it at one input. -/
def fnForAddWrong : ChangeSpec := { name := "fnForAdd", fn := fun _ => fun
  | [d1, d2] => { results := [.lit (.bool false)], args := [d1, d2] }
  | _ => none }
def FnForAddWrongFalsely : Prop := fnForAddRow.holds Try.pinned (OpenSpec.ofChange fnForAddWrong)

/-- 'laws.FnForMost': WHATEVER THE INPUT: true; the input reads as it did. -/
def fnForMostSpec : ChangeSpec := { name := "fnForMost", fn := fun _ => fun
  | [d] => { results := [.lit (.bool true)], args := [d] }
  | _ => none }
def fnForMostRow : OpenClaim := { program := "ytppikkppgojbpaa", sum := "d9369df9dfe79ce72b853bcf24d3a91c077ed6679b293ca6ab1b457eda9d926d", func := "loop.example/witan/laws.FnForMost", spec := "fnForMost", unfollowed := true, recurses := true, apart := false }
def FnForMostSaid : Prop := fnForMostRow.holds Try.pinned (OpenSpec.ofChange fnForMostSpec)

/-- ITS FALSE NEIGHBOUR: 'it returns false'. Refute it at one input. -/
def fnForMostWrong : ChangeSpec := { name := "fnForMost", fn := fun _ => fun
  | [d] => { results := [.lit (.bool false)], args := [d] }
  | _ => none }
def FnForMostWrongFalsely : Prop := fnForMostRow.holds Try.pinned (OpenSpec.ofChange fnForMostWrong)

/-- 'laws.FnExactVoteOk': WHATEVER THE INPUT: true; the input reads as it did. -/
def fnExactVoteOkSpec : ChangeSpec := { name := "fnExactVoteOk", fn := fun _ => fun
  | [d] => { results := [.lit (.bool true)], args := [d] }
  | _ => none }
def fnExactVoteOkRow : OpenClaim := { program := "ytppikkppgojbpaa", sum := "d9369df9dfe79ce72b853bcf24d3a91c077ed6679b293ca6ab1b457eda9d926d", func := "loop.example/witan/laws.FnExactVoteOk", spec := "fnExactVoteOk", unfollowed := true, recurses := true, apart := false }
def FnExactVoteOkSaid : Prop := fnExactVoteOkRow.holds Try.pinned (OpenSpec.ofChange fnExactVoteOkSpec)

/-- ITS FALSE NEIGHBOUR: 'it returns false'. Refute it at one input. -/
def fnExactVoteOkWrong : ChangeSpec := { name := "fnExactVoteOk", fn := fun _ => fun
  | [d] => { results := [.lit (.bool false)], args := [d] }
  | _ => none }
def FnExactVoteOkWrongFalsely : Prop := fnExactVoteOkRow.holds Try.pinned (OpenSpec.ofChange fnExactVoteOkWrong)

/-- 'laws.FnExactVoteLeader': WHATEVER THE INPUT: true; the input reads as it did. -/
def fnExactVoteLeaderSpec : ChangeSpec := { name := "fnExactVoteLeader", fn := fun _ => fun
  | [d] => { results := [.lit (.bool true)], args := [d] }
  | _ => none }
def fnExactVoteLeaderRow : OpenClaim := { program := "ytppikkppgojbpaa", sum := "d9369df9dfe79ce72b853bcf24d3a91c077ed6679b293ca6ab1b457eda9d926d", func := "loop.example/witan/laws.FnExactVoteLeader", spec := "fnExactVoteLeader", apart := false }
def FnExactVoteLeaderSaid : Prop := fnExactVoteLeaderRow.holds Try.pinned (OpenSpec.ofChange fnExactVoteLeaderSpec)

/-- ITS FALSE NEIGHBOUR: 'it returns false'. Refute it at one input. -/
def fnExactVoteLeaderWrong : ChangeSpec := { name := "fnExactVoteLeader", fn := fun _ => fun
  | [d] => { results := [.lit (.bool false)], args := [d] }
  | _ => none }
def FnExactVoteLeaderWrongFalsely : Prop := fnExactVoteLeaderRow.holds Try.pinned (OpenSpec.ofChange fnExactVoteLeaderWrong)

/-- 'laws.FnExactVotesOk': WHATEVER THE INPUT: true; the input reads as it did. -/
def fnExactVotesOkSpec : ChangeSpec := { name := "fnExactVotesOk", fn := fun _ => fun
  | [d] => { results := [.lit (.bool true)], args := [d] }
  | _ => none }
def fnExactVotesOkRow : OpenClaim := { program := "ytppikkppgojbpaa", sum := "d9369df9dfe79ce72b853bcf24d3a91c077ed6679b293ca6ab1b457eda9d926d", func := "loop.example/witan/laws.FnExactVotesOk", spec := "fnExactVotesOk", unfollowed := true, recurses := true, apart := false }
def FnExactVotesOkSaid : Prop := fnExactVotesOkRow.holds Try.pinned (OpenSpec.ofChange fnExactVotesOkSpec)

/-- ITS FALSE NEIGHBOUR: 'it returns false'. Refute it at one input. -/
def fnExactVotesOkWrong : ChangeSpec := { name := "fnExactVotesOk", fn := fun _ => fun
  | [d] => { results := [.lit (.bool false)], args := [d] }
  | _ => none }
def FnExactVotesOkWrongFalsely : Prop := fnExactVotesOkRow.holds Try.pinned (OpenSpec.ofChange fnExactVotesOkWrong)

/-- 'laws.FnExactVotesAdd': WHATEVER THE INPUT: true; the input reads as it did. -/
def fnExactVotesAddSpec : ChangeSpec := { name := "fnExactVotesAdd", fn := fun _ => fun
  | [d1, d2] => { results := [.lit (.bool true)], args := [d1, d2] }
  | _ => none }
def fnExactVotesAddRow : OpenClaim := { program := "ytppikkppgojbpaa", sum := "d9369df9dfe79ce72b853bcf24d3a91c077ed6679b293ca6ab1b457eda9d926d", func := "loop.example/witan/laws.FnExactVotesAdd", spec := "fnExactVotesAdd", unfollowed := true, recurses := true, apart := false }
def FnExactVotesAddSaid : Prop := fnExactVotesAddRow.holds Try.pinned (OpenSpec.ofChange fnExactVotesAddSpec)

/-- ITS FALSE NEIGHBOUR: 'it returns false'. Refute it at one input. -/
def fnExactVotesAddWrong : ChangeSpec := { name := "fnExactVotesAdd", fn := fun _ => fun
  | [d1, d2] => { results := [.lit (.bool false)], args := [d1, d2] }
  | _ => none }
def FnExactVotesAddWrongFalsely : Prop := fnExactVotesAddRow.holds Try.pinned (OpenSpec.ofChange fnExactVotesAddWrong)

/-- 'laws.FnExactVotesFor': WHATEVER THE INPUT: true; the input reads as it did. -/
def fnExactVotesForSpec : ChangeSpec := { name := "fnExactVotesFor", fn := fun _ => fun
  | [d1, d2] => { results := [.lit (.bool true)], args := [d1, d2] }
  | _ => none }
def fnExactVotesForRow : OpenClaim := { program := "ytppikkppgojbpaa", sum := "d9369df9dfe79ce72b853bcf24d3a91c077ed6679b293ca6ab1b457eda9d926d", func := "loop.example/witan/laws.FnExactVotesFor", spec := "fnExactVotesFor", unfollowed := true, recurses := true, apart := false }
def FnExactVotesForSaid : Prop := fnExactVotesForRow.holds Try.pinned (OpenSpec.ofChange fnExactVotesForSpec)

/-- ITS FALSE NEIGHBOUR: 'it returns false'. Refute it at one input. -/
def fnExactVotesForWrong : ChangeSpec := { name := "fnExactVotesFor", fn := fun _ => fun
  | [d1, d2] => { results := [.lit (.bool false)], args := [d1, d2] }
  | _ => none }
def FnExactVotesForWrongFalsely : Prop := fnExactVotesForRow.holds Try.pinned (OpenSpec.ofChange fnExactVotesForWrong)

/- THE SECOND FORM. 'bulk': how many values and letters a reading holds, each counted each time it is reached (what is shared counts as often as it is met; a slice's spare places count too). A statement '..UptoSaid' is the law's where the arguments, and the package variables that the reading takes, are together of bulk at most 1048576: NARROWER than '..Said'. Prove '..Said' where nothing that the law and all that it calls make is longer than what came in: it says more and counts as full. Else prove '..UptoSaid'. A law counts once. -/
mutual
def uptoBulk {H : Type} : DataW H → Nat
  | .lit (.string bytes) => bytes.length + 1
  | .lit _ => 1
  | .nil => 1
  | .ptr d => uptoBulk d + 1
  | .slice elems spare => uptoBulkAll elems + uptoBulkAll spare + 1
  | .agg parts => uptoBulkAll parts + 1
  | .iface _ d => uptoBulk d + 1
  | .map entries => uptoBulkEntries entries + 1
  | .held _ => 1
def uptoBulkAll {H : Type} : List (DataW H) → Nat
  | [] => 0
  | d :: r => uptoBulk d + uptoBulkAll r
def uptoBulkEntries {H : Type} : List (Lit × DataW H) → Nat
  | [] => 0
  | x :: r => uptoBulkEntry x + uptoBulkEntries r
def uptoBulkEntry {H : Type} : Lit × DataW H → Nat
  | (.string bytes, d) => bytes.length + uptoBulk d + 1
  | (_, d) => uptoBulk d + 1
 end
def uptoSmall : (H : Type) → List (DataW H) → Bool := fun _ ds => decide (uptoBulkAll ds ≤ 1048576)
def OpenSpec.upto (s : _root_.Go.ChangeSpec) : _root_.Go.OpenSpec := { _root_.Go.OpenSpec.ofChange s with cond := some uptoSmall }

/-- 'laws.FnLeaderTurn', WHERE WHAT IT READS IS OF BULK AT MOST 1048576: true; the input reads as it did. -/
def fnLeaderTurnUptoRow : OpenClaim := { program := "ytppikkppgojbpaa", sum := "d9369df9dfe79ce72b853bcf24d3a91c077ed6679b293ca6ab1b457eda9d926d", func := "loop.example/witan/laws.FnLeaderTurn", spec := "fnLeaderTurn", apart := false, narrowed := true }
def FnLeaderTurnUptoSaid : Prop := fnLeaderTurnUptoRow.holds Try.pinned (OpenSpec.upto fnLeaderTurnSpec)

/-- 'laws.FnVoteForm', WHERE WHAT IT READS IS OF BULK AT MOST 1048576: true; the input reads as it did. -/
def fnVoteFormUptoRow : OpenClaim := { program := "ytppikkppgojbpaa", sum := "d9369df9dfe79ce72b853bcf24d3a91c077ed6679b293ca6ab1b457eda9d926d", func := "loop.example/witan/laws.FnVoteForm", spec := "fnVoteForm", unfollowed := true, recurses := true, apart := false, narrowed := true }
def FnVoteFormUptoSaid : Prop := fnVoteFormUptoRow.holds Try.pinned (OpenSpec.upto fnVoteFormSpec)

/-- 'laws.FnVotesAdd', WHERE WHAT IT READS IS OF BULK AT MOST 1048576: true; the input reads as it did. -/
def fnVotesAddUptoRow : OpenClaim := { program := "ytppikkppgojbpaa", sum := "d9369df9dfe79ce72b853bcf24d3a91c077ed6679b293ca6ab1b457eda9d926d", func := "loop.example/witan/laws.FnVotesAdd", spec := "fnVotesAdd", unfollowed := true, recurses := true, apart := false, narrowed := true }
def FnVotesAddUptoSaid : Prop := fnVotesAddUptoRow.holds Try.pinned (OpenSpec.upto fnVotesAddSpec)

/-- 'laws.FnVotesFor', WHERE WHAT IT READS IS OF BULK AT MOST 1048576: true; the input reads as it did. -/
def fnVotesForUptoRow : OpenClaim := { program := "ytppikkppgojbpaa", sum := "d9369df9dfe79ce72b853bcf24d3a91c077ed6679b293ca6ab1b457eda9d926d", func := "loop.example/witan/laws.FnVotesFor", spec := "fnVotesFor", unfollowed := true, recurses := true, apart := false, narrowed := true }
def FnVotesForUptoSaid : Prop := fnVotesForUptoRow.holds Try.pinned (OpenSpec.upto fnVotesForSpec)

/-- 'laws.FnVotesLess', WHERE WHAT IT READS IS OF BULK AT MOST 1048576: true; the input reads as it did. -/
def fnVotesLessUptoRow : OpenClaim := { program := "ytppikkppgojbpaa", sum := "d9369df9dfe79ce72b853bcf24d3a91c077ed6679b293ca6ab1b457eda9d926d", func := "loop.example/witan/laws.FnVotesLess", spec := "fnVotesLess", unfollowed := true, recurses := true, apart := false, narrowed := true }
def FnVotesLessUptoSaid : Prop := fnVotesLessUptoRow.holds Try.pinned (OpenSpec.upto fnVotesLessSpec)

/-- 'laws.FnVotesOrder', WHERE WHAT IT READS IS OF BULK AT MOST 1048576: true; the input reads as it did. -/
def fnVotesOrderUptoRow : OpenClaim := { program := "ytppikkppgojbpaa", sum := "d9369df9dfe79ce72b853bcf24d3a91c077ed6679b293ca6ab1b457eda9d926d", func := "loop.example/witan/laws.FnVotesOrder", spec := "fnVotesOrder", unfollowed := true, recurses := true, apart := false, narrowed := true }
def FnVotesOrderUptoSaid : Prop := fnVotesOrderUptoRow.holds Try.pinned (OpenSpec.upto fnVotesOrderSpec)

/-- 'laws.FnForAdd', WHERE WHAT IT READS IS OF BULK AT MOST 1048576: true; the input reads as it did. -/
def fnForAddUptoRow : OpenClaim := { program := "ytppikkppgojbpaa", sum := "d9369df9dfe79ce72b853bcf24d3a91c077ed6679b293ca6ab1b457eda9d926d", func := "loop.example/witan/laws.FnForAdd", spec := "fnForAdd", unfollowed := true, recurses := true, apart := false, narrowed := true }
def FnForAddUptoSaid : Prop := fnForAddUptoRow.holds Try.pinned (OpenSpec.upto fnForAddSpec)

/-- 'laws.FnForMost', WHERE WHAT IT READS IS OF BULK AT MOST 1048576: true; the input reads as it did. -/
def fnForMostUptoRow : OpenClaim := { program := "ytppikkppgojbpaa", sum := "d9369df9dfe79ce72b853bcf24d3a91c077ed6679b293ca6ab1b457eda9d926d", func := "loop.example/witan/laws.FnForMost", spec := "fnForMost", unfollowed := true, recurses := true, apart := false, narrowed := true }
def FnForMostUptoSaid : Prop := fnForMostUptoRow.holds Try.pinned (OpenSpec.upto fnForMostSpec)

/-- 'laws.FnExactVoteOk', WHERE WHAT IT READS IS OF BULK AT MOST 1048576: true; the input reads as it did. -/
def fnExactVoteOkUptoRow : OpenClaim := { program := "ytppikkppgojbpaa", sum := "d9369df9dfe79ce72b853bcf24d3a91c077ed6679b293ca6ab1b457eda9d926d", func := "loop.example/witan/laws.FnExactVoteOk", spec := "fnExactVoteOk", unfollowed := true, recurses := true, apart := false, narrowed := true }
def FnExactVoteOkUptoSaid : Prop := fnExactVoteOkUptoRow.holds Try.pinned (OpenSpec.upto fnExactVoteOkSpec)

/-- 'laws.FnExactVoteLeader', WHERE WHAT IT READS IS OF BULK AT MOST 1048576: true; the input reads as it did. -/
def fnExactVoteLeaderUptoRow : OpenClaim := { program := "ytppikkppgojbpaa", sum := "d9369df9dfe79ce72b853bcf24d3a91c077ed6679b293ca6ab1b457eda9d926d", func := "loop.example/witan/laws.FnExactVoteLeader", spec := "fnExactVoteLeader", apart := false, narrowed := true }
def FnExactVoteLeaderUptoSaid : Prop := fnExactVoteLeaderUptoRow.holds Try.pinned (OpenSpec.upto fnExactVoteLeaderSpec)

/-- 'laws.FnExactVotesOk', WHERE WHAT IT READS IS OF BULK AT MOST 1048576: true; the input reads as it did. -/
def fnExactVotesOkUptoRow : OpenClaim := { program := "ytppikkppgojbpaa", sum := "d9369df9dfe79ce72b853bcf24d3a91c077ed6679b293ca6ab1b457eda9d926d", func := "loop.example/witan/laws.FnExactVotesOk", spec := "fnExactVotesOk", unfollowed := true, recurses := true, apart := false, narrowed := true }
def FnExactVotesOkUptoSaid : Prop := fnExactVotesOkUptoRow.holds Try.pinned (OpenSpec.upto fnExactVotesOkSpec)

/-- 'laws.FnExactVotesAdd', WHERE WHAT IT READS IS OF BULK AT MOST 1048576: true; the input reads as it did. -/
def fnExactVotesAddUptoRow : OpenClaim := { program := "ytppikkppgojbpaa", sum := "d9369df9dfe79ce72b853bcf24d3a91c077ed6679b293ca6ab1b457eda9d926d", func := "loop.example/witan/laws.FnExactVotesAdd", spec := "fnExactVotesAdd", unfollowed := true, recurses := true, apart := false, narrowed := true }
def FnExactVotesAddUptoSaid : Prop := fnExactVotesAddUptoRow.holds Try.pinned (OpenSpec.upto fnExactVotesAddSpec)

/-- 'laws.FnExactVotesFor', WHERE WHAT IT READS IS OF BULK AT MOST 1048576: true; the input reads as it did. -/
def fnExactVotesForUptoRow : OpenClaim := { program := "ytppikkppgojbpaa", sum := "d9369df9dfe79ce72b853bcf24d3a91c077ed6679b293ca6ab1b457eda9d926d", func := "loop.example/witan/laws.FnExactVotesFor", spec := "fnExactVotesFor", unfollowed := true, recurses := true, apart := false, narrowed := true }
def FnExactVotesForUptoSaid : Prop := fnExactVotesForUptoRow.holds Try.pinned (OpenSpec.upto fnExactVotesForSpec)

end Rows
end Go.Proofs.Ytppikkppgojbpaa
