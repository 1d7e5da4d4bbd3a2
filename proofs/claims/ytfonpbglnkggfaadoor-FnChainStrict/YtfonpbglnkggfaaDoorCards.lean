/-
  DERIVED. GIVEN WITH THE SEED: THE CARDS: each row of YtfonpbglnkggfaaDoorRows.lean that lists a variable, with what it lists TIED to the program's text (the seventh form; the later family's looks); each row that meets fmt, with fmt's text TOLD by the authors' own Lean function (tested against real Go, not proved from fmt's source: count such statements apart). THE CARD IS WHAT COUNTS. Prove the row's statement (the work); the ties are given (YtfonpbglnkggfaaDoorTie.lean); close each card by the builder's one call (the guide's Derived/Test/ToyasCard.lean, 'card_holds'). Laid BY PROGRAM, IN A SANDBOX (cutbox-door.mjs). By AI agents, Wed Nov 11 2026. No macro, syntax, notation, axiom, sorry.
-/
import Derived.Test.YtfonpbglnkggfaaDoorRows
import GoSem.ClaimSeven
namespace Go.Proofs.YtfonpbglnkggfaaDoor
namespace Rows

/-- THE TIED CARD OF 'laws.FnChainStrict'. -/
def fnChainStrictCard : Claim7 := { stood := { row := fnChainStrictRow, standIns := [], harness := (true, "c6b4b96c9344bdb9ae120228f69a53574b9818c1cc0fd20b40f9889a8d29c986"), looks := true }, kinds := [], alts := [], laidByText := true, laidKinds := [.handle], laidTests := true, laidLooks := .later }
def FnChainStrictCardSaid : Prop := Claim7.holds Tryd.pinned (.plain (OpenSpec.ofChange fnChainStrictSpec)) fnChainStrictCard

/-- THE SECOND FORM's CARD OF 'laws.FnChainStrict'. -/
def fnChainStrictUptoCard : Claim7 := { stood := { row := fnChainStrictUptoRow, standIns := [], harness := (true, "c6b4b96c9344bdb9ae120228f69a53574b9818c1cc0fd20b40f9889a8d29c986"), looks := true }, kinds := [], alts := [], laidByText := true, laidKinds := [.handle], laidTests := true, laidLooks := .later }
def FnChainStrictUptoCardSaid : Prop := Claim7.holds Tryd.pinned (.plain (OpenSpec.upto fnChainStrictSpec)) fnChainStrictUptoCard
end Rows
end Go.Proofs.YtfonpbglnkggfaaDoor
