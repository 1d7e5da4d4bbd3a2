/-
  DERIVED. GIVEN WITH THE SEED: THE CARDS: each row of YtpoabogjpjbpiaaDoorRows.lean that lists a variable, with what it lists TIED to the program's text (the seventh form; the later family's looks); each row that meets fmt, with fmt's text TOLD by the authors' own Lean function (tested against real Go, not proved from fmt's source: count such statements apart). THE CARD IS WHAT COUNTS. Prove the row's statement (the work); the ties are given (YtpoabogjpjbpiaaDoorTie.lean); close each card by the builder's one call (the guide's Derived/Test/ToyasCard.lean, 'card_holds'). Laid BY PROGRAM, IN A SANDBOX (cutbox-door.mjs). By AI agents, Wed Nov 11 2026. No macro, syntax, notation, axiom, sorry.
-/
import Derived.Test.YtpoabogjpjbpiaaDoorRows
import GoSem.ClaimSeven
namespace Go.Proofs.YtpoabogjpjbpiaaDoor
namespace Rows

/-- THE TIED CARD OF 'laws.FnChainBack'. -/
def fnChainBackCard : Claim7 := { stood := { row := fnChainBackRow, standIns := [], harness := (true, "cb1a623ebf1cb8e6f16d6693a97d6ae9d70baa0c4d0c70feeff9845d22a1897e"), looks := true }, kinds := [], alts := [], laidByText := true, laidKinds := [.handle], laidTests := true, laidLooks := .later }
def FnChainBackCardSaid : Prop := Claim7.holds Tryd.pinned (.plain (OpenSpec.ofChange fnChainBackSpec)) fnChainBackCard

/-- THE TIED CARD OF 'laws.FnChainCut'. -/
def fnChainCutCard : Claim7 := { stood := { row := fnChainCutRow, standIns := [], harness := (true, "cb1a623ebf1cb8e6f16d6693a97d6ae9d70baa0c4d0c70feeff9845d22a1897e"), looks := true }, kinds := [], alts := [], laidByText := true, laidKinds := [.handle], laidTests := true, laidLooks := .later }
def FnChainCutCardSaid : Prop := Claim7.holds Tryd.pinned (.plain (OpenSpec.ofChange fnChainCutSpec)) fnChainCutCard

/-- THE TIED CARD OF 'laws.FnExactChainRead'. -/
def fnExactChainReadCard : Claim7 := { stood := { row := fnExactChainReadRow, standIns := [], harness := (true, "cb1a623ebf1cb8e6f16d6693a97d6ae9d70baa0c4d0c70feeff9845d22a1897e"), looks := true }, kinds := [], alts := [], laidByText := true, laidKinds := [.handle], laidTests := true, laidLooks := .later }
def FnExactChainReadCardSaid : Prop := Claim7.holds Tryd.pinned (.plain (OpenSpec.ofChange fnExactChainReadSpec)) fnExactChainReadCard

/-- THE SECOND FORM's CARD OF 'laws.FnChainBack'. -/
def fnChainBackUptoCard : Claim7 := { stood := { row := fnChainBackUptoRow, standIns := [], harness := (true, "cb1a623ebf1cb8e6f16d6693a97d6ae9d70baa0c4d0c70feeff9845d22a1897e"), looks := true }, kinds := [], alts := [], laidByText := true, laidKinds := [.handle], laidTests := true, laidLooks := .later }
def FnChainBackUptoCardSaid : Prop := Claim7.holds Tryd.pinned (.plain (OpenSpec.upto fnChainBackSpec)) fnChainBackUptoCard

/-- THE SECOND FORM's CARD OF 'laws.FnChainCut'. -/
def fnChainCutUptoCard : Claim7 := { stood := { row := fnChainCutUptoRow, standIns := [], harness := (true, "cb1a623ebf1cb8e6f16d6693a97d6ae9d70baa0c4d0c70feeff9845d22a1897e"), looks := true }, kinds := [], alts := [], laidByText := true, laidKinds := [.handle], laidTests := true, laidLooks := .later }
def FnChainCutUptoCardSaid : Prop := Claim7.holds Tryd.pinned (.plain (OpenSpec.upto fnChainCutSpec)) fnChainCutUptoCard

/-- THE SECOND FORM's CARD OF 'laws.FnExactChainRead'. -/
def fnExactChainReadUptoCard : Claim7 := { stood := { row := fnExactChainReadUptoRow, standIns := [], harness := (true, "cb1a623ebf1cb8e6f16d6693a97d6ae9d70baa0c4d0c70feeff9845d22a1897e"), looks := true }, kinds := [], alts := [], laidByText := true, laidKinds := [.handle], laidTests := true, laidLooks := .later }
def FnExactChainReadUptoCardSaid : Prop := Claim7.holds Tryd.pinned (.plain (OpenSpec.upto fnExactChainReadSpec)) fnExactChainReadUptoCard
end Rows
end Go.Proofs.YtpoabogjpjbpiaaDoor
