/-
  The laws' own looks at votes: whether votes are the same, whether one is among some, votes the other way about.
-/
import Derived.Test.YtibhfiamibccnabVForms
import Derived.Test.YtibhfiamibccnabSame
namespace Go.Proofs.Ytibhfiamibccnab
set_option linter.unusedVariables false
open Go.RowKit
attribute [local simp] far_const

theorem VtsV.at {w : World} {v : Value} {l : List Vt} (h : VtsV w v l) {i : Nat} (hi : i < l.length) : ∃ b off cap, v = .slice (some ⟨b, off, none⟩) l.length cap ∧ VtAt w b (off + i * 2) l[i] := by
  obtain ⟨a, cap, rfl, _, hv⟩ := h
  obtain ⟨b, off, rfl, hat⟩ := hv.at hi
  exact ⟨b, off, cap, rfl, hat⟩
end Go.Proofs.Ytibhfiamibccnab
