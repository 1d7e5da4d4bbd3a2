/-
  Two certs in two boxes.
-/
import Derived.Test.YteemihgakcmamaaCer8
namespace Go.Proofs.Yteemihgakcmamaa
set_option linter.unusedVariables false
open Go.RowKit
theorem ct2 {w : World} {b b' : Nat} {u v u' v' : Value} (h : CtAt w b u v) (k : CtAt w b' u' v') :
    w.cell? ⟨b, 0, none⟩ = some u ∧ w.cell? ⟨b, 1, none⟩ = some v ∧ w.cell? ⟨b', 0, none⟩ = some u' ∧ w.cell? ⟨b', 1, none⟩ = some v' := ⟨h.1, h.2, k.1, k.2⟩
end Go.Proofs.Yteemihgakcmamaa
