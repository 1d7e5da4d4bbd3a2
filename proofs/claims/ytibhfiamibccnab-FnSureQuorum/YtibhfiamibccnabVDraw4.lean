/-
  The draws of a vote, and of votes and one more.
-/
import Derived.Test.YtibhfiamibccnabVDraw3
namespace Go.Proofs.Ytibhfiamibccnab
set_option linter.unusedVariables false
open Go.RowKit
attribute [local simp] far_const

theorem Byt.alloc {w : World} {a : Option Addr} {n : Nat} (hb : Byt w a w.heap.size n) (o : Obj) : Byt (w.alloc o) a (w.alloc o).heap.size n := by
  rcases hb with h | ⟨b, off, ha, hb, h⟩
  · exact .inl h
  · exact .inr ⟨b, off, ha, by simp; omega, fun i hi => by obtain ⟨z, h1, h2, h3⟩ := h i hi; exact ⟨z, h1, h2, ((Grew.refl w).alloc _).keep h3⟩⟩

end Go.Proofs.Ytibhfiamibccnab
