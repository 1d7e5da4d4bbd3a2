/-
  Marks in a row that a call owns and that has room behind its length.
-/
import Derived.Test.YtfonpbglnkggfaaDoorHeld
import Derived.Test.YtfonpbglnkggfaaDoorRows2
namespace Go.Proofs.YtfonpbglnkggfaaDoor
set_option linter.unusedVariables false
open Go.RowKit
attribute [local simp] far_const

theorem OwnL.own {w : World} {base : Nat} {v : Value} {l : List It} (h : OwnL w base v l) : ∃ g cap, v = .slice (some ⟨g, 0, none⟩) l.length cap ∧ l.length ≤ cap ∧ base ≤ g ∧ g < w.heap.size ∧ Its w (some ⟨g, 0, none⟩) l ∧ Own w g cap := by
  obtain ⟨g, cap, rfl, h1, h2, h3, h4⟩ := h.shape
  refine ⟨g, cap, rfl, h1, h2, h3, h4, ?_⟩
  rcases h.2.2 with ⟨hv, hn⟩ | ⟨g', cap', cur, hv, hb, hg, hnc, hcm, hcs, htake⟩
  · exact absurd hv h.1
  · simp only [Value.slice.injEq, Option.some.injEq, Addr.mk.injEq, and_true] at hv
    obtain ⟨rfl, _, rfl⟩ := hv
    refine ⟨fun i => cur.getD i undef, cur, hg, hcs, fun i hi => ?_⟩
    have : i < cur.size := by omega
    simp [this]
end Go.Proofs.YtfonpbglnkggfaaDoor
