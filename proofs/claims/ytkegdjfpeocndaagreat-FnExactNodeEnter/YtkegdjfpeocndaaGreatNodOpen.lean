/-
  A node that came in: read as a node.
-/
import Derived.Test.YtkegdjfpeocndaaGreatVOpen
import Derived.Test.YtkegdjfpeocndaaGreatNodA
import Derived.Lib.SmallJoins
namespace Go.Proofs.YtkegdjfpeocndaaGreat
set_option linter.unusedVariables false
open Go.ChangeShapes Go.WideShapes Go.ChangeAt Go.RowKit Go.Deep Go.Joins

theorem cellsVoteS : Tryz.prog.cellsOf 22 = 1 := by kernel_rfl
theorem cellsNode : Tryz.prog.cellsOf 24 = 4 := by kernel_rfl
theorem open_node {H : Type} {enc : TypeId × Value → H} {w : World} {base : Nat} {spare : Nat → Bool} {held : Bool} {fuel : Nat} {cs : List Value} {x : DataW H × List MemPlace}
    (h : DataW.trod enc Tryz.prog w base spare held fuel 24 cs = some x) : ∃ (y : Nd) (a : Option Addr) (cap : Nat), cs = [.int .i64 y.id, .int .i64 y.ep, .int .i64 y.vo, .slice a y.s.length cap] ∧ Vts w a y.s ∧ y.s.length ≤ maxLen ∧ ∀ x ∈ y.s, x.c.length ≤ maxLen := by
  obtain ⟨y0, y1, y2, y3, n, _, hl, h0, h1, h2, h3⟩ := trod_struct4 Tryz.underlying24 h
  rw [cellsNode] at hl
  simp only [cellsI, cellsVoteS] at h0 h1 h2 h3
  obtain ⟨e0, he0, _, _⟩ := DataW.trod_int Tryz.underlying3 h0
  obtain ⟨e1, he1, _, _⟩ := DataW.trod_int Tryz.underlying3 h1
  obtain ⟨e2, he2, _, _⟩ := DataW.trod_int Tryz.underlying3 h2
  obtain ⟨a, cap, l, hc, hi, hm, hx⟩ := open_votes h3
  match cs, hl with
  | [c0, c1, c2, c3], _ =>
    simp at he0 he1 he2 hc
    exact ⟨⟨e0, e1, e2, l⟩, a, cap, by rw [he0, he1, he2, hc], hi, hm, hx⟩
end Go.Proofs.YtkegdjfpeocndaaGreat
