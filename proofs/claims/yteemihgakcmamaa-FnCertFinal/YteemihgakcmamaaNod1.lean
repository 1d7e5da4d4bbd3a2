/-
  Nodes: as values; counted, copied field by field, held against each other, marked.
-/
import Derived.Test.YteemihgakcmamaaVForms
namespace Go.Proofs.Yteemihgakcmamaa
set_option linter.unusedVariables false
open Go.RowKit
attribute [local simp] far_const

/-- A node: which, in which epoch, in which it voted last, and what it has seen. -/
structure Nd where
  id : Int
  ep : Int
  vo : Int
  s : List Vt
/-- A node as a value. -/
def NdV (w : World) (v : Value) (x : Nd) : Prop := ∃ sv, v = .agg #[.int .i64 x.id, .int .i64 x.ep, .int .i64 x.vo, sv] ∧ VtsV w sv x.s
theorem NdV.grew {w w' : World} {v : Value} {x : Nd} (h : NdV w v x) (g : Grew w w') : NdV w' v x := by
  obtain ⟨sv, h1, h2⟩ := h; exact ⟨sv, h1, h2.grew g⟩
/-- A node of a call's own: its votes lie in a row of its own, or there are none. -/
def NdO (w : World) (base : Nat) (v : Value) (hs : List Nat) (x : Nd) : Prop := ∃ sv, v = .agg #[.int .i64 x.id, .int .i64 x.ep, .int .i64 x.vo, sv] ∧ VAns w base sv hs x.s
theorem NdO.ndV {w : World} {base : Nat} {v : Value} {hs : List Nat} {x : Nd} (h : NdO w base v hs x) : NdV w v x := by
  obtain ⟨sv, h1, h2⟩ := h; exact ⟨sv, h1, h2.vtsV⟩
theorem NdO.grew {w w' : World} {base : Nat} {v : Value} {hs : List Nat} {x : Nd} (h : NdO w base v hs x) (g : Grew w w') : NdO w' base v hs x := by
  obtain ⟨sv, h1, h2⟩ := h; exact ⟨sv, h1, h2.grew g⟩
theorem NdO.lower {w : World} {base base' : Nat} {v : Value} {hs : List Nat} {x : Nd} (h : NdO w base v hs x) (hb : base' ≤ base) : NdO w base' v hs x := by
  obtain ⟨sv, h1, h2⟩ := h; exact ⟨sv, h1, h2.lower hb⟩
/-- The four cells of a node. -/
def NdAt (w : World) (b : Nat) (i e o : Int) (sv : Value) : Prop := w.cell? ⟨b, 0, none⟩ = some (.int .i64 i) ∧ w.cell? ⟨b, 1, none⟩ = some (.int .i64 e) ∧ w.cell? ⟨b, 2, none⟩ = some (.int .i64 o) ∧ w.cell? ⟨b, 3, none⟩ = some sv
theorem NdAt.grew {w w' : World} {b : Nat} {i e o : Int} {sv : Value} (h : NdAt w b i e o sv) (g : Grew w w') : NdAt w' b i e o sv := ⟨g.keep h.1, g.keep h.2.1, g.keep h.2.2.1, g.keep h.2.2.2⟩
theorem NdAt.box (w : World) (i e o : Int) (sv : Value) (t : TypeId) : NdAt (w.alloc (.cells #[.int .i64 i, .int .i64 e, .int .i64 o, sv] t)) w.heap.size i e o sv := by
  refine ⟨?_, ?_, ?_, ?_⟩ <;> simp [go_sem]
def sameN (x y : Nd) : Bool := x.id == y.id && (x.ep == y.ep && (x.vo == y.vo && sameVs x.s y.s))
theorem sameN_iff (x y : Nd) : sameN x y = true ↔ x = y := by
  cases x; cases y
  simp only [sameN, Bool.and_eq_true, beq_iff_eq, sameVs_iff, Nd.mk.injEq]

theorem VPart.past {w w' : World} {base : Nat} {v : Value} {hs : List Nat} {N : Nat} {l : List Vt} (h : VPart w base v hs N l) (hz : w.heap.size ≤ w'.heap.size) (e : ∀ g, base ≤ g → g < w.heap.size → w'.heap[g]? = w.heap[g]?) : VPart w' base v hs N l := h.kept hz e

end Go.Proofs.Yteemihgakcmamaa
