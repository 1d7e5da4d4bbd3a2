/-
  Votes copied: by the program (copyVote, copyVotes), by the specification (l3VoteCopy, l3Copy), and with one more.
-/
import Derived.Test.YtibhfiamibccnacVMap3
import Derived.Test.YtibhfiamibccnacVRows
import Derived.Test.YtibhfiamibccnacVConv
import Derived.Test.YtibhfiamibccnacBoth2
namespace Go.Proofs.Ytibhfiamibccnac
set_option linter.unusedVariables false
open Go.RowKit
attribute [local simp] far_const

theorem its_row2 (w : World) (o1 o2 : Obj) (l : List It) : Its (((w.alloc o1).alloc o2).alloc (rowObj l)) (some ⟨w.heap.size + 1 + 1, 0, none⟩) l := by
  have := its_row ((w.alloc o1).alloc o2) l; simpa using this
theorem own_row2 (w : World) (o1 o2 : Obj) (l : List It) : Own (((w.alloc o1).alloc o2).alloc (rowObj l)) (w.heap.size + 1 + 1) l.length := by
  have := own_row ((w.alloc o1).alloc o2) l; simpa using this

/-- What VotesAdd answers: nothing at all, or a row of its own. -/
def VAns (w : World) (base : Nat) (v : Value) (hs : List Nat) (l : List Vt) : Prop := (v = .slice none 0 0 ∧ l = [] ∧ hs = []) ∨ VOwn w base v hs l
theorem VAns.vtsV {w : World} {base : Nat} {v : Value} {hs : List Nat} {l : List Vt} (h : VAns w base v hs l) : VtsV w v l := by
  rcases h with ⟨rfl, rfl, _⟩ | h
  · exact ⟨none, 0, rfl, Nat.le_refl _, .inl rfl⟩
  · exact h.vtsV
theorem VAns.kept {w w' : World} {base : Nat} {v : Value} {hs : List Nat} {l : List Vt} (h : VAns w base v hs l) (hz : w.heap.size ≤ w'.heap.size) (e : ∀ g, base ≤ g → g < w.heap.size → w'.heap[g]? = w.heap[g]?) : VAns w' base v hs l := by
  rcases h with h | h
  · exact .inl h
  · exact .inr (h.kept hz e)
theorem VAns.grew {w w' : World} {base : Nat} {v : Value} {hs : List Nat} {l : List Vt} (h : VAns w base v hs l) (g : Grew w w') : VAns w' base v hs l := h.kept g.size fun b _ hb => g.below.block b hb
theorem VAns.lower {w : World} {base base' : Nat} {v : Value} {hs : List Nat} {l : List Vt} (h : VAns w base v hs l) (hb : base' ≤ base) : VAns w base' v hs l := by
  rcases h with h | h
  · exact .inl h
  · exact .inr (h.lower hb)
theorem addV_no {l : List Vt} {x : Vt} (h : votesB l = false ∨ vokB x = false) : addV l x = ([], false) := by
  unfold addV
  rw [if_neg]
  rintro ⟨h1, h2⟩
  rcases h with h | h
  · rw [h] at h1; cases h1
  · rw [h] at h2; cases h2
theorem addV_old {l : List Vt} {x : Vt} (h1 : votesB l = true) (h2 : vokB x = true) (h3 : hasB l x = true) : addV l x = (l, false) := by
  unfold addV; rw [if_pos ⟨h1, h2⟩, if_pos h3]
theorem addV_new {l : List Vt} {x : Vt} (h1 : votesB l = true) (h2 : vokB x = true) (h3 : hasB l x = false) : addV l x = (l ++ [x], true) := by
  unfold addV; rw [if_pos ⟨h1, h2⟩, if_neg (by rw [h3]; simp)]
theorem below_grew {w w1 w2 : World} (g : Grew w w1) (h : Below w.heap.size w1 w2) : Grew w w2 := .of_below (g.below.trans h)

end Go.Proofs.Ytibhfiamibccnac
