/-
  The same contracts, told of slice values: what a call answered is handed on as it is.
-/
import Derived.Test.YtibhfiamibccnabNums2
namespace Go.Proofs.Ytibhfiamibccnab
set_option linter.unusedVariables false
open Go.RowKit
attribute [local simp] far_const

/-- The slice value v reads as the numbers l. -/
def NumV (w : World) (v : Value) (l : List Int) : Prop := ∃ a cap, v = .slice a l.length cap ∧ Ints w a l
theorem NumV.grew {w w' : World} {v : Value} {l : List Int} (h : NumV w v l) (g : Grew w w') : NumV w' v l := by
  obtain ⟨a, cap, rfl, h⟩ := h; exact ⟨a, cap, rfl, h.grew g⟩
theorem AnsN.num {w : World} {base : Nat} {v : Value} {l : List Int} (h : AnsN w base v l) : NumV w v l := by
  obtain ⟨a, cap, rfl, _, h, _⟩ := h.shape; exact ⟨a, cap, rfl, h⟩
theorem OwnN.ans {w : World} {base : Nat} {v : Value} {l : List Int} (h : OwnN w base v l) : AnsN w base v l := .inr h
theorem OwnN.num {w : World} {base : Nat} {v : Value} {l : List Int} (h : OwnN w base v l) : NumV w v l := h.ans.num
theorem NumV.of {w : World} {a : Option Addr} {n cap : Nat} {l : List Int} (hn : l.length = n) (h : Ints w a l) : NumV w (.slice a n cap) l := ⟨a, cap, by rw [hn], h⟩
/-- What three numbers look like. -/
theorem NumV.three {w : World} {v : Value} {x y z : Int} (h : NumV w v [x, y, z]) : ∃ b off cap, v = .slice (some ⟨b, off, none⟩) 3 cap ∧ w.cell? ⟨b, off, none⟩ = some (.int .i64 x) ∧ w.cell? ⟨b, off + 1, none⟩ = some (.int .i64 y) ∧ w.cell? ⟨b, off + 2, none⟩ = some (.int .i64 z) := by
  obtain ⟨a, cap, rfl, h⟩ := h
  obtain ⟨b, off, rfl, h'⟩ := h.three
  exact ⟨b, off, cap, rfl, h'⟩
theorem NumV.shape {w : World} {v : Value} {l : List Int} (h : NumV w v l) : ∃ a cap, v = .slice a l.length cap := by
  obtain ⟨a, cap, rfl, h⟩ := h
  exact ⟨a, cap, rfl⟩
theorem AnsN.block {w : World} {base : Nat} {v : Value} {l : List Int} (h : AnsN w base v l) : ∀ k, v.ownBlock = some k → base ≤ k ∧ k < w.heap.size := by
  rcases h with ⟨rfl, rfl⟩ | h
  · intro k hk; cases hk
  · exact h.block
theorem AnsN.kept {w w' : World} {base : Nat} {v : Value} {l : List Int} (h : AnsN w base v l) (e : ∀ g, v.ownBlock = some g → w'.heap[g]? = w.heap[g]?) : AnsN w' base v l := by
  rcases h with h | h
  · exact .inl h
  · exact .inr (h.kept fun g _ _ hg => e g hg)

end Go.Proofs.Ytibhfiamibccnab
