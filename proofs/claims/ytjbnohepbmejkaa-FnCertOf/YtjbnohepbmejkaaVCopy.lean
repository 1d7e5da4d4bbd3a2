/-
  Votes copied: by the program (copyVote, copyVotes), by the specification (l3VoteCopy, l3Copy), and with one more.
-/
import Derived.Test.YtjbnohepbmejkaaVMapA
import Derived.Test.YtjbnohepbmejkaaVRows
import Derived.Test.YtjbnohepbmejkaaVConv
import Derived.Test.YtjbnohepbmejkaaBothA
namespace Go.Proofs.Ytjbnohepbmejkaa
set_option linter.unusedVariables false
open Go.RowKit
attribute [local simp] far_const

theorem its_row2 (w : World) (o1 o2 : Obj) (l : List It) : Its (((w.alloc o1).alloc o2).alloc (rowObj l)) (some ⟨w.heap.size + 1 + 1, 0, none⟩) l := by
  have := its_row ((w.alloc o1).alloc o2) l; simpa using this
theorem own_row2 (w : World) (o1 o2 : Obj) (l : List It) : Own (((w.alloc o1).alloc o2).alloc (rowObj l)) (w.heap.size + 1 + 1) l.length := by
  have := own_row ((w.alloc o1).alloc o2) l; simpa using this

set_option maxHeartbeats 1000000 in
theorem copyVote_any (x : Vt) (v : Value) (w : World) (hv : VtV w v x) (hn : x.c.length ≤ 1048576) :
    Calls Try.prog 117 #[v] w fun r w' => ∃ q, r = .returned (.agg #[.int .i64 x.n, .slice (some ⟨q, 0, none⟩) x.c.length x.c.length]) ∧ w.heap.size ≤ q ∧ q < w'.heap.size ∧ Its w' (some ⟨q, 0, none⟩) x.c ∧ Own w' q x.c.length ∧ Grew w w' := by
  obtain ⟨a, cap, rfl, hl⟩ := hv
  have hmk := make_items x.c.length hn
  have hcp := fun w' (g : Grew w w') ty => copy_items w' x.c.length a cap x.c ty (hl.grew g) (Nat.le_refl _)
  have hc := hcp _ (((Grew.refl w).alloc (.cells #[.int .i64 x.n, .slice a x.c.length cap] 45)).alloc (.cells #[.int .i64 0, .slice none 0 0] 45))
  rw [List.take_length] at hc
  clear hcp
  simp only [World.size_alloc] at hc
  go_enter Try.func117, Try.ntmps117
  go_wp2
  go_returns
  exact ⟨w.heap.size + 1 + 1, rfl, by omega, by simp, its_row2 _ _ _ _, own_row2 _ _ _ _, (((Grew.refl _).alloc _).alloc _).alloc _⟩

/-- What VotesAdd answers: nothing at all, or a row of its own. -/
def VAns (w : World) (base : Nat) (v : Value) (hs : List Nat) (l : List Vt) : Prop := (v = .slice none 0 0 ∧ l = [] ∧ hs = []) ∨ VOwn w base v hs l
theorem VAns.vtsV {w : World} {base : Nat} {v : Value} {hs : List Nat} {l : List Vt} (h : VAns w base v hs l) : VtsV w v l := by
  rcases h with ⟨rfl, rfl, _⟩ | h
  · exact ⟨none, 0, rfl, Nat.le_refl _, .inl rfl⟩
  · exact h.vtsV
theorem VAns.kept {w w' : World} {base : Nat} {v : Value} {hs : List Nat} {l : List Vt} (h : VAns w base v hs l) (hz : w.heap.size ≤ w'.heap.size) (e : ∀ g, base ≤ g → g < w.heap.size → w'.heap[g]? = w.heap[g]?) : VAns w' base v hs l := by
  rcases h with h | h
  · exact .inl h
  · exact .inr (h.kept hz e)
theorem VAns.grew {w w' : World} {base : Nat} {v : Value} {hs : List Nat} {l : List Vt} (h : VAns w base v hs l) (g : Grew w w') : VAns w' base v hs l := h.kept g.size fun b _ hb => g.below.block b hb
theorem VAns.lower {w : World} {base base' : Nat} {v : Value} {hs : List Nat} {l : List Vt} (h : VAns w base v hs l) (hb : base' ≤ base) : VAns w base' v hs l := by
  rcases h with h | h
  · exact .inl h
  · exact .inr (h.lower hb)
theorem addV_no {l : List Vt} {x : Vt} (h : votesB l = false ∨ vokB x = false) : addV l x = ([], false) := by
  unfold addV
  rw [if_neg]
  rintro ⟨h1, h2⟩
  rcases h with h | h
  · rw [h] at h1; cases h1
  · rw [h] at h2; cases h2
theorem addV_old {l : List Vt} {x : Vt} (h1 : votesB l = true) (h2 : vokB x = true) (h3 : hasB l x = true) : addV l x = (l, false) := by
  unfold addV; rw [if_pos ⟨h1, h2⟩, if_pos h3]
theorem addV_new {l : List Vt} {x : Vt} (h1 : votesB l = true) (h2 : vokB x = true) (h3 : hasB l x = false) : addV l x = (l ++ [x], true) := by
  unfold addV; rw [if_pos ⟨h1, h2⟩, if_neg (by rw [h3]; simp)]
theorem below_grew {w w1 w2 : World} (g : Grew w w1) (h : Below w.heap.size w1 w2) : Grew w w2 := .of_below (g.below.trans h)

end Go.Proofs.Ytjbnohepbmejkaa
