/-
  What the two ChainRead answer at every text, in one word.
-/
import Derived.Test.YtfonpbglnkggfaaDoorRead5
import Derived.Test.YtfonpbglnkggfaaDoorCut3
import Derived.Test.YtfonpbglnkggfaaDoorMark2
namespace Go.Proofs.YtfonpbglnkggfaaDoor
set_option linter.unusedVariables false
open Go.RowKit

theorem text_inj {l m : List It} (hl : okB l = true) (hm : okB m = true) (h : textL m = textL l) : l = m := by
  obtain ⟨r, e1, e2⟩ := text_pre l m (low_of l hl) (low_of m hm) [] (by simpa using h)
  cases r with
  | nil => simpa using e1.symm
  | cons y r2 => exact absurd e2.symm (lineL_ne y _)
/-- A text is that of the chain lc; or of none, and lc is empty. -/
def ReadP (T : List UInt8) (lc : List It) (b : Bool) : Prop := (b = true ∧ okB lc = true ∧ T = textL lc) ∨ (b = false ∧ lc = [] ∧ ∀ l, okB l = true → T ≠ textL l)
theorem readP_ex (T : List UInt8) : ∃ lc b, ReadP T lc b := by
  by_cases h : ∃ l, okB l = true ∧ T = textL l
  · obtain ⟨l, h1, h2⟩ := h; exact ⟨l, true, .inl ⟨rfl, h1, h2⟩⟩
  · exact ⟨[], false, .inr ⟨rfl, rfl, fun l h1 h2 => h ⟨l, h1, h2⟩⟩⟩
theorem ReadP.len {T : List UInt8} {lc : List It} {b : Bool} (h : ReadP T lc b) : lc.length ≤ 16 := by
  rcases h with ⟨_, h, _⟩ | ⟨_, h, _⟩
  · unfold okB at h; simp only [Bool.and_eq_true, decide_eq_true_eq] at h; exact h.1
  · rw [h]; simp
theorem specRead {T : List UInt8} {lc : List It} {b : Bool} (h : ReadP T lc b) (w : World) (hs : T.length ≤ 1048576) : Calls Tryd.prog 5 #[.string (bt T)] w fun r w' => ∃ gs cs, r = .returned (.tuple #[.slice (some ⟨gs, 0, none⟩) lc.length cs, .bool b]) ∧ Its w' (some ⟨gs, 0, none⟩) lc ∧ gs < w'.heap.size ∧ Grew w w' := by
  refine (specChainRead T w hs).mono ?_
  rintro r w' ⟨g, ⟨l, v, hl, hT, rfl, ho⟩ | ⟨hno, v, rfl, ho⟩⟩
  · obtain ⟨gs, cs, rfl, _, _, h3, h4⟩ := ho.shape
    rcases h with ⟨rfl, h1, h2⟩ | ⟨_, _, h2⟩
    · obtain rfl := text_inj hl h1 (h2.symm.trans hT)
      exact ⟨gs, cs, rfl, h4, h3, g⟩
    · exact absurd hT (h2 l hl)
  · obtain ⟨gs, cs, rfl, _, _, h3, h4⟩ := ho.shape
    rcases h with ⟨_, h1, h2⟩ | ⟨rfl, rfl, h2⟩
    · exact absurd h2 (hno lc h1)
    · exact ⟨gs, cs, rfl, h4, h3, g⟩
theorem implRead {T : List UInt8} {lc : List It} {b : Bool} (h : ReadP T lc b) (w : World) (hs : T.length ≤ 1048576) (hL : ErrLaid w) : Calls Tryd.prog 6 #[.string (bt T)] w fun r w' => ∃ x cx, r = .returned (.tuple #[.slice x lc.length cx, .bool b]) ∧ Its w' x lc ∧ (lc.length = 0 ∧ x = none ∨ ∃ g N, x = some ⟨g, 0, none⟩ ∧ lc.length ≤ N ∧ w.heap.size ≤ g ∧ Own w' g N) ∧ Grew w w' := by
  refine (implChainRead T w hs hL).mono ?_
  rintro r w' ⟨g, ⟨l, v, hl, hT, rfl, ho⟩ | ⟨hno, rfl⟩⟩
  · rcases h with ⟨rfl, h1, h2⟩ | ⟨_, _, h2⟩
    · obtain rfl := text_inj hl h1 (h2.symm.trans hT)
      rcases ho with ⟨rfl, rfl⟩ | ho
      · exact ⟨none, 0, rfl, .inl rfl, .inl ⟨rfl, rfl⟩, g⟩
      · obtain ⟨gs, cs, rfl, h1, h2, h3, h4, h5⟩ := ho.own
        exact ⟨_, cs, rfl, h4, .inr ⟨gs, cs, rfl, h1, h2, h5⟩, g⟩
    · exact absurd hT (h2 l hl)
  · rcases h with ⟨_, h1, h2⟩ | ⟨rfl, rfl, h2⟩
    · exact absurd h2 (hno lc h1)
    · exact ⟨none, 0, rfl, .inl rfl, .inl ⟨rfl, rfl⟩, g⟩
end Go.Proofs.YtfonpbglnkggfaaDoor
