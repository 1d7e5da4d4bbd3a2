/-
  What NodeBook answers, in the program and in the specification.
-/
import Derived.Test.YtkegdjfpeocndaaGreatNod4
import Derived.Test.YtkegdjfpeocndaaGreatBookA
import Derived.Test.YtkegdjfpeocndaaGreatTFormsA
import Derived.Test.YtkegdjfpeocndaaGreatTSpecB
namespace Go.Proofs.YtkegdjfpeocndaaGreat
set_option linter.unusedVariables false
open Go.RowKit
attribute [local simp] far_const

/-- What NodeBook answers. -/
def bookN (x : Nd) : List Int := if nodeB x = true then bof (finalL x.s) else []
theorem nodeB_votes {x : Nd} (h : nodeB x = true) : votesB x.s = true := by
  simp only [nodeB, Bool.and_eq_true] at h
  exact h.2.2.2.2.1
theorem bookN_len (x : Nd) : (bookN x).length ≤ 3 := by
  unfold bookN; split
  · rcases bof_three (finalL x.s) with h | h
    · rw [h]; simp
    · obtain ⟨_, _, _, e, _⟩ := bokB_three h; rw [e]; simp
  · simp

theorem nd2 {w : World} {b i e o b' i' e' o'} {sv sv' : Value} (h : NdAt w b i e o sv) (k : NdAt w b' i' e' o' sv') :
    w.cell? ⟨b, 0, none⟩ = some (.int .i64 i) ∧ w.cell? ⟨b, 1, none⟩ = some (.int .i64 e) ∧ w.cell? ⟨b, 2, none⟩ = some (.int .i64 o) ∧ w.cell? ⟨b, 3, none⟩ = some sv ∧
    w.cell? ⟨b', 0, none⟩ = some (.int .i64 i') ∧ w.cell? ⟨b', 1, none⟩ = some (.int .i64 e') ∧ w.cell? ⟨b', 2, none⟩ = some (.int .i64 o') ∧ w.cell? ⟨b', 3, none⟩ = some sv' :=
  ⟨h.1, h.2.1, h.2.2.1, h.2.2.2, k.1, k.2.1, k.2.2.1, k.2.2.2⟩
end Go.Proofs.YtkegdjfpeocndaaGreat
