/-
  Who may propose in an epoch: what VoteLeader answers, in the program and in the specification, at every number.
-/
import Derived.Test.YtkegdjfpeocndaaBase1
import Derived.Test.YtkegdjfpeocndaaIn
namespace Go.Proofs.Ytkegdjfpeocndaa
set_option linter.unusedVariables false
open Go.RowKit

def leadI (e : Int) : Int := if 1 ≤ e ∧ e ≤ 30 then (e - 1) % 4 + 1 else 0

theorem implVoteLeader (e : Int) (w : World) : Calls Try.prog 171 #[.int .i64 e] w fun r w' => r = .returned (.int .i64 (leadI e)) ∧ w' = w := by
  by_cases h1 : e < 1
  · rw [show leadI e = 0 by unfold leadI; rw [if_neg (by omega)]]
    go_enter Try.func171, Try.ntmps171
    go_wp2
    go_ret
    exact ⟨rfl, rfl⟩
  · have h1' : decide (e < 1) = false := by simpa using h1
    by_cases h2 : 30 < e
    · rw [show leadI e = 0 by unfold leadI; rw [if_neg (by omega)]]
      go_enter Try.func171, Try.ntmps171
      go_wp2
      go_ret
      exact ⟨rfl, rfl⟩
    · have h2' : decide (30 < e) = false := by simpa using h2
      have h3 : 1 ≤ e := by omega
      have h4 : e ≤ 30 := by omega
      have hx : Hid (leadI e = (e - 1) % 4 + 1) := by show leadI e = _; unfold leadI; rw [if_pos ⟨h3, h4⟩]
      go_enter Try.func171, Try.ntmps171
      go_wp2
      go_ret
      exact ⟨ret_int (by rw [hx.out]), rfl⟩

end Go.Proofs.Ytkegdjfpeocndaa
