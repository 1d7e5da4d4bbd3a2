/-
  Who may propose in an epoch: what VoteLeader answers, in the program and in the specification, at every number.
-/
import Derived.Test.YtppikkppgojbpaaPay
import Derived.Test.YtppikkppgojbpaaIn
namespace Go.Proofs.Ytppikkppgojbpaa
set_option linter.unusedVariables false
open Go.RowKit

def leadI (e : Int) : Int := if 1 ≤ e ∧ e ≤ 30 then (e - 1) % 4 + 1 else 0

theorem implVoteLeader (e : Int) (w : World) : Calls Try.prog 17 #[.int .i64 e] w fun r w' => r = .returned (.int .i64 (leadI e)) ∧ w' = w := by
  by_cases h1 : e < 1
  · rw [show leadI e = 0 by unfold leadI; rw [if_neg (by omega)]]
    go_enter Try.func17, Try.ntmps17
    go_wp2
    go_ret
    exact ⟨rfl, rfl⟩
  · have h1' : decide (e < 1) = false := by simpa using h1
    by_cases h2 : 30 < e
    · rw [show leadI e = 0 by unfold leadI; rw [if_neg (by omega)]]
      go_enter Try.func17, Try.ntmps17
      go_wp2
      go_ret
      exact ⟨rfl, rfl⟩
    · have h2' : decide (30 < e) = false := by simpa using h2
      have h3 : 1 ≤ e := by omega
      have h4 : e ≤ 30 := by omega
      have hx : Hid (leadI e = (e - 1) % 4 + 1) := by show leadI e = _; unfold leadI; rw [if_pos ⟨h3, h4⟩]
      go_enter Try.func17, Try.ntmps17
      go_wp2
      go_ret
      exact ⟨ret_int (by rw [hx.out]), rfl⟩

theorem l3Leader_any (e : Int) (w : World) (h3 : 1 ≤ e) (h4 : e ≤ 30) : Calls Try.prog 57 #[.int .i64 e] w fun r w' => r = .returned (.int .i64 (leadI e)) ∧ w' = w := by
  have hx : Hid (leadI e = (e - 1) % 4 + 1) := by show leadI e = _; unfold leadI; rw [if_pos ⟨h3, h4⟩]
  go_enter Try.func57, Try.ntmps57
  go_wp2
  go_ret
  exact ⟨ret_int (by rw [hx.out]), rfl⟩

theorem specVoteLeader (e : Int) (w : World) : Calls Try.prog 18 #[.int .i64 e] w fun r w' => r = .returned (.int .i64 (leadI e)) ∧ w' = w := by
  cases hin : inB e 1 30 with
  | true =>
    have h34 : 1 ≤ e ∧ e ≤ 30 := by simpa [inB] using hin
    go_enter Try.func18, Try.ntmps18
    go_wp2_with fail
    refine (l6In_any _ _ _ _).mono ?_
    rw [hin]
    rintro r w1 ⟨rfl, rfl⟩
    go_wp2_with fail
    refine (l3Leader_any _ _ h34.1 h34.2).mono ?_
    rintro r w1 ⟨rfl, rfl⟩
    go_wp2
    go_ret
    exact ⟨rfl, rfl⟩
  | false =>
    have hx : Hid (leadI e = 0) := by
      show leadI e = 0
      unfold leadI
      rw [if_neg]
      intro h
      simp [inB, h.1, h.2] at hin
    go_enter Try.func18, Try.ntmps18
    go_wp2_with fail
    refine (l6In_any _ _ _ _).mono ?_
    rw [hin]
    rintro r w1 ⟨rfl, rfl⟩
    go_wp2
    go_ret
    exact ⟨ret_int hx.out.symm, rfl⟩
end Go.Proofs.Ytppikkppgojbpaa
