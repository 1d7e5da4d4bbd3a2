/-
  What VoteOk answers, in the program and in the specification, at every vote.
-/
import Derived.Test.YtjbnohepbmejkaaVoteA
namespace Go.Proofs.Ytjbnohepbmejkaa
set_option linter.unusedVariables false
open Go.RowKit
attribute [local simp] far_const

set_option maxHeartbeats 1000000 in
theorem implVoteOk (x : Vt) (v : Value) (w : World) (hv : VtV w v x) (hn : x.c.length ≤ 1048576) : Calls Try.prog 147 #[v] w fun r w' => r = .returned (.bool (vokB x)) ∧ Grew w w' := by
  obtain ⟨a, cap, rfl, hl⟩ := hv
  obtain ⟨n, c⟩ := x
  simp only at hl hn ⊢
  by_cases h1 : 1 ≤ n
  · by_cases h2 : n ≤ 4
    · by_cases h3 : 0 < c.length
      · have hx : Hid (vokB ⟨n, c⟩ = okB c) := by show vokB ⟨n, c⟩ = okB c; simp [vokB, inB, h1, h2, h3]
        go_enter Try.func147, Try.ntmps147
        go_wp2_with fail
        refine (implChainOk _ _ c _ (hl.grew ((Grew.refl _).alloc _)) hn).mono ?_
        rintro r w1 ⟨rfl, g1⟩
        go_wp2
        go_ret
        exact ⟨ret_bool hx.out.symm, ((Grew.refl _).alloc _).trans g1⟩
      · have h3' : decide (0 < c.length) = false := by simpa using h3
        have hx : Hid (vokB ⟨n, c⟩ = false) := by show vokB ⟨n, c⟩ = false; simp only [vokB, h3', Bool.and_false]
        go_enter Try.func147, Try.ntmps147
        go_wp2
        go_ret
        exact ⟨ret_bool hx.out.symm, (Grew.refl _).alloc _⟩
    · have h2' : decide (n ≤ 4) = false := by simpa using h2
      have hx : Hid (vokB ⟨n, c⟩ = false) := by show vokB ⟨n, c⟩ = false; simp [vokB, inB, h2]
      go_enter Try.func147, Try.ntmps147
      go_wp2
      go_ret
      exact ⟨ret_bool hx.out.symm, (Grew.refl _).alloc _⟩
  · have h1' : decide (1 ≤ n) = false := by simpa using h1
    have hx : Hid (vokB ⟨n, c⟩ = false) := by show vokB ⟨n, c⟩ = false; simp [vokB, inB, h1]
    go_enter Try.func147, Try.ntmps147
    go_wp2
    go_ret
    exact ⟨ret_bool hx.out.symm, (Grew.refl _).alloc _⟩

set_option maxHeartbeats 1000000 in
theorem l3Vote_any (x : Vt) (v : Value) (w : World) (hv : VtV w v x) (hn : x.c.length ≤ 1048576) : Calls Try.prog 66 #[v] w fun r w' => r = .returned (.bool (vokB x)) ∧ Grew w w' := by
  obtain ⟨a, cap, rfl, hl⟩ := hv
  obtain ⟨n, c⟩ := x
  simp only at hl hn ⊢
  cases hin : inB n 1 4 with
  | true =>
    cases hok : okB c with
    | true =>
      have hx : Hid (vokB ⟨n, c⟩ = decide (0 < c.length)) := by show vokB ⟨n, c⟩ = _; simp only [vokB, hin, hok, Bool.true_and]
      go_enter Try.func66, Try.ntmps66
      go_wp2_with fail
      refine (l6In_any _ _ _ _).mono ?_
      rw [hin]
      rintro r w1 ⟨rfl, rfl⟩
      go_wp2_with fail
      refine (specChainOk _ _ c _ (hl.grew ((Grew.refl _).alloc _)) hn).mono ?_
      rw [hok]
      rintro r w1 ⟨rfl, g1⟩
      have c1 := g1.keep (p := ⟨w.heap.size, 1, none⟩) (v := .slice a c.length cap) (by simp [go_sem])
      by_cases h3 : 0 < c.length
      · have h3' : decide (0 < c.length) = true := by simpa using h3
        go_wp2
        go_ret
        exact ⟨ret_bool (by rw [hx.out, h3']), ((Grew.refl _).alloc _).trans g1⟩
      · have h3' : decide (0 < c.length) = false := by simpa using h3
        go_wp2
        go_ret
        exact ⟨ret_bool (by rw [hx.out, h3']), ((Grew.refl _).alloc _).trans g1⟩
    | false =>
      have hx : Hid (vokB ⟨n, c⟩ = false) := by show vokB ⟨n, c⟩ = false; simp only [vokB, hok, Bool.and_false, Bool.false_and]
      go_enter Try.func66, Try.ntmps66
      go_wp2_with fail
      refine (l6In_any _ _ _ _).mono ?_
      rw [hin]
      rintro r w1 ⟨rfl, rfl⟩
      go_wp2_with fail
      refine (specChainOk _ _ c _ (hl.grew ((Grew.refl _).alloc _)) hn).mono ?_
      rw [hok]
      rintro r w1 ⟨rfl, g1⟩
      go_wp2
      go_ret
      exact ⟨ret_bool hx.out.symm, ((Grew.refl _).alloc _).trans g1⟩
  | false =>
    have hx : Hid (vokB ⟨n, c⟩ = false) := by show vokB ⟨n, c⟩ = false; simp only [vokB, hin, Bool.false_and]
    go_enter Try.func66, Try.ntmps66
    go_wp2_with fail
    refine (l6In_any _ _ _ _).mono ?_
    rw [hin]
    rintro r w1 ⟨rfl, rfl⟩
    go_wp2
    go_ret
    exact ⟨ret_bool hx.out.symm, (Grew.refl _).alloc _⟩

end Go.Proofs.Ytjbnohepbmejkaa
