/-
  Rows of items that are held against their marks.
-/
import Derived.Test.YtjcnbacbnfmkjaaMark
namespace Go.Proofs.Ytjcnbacbnfmkjaa
set_option linter.unusedVariables false
open Go.RowKit
attribute [local simp] far_const

set_option maxHeartbeats 400000 in
theorem held_any (a : Option Addr) (n cap : Nat) (k : Int) (w : World) (hl : Its w a (marks k n)) (hn : n ≤ 1048576) (hk0 : 0 ≤ k) (hk : k ≤ 1000000000) :
    Calls Try.prog 18 #[.slice a n cap, .int .i64 k] w fun r w' => r = .returned (.int .i64 (k + 4 * n)) ∧ Grew w w' := by
  go_enter Try.func18, Try.ntmps18
  go_wp2_with fail
  go_loopw [1, 5] (fun kk i wr => ∃ j : Nat, j ≤ n ∧ i = .int .i64 j ∧ kk = .int .i64 (k + 4 * j) ∧ Grew w wr) (fun _ i _ => n - (intOf i).toNat)
  case atStart => exact ⟨0, Nat.zero_le _, rfl, by simp, Grew.refl _⟩
  case round =>
    obtain ⟨j, hj, rfl, rfl, hg⟩ := hrel
    by_cases hlt : j < n
    · have hjm : j < (marks k n).length := by rw [marks_len]; exact hlt
      obtain ⟨b, off, rfl, hat⟩ := hl.at hjm
      rw [marks_get] at hat
      obtain ⟨c0, c1, c2, c3⟩ := hat.grew hg
      simp only at c0 c1 c2 c3
      have t2 : (k + 4 * (j : Int) + 2 != k + 4 * (j : Int) + 1 + 1) = false := by simp; omega
      have t3 : (k + 4 * (j : Int) + 3 != k + 4 * (j : Int) + 1 + 1 + 1) = false := by simp; omega
      have e4 : Hid (k + 4 * (j : Int) + 1 + 1 + 1 + 1 = k + 4 * ((j + 1 : Nat) : Int)) := by show k + 4 * (j : Int) + 1 + 1 + 1 + 1 = _; omega
      go_wp2
      go_roundw
      case rel => exact ⟨j + 1, by omega, by go_num, by rw [e4.out], hg⟩
      case measure => simp [intOf]; omega
    · have hle : (n : Int) ≤ (j : Int) := by omega
      have hjn : Hid (j = n) := by show j = n; omega
      go_wp2
      go_ret
      exact ⟨by rw [hjn.out]; rfl, hg⟩

theorem mark_nil (cap : Nat) (k : Int) (w : World) : Calls Try.prog 17 #[.slice none 0 cap, .int .i64 k] w fun r w' => r = .returned (.int .i64 k) ∧ w' = w := by
  go_enter Try.func17, Try.ntmps17
  go_wp2_with fail
  go_rounds 1
  go_ret
  exact ⟨rfl, rfl⟩
theorem mark_x (x : Option Addr) (n cap : Nat) (k : Int) (w : World) (ho : n = 0 ∧ x = none ∨ ∃ g, x = some ⟨g, 0, none⟩ ∧ Own w g n) (hn : n ≤ 1048576) (hk0 : 0 ≤ k) (hk : k ≤ 1000000000) :
    Calls Try.prog 17 #[.slice x n cap, .int .i64 k] w fun r w' => r = .returned (.int .i64 (k + 4 * n)) ∧ Its w' x (marks k n) ∧ Wrote x w w' := by
  rcases ho with ⟨rfl, rfl⟩ | ⟨g, rfl, ho⟩
  · refine (mark_nil cap k w).mono ?_
    rintro r w' ⟨rfl, rfl⟩
    exact ⟨by simp, .inl rfl, Wrote.refl _ _⟩
  · refine (mark_any g n cap k w ho hn hk0 hk).mono ?_
    rintro r w' ⟨rfl, h1, _, h2⟩
    exact ⟨rfl, h1, h2⟩
end Go.Proofs.Ytjcnbacbnfmkjaa
