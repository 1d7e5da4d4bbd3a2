/-
  What PayOk answers, in the program and in the specification, at every payment.
-/
import Derived.Test.YtjcnbacbnfmkjaaRows
import Derived.Test.YtjcnbacbnfmkjaaPlain
namespace Go.Proofs.Ytjcnbacbnfmkjaa
set_option linter.unusedVariables false
open Go.RowKit

theorem ret_bool {a b : Bool} (h : a = b) : Ending.returned (.bool a) = .returned (.bool b) := by rw [h]

theorem isPayer_any (x : Int) (w : World) : Calls Try.prog 92 #[.int .i64 x] w fun e w' => e = .returned (.bool (inB x 1 3)) ∧ w' = w := by
  by_cases h1 : 1 ≤ x
  · by_cases h2 : x ≤ 3
    · go_enter Try.func92, Try.ntmps92
      go_wp2
      go_ret
      exact ⟨ret_bool (by simp [inB, h1, h2]), rfl⟩
    · have h2' : decide (x ≤ 3) = false := by simpa using h2
      go_enter Try.func92, Try.ntmps92
      go_wp2
      go_ret
      exact ⟨ret_bool (by unfold inB; rw [h2', Bool.and_false]), rfl⟩
  · have h1' : decide (1 ≤ x) = false := by simpa using h1
    go_enter Try.func92, Try.ntmps92
    go_wp2
    go_ret
    exact ⟨ret_bool (by unfold inB; rw [h1']; rfl), rfl⟩

theorem l6In_any (x l h : Int) (w : World) : Calls Try.prog 58 #[.int .i64 x, .int .i64 l, .int .i64 h] w fun e w' => e = .returned (.bool (inB x l h)) ∧ w' = w := by
  by_cases h1 : l ≤ x
  · by_cases h2 : x ≤ h
    · go_enter Try.func58, Try.ntmps58
      go_wp2
      go_ret
      exact ⟨ret_bool (by simp [inB, h1, h2]), rfl⟩
    · have h2' : decide (x ≤ h) = false := by simpa using h2
      go_enter Try.func58, Try.ntmps58
      go_wp2
      go_ret
      exact ⟨ret_bool (by unfold inB; rw [h2', Bool.and_false]), rfl⟩
  · have h1' : decide (l ≤ x) = false := by simpa using h1
    go_enter Try.func58, Try.ntmps58
    go_wp2
    go_ret
    exact ⟨ret_bool (by unfold inB; rw [h1']; rfl), rfl⟩

set_option maxHeartbeats 400000 in
theorem implPayOk (f t s : Int) (w : World) : Calls Try.prog 68 #[.agg #[.int .i64 f, .int .i64 t, .int .i64 s]] w fun e w' => e = .returned (.bool (payB f t s)) ∧ Grew w w' := by
  cases hf : inB f 1 3 with
  | false =>
    have hx : payB f t s = false := by unfold payB; rw [hf]; rfl
    rw [hx]; clear hx
    go_enter Try.func68, Try.ntmps68
    go_wp2_with (go_at_call 92; refine (isPayer_any _ _).mono ?_; rintro e w' ⟨rfl, rfl⟩)
    go_ret
    exact ⟨rfl, (Grew.refl _).alloc _⟩
  | true =>
    cases ht : inB t 1 3 with
    | false =>
      have hx : payB f t s = false := by unfold payB; rw [hf, ht]; rfl
      rw [hx]; clear hx
      go_enter Try.func68, Try.ntmps68
      go_wp2_with (go_at_call 92; refine (isPayer_any _ _).mono ?_; rintro e w' ⟨rfl, rfl⟩)
      go_ret
      exact ⟨rfl, (Grew.refl _).alloc _⟩
    | true =>
      by_cases hft : f = t
      · have hx : payB f t s = false := by unfold payB; rw [hf, ht]; simp [hft]
        rw [hx]; clear hx
        subst hft
        go_enter Try.func68, Try.ntmps68
        go_wp2_with (go_at_call 92; refine (isPayer_any _ _).mono ?_; rintro e w' ⟨rfl, rfl⟩)
        go_ret
        exact ⟨rfl, (Grew.refl _).alloc _⟩
      · have hft' : (f == t) = false := by simpa using hft
        have hft2 : (f != t) = true := by simpa using hft
        have hx : payB f t s = inB s 1 9 := by unfold payB; rw [hf, ht, hft']; rfl
        rw [hx]; clear hx hft
        by_cases h1 : 1 ≤ s
        · by_cases h2 : s ≤ 9
          · have hx : inB s 1 9 = true := by simp [inB, h1, h2]
            rw [hx]; clear hx
            go_enter Try.func68, Try.ntmps68
            go_wp2_with (go_at_call 92; refine (isPayer_any _ _).mono ?_; rintro e w' ⟨rfl, rfl⟩)
            go_ret
            exact ⟨rfl, (Grew.refl _).alloc _⟩
          · have h2' : decide (s ≤ 9) = false := by simpa using h2
            have hx : inB s 1 9 = false := by unfold inB; rw [h2', Bool.and_false]
            rw [hx]; clear hx
            go_enter Try.func68, Try.ntmps68
            go_wp2_with (go_at_call 92; refine (isPayer_any _ _).mono ?_; rintro e w' ⟨rfl, rfl⟩)
            go_ret
            exact ⟨rfl, (Grew.refl _).alloc _⟩
        · have h1' : decide (1 ≤ s) = false := by simpa using h1
          have hx : inB s 1 9 = false := by unfold inB; rw [h1']; rfl
          rw [hx]; clear hx
          go_enter Try.func68, Try.ntmps68
          go_wp2_with (go_at_call 92; refine (isPayer_any _ _).mono ?_; rintro e w' ⟨rfl, rfl⟩)
          go_ret
          exact ⟨rfl, (Grew.refl _).alloc _⟩

set_option maxHeartbeats 400000 in
theorem specPayOk (f t s : Int) (w : World) : Calls Try.prog 104 #[.agg #[.int .i64 f, .int .i64 t, .int .i64 s]] w fun e w' => e = .returned (.bool (payB f t s)) ∧ Grew w w' := by
  cases hf : inB f 1 3 with
  | false =>
    have hx : payB f t s = false := by unfold payB; rw [hf]; rfl
    rw [hx]; clear hx
    go_enter Try.func104, Try.ntmps104
    go_wp2_with (go_at_call 58; refine (l6In_any _ _ _ _).mono ?_; rintro e w' ⟨rfl, rfl⟩)
    go_ret
    exact ⟨rfl, (Grew.refl _).alloc _⟩
  | true =>
    cases ht : inB t 1 3 with
    | false =>
      have hx : payB f t s = false := by unfold payB; rw [hf, ht]; rfl
      rw [hx]; clear hx
      go_enter Try.func104, Try.ntmps104
      go_wp2_with (go_at_call 58; refine (l6In_any _ _ _ _).mono ?_; rintro e w' ⟨rfl, rfl⟩)
      go_ret
      exact ⟨rfl, (Grew.refl _).alloc _⟩
    | true =>
      by_cases hft : f = t
      · have hx : payB f t s = false := by unfold payB; rw [hf, ht]; simp [hft]
        rw [hx]; clear hx
        subst hft
        go_enter Try.func104, Try.ntmps104
        go_wp2_with (go_at_call 58; refine (l6In_any _ _ _ _).mono ?_; rintro e w' ⟨rfl, rfl⟩)
        go_ret
        exact ⟨rfl, (Grew.refl _).alloc _⟩
      · have hft' : (f == t) = false := by simpa using hft
        have hft2 : (f != t) = true := by simpa using hft
        have hx : payB f t s = inB s 1 9 := by unfold payB; rw [hf, ht, hft']; rfl
        rw [hx]; clear hx hft
        go_enter Try.func104, Try.ntmps104
        go_wp2_with (go_at_call 58; refine (l6In_any _ _ _ _).mono ?_; rintro e w' ⟨rfl, rfl⟩)
        go_ret
        exact ⟨rfl, (Grew.refl _).alloc _⟩

set_option maxHeartbeats 400000 in
theorem toPay_any (f t s : Int) (w : World) : Calls Try.prog 112 #[.agg #[.int .i64 f, .int .i64 t, .int .i64 s]] w fun e w' => e = .returned (.agg #[.int .i64 f, .int .i64 t, .int .i64 s]) ∧ Grew w w' := by
  go_enter Try.func112, Try.ntmps112
  go_wp2
  go_returns
  exact ⟨rfl, (((Grew.refl _).alloc _).alloc _).alloc _⟩
end Go.Proofs.Ytjcnbacbnfmkjaa
