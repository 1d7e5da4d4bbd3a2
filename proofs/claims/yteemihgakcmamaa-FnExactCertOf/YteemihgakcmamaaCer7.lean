/-
  What CertOk answers, in the specification.
-/
import Derived.Test.YteemihgakcmamaaCer6
namespace Go.Proofs.Yteemihgakcmamaa
set_option linter.unusedVariables false
open Go.RowKit
attribute [local simp] far_const

theorem endI_pred (l : List Int) (k : Nat) (h : k < l.length) (h0 : 0 < k) : endI 0 (l.take k) = l[k - 1]'(by omega) := by
  have := endI_take l (k - 1) (by omega)
  rw [show k - 1 + 1 = k by omega] at this
  exact this
theorem l6In_far (x lo hi : Int) (w : World) (n : Nat) (os : Array Obj) : Calls Try.prog 118 #[.int .i64 x, .int .i64 lo, .int .i64 hi] (far w n os) fun e w'' => e = .returned (.bool (inB x lo hi)) ∧ ∃ p : Far, w'' = far w p.n p.os :=
  Calls.far ((l6In_any x lo hi _).mono (fun _ _ h => ⟨h.1, Grew.same h.2⟩))

set_option maxHeartbeats 1000000 in
theorem l13By_any (a : Option Addr) (cap : Nat) (l : List Int) (w : World) (hl : Ints w a l) (hn : l.length ≤ 1048576) :
    Calls Try.prog 98 #[.slice a l.length cap] w fun r w' => r = .returned (.bool (byB l)) ∧ Grew w w' := by
  go_enter Try.func98, Try.ntmps98
  go_wp2_with fail
  go_loopw [3] (fun i wr => ∃ k : Nat, k ≤ l.length ∧ i = .int .i64 k ∧ Hid (ascB 0 (l.take k) = true) ∧ Grew w wr) (fun i _ => l.length - (intOf i).toNat)
  case atStart => exact ⟨0, Nat.zero_le _, rfl, hide rfl, Grew.refl _⟩
  case round =>
    obtain ⟨k, hk, rfl, has, hg⟩ := hrel
    by_cases hlt : k < l.length
    · obtain ⟨b, off, rfl, hat⟩ := hl.at hlt
      have c0 := Grew.gcell (hg.keep hat)
      have hst := hide (ascB_take l k hlt)
      have hno := hide (ascB_no l k hlt)
      obtain ⟨z, hz⟩ : ∃ z, l[k] = z := ⟨_, rfl⟩
      rw [hz] at c0 hst hno
      rw [has.out] at hst
      clear hz hat
      cases h2 : inB z 1 4 with
      | false =>
        have hend : Hid (byB l = false) := by show byB l = false; unfold byB; rw [hno.out (by rw [h2, Bool.and_false])]; rfl
        have hX := fun n os => l6In_far z 1 4 wr n os
        rw [h2] at hX
        go_wp2_with fail
        refine quietly (by kernel_rfl) (by kernel_rfl) ?_
        repeat (go_big_quiet_step (first | (go_at_call 118; exact hX _ _)))
        refine wpQuiet_nil ?_
        intro _ hw'
        obtain ⟨⟨nq, osq⟩, hw''⟩ := hw'
        subst hw''
        go_wp2
        go_ret
        exact ⟨ret_bool hend.out.symm, hg.trans ⟨_, _, rfl⟩⟩
      | true =>
        have hX := fun n os => l6In_far z 1 4 wr n os
        rw [h2] at hX
        have hz1 : 1 ≤ z := by simp [inB] at h2; exact h2.1
        by_cases h0 : k = 0
        · have hna : Hid (ascB 0 (l.take (k + 1)) = true) := by
            show ascB 0 (l.take (k + 1)) = true
            rw [hst.out, h2, h0, decide_eq_true (show endI 0 (l.take 0) < z by simp [endI]; omega)]; rfl
          have hk0 : decide (0 < k) = false := by simp; omega
          have hk0' : decide ((0 : Int) < (k : Int)) = false := by simp; omega
          have hk0n : ¬ 0 < k := by omega
          clear h0
          go_wp2_with fail
          refine quietly (by kernel_rfl) (by kernel_rfl) ?_
          repeat (go_big_quiet_step (first | (go_at_call 118; exact hX _ _)))
          refine wpQuiet_nil ?_
          intro _ hw'
          obtain ⟨⟨nq, osq⟩, hw''⟩ := hw'
          subst hw''
          go_wp2
          go_roundw
          case rel => exact ⟨k + 1, by omega, by go_num, hna, hg.trans ⟨_, _, rfl⟩⟩
          case measure => simp [intOf]; omega
        · have hk0 : decide (0 < k) = true := by simp; omega
          have hk0' : 0 < k := by omega
          obtain ⟨b2, o2, ex, hat2⟩ := hl.at (i := k - 1) (by omega)
          simp only [Option.some.injEq, Addr.mk.injEq, and_true] at ex
          obtain ⟨rfl, rfl⟩ := ex
          have c1 := Grew.gcell (hg.keep hat2)
          obtain ⟨y, hy⟩ : ∃ y, l[k - 1]'(by omega) = y := ⟨_, rfl⟩
          have hpe := endI_pred l k hlt hk0'
          rw [hy] at hpe c1
          rw [hpe] at hst hno
          have hw1 : wrap64 ((k : Int) - 1) = ((k - 1 : Nat) : Int) := by rw [show (k : Int) - 1 = ((k - 1 : Nat) : Int) by omega]; unfold wrap64; omega
          clear hat2 hy hpe
          by_cases h3 : z ≤ y
          · have h3' : decide (z ≤ y) = true := by simpa using h3
            have h3'' : decide (y < z) = false := by simp; omega
            have hend : Hid (byB l = false) := by show byB l = false; unfold byB; rw [hno.out (by rw [h3'']; rfl)]; rfl
            go_wp2_with fail
            refine quietly (by kernel_rfl) (by kernel_rfl) ?_
            repeat (go_big_quiet_step (first | (go_at_call 118; exact hX _ _)))
            refine wpQuiet_nil ?_
            intro _ hw'
            obtain ⟨⟨nq, osq⟩, hw''⟩ := hw'
            subst hw''
            go_wp2
            go_ret
            exact ⟨ret_bool hend.out.symm, hg.trans ⟨_, _, rfl⟩⟩
          · have h3' : decide (z ≤ y) = false := by simpa using h3
            have h3'' : decide (y < z) = true := by simp; omega
            have hna : Hid (ascB 0 (l.take (k + 1)) = true) := by show ascB 0 (l.take (k + 1)) = true; rw [hst.out, h2, h3'']; rfl
            go_wp2_with fail
            refine quietly (by kernel_rfl) (by kernel_rfl) ?_
            repeat (go_big_quiet_step (first | (go_at_call 118; exact hX _ _)))
            refine wpQuiet_nil ?_
            intro _ hw'
            obtain ⟨⟨nq, osq⟩, hw''⟩ := hw'
            subst hw''
            go_wp2
            go_roundw
            case rel => exact ⟨k + 1, by omega, by go_num, hna, hg.trans ⟨_, _, rfl⟩⟩
            case measure => simp [intOf]; omega
    · have hle : (l.length : Int) ≤ (k : Int) := by omega
      have hall : Hid (byB l = decide (3 ≤ l.length)) := by
        show byB l = _
        have := has.out
        rw [List.take_of_length_le (by omega)] at this
        unfold byB; rw [this]; rfl
      by_cases h3 : 3 ≤ l.length
      · have h3' : decide ((3 : Int) ≤ (l.length : Int)) = true := by simp; omega
        have h3'' : (3 : Int) ≤ (l.length : Int) := by omega
        go_wp2
        go_ret
        exact ⟨ret_bool (by rw [hall.out, decide_eq_true h3]), hg⟩
      · have h3' : decide ((3 : Int) ≤ (l.length : Int)) = false := by simp; omega
        have h3'' : ¬ (3 : Int) ≤ (l.length : Int) := by omega
        go_wp2
        go_ret
        exact ⟨ret_bool (by rw [hall.out, decide_eq_false h3]), hg⟩
end Go.Proofs.Yteemihgakcmamaa
