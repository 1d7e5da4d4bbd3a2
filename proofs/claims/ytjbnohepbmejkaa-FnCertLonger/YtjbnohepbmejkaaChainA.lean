/-
  Texts together: Chain, Chain2.
-/
import Derived.Test.YtjbnohepbmejkaaBase1
namespace Go.Proofs.Ytjbnohepbmejkaa
set_option linter.unusedVariables false
open Go.RowKit

theorem ret_val {a b : Value} (h : a = b) : Ending.returned a = .returned b := by rw [h]

theorem asked_any (e f t s : Int) (w : World) : Calls Try.prog 101 #[.agg #[.int .i64 e, .int .i64 f, .int .i64 t, .int .i64 s]] w fun r w' => r = .returned (.iface 181 (.agg #[.int .i64 e, .int .i64 f, .int .i64 t, .int .i64 s])) ∧ Grew w w' := by
  go_enter Try.func101, Try.ntmps101
  go_wp2
  go_ret
  exact ⟨rfl, (Grew.refl _).alloc _⟩

theorem epoch_any (e f t s : Int) (w : World) : Calls Try.prog 174 #[.agg #[.int .i64 e, .int .i64 f, .int .i64 t, .int .i64 s]] w fun r w' => r = .returned (.int .i64 e) ∧ Grew w w' := by
  go_enter Try.func174, Try.ntmps174
  go_wp2
  go_ret
  exact ⟨rfl, (Grew.refl _).alloc _⟩

set_option maxHeartbeats 400000 in
theorem okBehind_any (e f t s last : Int) (w : World) : Calls Try.prog 176 #[.agg #[.int .i64 e, .int .i64 f, .int .i64 t, .int .i64 s], .int .i64 last] w fun r w' => r = .returned (.bool (stepB last ⟨e, f, t, s⟩)) ∧ Grew w w' := by
  by_cases h1 : last < e
  · by_cases h2 : e ≤ 30
    · have hx : stepB last ⟨e, f, t, s⟩ = payB f t s := by unfold stepB; simp [h1, h2]
      rw [hx]; clear hx
      go_enter Try.func176, Try.ntmps176
      go_wp2_with fail
      refine (implPayOk _ _ _ _).mono ?_
      rintro r w1 ⟨rfl, g1⟩
      go_wp2
      go_ret
      exact ⟨rfl, ((Grew.refl _).alloc _).trans g1⟩
    · have h2' : decide (e ≤ 30) = false := by simpa using h2
      have hx : stepB last ⟨e, f, t, s⟩ = false := by unfold stepB; rw [h2', Bool.and_false]; rfl
      rw [hx]; clear hx
      go_enter Try.func176, Try.ntmps176
      go_wp2
      go_ret
      exact ⟨rfl, (Grew.refl _).alloc _⟩
  · have h1' : decide (last < e) = false := by simpa using h1
    have hx : stepB last ⟨e, f, t, s⟩ = false := by unfold stepB; rw [h1']; rfl
    rw [hx]; clear hx
    go_enter Try.func176, Try.ntmps176
    go_wp2
    go_ret
    exact ⟨rfl, (Grew.refl _).alloc _⟩

set_option maxHeartbeats 1000000 in
theorem implChainOk (a : Option Addr) (cap : Nat) (l : List It) (w : World) (hl : Its w a l) (hn : l.length ≤ 1048576) : Calls Try.prog 48 #[.slice a l.length cap] w fun r w' => r = .returned (.bool (okB l)) ∧ Grew w w' := by
  by_cases h16 : l.length ≤ 16
  · have hx : okB l = goB 0 l := by unfold okB; simp [h16]
    rw [hx]; clear hx
    have hx : ((16 : Int) < (l.length : Int)) = False := by simp; omega
    go_enter Try.func48, Try.ntmps48
    go_wp2_with fail
    clear hx
    go_loopw [3, 11] (fun last i wr => ∃ k : Nat, k ≤ l.length ∧ i = .int .i64 k ∧ last = .int .i64 (endE 0 (l.take k)) ∧ Hid (goB 0 (l.take k) = true) ∧ Grew w wr) (fun _ i _ => l.length - (intOf i).toNat)
    case atStart => exact ⟨0, Nat.zero_le _, rfl, rfl, rfl, Grew.refl _⟩
    case round =>
      obtain ⟨k, hk, rfl, rfl, hgo, hg⟩ := hrel
      by_cases hlt : k < l.length
      · obtain ⟨b, off, rfl, hat⟩ := hl.at hlt
        obtain ⟨c0, c1, c2, c3⟩ := hat.grew hg
        go_wp2_with fail
        refine (asked_any _ _ _ _ _).mono ?_
        rintro r w1 ⟨rfl, g1⟩
        go_wp2_with fail
        refine (okBehind_any _ _ _ _ _ _).mono ?_
        rintro r w2 ⟨rfl, g2⟩
        have hg2 := (hg.trans g1).trans g2
        cases hs : stepB (endE 0 (l.take k)) ⟨l[k].e, l[k].f, l[k].t, l[k].s⟩ with
        | false =>
          have hend : goB 0 l = false := goB_ends l k hlt hs
          go_wp2
          go_ret
          exact ⟨ret_bool hend.symm, hg2⟩
        | true =>
          have hnext : Hid (goB 0 (l.take (k + 1)) = true) := by
            show goB 0 (l.take (k + 1)) = true
            rw [goB_take l k hlt, show goB 0 (l.take k) = true from hgo.out]; exact hs
          have hend : Hid (l[k].e = endE 0 (l.take (k + 1))) := (endE_take l k hlt).symm
          go_wp2_with fail
          refine (epoch_any _ _ _ _ _).mono ?_
          rintro r w3 ⟨rfl, g3⟩
          go_wp2
          go_roundw
          case rel => exact ⟨k + 1, by omega, by go_num, by rw [hend.out], hnext, hg2.trans g3⟩
          case measure => simp [intOf]; omega
      · have hkl : k = l.length := by omega
        have hend : goB 0 l = true := goB_all l (by rw [← hkl]; exact hgo.out)
        go_wp2
        go_ret
        exact ⟨ret_bool hend.symm, hg⟩
  · have hx : okB l = false := by unfold okB; simp [h16]
    rw [hx]; clear hx
    have hx : (16 : Int) < (l.length : Int) := by omega
    go_enter Try.func48, Try.ntmps48
    go_wp2
    go_ret
    exact ⟨rfl, Grew.refl _⟩

set_option linter.unusedVariables false
open Go.RowKit

attribute [local simp] far_const

theorem step_in (last : Int) (x : It) (h0 : 0 ≤ last) (h : inB x.e 1 30 = false) : stepB last x = false := by
  unfold inB at h; unfold stepB
  by_cases h1 : x.e ≤ 30
  · have : ¬ 1 ≤ x.e := by intro h2; simp [h1, h2] at h
    have : decide (last < x.e) = false := by simp; omega
    rw [this]; rfl
  · simp [h1]
theorem step_pay (last : Int) (x : It) (h : payB x.f x.t x.s = false) : stepB last x = false := by
  unfold stepB; rw [h, Bool.and_false]
theorem step_le (last : Int) (x : It) (h : x.e ≤ last) : stepB last x = false := by
  unfold stepB; have : decide (last < x.e) = false := by simp; omega
  rw [this]; rfl
theorem step_ok (last : Int) (x : It) (h : inB x.e 1 30 = true) (hp : payB x.f x.t x.s = true) (hl : last < x.e) : stepB last x = true := by
  unfold inB at h; unfold stepB
  simp only [Bool.and_eq_true, decide_eq_true_eq] at h
  simp [hp, hl, h.2]

set_option maxHeartbeats 1000000 in
theorem specChainOk (a : Option Addr) (cap : Nat) (l : List It) (w : World) (hl : Its w a l) (hn : l.length ≤ 1048576) : Calls Try.prog 53 #[.slice a l.length cap] w fun r w' => r = .returned (.bool (okB l)) ∧ Grew w w' := by
  go_enter Try.func53, Try.ntmps53
  go_wp2_with fail
  go_loopw [3] (fun i wr => ∃ k : Nat, k ≤ l.length ∧ i = .int .i64 k ∧ Hid (goB 0 (l.take k) = true) ∧ Grew w wr) (fun i _ => l.length - (intOf i).toNat)
  case atStart => exact ⟨0, Nat.zero_le _, rfl, rfl, Grew.refl _⟩
  case round =>
    obtain ⟨k, hk, rfl, hgo, hg⟩ := hrel
    by_cases hlt : k < l.length
    · obtain ⟨b, off, rfl, hat⟩ := hl.at hlt
      obtain ⟨c0, c1, c2, c3⟩ := hat.grew hg
      have e0 := Grew.gcell c0
      have e1 := Grew.gcell c1
      have e2 := Grew.gcell c2
      have e3 := Grew.gcell c3
      have hlow : 0 ≤ endE 0 (l.take k) := (endE_low _ 0 (by omega) hgo.out).1
      cases hin : inB l[k].e 1 30 with
      | false =>
        have hend : Hid (okB l = false) := by
          show okB l = false
          unfold okB; rw [goB_ends l k hlt (step_in _ _ hlow hin), Bool.and_false]
        clear hlow
        go_wp2_with fail
        refine quietly (by kernel_rfl) (by kernel_rfl) ?_
        repeat (go_big_quiet_step (first | (go_at_call 71; exact Calls.far ((l6In_any _ _ _ _).mono fun e w' h => ⟨h.1, Grew.same h.2⟩))))
        refine wpQuiet_nil ?_
        intro _ hw'
        obtain ⟨⟨nq, osq⟩, hw''⟩ := hw'
        subst hw''
        go_wp2
        go_ret
        exact ⟨ret_bool hend.out.symm, hg.trans ⟨_, _, rfl⟩⟩
      | true =>
        cases hpay : payB l[k].f l[k].t l[k].s with
        | false =>
          have hend : Hid (okB l = false) := by
            show okB l = false
            unfold okB; rw [goB_ends l k hlt (step_pay _ _ hpay), Bool.and_false]
          clear hlow
          go_wp2_with fail
          refine quietly (by kernel_rfl) (by kernel_rfl) ?_
          repeat (go_big_quiet_step (first | (go_at_call 71; exact Calls.far ((l6In_any _ _ _ _).mono fun e w' h => ⟨h.1, Grew.same h.2⟩)) | (go_at_call 103; exact Calls.far (specPayOk _ _ _ _))))
          refine wpQuiet_nil ?_
          intro _ hw'
          obtain ⟨⟨nq, osq⟩, hw''⟩ := hw'
          subst hw''
          go_wp2
          go_ret
          exact ⟨ret_bool hend.out.symm, hg.trans ⟨_, _, rfl⟩⟩
        | true =>
          by_cases hk0 : k = 0
          · have hk1 : decide (0 < k) = false := by simp; omega
            have hnext : Hid (goB 0 (l.take (k + 1)) = true) := by
              show goB 0 (l.take (k + 1)) = true
              rw [goB_take l k hlt, show goB 0 (l.take k) = true from hgo.out]
              refine step_ok _ _ hin hpay ?_
              subst hk0
              simp only [inB, Bool.and_eq_true, decide_eq_true_eq] at hin
              show 0 < _
              omega
            clear hlow hk0
            go_wp2_with fail
            refine quietly (by kernel_rfl) (by kernel_rfl) ?_
            repeat (go_big_quiet_step (first | (go_at_call 71; exact Calls.far ((l6In_any _ _ _ _).mono fun e w' h => ⟨h.1, Grew.same h.2⟩)) | (go_at_call 103; exact Calls.far (specPayOk _ _ _ _))))
            refine wpQuiet_nil ?_
            intro _ hw'
            obtain ⟨⟨nq, osq⟩, hw''⟩ := hw'
            subst hw''
            go_wp2
            go_roundw
            case rel => exact ⟨k + 1, by omega, by go_num, hnext, hg.trans ⟨_, _, rfl⟩⟩
            case measure => simp [intOf]; omega
          · have hk1 : 0 < k := by omega
            have hjl : k - 1 < l.length := by omega
            have hpe : Hid (endE 0 (l.take k) = l[k - 1].e) := by
              show endE 0 (l.take k) = l[k - 1].e
              have := endE_take l (k - 1) hjl
              rwa [show k - 1 + 1 = k by omega] at this
            obtain ⟨b', off', hbo, hat'⟩ := hl.at hjl
            simp only [Option.some.injEq, Addr.mk.injEq, and_true] at hbo
            obtain ⟨rfl, rfl⟩ := hbo
            have f0 := Grew.gcell (hat'.grew hg).1
            clear hlow hk0
            by_cases hle : l[k].e ≤ l[k - 1].e
            · have hend : Hid (okB l = false) := by
                show okB l = false
                unfold okB; rw [goB_ends l k hlt (by rw [hpe.out]; exact step_le _ _ hle), Bool.and_false]
              go_wp2_with fail
              refine quietly (by kernel_rfl) (by kernel_rfl) ?_
              repeat (go_big_quiet_step (first | (go_at_call 71; exact Calls.far ((l6In_any _ _ _ _).mono fun e w' h => ⟨h.1, Grew.same h.2⟩)) | (go_at_call 103; exact Calls.far (specPayOk _ _ _ _))))
              refine wpQuiet_nil ?_
              intro _ hw'
              obtain ⟨⟨nq, osq⟩, hw''⟩ := hw'
              subst hw''
              go_wp2
              go_ret
              exact ⟨ret_bool hend.out.symm, hg.trans ⟨_, _, rfl⟩⟩
            · have hle' : decide (l[k].e ≤ l[k - 1].e) = false := by simpa using hle
              have hnext : Hid (goB 0 (l.take (k + 1)) = true) := by
                show goB 0 (l.take (k + 1)) = true
                rw [goB_take l k hlt, show goB 0 (l.take k) = true from hgo.out]
                refine step_ok _ _ hin hpay ?_
                rw [hpe.out]; omega
              clear hle
              go_wp2_with fail
              refine quietly (by kernel_rfl) (by kernel_rfl) ?_
              repeat (go_big_quiet_step (first | (go_at_call 71; exact Calls.far ((l6In_any _ _ _ _).mono fun e w' h => ⟨h.1, Grew.same h.2⟩)) | (go_at_call 103; exact Calls.far (specPayOk _ _ _ _))))
              refine wpQuiet_nil ?_
              intro _ hw'
              obtain ⟨⟨nq, osq⟩, hw''⟩ := hw'
              subst hw''
              go_wp2
              go_roundw
              case rel => exact ⟨k + 1, by omega, by go_num, hnext, hg.trans ⟨_, _, rfl⟩⟩
              case measure => simp [intOf]; omega
    · have hkl : k = l.length := by omega
      have hend : Hid (goB 0 l = true) := goB_all l (by rw [← hkl]; exact hgo.out)
      clear hkl
      go_wp2
      go_ret
      exact ⟨ret_bool (by unfold okB; rw [hend.out, Bool.and_true]; exact decide_eq_decide.2 (by omega)), hg⟩
end Go.Proofs.Ytjbnohepbmejkaa
