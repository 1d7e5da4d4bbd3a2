/-
  FnLeaderTurn returns true at every row of bytes and leaves its argument as it was: what the statement says; no condition.
-/
import Derived.Test.YtppikkppgojbpaaVLead
import Derived.Test.YtppikkppgojbpaaBytes
import Derived.Test.YtppikkppgojbpaaOpen
import Derived.Lib.SmallJoins
import Derived.JoinedOf
import Derived.JoinedAt
import Derived.RowKit3
namespace Go.Proofs.Ytppikkppgojbpaa.FnLeaderTurn
set_option linter.unusedVariables false
open Go.ChangeShapes Go.WideShapes Go.ChangeAt Go.RowKit Go.Joins
attribute [local simp] far_const

theorem draw_any (a : Option Addr) (n cap : Nat) (w : World) (hb : Byt w a w.heap.size n) (hc : n ≤ cap) (hn : n ≤ 1048576) :
    Calls Try.prog 16 #[.slice a n cap] w fun r w' => ∃ x : Int, r = .returned (.int .i64 (x - 1)) ∧ 0 ≤ x ∧ x < 34 ∧ Grew w w' := by
  go_enter Try.func16, Try.ntmps16
  go_wp2_with fail
  refine (open_any a n cap _ hb hc hn).mono ?_
  rintro r w1 ⟨rfl, r1, g1⟩
  have hlt := r1.lt
  go_wp2_with fail
  refine (pick_any w.heap.size 0 34 _ r1 (by omega) (by omega)).mono ?_
  rintro r w2 ⟨x, rfl, x0, x1, x2, r2, g2⟩
  have x3 := x1 (by omega)
  clear x1 x2
  go_wp2
  go_ret
  exact ⟨x, rfl, x0, x3, g2.from g1 (Nat.le_refl _)⟩

def sumL (e : Int) (k : Nat) : Int := ((List.range k).map (fun i : Nat => leadI (e + i))).sum
theorem sumL_succ (e : Int) (k : Nat) : sumL e (k + 1) = sumL e k + leadI (e + k) := by
  unfold sumL; rw [List.range_succ, List.map_append, List.sum_append]; simp
theorem leadI_bd (e : Int) : 0 ≤ leadI e ∧ leadI e ≤ 4 := by unfold leadI; split <;> omega
theorem leadI_in {e : Int} (h1 : 1 ≤ e) (h2 : e ≤ 30) : leadI e = (e - 1) % 4 + 1 := if_pos ⟨h1, h2⟩
theorem sumL_four {e : Int} (h1 : 1 ≤ e) (h2 : e + 4 ≤ 30) : sumL e 4 = 10 := by
  rw [sumL_succ, sumL_succ, sumL_succ, sumL_succ]
  simp only [sumL, List.range_zero, List.map_nil, List.sum_nil]
  rw [leadI_in (by omega) (by omega), leadI_in (by omega) (by omega), leadI_in (by omega) (by omega), leadI_in (by omega) (by omega)]
  omega
theorem sumL_bd (e : Int) : ∀ k : Nat, 0 ≤ sumL e k ∧ sumL e k ≤ 4 * k
  | 0 => by simp [sumL]
  | k + 1 => by have := sumL_bd e k; have := leadI_bd (e + k); rw [sumL_succ]; omega

set_option maxHeartbeats 4000000 in
theorem walk (a : Option Addr) (n cap : Nat) (w : World) (hb : Byt w a w.heap.size n) (hc : n ≤ cap) :
    Calls Try.prog 3 #[.slice a n cap] w fun e w' => e = .returned (.bool true) ∧ Grew w w' := by
  by_cases hn : n ≤ 1048576
  · have hn1 : decide ((1048576 : Int) < (n : Int)) = false := by simp; omega
    go_enter Try.func3, Try.ntmps3
    go_wp2_with fail
    refine (draw_any a n cap _ hb hc hn).mono ?_
    rintro r w1 ⟨x, rfl, x0, x1, g1⟩
    obtain ⟨e, he⟩ : ∃ e, e = x - 1 := ⟨_, rfl⟩
    rw [← he]
    have e0 : -1 ≤ e := by omega
    have e1 : e < 33 := by omega
    clear he x0 x1
    go_wp2_with fail
    refine (implVoteLeader e _).mono ?_
    rintro r w2 ⟨rfl, rfl⟩
    go_wp2_with fail
    refine (specVoteLeader e _).mono ?_
    rintro r w2 ⟨rfl, rfl⟩
    have hx : (leadI e != leadI e) = false := by simp
    by_cases h1 : e < 1
    · go_wp2_with fail
      refine (specVoteLeader e _).mono ?_
      rintro r w2 ⟨rfl, rfl⟩
      have hy : (leadI e == leadI e) = true := by simp
      go_wp2
      go_ret
      exact ⟨rfl, g1⟩
    · have h1' : decide (e < 1) = false := by simpa using h1
      by_cases h2 : 30 < e + 4
      · go_wp2_with fail
        refine (specVoteLeader e _).mono ?_
        rintro r w2 ⟨rfl, rfl⟩
        have hy : (leadI e == leadI e) = true := by simp
        go_wp2
        go_ret
        exact ⟨rfl, g1⟩
      · have h2' : decide (30 < e + 4) = false := by simpa using h2
        have h3 : 1 ≤ e := by omega
        have h4 : e + 4 ≤ 30 := by omega
        go_wp2_with fail
        clear hx
        go_loopw [5, 6] (fun s i wr => ∃ k : Nat, k ≤ 4 ∧ i = .int .i64 k ∧ s = .int .i64 (sumL e k) ∧ Grew w wr) (fun _ i _ => 4 - (intOf i).toNat)
        case atStart => exact ⟨0, by omega, rfl, rfl, g1⟩
        case round =>
          obtain ⟨k, hk, rfl, rfl, hg⟩ := hrel
          by_cases hlt : k < 4
          · have hsn := hide (sumL_succ e k)
            obtain ⟨b0, b1⟩ := sumL_bd e k
            go_wp2_with fail
            refine (implVoteLeader (e + k) _).mono ?_
            rintro r w2 ⟨rfl, rfl⟩
            obtain ⟨d0, d1⟩ := leadI_bd (e + k)
            go_wp2
            go_roundw
            case rel => exact ⟨k + 1, by omega, by go_num, by rw [unhide hsn], hg⟩
            case measure => simp [intOf]; omega
          · have hk4 : k = 4 := by omega
            subst hk4
            have ha := leadI_in h3 (by omega)
            have hb4 := leadI_in (e := e + 4) (by omega) (by omega)
            have hb1 := leadI_in (e := e + 1) (by omega) (by omega)
            have q1 : decide (1 ≤ leadI e) = true := by simp; omega
            have q2 : decide (leadI e ≤ 4) = true := by simp; omega
            have q3 : (leadI (e + 4) == leadI e) = true := by simp; omega
            have q4 : (leadI (e + 1) != leadI e) = true := by simp; omega
            have q5 : (sumL e 4 == 10) = true := by rw [sumL_four h3 h4]; rfl
            have q6 : (leadI 0 == 0) = true := rfl
            clear ha hb4 hb1
            go_wp2_with fail
            refine (implVoteLeader (e + 4) _).mono ?_
            rintro r w2 ⟨rfl, rfl⟩
            go_wp2_with fail
            refine (implVoteLeader (e + 1) _).mono ?_
            rintro r w2 ⟨rfl, rfl⟩
            go_wp2_with fail
            refine (implVoteLeader 0 _).mono ?_
            rintro r w2 ⟨rfl, rfl⟩
            go_wp2
            go_ret
            exact ⟨rfl, hg⟩
  · have hn1 : decide ((1048576 : Int) < (n : Int)) = true := by simp; omega
    clear hn
    go_enter Try.func3, Try.ntmps3
    go_wp2
    go_ret
    exact ⟨rfl, Grew.refl _⟩

set_option maxRecDepth 100000 in
theorem lifted (os : Os) (started : os.Started) (H : Type) (enc : TypeId × Value → H) :
    ReturnsInHanded {} Try.checked os 3 .any (Rows.fnLeaderTurnSpec.pre6 enc Try.prog Try.f3 Rows.fnLeaderTurnRow.domain false) (Rows.fnLeaderTurnSpec.post enc Try.prog Try.f3 false true false false) := by
  refine returnsInHanded_of_change (C := Try.checked) own started (by kernel_rfl) Try.func3
    (ChangeSpec.witness6 (enc := enc) (C := Try.checked) false ⟨#[], #[.slice none 0 0], []⟩ 8 (by kernel_rfl) (by kernel_rfl) (by kernel_rfl) (by kernel_rfl)) ?_
  intro W base args ds gs before hval0 hW hcnd _
  have hval : ∀ (j : Nat) t v, Try.f3.params[j]? = some t → args[j]? = some v → Value.okWide Try.prog W .any base t v := hval0
  have hW' := hW
  obtain ⟨p, q, hA0, hV, rfl, hfz, hnd⟩ := hW
  have hA : DataW.TrodAll enc Try.prog W 0 (fun _ => true) true Try.f3.params.toList args.toList ds p := hA0
  rw [Try.params3] at hA hval
  obtain ⟨v0, vs0, d0, ds0, p0, q0, hargs, rfl, rfl, h0, r0⟩ := trodAll_cons hA
  obtain ⟨rfl, rfl, rfl⟩ := trodAll_nil r0
  obtain rfl : args = #[v0] := by cases args; simp_all
  obtain ⟨rfl, rfl⟩ := trodVars_none hV
  have k0 := h0
  have lt0 : ∀ x ∈ p0, x.block < W.heap.size := by obtain ⟨m, hm⟩ := k0; exact DataW.trod_lt m _ _ _ hm
  obtain ⟨a0, len0, cap0, rfl⟩ := okWide_slice Try.underlying22 (hval 0 22 v0 rfl rfl)
  obtain ⟨fuel0, hf0⟩ := h0
  obtain ⟨hb0, hc0⟩ := open_bytes hf0
  clear hA0 hval0
  refine (walk a0 len0 cap0 W hb0 hc0).mono fun e W' ⟨he, bel⟩ => ?_
  subst he
  exact ⟨_, rfl, _, _, _, [], _, [], hW', trodAll_mk1 (shut_bool Try.underlying4 _), (trodAll_cons_mk (Below.trod laidOut (by kernel_rfl) (of_decide_eq_true (by kernel_rfl)) k0 bel.below lt0) trodAll_mk0), rfl, bel.below.frame _, fun h => by cases h⟩

theorem over : Rows.fnLeaderTurnRow.holds Try.pinned (OpenSpec.ofChange Rows.fnLeaderTurnSpec) :=
  OpenClaim.holds_of_wide 3 Try.f3 rfl rfl rfl rfl rfl rfl rfl ⟨rfl, rfl, rfl, rfl, rfl⟩ rfl rfl rfl rfl rfl (by kernel_rfl) Try.func3 (by kernel_rfl)
    (of_decide_eq_true (by kernel_rfl)) (by unfold Func.isWrapper; first | (rw [if_pos (by decide +kernel)]; kernel_rfl) | (rw [if_neg (by decide +kernel)]; exact ⟨rfl, rfl⟩))
    (fun os started H enc _ => lifted os started H enc)
end Go.Proofs.Ytppikkppgojbpaa.FnLeaderTurn
namespace Go.Proofs.Ytppikkppgojbpaa
theorem fnLeaderTurn_holds : Rows.FnLeaderTurnSaid := FnLeaderTurn.over
#print axioms fnLeaderTurn_holds
end Go.Proofs.Ytppikkppgojbpaa
