/-
  FnExactVoteOk returns true at every vote and leaves its argument as it was: what the statement says; no condition.
-/
import Derived.Test.YtppikkppgojbpaaVOpen
import Derived.Test.YtppikkppgojbpaaVConv
import Derived.Test.YtppikkppgojbpaaVOk
import Derived.Lib.SmallJoins
import Derived.JoinedOf
import Derived.JoinedAt
import Derived.RowKit3
import Derived.Deep.RegionHeldLaw
import Derived.Deep.DeepFit
namespace Go.Proofs.Ytppikkppgojbpaa.FnExactVoteOk
set_option linter.unusedVariables false
open Go.ChangeShapes Go.WideShapes Go.ChangeAt Go.RowKit Go.Joins

set_option maxHeartbeats 2000000 in
theorem walk (y : Vt) (a : Option Addr) (cap : Nat) (w : World) (hl : Its w a y.c) (hn : y.c.length ≤ maxLen) :
    Calls Try.prog 11 #[.agg #[.int .i64 y.n, .slice a y.c.length cap]] w fun e w' => e = .returned (.bool true) ∧ Grew w w' := by
  unfold maxLen at hn
  have hk : ∀ w1, Grew w w1 → VtV w1 (.agg #[.int .i64 y.n, .slice a y.c.length cap]) y := fun w1 g => ⟨a, cap, rfl, hl.grew g⟩
  by_cases hs : y.c.length ≤ 1048576
  · have hnn : ¬ szR 1048576 y.c.length < 0 := by rw [szR_pos (by omega)]; omega
    go_enter Try.func11, Try.ntmps11
    go_wp2_with fail
    refine (szVote_any y _ _ _ (hk _ ((Grew.refl _).alloc _)) (by omega) (by omega) hn).mono ?_
    rintro e w1 ⟨rfl, g1⟩
    have p0 := g1.keep (p := ⟨w.heap.size, 0, none⟩) (v := .int .i64 y.n) (by simp [go_sem])
    have p1 := g1.keep (p := ⟨w.heap.size, 1, none⟩) (v := .slice a y.c.length cap) (by simp [go_sem])
    have G1 := hide (((Grew.refl w).alloc _).trans g1)
    clear g1
    go_wp2_with fail
    refine (toVote_any y _ _ (hk _ (unhide G1)) hs).mono ?_
    rintro e w2 ⟨q2, rfl, _, _, i2, _, g2⟩
    have p0 := g2.keep p0
    have p1 := g2.keep p1
    have G2 := hide ((unhide G1).trans g2)
    clear g2 G1
    go_wp2_with fail
    refine (specVoteOk y _ _ ⟨_, _, rfl, i2⟩ hs).mono ?_
    rintro e w3 ⟨rfl, g3⟩
    have p0 := g3.keep p0
    have p1 := g3.keep p1
    have G3 := hide ((unhide G2).trans g3)
    clear g3 G2 i2
    go_wp2_with fail
    refine (toVote_any y _ _ (hk _ (unhide G3)) hs).mono ?_
    rintro e w4 ⟨q4, rfl, _, _, i4, _, g4⟩
    have p0 := g4.keep p0
    have p1 := g4.keep p1
    have I4 := hide i4
    have G4 := hide ((unhide G3).trans g4)
    clear g4 G3 i4
    go_wp2_with fail
    refine (implVoteOk y _ _ ⟨_, _, rfl, (unhide I4).grew ((Grew.refl _).alloc _)⟩ hs).mono ?_
    rintro e w5 ⟨rfl, g5⟩
    have x0 := g5.keep (p := ⟨w4.heap.size, 0, none⟩) (v := .int .i64 y.n) (by simp [go_sem])
    have x1 := g5.keep (p := ⟨w4.heap.size, 1, none⟩) (v := .slice (some ⟨q4, 0, none⟩) y.c.length y.c.length) (by simp [go_sem])
    have p0 := (((Grew.refl _).alloc _).trans g5).keep p0
    have p1 := (((Grew.refl _).alloc _).trans g5).keep p1
    have I5 := hide ((unhide I4).grew (((Grew.refl _).alloc _).trans g5))
    have G5 := hide ((unhide G4).trans (((Grew.refl _).alloc _).trans g5))
    have HP := hide (And.intro p0 (And.intro p1 (And.intro x0 x1)))
    clear g5 I4 G4
    cases hok : vokB y
    all_goals
      go_wp2_with fail
      go_region_held_law (fun w' => w'.cell? ⟨w.heap.size, 0, none⟩ = some (.int .i64 y.n) ∧ w'.cell? ⟨w.heap.size, 1, none⟩ = some (.slice a y.c.length cap) ∧ w'.cell? ⟨w4.heap.size, 0, none⟩ = some (.int .i64 y.n) ∧ w'.cell? ⟨w4.heap.size, 1, none⟩ = some (.slice (some ⟨q4, 0, none⟩) y.c.length y.c.length))
        (first | exact ⟨g7.keep (g6.keep ((unhide HP).1)), g7.keep (g6.keep ((unhide HP).2.1)), g7.keep (g6.keep ((unhide HP).2.2.1)), g7.keep (g6.keep ((unhide HP).2.2.2))⟩ | exact ⟨g6.keep ((unhide HP).1), g6.keep ((unhide HP).2.1), g6.keep ((unhide HP).2.2.1), g6.keep ((unhide HP).2.2.2)⟩ | exact unhide HP)
        (first
          | (go_at_call 39; refine (toVote_any y _ _ (hk _ (unhide G5).drew) hs).mono ?_; rintro r w6 ⟨q6, rfl, _, _, i6, _, g6⟩)
          | (go_at_call 40; refine (eqVote_any y y _ _ _ ⟨_, _, rfl, (unhide I5).grew ((Grew.refl _).drew.trans g6)⟩ ⟨_, _, rfl, i6⟩ hs hs).mono ?_; rintro r w7 ⟨rfl, g7⟩))
      rw [(sameV_iff y y).2 rfl]
      have G7 := hide ((unhide G5).trans (((Grew.refl _).drew.trans g6).trans g7))
      go_wp2
      go_ret
      exact ⟨rfl, unhide G7⟩
  · have hx := szR_neg (left := 1048576) (t := y.c.length) (by omega)
    go_enter Try.func11, Try.ntmps11
    go_wp2_with fail
    refine (szVote_any y _ _ _ (hk _ ((Grew.refl _).alloc _)) (by omega) (by omega) hn).mono ?_
    rw [hx]
    rintro e w1 ⟨rfl, g1⟩
    go_wp2
    go_ret
    exact ⟨rfl, ((Grew.refl _).alloc _).trans g1⟩

set_option maxRecDepth 100000 in
theorem lifted (os : Os) (started : os.Started) (H : Type) (enc : TypeId × Value → H) :
    ReturnsInHanded {} Try.checked os 11 .any (Rows.fnExactVoteOkSpec.pre6 enc Try.prog Try.f11 Rows.fnExactVoteOkRow.domain false) (Rows.fnExactVoteOkSpec.post enc Try.prog Try.f11 false true false false) := by
  refine returnsInHanded_of_change (C := Try.checked) own started (by kernel_rfl) Try.func11
    (ChangeSpec.witness6 (enc := enc) (C := Try.checked) false ⟨#[], #[.agg #[.int .i64 0, .slice none 0 0]], []⟩ 8 (by kernel_rfl) (by kernel_rfl) (by kernel_rfl) (by kernel_rfl)) ?_
  intro W base args ds gs before hval0 hW hcnd _
  have hval : ∀ (j : Nat) t v, Try.f11.params[j]? = some t → args[j]? = some v → Value.okWide Try.prog W .any base t v := hval0
  have hW' := hW
  obtain ⟨p, q, hA0, hV, rfl, hfz, hnd⟩ := hW
  have hA : DataW.TrodAll enc Try.prog W 0 (fun _ => true) true Try.f11.params.toList args.toList ds p := hA0
  rw [Try.params11] at hA hval
  obtain ⟨v0, vs0, d0, ds0, p0, q0, hargs, rfl, rfl, h0, r0⟩ := trodAll_cons hA
  obtain ⟨rfl, rfl, rfl⟩ := trodAll_nil r0
  obtain rfl : args = #[v0] := by cases args; simp_all
  obtain ⟨rfl, rfl⟩ := trodVars_none hV
  have k0 := h0
  have lt0 : ∀ x ∈ p0, x.block < W.heap.size := by obtain ⟨m, hm⟩ := k0; exact DataW.trod_lt m _ _ _ hm
  obtain ⟨cs0, rfl, hsz0⟩ := okWide_struct Try.underlying52 (hval 0 52 v0 rfl rfl)
  obtain ⟨fuel0, hf0⟩ := h0
  obtain ⟨y0, a0, cap0, hv0, hl0, hn0⟩ := open_vote hf0
  simp [Value.cells] at hv0
  obtain rfl : cs0 = #[.int .i64 y0.n, .slice a0 y0.c.length cap0] := by cases cs0; simp_all
  clear hA0 hval0
  refine (walk y0 a0 cap0 W hl0 hn0).mono fun e W' ⟨he, bel⟩ => ?_
  subst he
  exact ⟨_, rfl, _, _, _, [], _, [], hW', trodAll_mk1 (shut_bool Try.underlying4 _), (trodAll_cons_mk (Below.trod laidOut (by kernel_rfl) (of_decide_eq_true (by kernel_rfl)) k0 bel.below lt0) trodAll_mk0), rfl, bel.below.frame _, fun h => by cases h⟩

theorem over : Rows.fnExactVoteOkRow.holds Try.pinned (OpenSpec.ofChange Rows.fnExactVoteOkSpec) :=
  OpenClaim.holds_of_wide 11 Try.f11 rfl rfl rfl rfl rfl rfl rfl ⟨rfl, rfl, rfl, rfl, rfl⟩ rfl rfl rfl rfl rfl (by kernel_rfl) Try.func11 (by kernel_rfl)
    (of_decide_eq_true (by kernel_rfl)) (by unfold Func.isWrapper; first | (rw [if_pos (by decide +kernel)]; kernel_rfl) | (rw [if_neg (by decide +kernel)]; exact ⟨rfl, rfl⟩))
    (fun os started H enc _ => lifted os started H enc)
end Go.Proofs.Ytppikkppgojbpaa.FnExactVoteOk
namespace Go.Proofs.Ytppikkppgojbpaa
theorem fnExactVoteOk_holds : Rows.FnExactVoteOkSaid := FnExactVoteOk.over
#print axioms fnExactVoteOk_holds
end Go.Proofs.Ytppikkppgojbpaa
