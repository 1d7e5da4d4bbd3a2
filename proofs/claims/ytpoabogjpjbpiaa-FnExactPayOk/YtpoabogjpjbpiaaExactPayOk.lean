/-
  FnExactPayOk returns true at every payment and leaves its argument as it was: what the statement says; no condition.
-/
import Derived.Test.YtpoabogjpjbpiaaPay
import Derived.ProofKit
import Derived.OpenShut
import Derived.Lib.SmallJoins
import Derived.ChangeSame
import Derived.JoinedOf
import Derived.JoinedAt
import Derived.RowKit3
namespace Go.Proofs.Ytpoabogjpjbpiaa.ExactPayOk
set_option linter.unusedVariables false
open Go.ChangeShapes Go.WideShapes Go.ChangeAt Go.RowKit Go.Joins Go.Sort

theorem own : ownKnob Try.prog.godebug = none := by kernel_rfl
theorem laidOut : laidOutB Try.prog = true := by kernel_rfl
theorem cellsP : Try.prog.cellsOf 37 = 3 := by kernel_rfl

set_option maxHeartbeats 400000 in
theorem walk (f t s : Int) (w : World) : Calls Try.prog 7 #[.agg #[.int .i64 f, .int .i64 t, .int .i64 s]] w fun e w' => e = .returned (.bool true) ∧ Grew w w' := by
  cases hp : payB f t s
  all_goals
    go_enter Try.func7, Try.ntmps7
    go_wp2_with fail
    refine (toPay_any _ _ _ _).mono ?_
    rintro e w1 ⟨rfl, g1⟩
    have c0 := g1.keep (p := ⟨w.heap.size, 0, none⟩) (v := .int .i64 f) (by simp [go_sem])
    have c1 := g1.keep (p := ⟨w.heap.size, 1, none⟩) (v := .int .i64 t) (by simp [go_sem])
    have c2 := g1.keep (p := ⟨w.heap.size, 2, none⟩) (v := .int .i64 s) (by simp [go_sem])
    go_wp2_with fail
    refine (specPayOk _ _ _ _).mono ?_
    rintro e w2 ⟨rfl, g2⟩
    rw [hp]
    have d0 := g2.keep c0
    have d1 := g2.keep c1
    have d2 := g2.keep c2
    go_wp2_with fail
    refine (toPay_any _ _ _ _).mono ?_
    rintro e w3 ⟨rfl, g3⟩
    go_wp2_with fail
    refine (implPayOk _ _ _ _).mono ?_
    rintro e w4 ⟨rfl, g4⟩
    rw [hp]
    go_wp2
    go_ret
    exact ⟨rfl, ((((Grew.refl _).alloc _).trans g1).trans g2).trans (g3.trans g4)⟩

set_option maxRecDepth 100000 in
theorem lifted (os : Os) (started : os.Started) (H : Type) (enc : TypeId × Value → H) :
    ReturnsInHanded {} Try.checked os 7 .any (Rows.fnExactPayOkSpec.pre6 enc Try.prog Try.f7 Rows.fnExactPayOkRow.domain false) (Rows.fnExactPayOkSpec.post enc Try.prog Try.f7 false true false false) := by
  refine returnsInHanded_of_change (C := Try.checked) own started (by kernel_rfl) Try.func7
    (ChangeSpec.witness6 (enc := enc) (C := Try.checked) false ⟨#[], #[.agg #[.int .i64 0, .int .i64 0, .int .i64 0]], []⟩ 8 (by kernel_rfl) (by kernel_rfl) (by kernel_rfl) (by kernel_rfl)) ?_
  intro W base args ds gs before hval0 hW hcnd _
  have hval : ∀ (j : Nat) t v, Try.f7.params[j]? = some t → args[j]? = some v → Value.okWide Try.prog W .any base t v := hval0
  have hW' := hW
  obtain ⟨p, q, hA0, hV, rfl, hfz, hnd⟩ := hW
  have hA : DataW.TrodAll enc Try.prog W 0 (fun _ => true) true Try.f7.params.toList args.toList ds p := hA0
  rw [Try.params7] at hA hval
  obtain ⟨v0, vs0, d0, ds0, p0, q0, hargs, rfl, rfl, h0, r0⟩ := trodAll_cons hA
  obtain ⟨rfl, rfl, rfl⟩ := trodAll_nil r0
  obtain rfl : args = #[v0] := by cases args; simp_all
  obtain ⟨rfl, rfl⟩ := trodVars_none hV
  have k0 := h0
  have lt0 : ∀ x ∈ p0, x.block < W.heap.size := by obtain ⟨m, hm⟩ := k0; exact DataW.trod_lt m _ _ _ hm
  obtain ⟨c0, c1, c2, y0, y1, y2, m, hv0, hd0, hp0, hy0, hy1, hy2⟩ := open_agg3 Try.underlying37 (by kernel_rfl) cellsP (hval 0 37 v0 rfl rfl) h0
  obtain ⟨a, e0, _, wa⟩ := DataW.trod_int Try.underlying3 hy0
  obtain ⟨b, e1, _, wb⟩ := DataW.trod_int Try.underlying3 hy1
  obtain ⟨c, e2, _, wc⟩ := DataW.trod_int Try.underlying3 hy2
  simp at e0 e1 e2
  subst e0 e1 e2 hv0
  clear hA0 hval0
  refine (walk a b c W).mono fun e W' ⟨he, bel⟩ => ?_
  subst he
  exact ⟨_, rfl, _, _, _, [], _, [], hW', trodAll_mk1 (shut_bool Try.underlying4 _), (trodAll_cons_mk (Below.trod laidOut (by kernel_rfl) (of_decide_eq_true (by kernel_rfl)) k0 bel.below lt0) trodAll_mk0), rfl, bel.below.frame _, fun h => by cases h⟩

theorem over : Rows.fnExactPayOkRow.holds Try.pinned (OpenSpec.ofChange Rows.fnExactPayOkSpec) :=
  OpenClaim.holds_of_wide 7 Try.f7 rfl rfl rfl rfl rfl rfl rfl ⟨rfl, rfl, rfl, rfl, rfl⟩ rfl rfl rfl rfl rfl (by kernel_rfl) Try.func7 (by kernel_rfl)
    (of_decide_eq_true (by kernel_rfl)) (by unfold Func.isWrapper; first | (rw [if_pos (by decide +kernel)]; kernel_rfl) | (rw [if_neg (by decide +kernel)]; exact ⟨rfl, rfl⟩))
    (fun os started H enc _ => lifted os started H enc)
end Go.Proofs.Ytpoabogjpjbpiaa.ExactPayOk
namespace Go.Proofs.Ytpoabogjpjbpiaa
theorem exactPayOk_holds : Rows.FnExactPayOkSaid := ExactPayOk.over
#print axioms exactPayOk_holds
end Go.Proofs.Ytpoabogjpjbpiaa
