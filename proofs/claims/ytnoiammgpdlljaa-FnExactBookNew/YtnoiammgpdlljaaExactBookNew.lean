/-
  FnExactBookNew returns true: what the statement says; no condition.
-/
import Derived.Test.YtnoiammgpdlljaaOpenN
import Derived.Lib.SmallJoins
import Derived.JoinedOf
import Derived.JoinedAt
import Derived.RowKit3
namespace Go.Proofs.Ytnoiammgpdlljaa.FnExactBookNew
set_option linter.unusedVariables false
open Go.ChangeShapes Go.WideShapes Go.ChangeAt Go.RowKit Go.Joins

set_option maxHeartbeats 1000000 in
theorem walk (w : World) : Calls Try.prog 10 #[] w fun e w' => e = .returned (.bool true) ∧ Grew w w' := by
  go_enter Try.func10, Try.ntmps10
  go_wp2_with fail
  refine (specBookNew _).mono ?_
  rintro e w1 ⟨v1, rfl, o1, g1⟩
  have b1 := o1.block
  go_wp2_with fail
  refine (implBookNew _).mono ?_
  rintro e w2 ⟨v2, rfl, o2, g2⟩
  have b2 := o2.block
  have n1 := hide (o1.grew g2)
  have n2 := hide o2
  have G2 := hide (g1.trans g2)
  have B1 := hide b1
  have B2 := hide b2
  have Z1 := hide g1.size
  clear o1 o2 b1 b2 g1 g2
  go_wp2_with fail
  refine (eqIntS_v _ (unhide n2).num (unhide n1).num (by simp) (by simp)).mono ?_
  rintro e w3 ⟨rfl, g3⟩
  rw [decide_eq_true rfl]
  have n1 := hide ((unhide n1).grew g3)
  have n2 := hide ((unhide n2).grew g3)
  have G3 := hide ((unhide G2).trans g3)
  clear g3 G2
  go_wp2_with fail
  refine (markN_v 1 _ (unhide n2).ans (by simp) (by omega) (by omega)).mono ?_
  rintro e w4 ⟨rfl, n4, q4, f4, _⟩
  have G4 := hide (f4 w (unhide G3) (fun b hb => by have := (unhide B2 b hb).1; have := unhide Z1; omega))
  have n1 := hide ((unhide n1).kept (w' := w4) (fun g _ _ hg => q4 g (fun h => by have := (unhide B1 g hg).2; have := (unhide B2 g h).1; omega)))
  have n4 := hide n4
  clear q4 f4 n2 G3 B1 B2 Z1
  simp only [List.length_cons, List.length_nil, Nat.zero_add, Nat.reduceAdd] at n4 ⊢
  go_wp2_with fail
  refine (heldN_v (l := []) 3 1 _ (unhide n4).num (by omega) (by omega) (by omega)).mono ?_
  rintro e w5 ⟨rfl, g5⟩
  have n1 := hide ((unhide n1).grew g5)
  have n5 := hide ((unhide n4).grew g5)
  have G5 := hide ((unhide G4).trans g5)
  clear n4 G4 g5
  go_wp2_with fail
  refine (implBookNew _).mono ?_
  rintro e w6 ⟨v6, rfl, o6, g6⟩
  have n1 := hide ((unhide n1).grew g6)
  have n5 := hide ((unhide n5).grew g6)
  have n6 := hide o6
  have G6 := hide ((unhide G5).trans g6)
  clear G5 g6 o6
  go_wp2_with fail
  refine (eqIntS_v _ (unhide n6).num (unhide n1).num (by simp) (by simp)).mono ?_
  rintro e w7 ⟨rfl, g7⟩
  rw [decide_eq_true rfl]
  have n5 := hide ((unhide n5).grew g7)
  have G7 := hide ((unhide G6).trans g7)
  clear G6 g7
  go_wp2_with fail
  refine (heldN_v (l := []) 3 1 _ (unhide n5).num (by omega) (by omega) (by omega)).mono ?_
  rintro e w8 ⟨rfl, g8⟩
  have G8 := hide ((unhide G7).trans g8)
  clear G7 g8
  go_wp2
  go_ret
  exact ⟨rfl, unhide G8⟩

set_option maxRecDepth 100000 in
theorem lifted (os : Os) (started : os.Started) (H : Type) (enc : TypeId × Value → H) :
    ReturnsInHanded {} Try.checked os 10 .any (Rows.fnExactBookNewSpec.pre6 enc Try.prog Try.f10 Rows.fnExactBookNewRow.domain false) (Rows.fnExactBookNewSpec.post enc Try.prog Try.f10 false true false false) := by
  refine returnsInHanded_of_change (C := Try.checked) own started (by kernel_rfl) Try.func10
    (ChangeSpec.witness6 (enc := enc) (C := Try.checked) false ⟨#[], #[], []⟩ 8 (by kernel_rfl) (by kernel_rfl) (by kernel_rfl) (by kernel_rfl)) ?_
  intro W base args ds gs before hval0 hW hcnd _
  have hval : ∀ (j : Nat) t v, Try.f10.params[j]? = some t → args[j]? = some v → Value.okWide Try.prog W .any base t v := hval0
  have hW' := hW
  obtain ⟨p, q, hA0, hV, rfl, hfz, hnd⟩ := hW
  have hA : DataW.TrodAll enc Try.prog W 0 (fun _ => true) true Try.f10.params.toList args.toList ds p := hA0
  rw [Try.params10] at hA hval
  obtain ⟨hargs, rfl, rfl⟩ := trodAll_nil hA
  obtain rfl : args = #[] := by cases args; simp_all
  obtain ⟨rfl, rfl⟩ := trodVars_none hV
  clear hA0 hval0
  refine (walk  W ).mono fun e W' ⟨he, bel⟩ => ?_
  subst he
  exact ⟨_, rfl, _, _, _, [], _, [], hW', trodAll_mk1 (shut_bool Try.underlying4 _), trodAll_mk0, rfl, bel.below.frame _, fun h => by cases h⟩

theorem over : Rows.fnExactBookNewRow.holds Try.pinned (OpenSpec.ofChange Rows.fnExactBookNewSpec) :=
  OpenClaim.holds_of_wide 10 Try.f10 rfl rfl rfl rfl rfl rfl rfl ⟨rfl, rfl, rfl, rfl, rfl⟩ rfl rfl rfl rfl rfl (by kernel_rfl) Try.func10 (by kernel_rfl)
    (of_decide_eq_true (by kernel_rfl)) (by unfold Func.isWrapper; first | (rw [if_pos (by decide +kernel)]; kernel_rfl) | (rw [if_neg (by decide +kernel)]; exact ⟨rfl, rfl⟩))
    (fun os started H enc _ => lifted os started H enc)
end Go.Proofs.Ytnoiammgpdlljaa.FnExactBookNew
namespace Go.Proofs.Ytnoiammgpdlljaa
theorem fnExactBookNew_holds : Rows.FnExactBookNewSaid := FnExactBookNew.over
#print axioms fnExactBookNew_holds
end Go.Proofs.Ytnoiammgpdlljaa
