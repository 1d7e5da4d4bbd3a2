/-
  FnExactBookOk returns true at every row of numbers and leaves its argument as it was: what the statement says; no condition.
-/
import Derived.Test.YtnoiammgpdlljaaOpenN
import Derived.Lib.SmallJoins
import Derived.JoinedOf
import Derived.JoinedAt
import Derived.RowKit3
namespace Go.Proofs.Ytnoiammgpdlljaa.FnExactBookOk
set_option linter.unusedVariables false
open Go.ChangeShapes Go.WideShapes Go.ChangeAt Go.RowKit Go.Joins

set_option maxHeartbeats 1000000 in
theorem walk (a : Option Addr) (cap : Nat) (l : List Int) (w : World) (hl : Ints w a l) (hn : l.length ≤ maxLen) :
    Calls Try.prog 11 #[.slice a l.length cap] w fun e w' => e = .returned (.bool true) ∧ Grew w w' := by
  unfold maxLen at hn
  have HL := hide hl
  clear hl
  by_cases hs : l.length ≤ 1048576
  · have hs1 : decide ((1048576 : Int) < (l.length : Int)) = false := by simp; omega
    go_enter Try.func11, Try.ntmps11
    go_wp2_with fail
    refine (toIntS_any a cap l _ (unhide HL) hs).mono ?_
    rintro e w1 ⟨v1, rfl, o1, g1⟩
    have n1 := hide o1
    have G1 := hide g1
    clear o1 g1
    go_wp2_with fail
    refine (specBookOk_v _ (unhide n1).num hs).mono ?_
    rintro e w2 ⟨rfl, rfl⟩
    cases hb : bokB l
    all_goals
      go_wp2_with fail
      refine (toIntS_any a cap l _ ((unhide HL).grew (unhide G1)) hs).mono ?_
      rintro e w3 ⟨v3, rfl, o3, g3⟩
      have n3 := hide o3
      have G3 := hide ((unhide G1).trans g3)
      clear o3 g3
      go_wp2_with fail
      refine (implBookOk_v _ (unhide n3).num hs).mono ?_
      rw [hb]
      rintro e w4 ⟨rfl, rfl⟩
      go_wp2_with fail
      refine (toIntS_any a cap l _ ((unhide HL).grew (unhide G3)) hs).mono ?_
      rintro e w5 ⟨v5, rfl, o5, g5⟩
      have n3 := hide ((unhide n3).grew g5)
      have n5 := hide o5
      have G5 := hide ((unhide G3).trans g5)
      clear o5 g5
      go_wp2_with fail
      refine (eqIntS_v _ (unhide n3).num (unhide n5).num hs hs).mono ?_
      rintro e w6 ⟨rfl, g6⟩
      rw [decide_eq_true rfl]
      have G6 := hide ((unhide G5).trans g6)
      clear g6
      go_wp2
      go_ret
      exact ⟨rfl, unhide G6⟩
  · have hs1 : decide ((1048576 : Int) < (l.length : Int)) = true := by simp; omega
    clear hs
    go_enter Try.func11, Try.ntmps11
    go_wp2
    go_ret
    exact ⟨rfl, Grew.refl _⟩

set_option maxRecDepth 100000 in
theorem lifted (os : Os) (started : os.Started) (H : Type) (enc : TypeId × Value → H) :
    ReturnsInHanded {} Try.checked os 11 .any (Rows.fnExactBookOkSpec.pre6 enc Try.prog Try.f11 Rows.fnExactBookOkRow.domain false) (Rows.fnExactBookOkSpec.post enc Try.prog Try.f11 false true false false) := by
  refine returnsInHanded_of_change (C := Try.checked) own started (by kernel_rfl) Try.func11
    (ChangeSpec.witness6 (enc := enc) (C := Try.checked) false ⟨#[], #[.slice none 0 0], []⟩ 8 (by kernel_rfl) (by kernel_rfl) (by kernel_rfl) (by kernel_rfl)) ?_
  intro W base args ds gs before hval0 hW hcnd _
  have hval : ∀ (j : Nat) t v, Try.f11.params[j]? = some t → args[j]? = some v → Value.okWide Try.prog W .any base t v := hval0
  have hW' := hW
  obtain ⟨p, q, hA0, hV, rfl, hfz, hnd⟩ := hW
  have hA : DataW.TrodAll enc Try.prog W 0 (fun _ => true) true Try.f11.params.toList args.toList ds p := hA0
  rw [Try.params11] at hA hval
  obtain ⟨v0, vs0, d0, ds0, p0, q0, hargs, rfl, rfl, h0, r0⟩ := trodAll_cons hA
  obtain ⟨rfl, rfl, rfl⟩ := trodAll_nil r0
  obtain rfl : args = #[v0] := by cases args; simp_all
  obtain ⟨rfl, rfl⟩ := trodVars_none hV
  have k0 := h0
  have lt0 : ∀ x ∈ p0, x.block < W.heap.size := by obtain ⟨m, hm⟩ := k0; exact DataW.trod_lt m _ _ _ hm
  obtain ⟨a0, len0, cap0, rfl⟩ := okWide_slice Try.underlying23 (hval 0 23 v0 rfl rfl)
  obtain ⟨fuel0, hf0⟩ := h0
  obtain ⟨l0, rfl, hl0, hn0⟩ := open_nums hf0
  clear hA0 hval0
  refine (walk a0 cap0 l0 W hl0 hn0).mono fun e W' ⟨he, bel⟩ => ?_
  subst he
  exact ⟨_, rfl, _, _, _, [], _, [], hW', trodAll_mk1 (shut_bool Try.underlying4 _), (trodAll_cons_mk (Below.trod laidOut (by kernel_rfl) (of_decide_eq_true (by kernel_rfl)) k0 bel.below lt0) trodAll_mk0), rfl, bel.below.frame _, fun h => by cases h⟩

theorem over : Rows.fnExactBookOkRow.holds Try.pinned (OpenSpec.ofChange Rows.fnExactBookOkSpec) :=
  OpenClaim.holds_of_wide 11 Try.f11 rfl rfl rfl rfl rfl rfl rfl ⟨rfl, rfl, rfl, rfl, rfl⟩ rfl rfl rfl rfl rfl (by kernel_rfl) Try.func11 (by kernel_rfl)
    (of_decide_eq_true (by kernel_rfl)) (by unfold Func.isWrapper; first | (rw [if_pos (by decide +kernel)]; kernel_rfl) | (rw [if_neg (by decide +kernel)]; exact ⟨rfl, rfl⟩))
    (fun os started H enc _ => lifted os started H enc)
end Go.Proofs.Ytnoiammgpdlljaa.FnExactBookOk
namespace Go.Proofs.Ytnoiammgpdlljaa
theorem fnExactBookOk_holds : Rows.FnExactBookOkSaid := FnExactBookOk.over
#print axioms fnExactBookOk_holds
end Go.Proofs.Ytnoiammgpdlljaa
