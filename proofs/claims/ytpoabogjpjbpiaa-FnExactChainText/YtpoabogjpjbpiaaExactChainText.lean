/-
  FnExactChainText returns true at every row of items and leaves its argument as it was: what the statement says; no condition.
-/
import Derived.Test.YtpoabogjpjbpiaaOpen
import Derived.Test.YtpoabogjpjbpiaaText2
namespace Go.Proofs.Ytpoabogjpjbpiaa.FnExactChainText
set_option linter.unusedVariables false
open Go.ChangeShapes Go.WideShapes Go.ChangeAt Go.RowKit

set_option maxHeartbeats 1000000 in
theorem walk (a : Option Addr) (cap : Nat) (l : List It) (w : World) (hl : Its w a l) (hn : l.length ≤ maxLen) : Calls Try.prog 11 #[.slice a l.length cap] w fun e w' => e = .returned (.bool true) ∧ Grew w w' := by
  unfold maxLen at hn
  by_cases hs : l.length ≤ 1048576
  · have hz := szItemS_any a cap l.length 1048576 w (by omega) (by omega) (by omega)
    rw [if_neg (by omega)] at hz
    have HZ := hide hz
    clear hz
    have hnn : ¬ ((1048576 : Int) - l.length < 0) := by omega
    go_enter Try.func11, Try.ntmps11
    go_wp2_with fail
    refine (unhide HZ).mono ?_
    rintro e w0 ⟨rfl, rfl⟩
    go_wp2_with fail
    refine (toItemS_any a cap l _ hl hs).mono ?_
    rintro e w1 ⟨rfl, g1, i1, o1⟩
    go_wp2_with fail
    refine (specChainText _ _ l _ i1 hs).mono ?_
    rintro e w2 ⟨rfl, g2⟩
    obtain ⟨T, hT⟩ : ∃ T, (if okB l = true then textB l else ⟨#[]⟩) = T := ⟨_, rfl⟩
    rw [hT]
    have HT := hide hT
    clear hT
    go_wp2_with fail
    refine (toItemS_any a cap l _ (hl.grew (g1.trans g2)) hs).mono ?_
    rintro e w3 ⟨rfl, g3, i3, o3⟩
    go_wp2_with fail
    refine (implChainText _ _ l _ i3 hs).mono ?_
    rintro e w4 ⟨rfl, g4⟩
    rw [unhide HT]
    go_wp2_with fail
    refine (toItemS_any a cap l _ (hl.grew (((g1.trans g2).trans g3).trans g4)) hs).mono ?_
    rintro e w5 ⟨rfl, g5, i5, o5⟩
    go_wp2_with fail
    refine (eqItemS_any _ _ _ _ l l _ (i3.grew (g4.trans g5)) i5 hs hs).mono ?_
    rintro e w6 ⟨rfl, g6⟩
    rw [(sameB_iff l l).2 rfl]
    go_wp2
    go_ret
    exact ⟨rfl, ((((g1.trans g2).trans g3).trans g4).trans g5).trans g6⟩
  · have hz := szItemS_any a cap l.length 1048576 w (by omega) (by omega) (by omega)
    rw [if_pos (by omega)] at hz
    have HZ := hide hz
    clear hz
    go_enter Try.func11, Try.ntmps11
    go_wp2_with fail
    refine (unhide HZ).mono ?_
    rintro e w0 ⟨rfl, rfl⟩
    go_wp2
    go_ret
    exact ⟨rfl, Grew.refl _⟩

set_option maxRecDepth 100000 in
theorem lifted (os : Os) (started : os.Started) (H : Type) (enc : TypeId × Value → H) :
    ReturnsInHanded {} Try.checked os 11 .any (Rows.fnExactChainTextSpec.pre6 enc Try.prog Try.f11 Rows.fnExactChainTextRow.domain false) (Rows.fnExactChainTextSpec.post enc Try.prog Try.f11 false true false false) := by
  refine returnsInHanded_of_change (C := Try.checked) own started (by kernel_rfl) Try.func11
    (ChangeSpec.witness6 (enc := enc) (C := Try.checked) false ⟨#[], #[.slice none 0 0], []⟩ 8 (by kernel_rfl) (by kernel_rfl) (by kernel_rfl) (by kernel_rfl)) ?_
  intro W base args ds gs before hval0 hW hcnd _
  have hval : ∀ (j : Nat) t v, Try.f11.params[j]? = some t → args[j]? = some v → Value.okWide Try.prog W .any base t v := hval0
  have hW' := hW
  obtain ⟨p, q, hA0, hV, rfl, hfz, hnd⟩ := hW
  have hA : DataW.TrodAll enc Try.prog W 0 (fun _ => true) true Try.f11.params.toList args.toList ds p := hA0
  rw [Try.params11] at hA hval
  obtain ⟨v0, vs0, d0, ds0, p0, q0, hargs, rfl, rfl, h0, r0⟩ := trodAll_cons hA
  obtain ⟨rfl, rfl, rfl⟩ := trodAll_nil r0
  obtain rfl : args = #[v0] := by cases args; simp_all
  obtain ⟨rfl, rfl⟩ := trodVars_none hV
  have k0 := h0
  have lt0 : ∀ x ∈ p0, x.block < W.heap.size := by obtain ⟨m, hm⟩ := k0; exact DataW.trod_lt m _ _ _ hm
  obtain ⟨x0, y0, z0, rfl⟩ := okWide_slice Try.underlying41 (hval 0 41 v0 rfl rfl)
  obtain ⟨fuel0, hf0⟩ := h0
  obtain ⟨a0, cap0, l0, hv0, hl0, hn0⟩ := open_items hf0
  simp [Value.cells] at hv0
  obtain ⟨rfl, rfl, rfl⟩ := hv0
  clear hA0 hval0
  refine (walk x0 z0 l0 W hl0 hn0).mono fun e W' ⟨he, bel⟩ => ?_
  subst he
  exact ⟨_, rfl, _, _, _, [], _, [], hW', trodAll_mk1 (shut_bool Try.underlying4 _), (trodAll_cons_mk (Below.trod laidOut (by kernel_rfl) (of_decide_eq_true (by kernel_rfl)) k0 bel.below lt0) trodAll_mk0), rfl, bel.below.frame _, fun h => by cases h⟩

theorem over : Rows.fnExactChainTextRow.holds Try.pinned (OpenSpec.ofChange Rows.fnExactChainTextSpec) :=
  OpenClaim.holds_of_wide 11 Try.f11 rfl rfl rfl rfl rfl rfl rfl ⟨rfl, rfl, rfl, rfl, rfl⟩ rfl rfl rfl rfl rfl (by kernel_rfl) Try.func11 (by kernel_rfl)
    (of_decide_eq_true (by kernel_rfl)) (by unfold Func.isWrapper; first | (rw [if_pos (by decide +kernel)]; kernel_rfl) | (rw [if_neg (by decide +kernel)]; exact ⟨rfl, rfl⟩))
    (fun os started H enc _ => lifted os started H enc)
end Go.Proofs.Ytpoabogjpjbpiaa.FnExactChainText
namespace Go.Proofs.Ytpoabogjpjbpiaa
theorem fnExactChainText_holds : Rows.FnExactChainTextSaid := FnExactChainText.over
#print axioms fnExactChainText_holds
end Go.Proofs.Ytpoabogjpjbpiaa
