/-
  FnExactChainIn returns true at every two rows of items and leaves its arguments as they were: what the statement says; no condition.
-/
import Derived.Test.YtpoabogjpjbpiaaOpen
import Derived.Test.YtpoabogjpjbpiaaIn
namespace Go.Proofs.Ytpoabogjpjbpiaa.FnExactChainIn
set_option linter.unusedVariables false
open Go.ChangeShapes Go.WideShapes Go.ChangeAt Go.RowKit

set_option maxHeartbeats 2000000 in
theorem walk (a : Option Addr) (ca : Nat) (l : List It) (b : Option Addr) (cb : Nat) (m : List It) (w : World) (hl : Its w a l) (hn : l.length ≤ maxLen) (hm : Its w b m) (hn' : m.length ≤ maxLen) :
    Calls Try.prog 9 #[.slice a l.length ca, .slice b m.length cb] w fun e w' => e = .returned (.bool true) ∧ Grew w w' := by
  unfold maxLen at hn hn'
  by_cases hs : l.length ≤ 1048576
  · have hz := szItemS_any a ca l.length 1048576 w (by omega) (by omega) (by omega)
    rw [if_neg (by omega)] at hz
    have HZ := hide hz
    clear hz
    have hnn : ¬ ((1048576 : Int) - l.length < 0) := by omega
    by_cases hs2 : l.length + m.length ≤ 1048576
    · have hz2 := szItemS_any b cb m.length (1048576 - l.length) w (by omega) (by omega) (by omega)
      rw [if_neg (by omega)] at hz2
      have HZ2 := hide hz2
      clear hz2
      have hnn2 : ¬ ((1048576 : Int) - l.length - m.length < 0) := by omega
      have hs3 : m.length ≤ 1048576 := by omega
      go_enter Try.func9, Try.ntmps9
      go_wp2_with fail
      refine (unhide HZ).mono ?_
      rintro e w0 ⟨rfl, rfl⟩
      go_wp2_with fail
      refine (unhide HZ2).mono ?_
      rintro e w0 ⟨rfl, rfl⟩
      go_wp2_with fail
      refine (toItemS_any a ca l _ hl hs).mono ?_
      rintro e w1 ⟨rfl, g1, i1, o1⟩
      go_wp2_with fail
      refine (toItemS_any b cb m _ (hm.grew g1) hs3).mono ?_
      rintro e w2 ⟨rfl, g2, i2, o2⟩
      go_wp2_with fail
      refine (specChainIn _ _ _ _ l m _ (i1.grew g2) i2 hs hs3).mono ?_
      rintro e w3 ⟨rfl, g3⟩
      have G3 := (g1.trans g2).trans g3
      go_wp2_with fail
      refine (toItemS_any a ca l _ (hl.grew G3) hs).mono ?_
      rintro e w4 ⟨rfl, g4, i4, o4⟩
      go_wp2_with fail
      refine (toItemS_any b cb m _ (hm.grew (G3.trans g4)) hs3).mono ?_
      rintro e w5 ⟨rfl, g5, i5, o5⟩
      go_wp2_with fail
      refine (implChainIn _ _ _ _ l m _ (i4.grew g5) i5 hs hs3).mono ?_
      rintro e w6 ⟨rfl, g6⟩
      have G6 := ((G3.trans g4).trans g5).trans g6
      cases hok : inC l m
      all_goals
        go_wp2_with fail
        refine (toItemS_any a ca l _ (hl.grew G6) hs).mono ?_
        rintro e w7 ⟨rfl, g7, i7, o7⟩
        go_wp2_with fail
        refine (eqItemS_any _ _ _ _ l l _ (i4.grew ((g5.trans g6).trans g7)) i7 hs hs).mono ?_
        rintro e w8 ⟨rfl, g8⟩
        rw [(sameB_iff l l).2 rfl]
        have G8 := (G6.trans g7).trans g8
        go_wp2_with fail
        refine (toItemS_any b cb m _ (hm.grew G8) hs3).mono ?_
        rintro e w9 ⟨rfl, g9, i9, o9⟩
        go_wp2_with fail
        refine (eqItemS_any _ _ _ _ m m _ (i5.grew (((g6.trans g7).trans g8).trans g9)) i9 hs3 hs3).mono ?_
        rintro e w10 ⟨rfl, g10⟩
        rw [(sameB_iff m m).2 rfl]
        go_wp2
        go_ret
        exact ⟨rfl, (G8.trans g9).trans g10⟩
    · have hz2 := szItemS_any b cb m.length (1048576 - l.length) w (by omega) (by omega) (by omega)
      rw [if_pos (by omega)] at hz2
      have HZ2 := hide hz2
      clear hz2
      go_enter Try.func9, Try.ntmps9
      go_wp2_with fail
      refine (unhide HZ).mono ?_
      rintro e w0 ⟨rfl, rfl⟩
      go_wp2_with fail
      refine (unhide HZ2).mono ?_
      rintro e w0 ⟨rfl, rfl⟩
      go_wp2
      go_ret
      exact ⟨rfl, Grew.refl _⟩
  · have hz := szItemS_any a ca l.length 1048576 w (by omega) (by omega) (by omega)
    rw [if_pos (by omega)] at hz
    have HZ := hide hz
    clear hz
    go_enter Try.func9, Try.ntmps9
    go_wp2_with fail
    refine (unhide HZ).mono ?_
    rintro e w0 ⟨rfl, rfl⟩
    go_wp2
    go_ret
    exact ⟨rfl, Grew.refl _⟩

set_option maxRecDepth 100000 in
theorem lifted (os : Os) (started : os.Started) (H : Type) (enc : TypeId × Value → H) :
    ReturnsInHanded {} Try.checked os 9 .any (Rows.fnExactChainInSpec.pre6 enc Try.prog Try.f9 Rows.fnExactChainInRow.domain false) (Rows.fnExactChainInSpec.post enc Try.prog Try.f9 false true false false) := by
  refine returnsInHanded_of_change (C := Try.checked) own started (by kernel_rfl) Try.func9
    (ChangeSpec.witness6 (enc := enc) (C := Try.checked) false ⟨#[], #[.slice none 0 0, .slice none 0 0], []⟩ 8 (by kernel_rfl) (by kernel_rfl) (by kernel_rfl) (by kernel_rfl)) ?_
  intro W base args ds gs before hval0 hW hcnd _
  have hval : ∀ (j : Nat) t v, Try.f9.params[j]? = some t → args[j]? = some v → Value.okWide Try.prog W .any base t v := hval0
  have hW' := hW
  obtain ⟨p, q, hA0, hV, rfl, hfz, hnd⟩ := hW
  have hA : DataW.TrodAll enc Try.prog W 0 (fun _ => true) true Try.f9.params.toList args.toList ds p := hA0
  rw [Try.params9] at hA hval
  obtain ⟨v0, vs0, d0, ds0, p0, q0, hargs, rfl, rfl, h0, r0⟩ := trodAll_cons hA
  obtain ⟨v1, vs1, d1, ds1, p1, q1, rfl, rfl, rfl, h1, r1⟩ := trodAll_cons r0
  obtain ⟨rfl, rfl, rfl⟩ := trodAll_nil r1
  obtain rfl : args = #[v0, v1] := by cases args; simp_all
  obtain ⟨rfl, rfl⟩ := trodVars_none hV
  have k0 := h0
  have lt0 : ∀ x ∈ p0, x.block < W.heap.size := by obtain ⟨m, hm⟩ := k0; exact DataW.trod_lt m _ _ _ hm
  obtain ⟨x0, y0, z0, rfl⟩ := okWide_slice Try.underlying41 (hval 0 41 v0 rfl rfl)
  obtain ⟨fuel0, hf0⟩ := h0
  obtain ⟨a0, cap0, l0, hv0, hl0, hn0⟩ := open_items hf0
  simp [Value.cells] at hv0
  obtain ⟨rfl, rfl, rfl⟩ := hv0
  have k1 := h1
  have lt1 : ∀ x ∈ p1, x.block < W.heap.size := by obtain ⟨m, hm⟩ := k1; exact DataW.trod_lt m _ _ _ hm
  obtain ⟨x1, y1, z1, rfl⟩ := okWide_slice Try.underlying41 (hval 1 41 v1 rfl rfl)
  obtain ⟨fuel1, hf1⟩ := h1
  obtain ⟨a1, cap1, l1, hv1, hl1, hn1⟩ := open_items hf1
  simp [Value.cells] at hv1
  obtain ⟨rfl, rfl, rfl⟩ := hv1
  clear hA0 hval0
  refine (walk x0 z0 l0 x1 z1 l1 W hl0 hn0 hl1 hn1).mono fun e W' ⟨he, bel⟩ => ?_
  subst he
  exact ⟨_, rfl, _, _, _, [], _, [], hW', trodAll_mk1 (shut_bool Try.underlying4 _), (trodAll_cons_mk (Below.trod laidOut (by kernel_rfl) (of_decide_eq_true (by kernel_rfl)) k0 bel.below lt0) (trodAll_cons_mk (Below.trod laidOut (by kernel_rfl) (of_decide_eq_true (by kernel_rfl)) k1 bel.below lt1) trodAll_mk0)), rfl, bel.below.frame _, fun h => by cases h⟩

theorem over : Rows.fnExactChainInRow.holds Try.pinned (OpenSpec.ofChange Rows.fnExactChainInSpec) :=
  OpenClaim.holds_of_wide 9 Try.f9 rfl rfl rfl rfl rfl rfl rfl ⟨rfl, rfl, rfl, rfl, rfl⟩ rfl rfl rfl rfl rfl (by kernel_rfl) Try.func9 (by kernel_rfl)
    (of_decide_eq_true (by kernel_rfl)) (by unfold Func.isWrapper; first | (rw [if_pos (by decide +kernel)]; kernel_rfl) | (rw [if_neg (by decide +kernel)]; exact ⟨rfl, rfl⟩))
    (fun os started H enc _ => lifted os started H enc)
end Go.Proofs.Ytpoabogjpjbpiaa.FnExactChainIn
namespace Go.Proofs.Ytpoabogjpjbpiaa
theorem fnExactChainIn_holds : Rows.FnExactChainInSaid := FnExactChainIn.over
#print axioms fnExactChainIn_holds
end Go.Proofs.Ytpoabogjpjbpiaa
