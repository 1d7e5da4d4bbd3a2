/-
  FnExactTreeSure returns true at every row of votes and every chain and leaves its arguments as they were: what the statement says; no condition.
-/
import Derived.Test.YtibhfiamibccnacVOpen
import Derived.Test.YtibhfiamibccnacTForms
import Derived.Test.YtibhfiamibccnacHeld
import Derived.Lib.SmallJoins
import Derived.JoinedOf
import Derived.JoinedAt
import Derived.RowKit3
namespace Go.Proofs.Ytibhfiamibccnac.FnExactTreeSure
set_option linter.unusedVariables false
open Go.ChangeShapes Go.WideShapes Go.ChangeAt Go.RowKit Go.Joins

set_option maxHeartbeats 4000000 in
theorem walk (a : Option Addr) (cap : Nat) (l : List Vt) (b : Option Addr) (cb : Nat) (c : List It) (w : World) (hl : Vts w a l) (hn : l.length ≤ maxLen) (hm : ∀ x ∈ l, x.c.length ≤ maxLen) (hc : Its w b c) (hnc : c.length ≤ maxLen) :
    Calls Try.prog 4 #[.slice a l.length cap, .slice b c.length cb] w fun e w' => e = .returned (.bool true) ∧ Grew w w' := by
  have hz := szVoteS_any a cap l 1048576 w hl (by omega) (by omega) (by unfold maxLen at hn; omega) (fun x hx => by have := hm x hx; unfold maxLen at this; omega)
  have HZ := hide hz
  have HL := hide hl
  have HC := hide hc
  have hnc' : c.length ≤ 9223372036854775807 := by unfold maxLen at hnc; omega
  clear hz hm hl hn hc hnc
  by_cases ht : (1048576 : Int) < totV l
  · have hx := szR_neg ht
    go_enter Try.func4, Try.ntmps4
    go_wp2_with fail
    refine (unhide HZ).mono ?_
    rw [hx]
    rintro e w0 ⟨rfl, g0⟩
    clear hx
    go_wp2
    go_ret
    exact ⟨rfl, g0⟩
  · have ht' : totV l ≤ 1048576 := by omega
    have hnn : ¬ szR 1048576 (totV l) < 0 := by rw [szR_pos ht]; omega
    have hsz : szR 1048576 (totV l) = 1048576 - totV l := szR_pos ht
    by_cases ht2 : (1048576 : Int) - totV l < c.length
    · have hz2 := fun w => szItemS_any b cb c.length (1048576 - totV l) w (by omega) (by omega) hnc'
      simp only [if_pos ht2] at hz2
      have HZ2 := hide hz2
      clear hz2
      go_enter Try.func4, Try.ntmps4
      go_wp2_with fail
      refine (unhide HZ).mono ?_
      rintro e w0 ⟨rfl, g0⟩
      rw [hsz]
      rw [hsz] at hnn
      clear hsz
      go_wp2_with fail
      refine (unhide HZ2 _).mono ?_
      rintro e w1 ⟨rfl, rfl⟩
      go_wp2
      go_ret
      exact ⟨rfl, g0⟩
    · have hz2 := fun w => szItemS_any b cb c.length (1048576 - totV l) w (by omega) (by omega) hnc'
      simp only [if_neg ht2] at hz2
      have HZ2 := hide hz2
      clear hz2
      have hnn2 : ¬ (1048576 : Int) - totV l - c.length < 0 := by omega
      have hs := hide (totV_short ht')
      have hn := totV_len ht'
      have hn2 : c.length ≤ 1048576 := by omega
      go_enter Try.func4, Try.ntmps4
      go_wp2_with fail
      refine (unhide HZ).mono ?_
      rintro e w0 ⟨rfl, g0⟩
      rw [hsz]
      rw [hsz] at hnn
      clear hsz
      go_wp2_with fail
      refine (unhide HZ2 _).mono ?_
      rintro e w0' ⟨rfl, rfl⟩
      have F := hide g0
      clear g0
      go_wp2_with fail
      refine (toVoteS_any a cap l _ ((unhide HL).grew (unhide F)) (unhide hs) hn).mono ?_
      rintro e w2 ⟨v1, hs1, rfl, o1, gg⟩
      have F := hide ((unhide F).trans gg)
      have O1 := hide o1
      clear gg o1
      go_wp2_with fail
      refine (toItemS_any b cb c _ ((unhide HC).grew (unhide F)) hn2).mono ?_
      rintro e w3 ⟨rfl, gg, i2, _⟩
      have F := hide ((unhide F).trans gg)
      have O1 := hide ((unhide O1).grew gg)
      have I2 := hide i2
      clear gg i2
      go_wp2_with fail
      refine (specTreeSure_v _ _ c _ (unhide O1).vtsV (unhide hs) hn (unhide I2) (Nat.le_refl _) hn2).mono ?_
      rintro e w4 ⟨rfl, gg⟩
      have F := hide ((unhide F).trans gg)
      clear gg O1 I2
      go_wp2_with fail
      refine (toVoteS_any a cap l _ ((unhide HL).grew (unhide F)) (unhide hs) hn).mono ?_
      rintro e w5 ⟨v4, hs4, rfl, o4, gg⟩
      have F := hide ((unhide F).trans gg)
      have X0 := hide o4
      clear gg o4
      go_wp2_with fail
      refine (toItemS_any b cb c _ ((unhide HC).grew (unhide F)) hn2).mono ?_
      rintro e w6 ⟨rfl, gg, i5, _⟩
      have F := hide ((unhide F).trans gg)
      have X0 := hide ((unhide X0).grew gg)
      have X1 := hide i5
      clear gg i5
      go_wp2_with fail
      refine (implTreeSure_v _ _ c _ (unhide X0).vtsV (unhide hs) hn (unhide X1) hn2).mono ?_
      rintro e w7 ⟨rfl, gg⟩
      have F := hide ((unhide F).trans gg)
      have X0 := hide ((unhide X0).grew gg)
      have X1 := hide ((unhide X1).grew gg)
      clear gg
      cases hok : sureL l c
      all_goals
        go_wp2_with fail
        refine (toVoteS_any a cap l _ ((unhide HL).grew (unhide F)) (unhide hs) hn).mono ?_
        rintro e w9 ⟨v8, hs8, rfl, o8, gg⟩
        have F := hide ((unhide F).trans gg)
        have X0 := hide ((unhide X0).grew gg)
        have X1 := hide ((unhide X1).grew gg)
        have O8 := hide o8
        clear gg o8
        go_wp2_with fail
        refine (eqVoteS_v _ (unhide X0).vtsV (unhide O8).vtsV (unhide hs) (unhide hs) (by omega) (by omega)).mono ?_
        rintro e w10 ⟨rfl, gg⟩
        rw [(sameVs_iff l l).2 rfl]
        have F := hide ((unhide F).trans gg)
        have X1 := hide ((unhide X1).grew gg)
        clear gg
        go_wp2_with fail
        refine (toItemS_any b cb c _ ((unhide HC).grew (unhide F)) hn2).mono ?_
        rintro e w11 ⟨rfl, gg, i10, _⟩
        have F := hide ((unhide F).trans gg)
        have X1 := hide ((unhide X1).grew gg)
        have I10 := hide i10
        clear gg i10
        go_wp2_with fail
        refine (eqItemS_any _ _ _ _ c c _ (unhide X1) (unhide I10) hn2 hn2).mono ?_
        rintro e w12 ⟨rfl, gg⟩
        rw [(sameB_iff c c).2 rfl]
        have F := hide ((unhide F).trans gg)
        clear gg
        go_wp2
        go_ret
        exact ⟨rfl, unhide F⟩

set_option maxRecDepth 100000 in
theorem lifted (os : Os) (started : os.Started) (H : Type) (enc : TypeId × Value → H) :
    ReturnsInHanded {} Try.checked os 4 .any (Rows.fnExactTreeSureSpec.pre6 enc Try.prog Try.f4 Rows.fnExactTreeSureRow.domain false) (Rows.fnExactTreeSureSpec.post enc Try.prog Try.f4 false true false false) := by
  refine returnsInHanded_of_change (C := Try.checked) own started (by kernel_rfl) Try.func4
    (ChangeSpec.witness6 (enc := enc) (C := Try.checked) false ⟨#[], #[.slice none 0 0, .slice none 0 0], []⟩ 8 (by kernel_rfl) (by kernel_rfl) (by kernel_rfl) (by kernel_rfl)) ?_
  intro W base args ds gs before hval0 hW hcnd _
  have hval : ∀ (j : Nat) t v, Try.f4.params[j]? = some t → args[j]? = some v → Value.okWide Try.prog W .any base t v := hval0
  have hW' := hW
  obtain ⟨p, q, hA0, hV, rfl, hfz, hnd⟩ := hW
  have hA : DataW.TrodAll enc Try.prog W 0 (fun _ => true) true Try.f4.params.toList args.toList ds p := hA0
  rw [Try.params4] at hA hval
  obtain ⟨v0, vs0, d0, ds0, p0, q0, hargs, rfl, rfl, h0, r0⟩ := trodAll_cons hA
  obtain ⟨v1, vs1, d1, ds1, p1, q1, rfl, rfl, rfl, h1, r1⟩ := trodAll_cons r0
  obtain ⟨rfl, rfl, rfl⟩ := trodAll_nil r1
  obtain rfl : args = #[v0, v1] := by cases args; simp_all
  obtain ⟨rfl, rfl⟩ := trodVars_none hV
  have k0 := h0
  have lt0 : ∀ x ∈ p0, x.block < W.heap.size := by obtain ⟨m, hm⟩ := k0; exact DataW.trod_lt m _ _ _ hm
  obtain ⟨x0, y0, z0, rfl⟩ := okWide_slice Try.underlying34 (hval 0 34 v0 rfl rfl)
  obtain ⟨fuel0, hf0⟩ := h0
  obtain ⟨a0, cap0, l0, hv0, hl0, hn0, hm0⟩ := open_votes hf0
  simp [Value.cells] at hv0
  obtain ⟨rfl, rfl, rfl⟩ := hv0
  have k1 := h1
  have lt1 : ∀ x ∈ p1, x.block < W.heap.size := by obtain ⟨m, hm⟩ := k1; exact DataW.trod_lt m _ _ _ hm
  obtain ⟨x1, y1, z1, rfl⟩ := okWide_slice Try.underlying35 (hval 1 35 v1 rfl rfl)
  obtain ⟨fuel1, hf1⟩ := h1
  obtain ⟨a1, cap1, l1, hv1, hl1, hn1⟩ := open_items hf1
  simp [Value.cells] at hv1
  obtain ⟨rfl, rfl, rfl⟩ := hv1
  clear hA0 hval0
  refine (walk x0 z0 l0 x1 z1 l1 W hl0 hn0 hm0 hl1 hn1).mono fun e W' ⟨he, bel⟩ => ?_
  subst he
  exact ⟨_, rfl, _, _, _, [], _, [], hW', trodAll_mk1 (shut_bool Try.underlying4 _), (trodAll_cons_mk (Below.trod laidOut (by kernel_rfl) (of_decide_eq_true (by kernel_rfl)) k0 bel.below lt0) (trodAll_cons_mk (Below.trod laidOut (by kernel_rfl) (of_decide_eq_true (by kernel_rfl)) k1 bel.below lt1) trodAll_mk0)), rfl, bel.below.frame _, fun h => by cases h⟩

theorem over : Rows.fnExactTreeSureRow.holds Try.pinned (OpenSpec.ofChange Rows.fnExactTreeSureSpec) :=
  OpenClaim.holds_of_wide 4 Try.f4 rfl rfl rfl rfl rfl rfl rfl ⟨rfl, rfl, rfl, rfl, rfl⟩ rfl rfl rfl rfl rfl (by kernel_rfl) Try.func4 (by kernel_rfl)
    (of_decide_eq_true (by kernel_rfl)) (by unfold Func.isWrapper; first | (rw [if_pos (by decide +kernel)]; kernel_rfl) | (rw [if_neg (by decide +kernel)]; exact ⟨rfl, rfl⟩))
    (fun os started H enc _ => lifted os started H enc)
end Go.Proofs.Ytibhfiamibccnac.FnExactTreeSure
namespace Go.Proofs.Ytibhfiamibccnac
theorem fnExactTreeSure_holds : Rows.FnExactTreeSureSaid := FnExactTreeSure.over
#print axioms fnExactTreeSure_holds
end Go.Proofs.Ytibhfiamibccnac
