/-
  FnExactTreeFinal returns true at every row of votes and leaves its argument as it was: what the statement says; no condition.
-/
import Derived.Test.YtjcnbacbnfmkjaaVOpen
import Derived.Test.YtjcnbacbnfmkjaaTKeep
import Derived.Test.YtjcnbacbnfmkjaaTSpec7
import Derived.Lib.SmallJoins
import Derived.JoinedOf
import Derived.JoinedAt
import Derived.RowKit3
namespace Go.Proofs.Ytjcnbacbnfmkjaa.FnExactTreeFinal
set_option linter.unusedVariables false
open Go.ChangeShapes Go.WideShapes Go.ChangeAt Go.RowKit Go.Joins

set_option maxHeartbeats 4000000 in
theorem walk (a : Option Addr) (cap : Nat) (l : List Vt) (w : World) (hl : Vts w a l) (hn : l.length ≤ maxLen) (hm : ∀ x ∈ l, x.c.length ≤ maxLen) :
    Calls Try.prog 5 #[.slice a l.length cap] w fun e w' => e = .returned (.bool true) ∧ Grew w w' := by
  have hz := szVoteS_any a cap l 1048576 w hl (by omega) (by omega) (by unfold maxLen at hn; omega) (fun x hx => by have := hm x hx; unfold maxLen at this; omega)
  have HZ := hide hz
  have HL := hide hl
  clear hz hm hl hn
  by_cases ht : (1048576 : Int) < totV l
  · have hx := szR_neg ht
    go_enter Try.func5, Try.ntmps5
    go_wp2_with fail
    refine (unhide HZ).mono ?_
    rw [hx]
    rintro e w0 ⟨rfl, g0⟩
    clear hx
    go_wp2
    go_ret
    exact ⟨rfl, g0⟩
  · have ht' : totV l ≤ 1048576 := by omega
    have hnn : ¬ szR 1048576 (totV l) < 0 := by rw [szR_pos ht]; omega
    have hs := hide (totV_short ht')
    have hcn := hide (cntV_le_of ht')
    have hn := totV_len ht'
    obtain ⟨lc, hlcc⟩ : ∃ lc, finalL l = lc := ⟨_, rfl⟩
    have hlc : lc.length ≤ 1048576 := by rw [← hlcc]; exact finalL_short (totV_short ht')
    have HC := hide hlcc
    clear hlcc
    go_enter Try.func5, Try.ntmps5
    go_wp2_with fail
    refine (unhide HZ).mono ?_
    rintro e w0 ⟨rfl, g0⟩
    go_wp2_with fail
    refine (toVoteS_any a cap l _ ((unhide HL).grew g0) (unhide hs) hn).mono ?_
    rintro e w1 ⟨v1, hs1, rfl, o1, g1⟩
    have G1 := hide (g0.trans g1)
    clear g0 g1
    go_wp2_with fail
    obtain ⟨gv, cv, rfl, hcv, _, _⟩ := o1.shape
    refine (specTreeFinal _ cv l w1 o1.vts hcv o1.room (unhide hs) hn).mono ?_
    rintro e w2 ⟨v2, rfl, hv2, g2⟩
    rw [unhide HC] at hv2
    obtain ⟨sa, scap, rfl, _, is2⟩ := hv2
    have IS := hide is2
    have G2 := hide ((unhide G1).trans g2)
    clear g2 G1 o1 is2
    go_wp2_with fail
    refine (toVoteS_any a cap l _ ((unhide HL).grew (unhide G2)) (unhide hs) hn).mono ?_
    rintro e w3 ⟨v3, hs3, rfl, o3, g3⟩
    have O3 := hide o3
    have LX := hide (VAns.low (.inr o3))
    have G23 := hide g3
    clear o3 g3
    go_wp2_with fail
    refine (implTreeFinal_v _ (unhide O3).vtsV (unhide hs) hn).mono ?_
    rintro e w4 ⟨vg, rfl, hg4, g4⟩
    rw [unhide HC] at hg4
    obtain ⟨x, cx, rfl, ix, ox⟩ := hg4.form
    have IX := hide ix
    have OX := hide ox
    have LO := hide ox.low
    have S4 := hide g4
    clear g4 hg4 ix ox
    go_wp2_with fail
    refine (eqItemS_any _ _ _ _ lc lc _ (unhide IX) ((unhide IS).grew ((unhide G23).trans (unhide S4))) hlc hlc).mono ?_
    rintro e w5 ⟨rfl, g5⟩
    rw [(sameB_iff lc lc).2 rfl]
    have S5 := hide g5
    clear g5
    go_wp2_with fail
    refine (toVoteS_any a cap l _ ((unhide HL).grew ((((unhide G2).trans (unhide G23)).trans (unhide S4)).trans (unhide S5))) (unhide hs) hn).mono ?_
    rintro e w6 ⟨v6, hs6, rfl, o6, g6⟩
    have O6 := hide o6
    have S6 := hide g6
    clear o6 g6
    go_wp2_with fail
    refine (eqVoteS_v _ ((unhide O3).grew (((unhide S4).trans (unhide S5)).trans (unhide S6))).vtsV (unhide O6).vtsV (unhide hs) (unhide hs) (by omega) (by omega)).mono ?_
    rintro e w7 ⟨rfl, g7⟩
    rw [(sameVs_iff l l).2 rfl]
    have S7 := hide g7
    have G37 := hide ((((unhide S4).trans (unhide S5)).trans (unhide S6)).trans g7)
    have G47 := hide (((unhide S5).trans (unhide S6)).trans g7)
    clear g7 O6 S5 S6 S7
    go_wp2_with fail
    refine (markV_v 1 _ (.inr ((unhide O3).grew (unhide G37))) (unhide hcn) (by omega) (by omega)).mono ?_
    rintro e w8 ⟨rfl, _, q8⟩
    have Q8 := hide q8
    have z23 := hide (unhide G23).size
    have z2 := hide (unhide G2).size
    have G28 := hide (q8.from ((unhide G23).trans (unhide G37)) (fun b hb => (unhide LX b hb).1))
    have IS8 := hide ((unhide IS).grew (unhide G28))
    have IX8 := hide (q8.its ((unhide IX).grew (unhide G47)) (fun _ y hy hm => by have := (unhide LX _ hm).2; have := unhide LO y hy; omega))
    have OX8 := hide (((unhide OX).grew (unhide G47)).wrote q8 (fun b hb => (unhide LX b hb).2))
    have hk0 : decide ((1 : Int) + cntV l < 0) = false := by simp; omega
    have hk1 : decide (1 + 4 * (lc.length : Int) < 0) = false := by simp; omega
    have hk2 : ((1 + 4 * (lc.length : Int)) < 0) = False := by simp; omega
    clear q8 IX OX O3 LX G37 G47
    go_wp2_with fail
    refine (eqItemS_any _ _ _ _ lc lc _ (unhide IX8) (unhide IS8) hlc hlc).mono ?_
    rintro e w9 ⟨rfl, g9⟩
    rw [(sameB_iff lc lc).2 rfl]
    have G29 := hide ((unhide G28).trans g9)
    have OX9 := hide ((unhide OX8).grew g9)
    clear g9 IX8 OX8
    go_wp2_with fail
    refine (mark_x x lc.length _ 1 _ (unhide OX9).plain hlc (by omega) (by omega)).mono ?_
    rintro e w10 ⟨rfl, im, q10⟩
    have IM := hide im
    have G210 := hide (q10.from (unhide G29) (fun y hy => by have := unhide LO y hy; have := unhide z23; omega))
    clear im q10 OX9 IS8 G28 G29
    go_wp2_with fail
    refine (held_any x lc.length _ 1 _ (unhide IM) hlc (by omega) (by omega)).mono ?_
    rintro e w11 ⟨rfl, g11⟩
    have G211 := hide ((unhide G210).trans g11)
    have IM := hide ((unhide IM).grew g11)
    clear g11 G210
    go_wp2_with fail
    refine (toVoteS_any a cap l _ ((unhide HL).grew ((unhide G2).trans (unhide G211))) (unhide hs) hn).mono ?_
    rintro e w12 ⟨v12, hs12, rfl, o12, g12⟩
    have O12 := hide o12
    have G212 := hide ((unhide G211).trans g12)
    have IM := hide ((unhide IM).grew g12)
    clear o12 g12 G211
    go_wp2_with fail
    refine (implTreeFinal_v _ (unhide O12).vtsV (unhide hs) hn).mono ?_
    rintro e w13 ⟨vh, rfl, hg13, g13⟩
    rw [unhide HC] at hg13
    obtain ⟨y, cy, rfl, iy, _⟩ := hg13.form
    have IY := hide iy
    have G213 := hide ((unhide G212).trans g13)
    have IM := hide ((unhide IM).grew g13)
    clear hg13 iy g13 G212
    go_wp2_with fail
    refine (eqItemS_any _ _ _ _ lc lc _ (unhide IY) ((unhide IS).grew (unhide G213)) hlc hlc).mono ?_
    rintro e w14 ⟨rfl, g14⟩
    rw [(sameB_iff lc lc).2 rfl]
    have G214 := hide ((unhide G213).trans g14)
    have IM := hide ((unhide IM).grew g14)
    clear g14 G213
    go_wp2_with fail
    refine (held_any x lc.length _ 1 _ (unhide IM) hlc (by omega) (by omega)).mono ?_
    rintro e w15 ⟨rfl, g15⟩
    go_wp2
    go_ret
    exact ⟨rfl, (unhide G2).trans ((unhide G214).trans g15)⟩

set_option maxRecDepth 100000 in
theorem lifted (os : Os) (started : os.Started) (H : Type) (enc : TypeId × Value → H) :
    ReturnsInHanded {} Try.checked os 5 .any (Rows.fnExactTreeFinalSpec.pre6 enc Try.prog Try.f5 Rows.fnExactTreeFinalRow.domain false) (Rows.fnExactTreeFinalSpec.post enc Try.prog Try.f5 false true false false) := by
  refine returnsInHanded_of_change (C := Try.checked) own started (by kernel_rfl) Try.func5
    (ChangeSpec.witness6 (enc := enc) (C := Try.checked) false ⟨#[], #[.slice none 0 0], []⟩ 8 (by kernel_rfl) (by kernel_rfl) (by kernel_rfl) (by kernel_rfl)) ?_
  intro W base args ds gs before hval0 hW hcnd _
  have hval : ∀ (j : Nat) t v, Try.f5.params[j]? = some t → args[j]? = some v → Value.okWide Try.prog W .any base t v := hval0
  have hW' := hW
  obtain ⟨p, q, hA0, hV, rfl, hfz, hnd⟩ := hW
  have hA : DataW.TrodAll enc Try.prog W 0 (fun _ => true) true Try.f5.params.toList args.toList ds p := hA0
  rw [Try.params5] at hA hval
  obtain ⟨v0, vs0, d0, ds0, p0, q0, hargs, rfl, rfl, h0, r0⟩ := trodAll_cons hA
  obtain ⟨rfl, rfl, rfl⟩ := trodAll_nil r0
  obtain rfl : args = #[v0] := by cases args; simp_all
  obtain ⟨rfl, rfl⟩ := trodVars_none hV
  have k0 := h0
  have lt0 : ∀ x ∈ p0, x.block < W.heap.size := by obtain ⟨m, hm⟩ := k0; exact DataW.trod_lt m _ _ _ hm
  obtain ⟨x0, y0, z0, rfl⟩ := okWide_slice Try.underlying22 (hval 0 22 v0 rfl rfl)
  obtain ⟨fuel0, hf0⟩ := h0
  obtain ⟨a0, cap0, l0, hv0, hl0, hn0, hm0⟩ := open_votes hf0
  simp [Value.cells] at hv0
  obtain ⟨rfl, rfl, rfl⟩ := hv0
  clear hA0 hval0
  refine (walk x0 z0 l0 W hl0 hn0 hm0).mono fun e W' ⟨he, bel⟩ => ?_
  subst he
  exact ⟨_, rfl, _, _, _, [], _, [], hW', trodAll_mk1 (shut_bool Try.underlying4 _), (trodAll_cons_mk (Below.trod laidOut (by kernel_rfl) (of_decide_eq_true (by kernel_rfl)) k0 bel.below lt0) trodAll_mk0), rfl, bel.below.frame _, fun h => by cases h⟩

theorem over : Rows.fnExactTreeFinalRow.holds Try.pinned (OpenSpec.ofChange Rows.fnExactTreeFinalSpec) :=
  OpenClaim.holds_of_wide 5 Try.f5 rfl rfl rfl rfl rfl rfl rfl ⟨rfl, rfl, rfl, rfl, rfl⟩ rfl rfl rfl rfl rfl (by kernel_rfl) Try.func5 (by kernel_rfl)
    (of_decide_eq_true (by kernel_rfl)) (by unfold Func.isWrapper; first | (rw [if_pos (by decide +kernel)]; kernel_rfl) | (rw [if_neg (by decide +kernel)]; exact ⟨rfl, rfl⟩))
    (fun os started H enc _ => lifted os started H enc)
end Go.Proofs.Ytjcnbacbnfmkjaa.FnExactTreeFinal
namespace Go.Proofs.Ytjcnbacbnfmkjaa
theorem fnExactTreeFinal_holds : Rows.FnExactTreeFinalSaid := FnExactTreeFinal.over
#print axioms fnExactTreeFinal_holds
end Go.Proofs.Ytjcnbacbnfmkjaa
