/-
  FnExactCertOf returns true at every row of votes and leaves its argument as it was: what the statement says; no condition.
-/
import Derived.Test.YteemihgakcmamaaVOpen
import Derived.Test.YteemihgakcmamaaVForms
import Derived.Test.YteemihgakcmamaaCerS2
import Derived.Lib.SmallJoins
import Derived.JoinedOf
import Derived.JoinedAt
import Derived.RowKit3
namespace Go.Proofs.Yteemihgakcmamaa.FnExactCertOf
set_option linter.unusedVariables false
open Go.ChangeShapes Go.WideShapes Go.ChangeAt Go.RowKit Go.Joins

set_option maxHeartbeats 4000000 in
theorem walk (a : Option Addr) (cap : Nat) (l : List Vt) (w : World) (hl : Vts w a l) (hn : l.length ≤ maxLen) (hm : ∀ x ∈ l, x.c.length ≤ maxLen) :
    Calls Try.prog 4 #[.slice a l.length cap] w fun e w' => e = .returned (.bool true) ∧ Grew w w' := by
  have hz := szVoteS_any a cap l 1048576 w hl (by omega) (by omega) (by unfold maxLen at hn; omega) (fun x hx => by have := hm x hx; unfold maxLen at this; omega)
  have HZ := hide hz
  have HL := hide hl
  clear hz hm hl hn
  by_cases ht : (1048576 : Int) < totV l
  · have hx := szR_neg ht
    go_enter Try.func4, Try.ntmps4
    go_wp2_with fail
    refine (unhide HZ).mono ?_
    rw [hx]
    rintro e w0 ⟨rfl, g0⟩
    clear hx
    go_wp2
    go_ret
    exact ⟨rfl, g0⟩
  · have ht' : totV l ≤ 1048576 := by omega
    have hnn : ¬ szR 1048576 (totV l) < 0 := by rw [szR_pos ht]; omega
    have hs := hide (totV_short ht')
    have hcn := hide (cntV_le_of ht')
    have hn := totV_len ht'
    obtain ⟨hb1, hb2, hb3, hb4⟩ := certL_bound (totV_short ht')
    obtain ⟨X, hX⟩ : ∃ X, (certL l).1 = X := ⟨_, rfl⟩
    obtain ⟨bb, hbb⟩ : ∃ bb, (certL l).2 = bb := ⟨_, rfl⟩
    rw [hX] at hb1 hb2 hb3 hb4
    have HSI : Hid (ShortI X.b) := hide (fun x hx => by have := hb3 x hx; omega)
    have HC := hide (And.intro hX hbb)
    have hb0 : (bb != bb) = false := by cases bb <;> rfl
    clear hX hbb hb3
    go_enter Try.func4, Try.ntmps4
    go_wp2_with fail
    refine (unhide HZ).mono ?_
    rintro e w0 ⟨rfl, g0⟩
    go_wp2_with fail
    refine (toVoteS_any a cap l _ ((unhide HL).grew g0) (unhide hs) hn).mono ?_
    rintro e w1 ⟨v1, hs1, rfl, o1, g1⟩
    have G1 := hide (g0.trans g1)
    clear g0 g1
    go_wp2_with fail
    obtain ⟨gv, cv, rfl, hcv, _, _⟩ := o1.shape
    refine (specCertOf _ cv l w1 o1.vts hcv o1.room (unhide hs) hn).mono ?_
    simp only [unhide HC]
    rintro e w2 ⟨us, vs, rfl, as2, g2⟩
    obtain ⟨ua, un, uc, va, vn, vc, rfl, rfl⟩ := as2.open
    have CS := hide as2.ctV
    have G2 := hide ((unhide G1).trans g2)
    clear g2 G1 o1 as2
    have A2 := hide (CtAt.box w2 (.slice ua un uc) (.slice va vn vc) 31)
    go_wp2_with fail
    refine (toVoteS_any a cap l _ ((unhide HL).grew ((unhide G2).alloc _)) (unhide hs) hn).mono ?_
    rintro e w3 ⟨v3, hs3, rfl, o3, g3⟩
    have O3 := hide o3
    have LX := hide (VAns.low (.inr o3))
    have A3 := hide ((unhide A2).grew g3)
    have S2 : Hid (Grew w2 w3) := hide (((Grew.refl w2).alloc _).trans g3)
    clear o3 g3 A2
    go_wp2_with fail
    refine (implCertOf_v _ (unhide O3).vtsV (unhide hs) hn).mono ?_
    simp only [unhide HC]
    rintro e w4 ⟨ug, vg, rfl, ag4, g4⟩
    obtain ⟨ga, gn, gc, fa, fn, fc, rfl, rfl⟩ := ag4.open
    obtain ⟨bs, ab, hbs⟩ := ag4.blocks
    have HAB := hide ab
    have LB := hide hbs
    have S3 := hide (show Grew w3 w4 from g4)
    clear ag4 ab hbs g4
    have B4 := hide (CtAt.box w4 (.slice ga gn gc) (.slice fa fn fc) 31)
    have S4 : Hid (Grew w4 (w4.alloc (.cells #[.slice ga gn gc, .slice fa fn fc] 31))) := hide ((Grew.refl w4).alloc _)
    obtain ⟨W4, hW4⟩ : ∃ W, W = w4.alloc (.cells #[.slice ga gn gc, .slice fa fn fc] 31) := ⟨_, rfl⟩
    have HW4 := hide hW4
    rw [← hW4] at B4 S4
    have A4 := hide ((unhide A3).grew ((unhide S3).trans (unhide S4)))
    have HAB4 := hide ((unhide HAB).grew (fun b hb => (unhide LB b hb).2) (unhide S4))
    have zW4 : Hid (W4.heap.size = w4.heap.size + 1) := hide (by rw [hW4]; simp)
    clear hW4
    obtain ⟨p0, p1⟩ := unhide A4
    obtain ⟨q0, q1⟩ := unhide B4
    rw [unhide HW4] at p0 p1 q0 q1
    go_wp2_with fail
    rw [← unhide HW4]
    refine (eqCert_same X _ _ W4 (unhide HAB4).ans.ctV ((unhide CS).grew (((unhide S2).trans (unhide S3)).trans (unhide S4))) hb1 (by omega) (unhide HSI)).mono ?_
    clear p0 p1 q0 q1 HW4
    rintro e w5 ⟨rfl, g5⟩
    have S5 := hide (show Grew W4 w5 from g5)
    clear g5
    go_wp2_with fail
    refine (toVoteS_any a cap l _ ((unhide HL).grew (((((unhide G2).trans (unhide S2)).trans (unhide S3)).trans (unhide S4)).trans (unhide S5))) (unhide hs) hn).mono ?_
    rintro e w6 ⟨v6, hs6, rfl, o6, g6⟩
    have O6 := hide o6
    have S6 := hide g6
    clear o6 g6
    go_wp2_with fail
    refine (eqVoteS_v _ ((unhide O3).grew ((((unhide S3).trans (unhide S4)).trans (unhide S5)).trans (unhide S6))).vtsV (unhide O6).vtsV (unhide hs) (unhide hs) (by omega) (by omega)).mono ?_
    rintro e w7 ⟨rfl, g7⟩
    rw [(sameVs_iff l l).2 rfl]
    have G37 := hide (((((unhide S3).trans (unhide S4)).trans (unhide S5)).trans (unhide S6)).trans g7)
    have G47 := hide ((((unhide S4).trans (unhide S5)).trans (unhide S6)).trans g7)
    have GW7 := hide (((unhide S5).trans (unhide S6)).trans g7)
    clear g7 O6 S5 S6
    go_wp2_with fail
    refine (markV_v 1 _ (.inr ((unhide O3).grew (unhide G37))) (unhide hcn) (by omega) (by omega)).mono ?_
    rintro e w8 ⟨rfl, _, q8⟩
    have z23 := hide (unhide S2).size
    have z34 := hide (unhide S3).size
    have zA := hide (unhide A3).lt
    have G28 := hide (q8.from ((unhide S2).trans (unhide G37)) (fun b hb => by have := (unhide LX b hb).1; simp at this; omega))
    have CS8 := hide ((unhide CS).grew (unhide G28))
    have A8 := hide (((unhide A4).grew (unhide GW7)).kept (q8.keep w2.heap.size (fun hm => by have := (unhide LX _ hm).1; simp at this; omega)))
    have B8 := hide (((unhide B4).grew (unhide GW7)).kept (q8.keep w4.heap.size (fun hm => by have := (unhide LX _ hm).2; have := unhide z34; omega)))
    have AB8 := hide (((unhide HAB4).grew (fun b hb => by have := (unhide LB b hb).2; have := unhide zW4; omega) (unhide GW7)).kept (w' := w8) (Nat.le_of_eq q8.size.symm) (fun b hb => q8.keep b (fun hm => by have := (unhide LX _ hm).2; have := (unhide LB b hb).1; omega)))
    have z48 := hide (Nat.le_trans (unhide G47).size (Nat.le_of_eq q8.size.symm))
    have hk0 : decide ((1 : Int) + cntV l < 0) = false := by simp; omega
    have hk2 : (((1 : Int) + cntV l) < 0) = False := by simp; omega
    clear q8 O3 G37 G47 GW7 HAB4 A4 B4
    obtain ⟨p0, p1⟩ := unhide A8
    obtain ⟨q0, q1⟩ := unhide B8
    go_wp2_with fail
    refine (eqCert_same X _ _ w8 (unhide AB8).ans.ctV (unhide CS8) hb1 (by omega) (unhide HSI)).mono ?_
    rintro e w9 ⟨rfl, g9⟩
    have q0 := g9.keep q0
    have q1 := g9.keep q1
    have G29 := hide ((unhide G28).trans g9)
    have A9 := hide ((unhide A8).grew g9)
    have B9 := hide ((unhide B8).grew g9)
    have AB9 := hide ((unhide AB8).grew (fun b hb => by have := (unhide LB b hb).2; have := unhide z48; omega) g9)
    have z49 := hide (Nat.le_trans (unhide z48) g9.size)
    have hbk : decide ((1 : Int) + 4 * (X.c.length : Int) + (sumI X.b : Int) < 0) = false := by simp; omega
    have hbk2 : (((1 : Int) + 4 * (X.c.length : Int) + (sumI X.b : Int)) < 0) = False := by simp; omega
    clear g9 A8 B8 AB8 CS8 G28 p0 p1
    go_wp2_with fail
    refine (markCert_b 1 w9 (unhide AB9) hb1 (by omega) (by omega) (by omega)).mono ?_
    rintro e w10 ⟨rfl, im, hkeep, hz10, hfrom⟩
    have IM := hide im
    have G210 := hide (hfrom _ (unhide G29) (fun b hb => by have := (unhide LB b hb).1; have := unhide z23; omega))
    have A10 := hide ((unhide A9).kept (hkeep _ (unhide A9).lt (fun hm => by have := (unhide LB _ hm).1; have := unhide zA; omega)))
    have B10 := hide ((unhide B9).kept (hkeep _ (unhide B9).lt (fun hm => by have := (unhide LB _ hm).2; omega)))
    clear im hkeep hz10 hfrom AB9 A9 B9 G29 q0 q1
    obtain ⟨q0, q1⟩ := unhide B10
    go_wp2_with fail
    refine (heldCert_any X _ 1 w10 (unhide IM) hb1 (by omega) (by omega) (by omega)).mono ?_
    rintro e w11 ⟨rfl, g11⟩
    have G211 := hide ((unhide G210).trans g11)
    have IM := hide ((unhide IM).grew g11)
    have A11 := hide ((unhide A10).grew g11)
    have B11 := hide ((unhide B10).grew g11)
    clear g11 G210 A10 B10 q0 q1
    go_wp2_with fail
    refine (toVoteS_any a cap l _ ((unhide HL).grew ((unhide G2).trans (unhide G211))) (unhide hs) hn).mono ?_
    rintro e w12 ⟨v12, hs12, rfl, o12, g12⟩
    have O12 := hide o12
    have G212 := hide ((unhide G211).trans g12)
    have IM := hide ((unhide IM).grew g12)
    have A12 := hide ((unhide A11).grew g12)
    have B12 := hide ((unhide B11).grew g12)
    clear o12 g12 G211 A11 B11
    go_wp2_with fail
    refine (implCertOf_v _ (unhide O12).vtsV (unhide hs) hn).mono ?_
    simp only [unhide HC]
    rintro e w13 ⟨uh, vh, rfl, ah, g13⟩
    obtain ⟨ha, hn', hc', fa2, fn2, fc2, rfl, rfl⟩ := ah.open
    have AH := hide ah.ctV
    obtain ⟨W13, hW13⟩ : ∃ W, W = w13.alloc (.cells #[.slice ha hn' hc', .slice fa2 fn2 fc2] 31) := ⟨_, rfl⟩
    have HW13 := hide hW13
    have g14 : Grew w12 W13 := by rw [hW13]; exact g13.alloc _
    have AH := hide ((unhide AH).grew (show Grew w13 W13 by rw [hW13]; exact (Grew.refl _).alloc _))
    have G213 := hide ((unhide G212).trans g14)
    have IM := hide ((unhide IM).grew g14)
    have A13 := hide ((unhide A12).grew g14)
    have B13 := hide ((unhide B12).grew g14)
    clear ah g13 g14 G212 A12 B12 hW13
    obtain ⟨p0, p1⟩ := unhide A13
    rw [unhide HW13] at p0 p1
    go_wp2_with fail
    rw [← unhide HW13]
    refine (eqCert_same X _ _ W13 (unhide AH) ((unhide CS).grew (unhide G213)) hb1 (by omega) (unhide HSI)).mono ?_
    clear p0 p1 HW13
    rintro e w14 ⟨rfl, g14⟩
    have G214 := hide ((unhide G213).trans g14)
    have IM := hide ((unhide IM).grew g14)
    have B14 := hide ((unhide B13).grew g14)
    clear g14 G213 A13 B13
    obtain ⟨q0, q1⟩ := unhide B14
    go_wp2_with fail
    refine (heldCert_any X _ 1 w14 (unhide IM) hb1 (by omega) (by omega) (by omega)).mono ?_
    rintro e w15 ⟨rfl, g15⟩
    go_wp2
    go_ret
    exact ⟨rfl, (unhide G2).trans ((unhide G214).trans g15)⟩

set_option maxRecDepth 100000 in
theorem lifted (os : Os) (started : os.Started) (H : Type) (enc : TypeId × Value → H) :
    ReturnsInHanded {} Try.checked os 4 .any (Rows.fnExactCertOfSpec.pre6 enc Try.prog Try.f4 Rows.fnExactCertOfRow.domain false) (Rows.fnExactCertOfSpec.post enc Try.prog Try.f4 false true false false) := by
  refine returnsInHanded_of_change (C := Try.checked) own started (by kernel_rfl) Try.func4
    (ChangeSpec.witness6 (enc := enc) (C := Try.checked) false ⟨#[], #[.slice none 0 0], []⟩ 8 (by kernel_rfl) (by kernel_rfl) (by kernel_rfl) (by kernel_rfl)) ?_
  intro W base args ds gs before hval0 hW hcnd _
  have hval : ∀ (j : Nat) t v, Try.f4.params[j]? = some t → args[j]? = some v → Value.okWide Try.prog W .any base t v := hval0
  have hW' := hW
  obtain ⟨p, q, hA0, hV, rfl, hfz, hnd⟩ := hW
  have hA : DataW.TrodAll enc Try.prog W 0 (fun _ => true) true Try.f4.params.toList args.toList ds p := hA0
  rw [Try.params4] at hA hval
  obtain ⟨v0, vs0, d0, ds0, p0, q0, hargs, rfl, rfl, h0, r0⟩ := trodAll_cons hA
  obtain ⟨rfl, rfl, rfl⟩ := trodAll_nil r0
  obtain rfl : args = #[v0] := by cases args; simp_all
  obtain ⟨rfl, rfl⟩ := trodVars_none hV
  have k0 := h0
  have lt0 : ∀ x ∈ p0, x.block < W.heap.size := by obtain ⟨m, hm⟩ := k0; exact DataW.trod_lt m _ _ _ hm
  obtain ⟨x0, y0, z0, rfl⟩ := okWide_slice Try.underlying38 (hval 0 38 v0 rfl rfl)
  obtain ⟨fuel0, hf0⟩ := h0
  obtain ⟨a0, cap0, l0, hv0, hl0, hn0, hm0⟩ := open_votes hf0
  simp [Value.cells] at hv0
  obtain ⟨rfl, rfl, rfl⟩ := hv0
  clear hA0 hval0
  refine (walk x0 z0 l0 W hl0 hn0 hm0).mono fun e W' ⟨he, bel⟩ => ?_
  subst he
  exact ⟨_, rfl, _, _, _, [], _, [], hW', trodAll_mk1 (shut_bool Try.underlying4 _), (trodAll_cons_mk (Below.trod laidOut (by kernel_rfl) (of_decide_eq_true (by kernel_rfl)) k0 bel.below lt0) trodAll_mk0), rfl, bel.below.frame _, fun h => by cases h⟩

theorem over : Rows.fnExactCertOfRow.holds Try.pinned (OpenSpec.ofChange Rows.fnExactCertOfSpec) :=
  OpenClaim.holds_of_wide 4 Try.f4 rfl rfl rfl rfl rfl rfl rfl ⟨rfl, rfl, rfl, rfl, rfl⟩ rfl rfl rfl rfl rfl (by kernel_rfl) Try.func4 (by kernel_rfl)
    (of_decide_eq_true (by kernel_rfl)) (by unfold Func.isWrapper; first | (rw [if_pos (by decide +kernel)]; kernel_rfl) | (rw [if_neg (by decide +kernel)]; exact ⟨rfl, rfl⟩))
    (fun os started H enc _ => lifted os started H enc)
end Go.Proofs.Yteemihgakcmamaa.FnExactCertOf
namespace Go.Proofs.Yteemihgakcmamaa
theorem fnExactCertOf_holds : Rows.FnExactCertOfSaid := FnExactCertOf.over
#print axioms fnExactCertOf_holds
end Go.Proofs.Yteemihgakcmamaa
