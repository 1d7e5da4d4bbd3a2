/-
  FnExactNodeEnter returns true at every argument and leaves its argument as it was: what the statement says; no condition.
-/
import Derived.Test.YtkegdjfpeocndaaGreatNodOpen
import Derived.Test.YtkegdjfpeocndaaGreatNod5
import Derived.Test.YtkegdjfpeocndaaGreatNod8
import Derived.Lib.SmallJoins
import Derived.JoinedOf
import Derived.JoinedAt
import Derived.RowKit3
namespace Go.Proofs.YtkegdjfpeocndaaGreat.FnExactNodeEnter
set_option linter.unusedVariables false
open Go.ChangeShapes Go.WideShapes Go.ChangeAt Go.RowKit Go.Joins

set_option maxHeartbeats 4000000 in
theorem walk (y : Nd) (a : Option Addr) (cap : Nat) (e0 : Int) (w : World) (hl : Vts w a y.s) (hn : y.s.length ≤ maxLen) (hm : ∀ x ∈ y.s, x.c.length ≤ maxLen) :
    Calls Tryz.prog 3 #[.agg #[.int .i64 y.id, .int .i64 y.ep, .int .i64 y.vo, .slice a y.s.length cap], .int .i64 e0] w fun e w' => e = .returned (.bool true) ∧ Grew w w' := by
  have HZ : Hid (∀ W, Grew w W → Calls Tryz.prog 6 #[.agg #[.int .i64 y.id, .int .i64 y.ep, .int .i64 y.vo, .slice a y.s.length cap], .int .i64 1048576] W fun r w' => r = .returned (.int .i64 (szR 1048576 (totV y.s))) ∧ Grew W w') :=
    hide (fun W g => szNode_any y a cap 1048576 W (hl.grew g) (by omega) (by omega) (by unfold maxLen at hn; omega) (fun x hx => by have := hm x hx; unfold maxLen at this; omega))
  have HL := hide hl
  clear hm hl hn
  by_cases ht : (1048576 : Int) < totV y.s
  · rw [szR_neg ht] at HZ
    go_enter Tryz.func3, Tryz.ntmps3
    go_wp2_with fail
    refine (unhide HZ _ ((Grew.refl _).alloc _)).mono ?_
    rintro e w0 ⟨rfl, g0⟩
    go_wp2
    go_ret
    exact ⟨rfl, ((Grew.refl _).alloc _).trans g0⟩
  · have ht' : totV y.s ≤ 1048576 := by omega
    have hnn : ¬ szR 1048576 (totV y.s) < 0 := by rw [szR_pos ht]; omega
    have HS := hide (totV_short ht')
    have hcn := hide (cntV_le_of ht')
    have hn := totV_len ht'
    obtain ⟨N, hN⟩ : ∃ N, enterN y e0 = N := ⟨_, rfl⟩
    have hNs : N.s = y.s ∨ N.s = [] := by
      rw [← hN]
      unfold enterN
      split
      · exact .inl (entN_s y e0).1
      · exact .inr rfl
    have HNS : Hid (Short N.s) := hide (by rcases hNs with h | h <;> rw [h]; exact unhide HS; exact fun x hx => by cases hx)
    have hNn : N.s.length ≤ 1048576 := by rcases hNs with h | h <;> rw [h]; exact hn; exact Nat.zero_le _
    have hNc : Hid (cntV N.s ≤ 4194305) := hide (by rcases hNs with h | h <;> rw [h]; exact unhide hcn; simp [cntV, sumC])
    have HB := hide hN
    clear hN hNs
    go_enter Tryz.func3, Tryz.ntmps3
    go_wp2_with fail
    refine (unhide HZ _ ((Grew.refl _).alloc _)).mono ?_
    rintro e w0 ⟨rfl, g0⟩
    obtain ⟨p0, p1, p2, p3⟩ := (NdAt.box w y.id y.ep y.vo (.slice a y.s.length cap) _).grew g0
    have A0 := hide ((NdAt.box w y.id y.ep y.vo (.slice a y.s.length cap) _).grew g0)
    have G0 := hide (((Grew.refl w).alloc _).trans g0)
    clear g0
    go_wp2_with fail
    refine (toNode_any y a cap _ ((unhide HL).grew (unhide G0)) (unhide HS) hn).mono ?_
    rintro e w1 ⟨v1, hs1, rfl, o1, g1⟩
    obtain ⟨gx1, cx1, rfl, _, _, _⟩ := o1.shape
    have O1 := hide o1
    have S0 := hide (show Grew w0 w1 from g1)
    clear o1 g1 p0 p1 p2 p3
    have hX := hide (specNodeEnter y e0 _ w1 ⟨_, rfl, (unhide O1).vtsV⟩ (unhide HS) hn)
    rw [unhide HB] at hX
    go_wp2_with fail
    refine (unhide hX).mono ?_
    rintro e w2 ⟨_, rfl, ⟨usv, rfl, ua, uc, rfl, huc, hus⟩, g2⟩
    have NS : Hid (VtsV w2 (.slice ua N.s.length uc) N.s) := hide ⟨ua, uc, rfl, huc, hus⟩
    have S1 := hide g2
    clear g2 hX O1 hus
    have A2 := (unhide A0).grew ((unhide S0).trans (unhide S1))
    have q0 := fun o => ((Grew.refl w2).alloc o).keep A2.1
    have q1 := fun o => ((Grew.refl w2).alloc o).keep A2.2.1
    have q2 := fun o => ((Grew.refl w2).alloc o).keep A2.2.2.1
    have q3 := fun o => ((Grew.refl w2).alloc o).keep A2.2.2.2
    clear A2
    go_wp2_with fail
    refine (toNode_any y a cap _ ((unhide HL).grew ((((unhide G0).trans ((unhide S0).trans (unhide S1)))).alloc _)) (unhide HS) hn).mono ?_
    rintro e w3 ⟨v3, hs3, rfl, o3, g3⟩
    obtain ⟨gx3, cx3, rfl, _, _, _⟩ := o3.shape
    have W3 := hide ((NdAt.box w2 N.id N.ep N.vo (.slice ua N.s.length uc) _).grew g3)
    have O3 := hide (o3.lower (base' := w2.heap.size + 1) (by simp))
    have S2 := hide (((Grew.refl w2).alloc _).trans g3)
    clear o3 g3
    clear q0 q1 q2 q3
    have LX := hide (VAns.low (.inr (unhide O3)))
    have hX := fun W => hide (fun (g : Grew w3 W) => implNodeEnter y e0 _ W ⟨_, rfl, ((unhide O3).grew g).vtsV⟩ (unhide HS) hn)
    rw [unhide HB] at hX
    go_wp2_with fail
    refine (unhide (hX _) ((Grew.refl _).alloc _)).mono ?_
    rintro e w4 ⟨_, hg, rfl, ⟨gsv, rfl, og⟩, g4⟩
    obtain ⟨ga0, gc0, rfl⟩ := og.sl
    have X4 := hide ((NdAt.box w3 y.id y.ep y.vo (.slice (some ⟨gx3, 0, none⟩) y.s.length cx3) _).grew g4)
    have z3 : w3.heap.size < w4.heap.size := by have := g4.size; simp at this; omega
    have NG := hide (og.lower (base' := w3.heap.size + 1) (by simp))
    have S3 := hide (((Grew.refl w3).alloc _).trans g4)
    have LG4 := hide (VAns.low (unhide NG))
    clear g4 hX og
    have W4 := (unhide W3).grew (unhide S3)
    have q0 := fun o => ((Grew.refl w4).alloc o).keep W4.1
    have q1 := fun o => ((Grew.refl w4).alloc o).keep W4.2.1
    have q2 := fun o => ((Grew.refl w4).alloc o).keep W4.2.2.1
    have q3 := fun o => ((Grew.refl w4).alloc o).keep W4.2.2.2
    clear W4
    go_wp2_with fail
    refine (eqNode_any N N _ _ _ ⟨_, rfl, ((unhide NG).grew ((Grew.refl _).alloc _)).vtsV⟩ ⟨_, rfl, (unhide NS).grew ((((unhide S2).trans (unhide S3))).alloc _)⟩ (unhide HNS) (unhide HNS) (by omega) (by omega)).mono ?_
    rw [(sameN_iff N N).2 rfl]
    rintro e w5 ⟨rfl, g5⟩
    have G5 := hide ((NdAt.box w4 N.id N.ep N.vo (.slice ga0 N.s.length gc0) _).grew g5)
    have S4 := hide (((Grew.refl w4).alloc _).trans g5)
    have X5 := hide ((unhide X4).grew (unhide S4))
    clear g5
    clear q0 q1 q2 q3
    have AI := hide ((unhide A0).grew (((((unhide S0).trans (unhide S1)).trans (unhide S2)).trans (unhide S3)).trans (unhide S4)))
    have XI := hide ((unhide X5))
    go_wp2_with fail
    go_region_held_law (fun w' => w'.cell? ⟨w.heap.size, 0, none⟩ = some (.int .i64 y.id) ∧ w'.cell? ⟨w.heap.size, 1, none⟩ = some (.int .i64 y.ep) ∧ w'.cell? ⟨w.heap.size, 2, none⟩ = some (.int .i64 y.vo) ∧ w'.cell? ⟨w.heap.size, 3, none⟩ = some (.slice a y.s.length cap) ∧ w'.cell? ⟨w3.heap.size, 0, none⟩ = some (.int .i64 y.id) ∧ w'.cell? ⟨w3.heap.size, 1, none⟩ = some (.int .i64 y.ep) ∧ w'.cell? ⟨w3.heap.size, 2, none⟩ = some (.int .i64 y.vo) ∧ w'.cell? ⟨w3.heap.size, 3, none⟩ = some (.slice (some ⟨gx3, 0, none⟩) y.s.length cx3))
      (first | exact nd2 ((unhide AI).grew (((Grew.refl _).drew.trans ga).trans gb)) ((unhide XI).grew (((Grew.refl _).drew.trans ga).trans gb)) | exact nd2 ((unhide AI).grew ((Grew.refl _).drew.trans ga)) ((unhide XI).grew ((Grew.refl _).drew.trans ga)) | exact nd2 (unhide AI) (unhide XI))
      (first
        | (go_at_call 8; refine (toNode_any y a cap _ ((unhide HL).grew (((unhide G0).trans (((((unhide S0).trans (unhide S1)).trans (unhide S2)).trans (unhide S3)).trans (unhide S4))).drew)) (unhide HS) hn).mono ?_; rintro r wa ⟨va, hsa, rfl, oa, ga⟩; obtain ⟨gxa, cxa, rfl, _, _, _⟩ := oa.shape)
        | (go_at_call 10; refine (eqNode_any y y _ _ _ ⟨_, rfl, ((unhide O3).grew (((unhide S3).trans (unhide S4)).drew.trans ga)).vtsV⟩ ⟨_, rfl, oa.vtsV⟩ (unhide HS) (unhide HS) (by omega) (by omega)).mono ?_; rw [(sameN_iff y y).2 rfl]; rintro r w6 ⟨rfl, gb⟩))
    have S5 := hide (show Grew w5 w6 from ((Grew.refl _).drew.trans ga).trans gb)
    clear ga gb oa AI XI
    obtain ⟨x0, x1, x2, x3⟩ := (unhide X5).grew (unhide S5)
    go_wp2_with fail
    refine (markNode_any y 1 _ (.inr ((unhide O3).grew (((unhide S3).trans (unhide S4)).trans (unhide S5)))) (unhide hcn) (by omega) (by omega)).mono ?_
    rintro e w7 ⟨rfl, _, q7⟩
    have NGk := hide (((unhide NG).grew ((((unhide S4).trans (unhide S5))).alloc _)).still (w' := w7) (Nat.le_of_eq q7.size.symm) (fun g hg => q7.keep g (fun hm => by
      have h1 := (unhide LX _ hm).2
      have h2 : w3.heap.size + 1 ≤ g := (unhide NG).floor g hg
      omega)))
    have G27 := hide (q7.from ((((((unhide S2).trans (unhide S3)).trans (unhide S4)).trans (unhide S5))).alloc _) (fun b hb => Nat.le_of_succ_le (unhide LX b hb).1))
    have NS7 := hide ((unhide NS).grew (unhide G27))
    have hz2 : w2.heap.size < w3.heap.size := World.block_lt_of_cell? _ _ (unhide W3).1
    have hz4 : w3.heap.size < w4.heap.size := z3
    have W7 := hide (((unhide W3).grew ((((unhide S3).trans (unhide S4)).trans (unhide S5)).alloc _)).wrote q7 (fun hm => by have := (unhide LX _ hm).1; omega))
    have G7 := hide (((unhide G5).grew ((unhide S5).alloc _)).wrote q7 (fun hm => by have := (unhide LX _ hm).2; omega))
    clear q7 x0 x1 x2 x3
    obtain ⟨q0, q1, q2, q3⟩ := unhide W7
    obtain ⟨r0, r1, r2, r3⟩ := unhide G7
    have hk0 : decide ((1 : Int) + cntV y.s < 0) = false := by simp; omega
    have hk1 : decide (1 + (cntV N.s : Int) < 0) = false := by simp; omega
    have hk2 : ((1 + (cntV N.s : Int)) < 0) = False := by simp; omega
    go_wp2_with fail
    refine (eqNode_any N N _ _ _ ⟨_, rfl, (unhide NGk).vtsV⟩ ⟨_, rfl, unhide NS7⟩ (unhide HNS) (unhide HNS) (by omega) (by omega)).mono ?_
    rw [(sameN_iff N N).2 rfl]
    rintro e w8 ⟨rfl, g8⟩
    have NG8 := hide ((unhide NGk).grew g8)
    have G28 := hide ((unhide G27).trans g8)
    have W8 := hide ((unhide W7).grew g8)
    have G8 := hide ((unhide G7).grew g8)
    clear g8 q0 q1 q2 q3 r0 r1 r2 r3
    obtain ⟨r0, r1, r2, r3⟩ := unhide G8
    have LG := hide (VAns.low (unhide NG8))
    go_wp2_with fail
    refine (markNode_any N 1 _ (unhide NG8) (unhide hNc) (by omega) (by omega)).mono ?_
    rintro e w9 ⟨rfl, nm, q9⟩
    have NM9 := hide nm.vtsV
    have G29 := hide (q9.from ((unhide G28).alloc _) (fun b hb => by have := (unhide LG b hb).1; omega))
    have W9 := hide (((unhide W8).grew ((Grew.refl _).alloc _)).wrote q9 (fun hm => by have := (unhide LG _ hm).1; omega))
    have G9 := hide (((unhide G8).grew ((Grew.refl _).alloc _)).wrote q9 (fun hm => by have := (unhide LG4 _ hm).2; omega))
    clear nm q9 r0 r1 r2 r3
    obtain ⟨r0, r1, r2, r3⟩ := unhide G9
    go_wp2_with fail
    refine (heldNode_any N 1 _ (unhide NM9) (unhide hNc) (by omega) (by omega)).mono ?_
    rintro e w10 ⟨rfl, g10⟩
    have G210 := hide ((unhide G29).trans g10)
    have NM10 := hide ((unhide NM9).grew g10)
    have W10 := hide ((unhide W9).grew g10)
    have G10 := hide ((unhide G9).grew g10)
    obtain ⟨p0, p1, p2, p3⟩ := (unhide A0).grew (((unhide S0).trans (unhide S1)).trans (unhide G210))
    clear g10 r0 r1 r2 r3
    go_wp2_with fail
    refine (toNode_any y a cap _ ((unhide HL).grew ((unhide G0).trans (((unhide S0).trans (unhide S1)).trans (unhide G210)))) (unhide HS) hn).mono ?_
    rintro e w11 ⟨v11, hs11, rfl, o11, g11⟩
    obtain ⟨gx11, cx11, rfl, _, _, _⟩ := o11.shape
    have O11 := hide o11
    have G211 := hide ((unhide G210).trans g11)
    have NM11 := hide ((unhide NM10).grew g11)
    have W11 := hide ((unhide W10).grew g11)
    have G11 := hide ((unhide G10).grew g11)
    clear o11 g11 p0 p1 p2 p3
    have hX := hide (implNodeEnter y e0 _ w11 ⟨_, rfl, (unhide O11).vtsV⟩ (unhide HS) hn)
    rw [unhide HB] at hX
    go_wp2_with fail
    refine (unhide hX).mono ?_
    rintro e w12 ⟨_, hh12, rfl, ⟨hsv, rfl, oh⟩, g12⟩
    obtain ⟨ha0, hc0, rfl⟩ := oh.sl
    have NH := hide oh.vtsV
    have G212 := hide ((unhide G211).trans g12)
    have NM12 := hide ((unhide NM11).grew g12)
    have W12 := (unhide W11).grew g12
    have G12 := hide ((unhide G11).grew g12)
    clear oh g12 hX
    have q0 := fun o => ((Grew.refl w12).alloc o).keep W12.1
    have q1 := fun o => ((Grew.refl w12).alloc o).keep W12.2.1
    have q2 := fun o => ((Grew.refl w12).alloc o).keep W12.2.2.1
    have q3 := fun o => ((Grew.refl w12).alloc o).keep W12.2.2.2
    clear W12
    go_wp2_with fail
    refine (eqNode_any N N _ _ _ ⟨_, rfl, (unhide NH).grew ((Grew.refl _).alloc _)⟩ ⟨_, rfl, (unhide NS).grew ((unhide G212).alloc _)⟩ (unhide HNS) (unhide HNS) (by omega) (by omega)).mono ?_
    rw [(sameN_iff N N).2 rfl]
    rintro e w13 ⟨rfl, g13⟩
    have S12 := hide (((Grew.refl w12).alloc _).trans g13)
    have NM13 := hide ((unhide NM12).grew (unhide S12))
    clear g13
    clear q0 q1 q2 q3
    obtain ⟨r0, r1, r2, r3⟩ := (unhide G12).grew (unhide S12)
    go_wp2_with fail
    refine (heldNode_any N 1 _ (unhide NM13) (unhide hNc) (by omega) (by omega)).mono ?_
    rintro e w14 ⟨rfl, g14⟩
    go_wp2
    go_ret
    exact ⟨rfl, (unhide G0).trans (((unhide S0).trans (unhide S1)).trans (((unhide G212).trans (unhide S12)).trans g14))⟩

set_option maxRecDepth 100000 in
theorem lifted (os : Os) (started : os.Started) (H : Type) (enc : TypeId × Value → H) :
    ReturnsInHanded {} Tryz.checked os 3 .any (Rows.fnExactNodeEnterSpec.pre6 enc Tryz.prog Tryz.f3 Rows.fnExactNodeEnterRow.domain false) (Rows.fnExactNodeEnterSpec.post enc Tryz.prog Tryz.f3 false true false false) := by
  refine returnsInHanded_of_change (C := Tryz.checked) own started (by kernel_rfl) Tryz.func3
    (ChangeSpec.witness6 (enc := enc) (C := Tryz.checked) false ⟨#[], #[.agg #[.int .i64 0, .int .i64 0, .int .i64 0, .slice none 0 0], .int .i64 0], []⟩ 8 (by kernel_rfl) (by kernel_rfl) (by kernel_rfl) (by kernel_rfl)) ?_
  intro W base args ds gs before hval0 hW hcnd _
  have hval : ∀ (j : Nat) t v, Tryz.f3.params[j]? = some t → args[j]? = some v → Value.okWide Tryz.prog W .any base t v := hval0
  have hW' := hW
  obtain ⟨p, q, hA0, hV, rfl, hfz, hnd⟩ := hW
  have hA : DataW.TrodAll enc Tryz.prog W 0 (fun _ => true) true Tryz.f3.params.toList args.toList ds p := hA0
  rw [Tryz.params3] at hA hval
  obtain ⟨v0, vs0, d0, ds0, p0, q0, hargs, rfl, rfl, h0, r0⟩ := trodAll_cons hA
  obtain ⟨v1, vs1, d1, ds1, p1, q1, rfl, rfl, rfl, h1, r1⟩ := trodAll_cons r0
  obtain ⟨rfl, rfl, rfl⟩ := trodAll_nil r1
  obtain rfl : args = #[v0, v1] := by cases args; simp_all
  obtain ⟨rfl, rfl⟩ := trodVars_none hV
  have k0 := h0
  have lt0 : ∀ x ∈ p0, x.block < W.heap.size := by obtain ⟨m, hm⟩ := k0; exact DataW.trod_lt m _ _ _ hm
  obtain ⟨cs0, rfl, hsz0⟩ := okWide_struct Tryz.underlying24 (hval 0 24 v0 rfl rfl)
  obtain ⟨fuel0, hf0⟩ := h0
  obtain ⟨y0, a0, cap0, hv0, hl0, hn0, hx0⟩ := open_node hf0
  simp [Value.cells] at hv0
  obtain rfl : cs0 = #[.int .i64 y0.id, .int .i64 y0.ep, .int .i64 y0.vo, .slice a0 y0.s.length cap0] := by cases cs0; simp_all
  have k1 := h1
  have lt1 : ∀ x ∈ p1, x.block < W.heap.size := by obtain ⟨m, hm⟩ := k1; exact DataW.trod_lt m _ _ _ hm
  obtain ⟨s1, rfl, rfl, rfl, hm1⟩ := open_int Tryz.underlying3 (hval 1 3 v1 rfl rfl) h1
  clear hA0 hval0
  refine (walk y0 a0 cap0 s1 W hl0 hn0 hx0).mono fun e W' ⟨he, bel⟩ => ?_
  subst he
  exact ⟨_, rfl, _, _, _, [], _, [], hW', trodAll_mk1 (shut_bool Tryz.underlying4 _), (trodAll_cons_mk (Below.trod laidOut (by kernel_rfl) (of_decide_eq_true (by kernel_rfl)) k0 bel.below lt0) (trodAll_cons_mk (Below.trod laidOut (by kernel_rfl) (of_decide_eq_true (by kernel_rfl)) k1 bel.below lt1) trodAll_mk0)), rfl, bel.below.frame _, fun h => by cases h⟩

theorem over : Rows.fnExactNodeEnterRow.holds Tryz.pinned (OpenSpec.ofChange Rows.fnExactNodeEnterSpec) :=
  OpenClaim.holds_of_wide 3 Tryz.f3 rfl rfl rfl rfl rfl rfl rfl ⟨rfl, rfl, rfl, rfl, rfl⟩ rfl rfl rfl rfl rfl (by kernel_rfl) Tryz.func3 (by kernel_rfl)
    (of_decide_eq_true (by kernel_rfl)) (by unfold Func.isWrapper; first | (rw [if_pos (by decide +kernel)]; kernel_rfl) | (rw [if_neg (by decide +kernel)]; exact ⟨rfl, rfl⟩))
    (fun os started H enc _ => lifted os started H enc)
end Go.Proofs.YtkegdjfpeocndaaGreat.FnExactNodeEnter
namespace Go.Proofs.YtkegdjfpeocndaaGreat
theorem fnExactNodeEnter_holds : Rows.FnExactNodeEnterSaid := FnExactNodeEnter.over
#print axioms fnExactNodeEnter_holds
end Go.Proofs.YtkegdjfpeocndaaGreat
