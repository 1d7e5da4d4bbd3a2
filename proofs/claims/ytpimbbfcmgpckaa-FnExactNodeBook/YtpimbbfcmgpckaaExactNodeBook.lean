/-
  FnExactNodeBook returns true at every argument and leaves its argument as it was: what the statement says; no condition.
-/
import Derived.Test.YtpimbbfcmgpckaaNodOpen
import Derived.Test.YtpimbbfcmgpckaaNod5
import Derived.Test.YtpimbbfcmgpckaaNumsA
import Derived.Lib.SmallJoins
import Derived.JoinedOf
import Derived.JoinedAt
import Derived.RowKit3
namespace Go.Proofs.Ytpimbbfcmgpckaa.FnExactNodeBook
set_option linter.unusedVariables false
open Go.ChangeShapes Go.WideShapes Go.ChangeAt Go.RowKit Go.Joins

set_option maxHeartbeats 4000000 in
theorem walk (y : Nd) (a : Option Addr) (cap : Nat) (w : World) (hl : Vts w a y.s) (hn : y.s.length ≤ maxLen) (hm : ∀ x ∈ y.s, x.c.length ≤ maxLen) :
    Calls Try.prog 7 #[.agg #[.int .i64 y.id, .int .i64 y.ep, .int .i64 y.vo, .slice a y.s.length cap]] w fun e w' => e = .returned (.bool true) ∧ Grew w w' := by
  have HZ : Hid (∀ W, Grew w W → Calls Try.prog 34 #[.agg #[.int .i64 y.id, .int .i64 y.ep, .int .i64 y.vo, .slice a y.s.length cap], .int .i64 1048576] W fun r w' => r = .returned (.int .i64 (szR 1048576 (totV y.s))) ∧ Grew W w') :=
    hide (fun W g => szNode_any y a cap 1048576 W (hl.grew g) (by omega) (by omega) (by unfold maxLen at hn; omega) (fun x hx => by have := hm x hx; unfold maxLen at this; omega))
  have HL := hide hl
  clear hm hl hn
  by_cases ht : (1048576 : Int) < totV y.s
  · rw [szR_neg ht] at HZ
    go_enter Try.func7, Try.ntmps7
    go_wp2_with fail
    refine (unhide HZ _ ((Grew.refl _).alloc _)).mono ?_
    rintro e w0 ⟨rfl, g0⟩
    go_wp2
    go_ret
    exact ⟨rfl, ((Grew.refl _).alloc _).trans g0⟩
  · have ht' : totV y.s ≤ 1048576 := by omega
    have hnn : ¬ szR 1048576 (totV y.s) < 0 := by rw [szR_pos ht]; omega
    have HS := hide (totV_short ht')
    have hcn := hide (cntV_le_of ht')
    have hn := totV_len ht'
    obtain ⟨L, hL⟩ : ∃ L, bookN y = L := ⟨_, rfl⟩
    have hLn : L.length ≤ 3 := by rw [← hL]; exact bookN_len y
    have HB := hide hL
    clear hL
    go_enter Try.func7, Try.ntmps7
    go_wp2_with fail
    refine (unhide HZ _ ((Grew.refl _).alloc _)).mono ?_
    rintro e w0 ⟨rfl, g0⟩
    obtain ⟨p0, p1, p2, p3⟩ := (NdAt.box w y.id y.ep y.vo (.slice a y.s.length cap) _).grew g0
    have A0 := hide ((NdAt.box w y.id y.ep y.vo (.slice a y.s.length cap) _).grew g0)
    have G0 := hide (((Grew.refl w).alloc _).trans g0)
    clear g0
    go_wp2_with fail
    refine (toNode_any y a cap _ ((unhide HL).grew (unhide G0)) (unhide HS) hn).mono ?_
    rintro e w1 ⟨v1, hs1, rfl, o1, g1⟩
    obtain ⟨gx1, cx1, rfl, _, _, _⟩ := o1.shape
    have O1 := hide o1
    have S0 := hide (show Grew w0 w1 from g1)
    clear o1 g1 p0 p1 p2 p3
    have hX := hide (specNodeBook y _ cx1 w1 (by obtain ⟨_, _, e, hc, _⟩ := (unhide O1).shape; cases e; exact hc) (unhide O1).vts (unhide O1).room (unhide HS) hn)
    rw [unhide HB] at hX
    go_wp2_with fail
    refine (unhide hX).mono ?_
    rintro e w2 ⟨us, rfl, ns, g2⟩
    have NS := hide ns
    have S1 := hide g2
    clear g2 hX O1 ns
    obtain ⟨p0, p1, p2, p3⟩ := (unhide A0).grew ((unhide S0).trans (unhide S1))
    go_wp2_with fail
    refine (toNode_any y a cap _ ((unhide HL).grew ((unhide G0).trans ((unhide S0).trans (unhide S1)))) (unhide HS) hn).mono ?_
    rintro e w3 ⟨v3, hs3, rfl, o3, g3⟩
    obtain ⟨gx3, cx3, rfl, _, _, _⟩ := o3.shape
    have O3 := hide o3
    have S2 := hide (show Grew w2 w3 from g3)
    clear o3 g3 p0 p1 p2 p3
    have LX := hide (VAns.low (.inr (unhide O3)))
    have hX := fun W => hide (fun (g : Grew w3 W) => implNodeBook y _ W ⟨_, rfl, ((unhide O3).grew g).vtsV⟩ (unhide HS) hn)
    rw [unhide HB] at hX
    go_wp2_with fail
    refine (unhide (hX _) ((Grew.refl _).alloc _)).mono ?_
    rintro e w4 ⟨ug, rfl, ng, g4⟩
    have X4 := hide ((NdAt.box w3 y.id y.ep y.vo (.slice (some ⟨gx3, 0, none⟩) y.s.length cx3) _).grew g4)
    have z3 : w3.heap.size < w4.heap.size := by have := g4.size; simp at this; omega
    have NG := hide (ng.low (base' := w3.heap.size + 1) (by simp))
    have S3 := hide (((Grew.refl w3).alloc _).trans g4)
    clear g4 hX ng
    go_wp2_with fail
    refine (eqIntS_v _ (unhide NG).num ((unhide NS).grew ((unhide S2).trans (unhide S3))) (by omega) (by omega)).mono ?_
    rintro e w5 ⟨rfl, g5⟩
    have S4 := hide g5
    have X5 := hide ((unhide X4).grew g5)
    have hLL : decide (L = L) = true := by simp
    rw [hLL]
    clear g5 hLL
    have AI := hide ((unhide A0).grew (((((unhide S0).trans (unhide S1)).trans (unhide S2)).trans (unhide S3)).trans (unhide S4)))
    have XI := hide ((unhide X5))
    go_wp2_with fail
    go_region_held_law (fun w' => w'.cell? ⟨w.heap.size, 0, none⟩ = some (.int .i64 y.id) ∧ w'.cell? ⟨w.heap.size, 1, none⟩ = some (.int .i64 y.ep) ∧ w'.cell? ⟨w.heap.size, 2, none⟩ = some (.int .i64 y.vo) ∧ w'.cell? ⟨w.heap.size, 3, none⟩ = some (.slice a y.s.length cap) ∧ w'.cell? ⟨w3.heap.size, 0, none⟩ = some (.int .i64 y.id) ∧ w'.cell? ⟨w3.heap.size, 1, none⟩ = some (.int .i64 y.ep) ∧ w'.cell? ⟨w3.heap.size, 2, none⟩ = some (.int .i64 y.vo) ∧ w'.cell? ⟨w3.heap.size, 3, none⟩ = some (.slice (some ⟨gx3, 0, none⟩) y.s.length cx3))
      (first | exact nd2 ((unhide AI).grew (((Grew.refl _).drew.trans ga).trans gb)) ((unhide XI).grew (((Grew.refl _).drew.trans ga).trans gb)) | exact nd2 ((unhide AI).grew ((Grew.refl _).drew.trans ga)) ((unhide XI).grew ((Grew.refl _).drew.trans ga)) | exact nd2 (unhide AI) (unhide XI))
      (first
        | (go_at_call 36; refine (toNode_any y a cap _ ((unhide HL).grew (((unhide G0).trans (((((unhide S0).trans (unhide S1)).trans (unhide S2)).trans (unhide S3)).trans (unhide S4))).drew)) (unhide HS) hn).mono ?_; rintro r wa ⟨va, hsa, rfl, oa, ga⟩; obtain ⟨gxa, cxa, rfl, _, _, _⟩ := oa.shape)
        | (go_at_call 31; refine (eqNode_any y y _ _ _ ⟨_, rfl, ((unhide O3).grew (((unhide S3).trans (unhide S4)).drew.trans ga)).vtsV⟩ ⟨_, rfl, oa.vtsV⟩ (unhide HS) (unhide HS) (by omega) (by omega)).mono ?_; rw [(sameN_iff y y).2 rfl]; rintro r w6 ⟨rfl, gb⟩))
    have S5 := hide (show Grew w5 w6 from ((Grew.refl _).drew.trans ga).trans gb)
    clear ga gb oa AI XI
    obtain ⟨x0, x1, x2, x3⟩ := (unhide X5).grew (unhide S5)
    go_wp2_with fail
    refine (markNode_any y 1 _ (.inr ((unhide O3).grew (((unhide S3).trans (unhide S4)).trans (unhide S5)))) (unhide hcn) (by omega) (by omega)).mono ?_
    rintro e w7 ⟨rfl, _, q7⟩
    have NGk := hide (((unhide NG).grew (((unhide S4).trans (unhide S5)).alloc _)).kept (w' := w7) (fun g hg => q7.keep g (fun hm => by have h1 := (unhide LX _ hm).2; have h2 := ((unhide NG).block g hg).1; omega)))
    have G27 := hide (q7.from (((unhide S2).trans (((unhide S3).trans (unhide S4)).trans (unhide S5))).alloc _) (fun b hb => (unhide LX b hb).1))
    have NS7 := hide ((unhide NS).grew (unhide G27))
    have hk0 : decide ((1 : Int) + cntV y.s < 0) = false := by simp; omega
    have hk1 : decide (1 + (L.length : Int) < 0) = false := by simp; omega
    have hk2 : ((1 + (L.length : Int)) < 0) = False := by simp; omega
    have z23 := (unhide S2).size
    have z02 := ((unhide S0).trans (unhide S1)).size
    clear q7 x0 x1 x2 x3 LX O3
    go_wp2_with fail
    refine (eqIntS_v _ (unhide NGk).num (unhide NS7) (by omega) (by omega)).mono ?_
    rintro e w8 ⟨rfl, g8⟩
    have hLL : decide (L = L) = true := by simp
    rw [hLL]
    have NG8 := hide ((unhide NGk).grew g8)
    have G28 := hide ((unhide G27).trans g8)
    clear hLL g8 NGk NS7 G27
    go_wp2_with fail
    refine (markN_v 1 _ (unhide NG8) (by omega) (by omega) (by omega)).mono ?_
    rintro e w9 ⟨rfl, nm, _, qf, _⟩
    have NM := hide nm
    have G29 := hide (qf w2 (unhide G28) (fun b hb => by have := ((unhide NG8).block b hb).1; omega))
    clear nm qf NG8 G28
    go_wp2_with fail
    refine (heldN_v (l := L) L.length 1 _ (unhide NM).num (by omega) (by omega) (by omega)).mono ?_
    rintro e w10 ⟨rfl, g10⟩
    have G210 := hide ((unhide G29).trans g10)
    have NM := hide ((unhide NM).grew g10)
    obtain ⟨p0, p1, p2, p3⟩ := (unhide A0).grew (((unhide S0).trans (unhide S1)).trans (unhide G210))
    clear g10 G29
    go_wp2_with fail
    refine (toNode_any y a cap _ ((unhide HL).grew ((unhide G0).trans (((unhide S0).trans (unhide S1)).trans (unhide G210)))) (unhide HS) hn).mono ?_
    rintro e w11 ⟨v11, hs11, rfl, o11, g11⟩
    obtain ⟨gx11, cx11, rfl, _, _, _⟩ := o11.shape
    have O11 := hide o11
    have G211 := hide ((unhide G210).trans g11)
    have NM := hide ((unhide NM).grew g11)
    clear o11 g11 p0 p1 p2 p3 G210
    have hX := hide (implNodeBook y _ w11 ⟨_, rfl, (unhide O11).vtsV⟩ (unhide HS) hn)
    rw [unhide HB] at hX
    go_wp2_with fail
    refine (unhide hX).mono ?_
    rintro e w12 ⟨uh, rfl, nh, g12⟩
    have NH := hide nh.num
    have G212 := hide ((unhide G211).trans g12)
    have NM := hide ((unhide NM).grew g12)
    clear nh g12 G211 hX
    go_wp2_with fail
    refine (eqIntS_v _ (unhide NH) ((unhide NS).grew (unhide G212)) (by omega) (by omega)).mono ?_
    rintro e w13 ⟨rfl, g13⟩
    have hLL : decide (L = L) = true := by simp
    rw [hLL]
    have G213 := hide ((unhide G212).trans g13)
    have NM := hide ((unhide NM).grew g13)
    clear hLL g13 G212
    go_wp2_with fail
    refine (heldN_v (l := L) L.length 1 _ (unhide NM).num (by omega) (by omega) (by omega)).mono ?_
    rintro e w14 ⟨rfl, g14⟩
    go_wp2
    go_ret
    exact ⟨rfl, (unhide G0).trans (((unhide S0).trans (unhide S1)).trans ((unhide G213).trans g14))⟩

set_option maxRecDepth 100000 in
theorem lifted (os : Os) (started : os.Started) (H : Type) (enc : TypeId × Value → H) :
    ReturnsInHanded {} Try.checked os 7 .any (Rows.fnExactNodeBookSpec.pre6 enc Try.prog Try.f7 Rows.fnExactNodeBookRow.domain false) (Rows.fnExactNodeBookSpec.post enc Try.prog Try.f7 false true false false) := by
  refine returnsInHanded_of_change (C := Try.checked) own started (by kernel_rfl) Try.func7
    (ChangeSpec.witness6 (enc := enc) (C := Try.checked) false ⟨#[], #[.agg #[.int .i64 0, .int .i64 0, .int .i64 0, .slice none 0 0]], []⟩ 8 (by kernel_rfl) (by kernel_rfl) (by kernel_rfl) (by kernel_rfl)) ?_
  intro W base args ds gs before hval0 hW hcnd _
  have hval : ∀ (j : Nat) t v, Try.f7.params[j]? = some t → args[j]? = some v → Value.okWide Try.prog W .any base t v := hval0
  have hW' := hW
  obtain ⟨p, q, hA0, hV, rfl, hfz, hnd⟩ := hW
  have hA : DataW.TrodAll enc Try.prog W 0 (fun _ => true) true Try.f7.params.toList args.toList ds p := hA0
  rw [Try.params7] at hA hval
  obtain ⟨v0, vs0, d0, ds0, p0, q0, hargs, rfl, rfl, h0, r0⟩ := trodAll_cons hA
  obtain ⟨rfl, rfl, rfl⟩ := trodAll_nil r0
  obtain rfl : args = #[v0] := by cases args; simp_all
  obtain ⟨rfl, rfl⟩ := trodVars_none hV
  have k0 := h0
  have lt0 : ∀ x ∈ p0, x.block < W.heap.size := by obtain ⟨m, hm⟩ := k0; exact DataW.trod_lt m _ _ _ hm
  obtain ⟨cs0, rfl, hsz0⟩ := okWide_struct Try.underlying52 (hval 0 52 v0 rfl rfl)
  obtain ⟨fuel0, hf0⟩ := h0
  obtain ⟨y0, a0, cap0, hv0, hl0, hn0, hx0⟩ := open_node hf0
  simp [Value.cells] at hv0
  obtain rfl : cs0 = #[.int .i64 y0.id, .int .i64 y0.ep, .int .i64 y0.vo, .slice a0 y0.s.length cap0] := by cases cs0; simp_all
  clear hA0 hval0
  refine (walk y0 a0 cap0 W hl0 hn0 hx0).mono fun e W' ⟨he, bel⟩ => ?_
  subst he
  exact ⟨_, rfl, _, _, _, [], _, [], hW', trodAll_mk1 (shut_bool Try.underlying4 _), (trodAll_cons_mk (Below.trod laidOut (by kernel_rfl) (of_decide_eq_true (by kernel_rfl)) k0 bel.below lt0) trodAll_mk0), rfl, bel.below.frame _, fun h => by cases h⟩

theorem over : Rows.fnExactNodeBookRow.holds Try.pinned (OpenSpec.ofChange Rows.fnExactNodeBookSpec) :=
  OpenClaim.holds_of_wide 7 Try.f7 rfl rfl rfl rfl rfl rfl rfl ⟨rfl, rfl, rfl, rfl, rfl⟩ rfl rfl rfl rfl rfl (by kernel_rfl) Try.func7 (by kernel_rfl)
    (of_decide_eq_true (by kernel_rfl)) (by unfold Func.isWrapper; first | (rw [if_pos (by decide +kernel)]; kernel_rfl) | (rw [if_neg (by decide +kernel)]; exact ⟨rfl, rfl⟩))
    (fun os started H enc _ => lifted os started H enc)
end Go.Proofs.Ytpimbbfcmgpckaa.FnExactNodeBook
namespace Go.Proofs.Ytpimbbfcmgpckaa
theorem fnExactNodeBook_holds : Rows.FnExactNodeBookSaid := FnExactNodeBook.over
#print axioms fnExactNodeBook_holds
end Go.Proofs.Ytpimbbfcmgpckaa
