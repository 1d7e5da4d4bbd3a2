/-
  FnExactCertVotes returns true at every argument and leaves its argument as it was: what the statement says; no condition.
-/
import Derived.Test.YteemihgakcmamaaCerOpen
import Derived.Test.YteemihgakcmamaaCerX
import Derived.Test.YteemihgakcmamaaVForms
import Derived.Lib.SmallJoins
import Derived.JoinedOf
import Derived.JoinedAt
import Derived.RowKit3
namespace Go.Proofs.Yteemihgakcmamaa.FnExactCertVotes
set_option linter.unusedVariables false
open Go.ChangeShapes Go.WideShapes Go.ChangeAt Go.RowKit Go.Joins

set_option maxHeartbeats 4000000 in
theorem walk (y : Ct) (a : Option Addr) (cap : Nat) (b : Option Addr) (capb : Nat) (w : World) (hl : Its w a y.c) (hn : y.c.length ≤ maxLen) (hb : IntsS w b y.b) (hnb : y.b.length ≤ maxLen) (hm : ∀ x ∈ y.b, x.length ≤ maxLen) :
    Calls Try.prog 3 #[.agg #[.slice a y.c.length cap, .slice b y.b.length capb]] w fun e w' => e = .returned (.bool true) ∧ Grew w w' := by
  have HZ : Hid (∀ W, Grew w W → Calls Try.prog 16 #[.agg #[.slice a y.c.length cap, .slice b y.b.length capb], .int .i64 1048576] W fun r w' => r = .returned (.int .i64 (szR 1048576 (totC y))) ∧ Grew W w') :=
    hide (fun W g => szCert_any y a cap b capb 1048576 W (hb.grew g) (by omega) (by omega) (by unfold maxLen at hn; omega) (by unfold maxLen at hnb; omega) (fun x hx => by have := hm x hx; unfold maxLen at this; omega))
  have HL := hide hl
  have HB := hide hb
  clear hm hl hn hb hnb
  by_cases ht : (1048576 : Int) < totC y
  · rw [szR_neg ht] at HZ
    go_enter Try.func3, Try.ntmps3
    go_wp2_with fail
    refine (unhide HZ _ ((Grew.refl _).alloc _)).mono ?_
    rintro e w0 ⟨rfl, g0⟩
    go_wp2
    go_ret
    exact ⟨rfl, ((Grew.refl _).alloc _).trans g0⟩
  · have ht' : totC y ≤ 1048576 := by omega
    have hnn : ¬ szR 1048576 (totC y) < 0 := by rw [szR_pos ht]; omega
    have hnc : y.c.length ≤ 1048576 := by unfold totC at ht'; omega
    have hnb : y.b.length ≤ 1048576 := by unfold totC at ht'; omega
    have hsum : y.b.length + sumI y.b ≤ 1048576 := by unfold totC at ht'; omega
    have HS : Hid (ShortI y.b) := hide (fun x hx => by have := sumI_at hx; omega)
    clear ht ht'
    obtain ⟨lc, hlc⟩ : ∃ lc, cvotes y = lc := ⟨_, rfl⟩
    have hlen : lc.length ≤ 1048576 := by rw [← hlc]; have := cvotes_len y; omega
    have hsh : Short lc := by rw [← hlc]; exact cvotes_short y
    have HSH := hide hsh
    have HCN : Hid (cntV lc ≤ 4194305) := by show _ ≤ _; rw [← hlc]; exact cvotes_cnt y
    have hcn0 : (0 : Int) ≤ cntV lc := by omega
    have HE := hide hlc
    clear hlc hsh
    go_enter Try.func3, Try.ntmps3
    go_wp2_with fail
    refine (unhide HZ _ ((Grew.refl _).alloc _)).mono ?_
    rintro e w0 ⟨rfl, g0⟩
    obtain ⟨p0, p1⟩ := (CtAt.box w (.slice a y.c.length cap) (.slice b y.b.length capb) _).grew g0
    have A0 := hide ((CtAt.box w (.slice a y.c.length cap) (.slice b y.b.length capb) _).grew g0)
    have G0 := hide (((Grew.refl w).alloc _).trans g0)
    clear g0
    go_wp2_with fail
    refine (toCert_any y a cap b capb _ ((unhide HL).grew (unhide G0)) ((unhide HB).grew (unhide G0)) hnc hnb (unhide HS)).mono ?_
    rintro e w1 ⟨q1, v1, hs1, rfl, hq1, hr1, i1, o1, r1, g1⟩
    obtain ⟨gx1, cx1, rfl, _, _, _⟩ := r1.shape
    have I1 := hide i1
    have O1 := hide o1
    have R1 := hide r1
    have C1 : Hid (CtV w1 (.agg #[.slice (some ⟨q1, 0, none⟩) y.c.length y.c.length, .slice (some ⟨gx1, 0, none⟩) y.b.length cx1]) y) := hide ⟨_, _, _, _, rfl, Nat.le_refl _, i1, r1.ints⟩
    have S0 := hide (show Grew w0 w1 from g1)
    have Q1 := hide (And.intro hq1 hr1)
    clear i1 o1 r1 g1 p0 p1 hq1 hr1
    have hX := hide (specCertVotes y _ w1 (unhide C1) hnc hnb (unhide HS))
    rw [unhide HE] at hX
    go_wp2_with fail
    refine (unhide hX).mono ?_
    rintro e w2 ⟨us, rfl, is2, g2⟩
    have U0 := hide is2.vtsV
    have S1 := hide g2
    clear g2 hX C1 I1 O1 R1 is2
    obtain ⟨p0, p1⟩ := (unhide A0).grew ((unhide S0).trans (unhide S1))
    go_wp2_with fail
    refine (toCert_any y a cap b capb _ ((unhide HL).grew ((unhide G0).trans ((unhide S0).trans (unhide S1)))) ((unhide HB).grew ((unhide G0).trans ((unhide S0).trans (unhide S1)))) hnc hnb (unhide HS)).mono ?_
    rintro e w3 ⟨q3, v3, hs3, rfl, hq3, hr3, i3, o3, r3, g3⟩
    obtain ⟨gx3, cx3, rfl, _, _, _⟩ := r3.shape
    have I3 := hide i3
    have O3 := hide o3
    have R3 := hide r3
    have C3 : Hid (CtV w3 (.agg #[.slice (some ⟨q3, 0, none⟩) y.c.length y.c.length, .slice (some ⟨gx3, 0, none⟩) y.b.length cx3]) y) := hide ⟨_, _, _, _, rfl, Nat.le_refl _, i3, r3.ints⟩
    have S2 := hide (show Grew w2 w3 from g3)
    have Q3 := hide (And.intro hq3 hr3)
    clear i3 o3 r3 g3 p0 p1 hq3 hr3
    have hX := fun W => hide (fun (g : Grew w3 W) => implCertVotes y _ W ((unhide C3).grew g) hnc hnb (unhide HS))
    rw [unhide HE] at hX
    go_wp2_with fail
    refine (unhide (hX _) ((Grew.refl _).alloc _)).mono ?_
    rintro e w4 ⟨ug, hg, rfl, og, g4⟩
    simp only [World.size_alloc] at og
    have X4 := hide ((CtAt.box w3 (.slice (some ⟨q3, 0, none⟩) y.c.length y.c.length) (.slice (some ⟨gx3, 0, none⟩) y.b.length cx3) _).grew g4)
    have R0 := hide og
    have LR := hide og.low
    have LX : Hid (∀ k ∈ q3 :: hs3, w2.heap.size ≤ k ∧ k < w3.heap.size) := hide (fun k hk => by
      rcases List.mem_cons.1 hk with e | e
      · rw [e]; exact unhide Q3
      · have h1 := (unhide R3).low k e; have h2 := (unhide Q3).1; omega)
    have S3 := hide (((Grew.refl w3).alloc _).trans g4)
    clear g4 hX og
    go_wp2_with fail
    refine (eqVoteS_v _ (unhide R0).vtsV ((unhide U0).grew ((unhide S2).trans (unhide S3))) (unhide HSH) (unhide HSH) (by omega) (by omega)).mono ?_
    rintro e w5 ⟨rfl, g5⟩
    rw [(sameVs_iff lc lc).2 rfl]
    have S4 := hide g5
    have X5 := hide ((unhide X4).grew g5)
    clear g5
    have AI := hide ((unhide A0).grew (((((unhide S0).trans (unhide S1)).trans (unhide S2)).trans (unhide S3)).trans (unhide S4)))
    have XI := hide ((unhide X5))
    go_wp2_with fail
    go_region_held_law (fun w' => w'.cell? ⟨w.heap.size, 0, none⟩ = some (.slice a y.c.length cap) ∧ w'.cell? ⟨w.heap.size, 1, none⟩ = some (.slice b y.b.length capb) ∧ w'.cell? ⟨w3.heap.size, 0, none⟩ = some (.slice (some ⟨q3, 0, none⟩) y.c.length y.c.length) ∧ w'.cell? ⟨w3.heap.size, 1, none⟩ = some (.slice (some ⟨gx3, 0, none⟩) y.b.length cx3))
      (first | exact ct2 ((unhide AI).grew (((Grew.refl _).drew.trans ga).trans gb)) ((unhide XI).grew (((Grew.refl _).drew.trans ga).trans gb)) | exact ct2 ((unhide AI).grew ((Grew.refl _).drew.trans ga)) ((unhide XI).grew ((Grew.refl _).drew.trans ga)) | exact ct2 (unhide AI) (unhide XI))
      (first
        | (go_at_call 18; refine (toCert_any y a cap b capb _ ((unhide HL).grew (((unhide G0).trans (((((unhide S0).trans (unhide S1)).trans (unhide S2)).trans (unhide S3)).trans (unhide S4))).drew)) ((unhide HB).grew (((unhide G0).trans (((((unhide S0).trans (unhide S1)).trans (unhide S2)).trans (unhide S3)).trans (unhide S4))).drew)) hnc hnb (unhide HS)).mono ?_; rintro r wa ⟨qa, va, hsa, rfl, _, _, ia, oa, ra, ga⟩; obtain ⟨gxa, cxa, rfl, _, _, _⟩ := ra.shape)
        | (go_at_call 21; refine (eqCert_same y _ _ _ ((unhide C3).grew (((unhide S3).trans (unhide S4)).drew.trans ga)) ⟨_, _, _, _, rfl, Nat.le_refl _, ia, ra.ints⟩ hnc (by omega) (unhide HS)).mono ?_; rintro r w6 ⟨rfl, gb⟩))
    have S5 := hide (show Grew w5 w6 from ((Grew.refl _).drew.trans ga).trans gb)
    clear ga gb oa ia ra AI XI
    obtain ⟨x0, x1⟩ := (unhide X5).grew (unhide S5)
    go_wp2_with fail
    refine (markCert_any y q3 (q3 + 1) y.c.length _ hs3 1 _ ((unhide O3).grew (((unhide S3).trans (unhide S4)).trans (unhide S5))) ((unhide R3).grew (((unhide S3).trans (unhide S4)).trans (unhide S5))) (by omega) (by have h1 := (unhide Q3).2; have h2 := (((unhide S3).trans (unhide S4)).trans (unhide S5)).size; omega) hnc hsum (by omega) (by omega)).mono ?_
    rintro e w7 ⟨rfl, q7⟩
    have z3 : Hid (w3.heap.size ≤ w6.heap.size) := hide (((unhide S3).trans (unhide S4)).trans (unhide S5)).size
    have z23 := (unhide S2).size
    have z34 : Hid (w3.heap.size < w4.heap.size) := hide (World.block_lt_of_cell? _ _ (unhide X4).1)
    have G27 := hide (q7.from (((unhide S2).trans (((unhide S3).trans (unhide S4)).trans (unhide S5))).alloc _) (fun k hk => (unhide LX k hk).1))
    have U7 := hide ((unhide U0).grew (unhide G27))
    have R7 := hide (((unhide R0).grew (((unhide S4).trans (unhide S5)).alloc (.cells #[(.slice (some ⟨q3, 0, none⟩) y.c.length y.c.length), (.slice (some ⟨gx3, 0, none⟩) y.b.length cx3)] 31))).kept (w' := w7) (Nat.le_of_eq q7.size.symm) (fun g h1 h2 => q7.keep g (fun hm => by have := (unhide LX g hm).2; omega)))
    have hk0 : decide ((1 : Int) + 4 * (y.c.length : Int) + (sumI y.b : Int) < 0) = false := by simp; omega
    have hk1 : decide (1 + (cntV lc : Int) < 0) = false := by simp; omega
    have hk2 : ((1 + (cntV lc : Int)) < 0) = False := by simp; omega
    have hk3 : ((1 : Int) + 4 * (y.c.length : Int) + (sumI y.b : Int) < 0) = False := by simp; omega
    clear q7 R0 O3 LX R3 I3 C3 x0 x1 X4 X5
    go_wp2_with fail
    refine (eqVoteS_v _ (unhide R7).vtsV (unhide U7) (unhide HSH) (unhide HSH) (by omega) (by omega)).mono ?_
    rintro e w8 ⟨rfl, g8⟩
    rw [(sameVs_iff lc lc).2 rfl]
    have G28 := hide ((unhide G27).trans g8)
    have R8 := hide ((unhide R7).grew g8)
    clear g8 R7 U7 G27
    go_wp2_with fail
    refine (markV_v 1 _ (unhide R8) (unhide HCN) (by omega) (by omega)).mono ?_
    rintro e w9 ⟨rfl, nd, q9⟩
    have ND := hide nd.vtsV
    have G29 := hide (q9.from (unhide G28) (fun z hz => by have := (unhide LR z hz).1; omega))
    clear nd q9 R8 G28
    go_wp2_with fail
    refine (heldV_v 1 _ (unhide ND) (unhide HCN) (by omega) (by omega)).mono ?_
    rintro e w10 ⟨rfl, g10⟩
    have G210 := hide ((unhide G29).trans g10)
    have ND := hide ((unhide ND).grew g10)
    obtain ⟨p0, p1⟩ := (unhide A0).grew (((unhide S0).trans (unhide S1)).trans (unhide G210))
    clear g10 G29
    go_wp2_with fail
    refine (toCert_any y a cap b capb _ ((unhide HL).grew ((unhide G0).trans (((unhide S0).trans (unhide S1)).trans (unhide G210)))) ((unhide HB).grew ((unhide G0).trans (((unhide S0).trans (unhide S1)).trans (unhide G210)))) hnc hnb (unhide HS)).mono ?_
    rintro e w11 ⟨q11, v11, hs11, rfl, _, _, i11, o11, r11, g11⟩
    obtain ⟨gx11, cx11, rfl, _, _, _⟩ := r11.shape
    have C11 : Hid (CtV w11 (.agg #[.slice (some ⟨q11, 0, none⟩) y.c.length y.c.length, .slice (some ⟨gx11, 0, none⟩) y.b.length cx11]) y) := hide ⟨_, _, _, _, rfl, Nat.le_refl _, i11, r11.ints⟩
    have G211 := hide ((unhide G210).trans g11)
    have ND := hide ((unhide ND).grew g11)
    clear i11 o11 r11 g11 p0 p1 G210
    have hX := hide (implCertVotes y _ w11 (unhide C11) hnc hnb (unhide HS))
    rw [unhide HE] at hX
    go_wp2_with fail
    refine (unhide hX).mono ?_
    rintro e w12 ⟨uh, hh, rfl, oh, g12⟩
    have OH := hide oh.vtsV
    have G212 := hide ((unhide G211).trans g12)
    have ND := hide ((unhide ND).grew g12)
    clear oh g12 G211 hX
    go_wp2_with fail
    refine (eqVoteS_v _ (unhide OH) ((unhide U0).grew (unhide G212)) (unhide HSH) (unhide HSH) (by omega) (by omega)).mono ?_
    rintro e w13 ⟨rfl, g13⟩
    rw [(sameVs_iff lc lc).2 rfl]
    have G213 := hide ((unhide G212).trans g13)
    have ND := hide ((unhide ND).grew g13)
    clear g13 G212
    go_wp2_with fail
    refine (heldV_v 1 _ (unhide ND) (unhide HCN) (by omega) (by omega)).mono ?_
    rintro e w14 ⟨rfl, g14⟩
    go_wp2
    go_ret
    exact ⟨rfl, (unhide G0).trans (((unhide S0).trans (unhide S1)).trans ((unhide G213).trans g14))⟩

set_option maxRecDepth 100000 in
theorem lifted (os : Os) (started : os.Started) (H : Type) (enc : TypeId × Value → H) :
    ReturnsInHanded {} Try.checked os 3 .any (Rows.fnExactCertVotesSpec.pre6 enc Try.prog Try.f3 Rows.fnExactCertVotesRow.domain false) (Rows.fnExactCertVotesSpec.post enc Try.prog Try.f3 false true false false) := by
  refine returnsInHanded_of_change (C := Try.checked) own started (by kernel_rfl) Try.func3
    (ChangeSpec.witness6 (enc := enc) (C := Try.checked) false ⟨#[], #[.agg #[.slice none 0 0, .slice none 0 0]], []⟩ 8 (by kernel_rfl) (by kernel_rfl) (by kernel_rfl) (by kernel_rfl)) ?_
  intro W base args ds gs before hval0 hW hcnd _
  have hval : ∀ (j : Nat) t v, Try.f3.params[j]? = some t → args[j]? = some v → Value.okWide Try.prog W .any base t v := hval0
  have hW' := hW
  obtain ⟨p, q, hA0, hV, rfl, hfz, hnd⟩ := hW
  have hA : DataW.TrodAll enc Try.prog W 0 (fun _ => true) true Try.f3.params.toList args.toList ds p := hA0
  rw [Try.params3] at hA hval
  obtain ⟨v0, vs0, d0, ds0, p0, q0, hargs, rfl, rfl, h0, r0⟩ := trodAll_cons hA
  obtain ⟨rfl, rfl, rfl⟩ := trodAll_nil r0
  obtain rfl : args = #[v0] := by cases args; simp_all
  obtain ⟨rfl, rfl⟩ := trodVars_none hV
  have k0 := h0
  have lt0 : ∀ x ∈ p0, x.block < W.heap.size := by obtain ⟨m, hm⟩ := k0; exact DataW.trod_lt m _ _ _ hm
  obtain ⟨cs0, rfl, hsz0⟩ := okWide_struct Try.underlying25 (hval 0 25 v0 rfl rfl)
  obtain ⟨fuel0, hf0⟩ := h0
  obtain ⟨y0, a0, cap0, b0, capb0, hv0, hl0, hn0, hb0, hnb0, hx0⟩ := open_cert hf0
  simp [Value.cells] at hv0
  obtain rfl : cs0 = #[.slice a0 y0.c.length cap0, .slice b0 y0.b.length capb0] := by cases cs0; simp_all
  clear hA0 hval0
  refine (walk y0 a0 cap0 b0 capb0 W hl0 hn0 hb0 hnb0 hx0).mono fun e W' ⟨he, bel⟩ => ?_
  subst he
  exact ⟨_, rfl, _, _, _, [], _, [], hW', trodAll_mk1 (shut_bool Try.underlying4 _), (trodAll_cons_mk (Below.trod laidOut (by kernel_rfl) (of_decide_eq_true (by kernel_rfl)) k0 bel.below lt0) trodAll_mk0), rfl, bel.below.frame _, fun h => by cases h⟩

theorem over : Rows.fnExactCertVotesRow.holds Try.pinned (OpenSpec.ofChange Rows.fnExactCertVotesSpec) :=
  OpenClaim.holds_of_wide 3 Try.f3 rfl rfl rfl rfl rfl rfl rfl ⟨rfl, rfl, rfl, rfl, rfl⟩ rfl rfl rfl rfl rfl (by kernel_rfl) Try.func3 (by kernel_rfl)
    (of_decide_eq_true (by kernel_rfl)) (by unfold Func.isWrapper; first | (rw [if_pos (by decide +kernel)]; kernel_rfl) | (rw [if_neg (by decide +kernel)]; exact ⟨rfl, rfl⟩))
    (fun os started H enc _ => lifted os started H enc)
end Go.Proofs.Yteemihgakcmamaa.FnExactCertVotes
namespace Go.Proofs.Yteemihgakcmamaa
theorem fnExactCertVotes_holds : Rows.FnExactCertVotesSaid := FnExactCertVotes.over
#print axioms fnExactCertVotes_holds
end Go.Proofs.Yteemihgakcmamaa
