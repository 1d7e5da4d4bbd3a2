/-
  FnExactCertOk returns true at every argument and leaves its argument as it was: what the statement says; no condition.
-/
import Derived.Test.YtpimbbfcmgpckaaCerOpen
import Derived.Test.YtpimbbfcmgpckaaCer9
import Derived.Lib.SmallJoins
import Derived.JoinedOf
import Derived.JoinedAt
import Derived.RowKit3
namespace Go.Proofs.Ytpimbbfcmgpckaa.FnExactCertOk
set_option linter.unusedVariables false
open Go.ChangeShapes Go.WideShapes Go.ChangeAt Go.RowKit Go.Joins

set_option maxHeartbeats 4000000 in
theorem walk (y : Ct) (a : Option Addr) (cap : Nat) (b : Option Addr) (capb : Nat) (w : World) (hl : Its w a y.c) (hn : y.c.length ≤ maxLen) (hb : IntsS w b y.b) (hnb : y.b.length ≤ maxLen) (hm : ∀ x ∈ y.b, x.length ≤ maxLen) :
    Calls Try.prog 9 #[.agg #[.slice a y.c.length cap, .slice b y.b.length capb]] w fun e w' => e = .returned (.bool true) ∧ Grew w w' := by
  have HZ : Hid (∀ W, Grew w W → Calls Try.prog 48 #[.agg #[.slice a y.c.length cap, .slice b y.b.length capb], .int .i64 1048576] W fun r w' => r = .returned (.int .i64 (szR 1048576 (totC y))) ∧ Grew W w') :=
    hide (fun W g => szCert_any y a cap b capb 1048576 W (hb.grew g) (by omega) (by omega) (by unfold maxLen at hn; omega) (by unfold maxLen at hnb; omega) (fun x hx => by have := hm x hx; unfold maxLen at this; omega))
  have HL := hide hl
  have HB := hide hb
  clear hm hl hn hb hnb
  by_cases ht : (1048576 : Int) < totC y
  · rw [szR_neg ht] at HZ
    go_enter Try.func9, Try.ntmps9
    go_wp2_with fail
    refine (unhide HZ _ ((Grew.refl _).alloc _)).mono ?_
    rintro e w0 ⟨rfl, g0⟩
    go_wp2
    go_ret
    exact ⟨rfl, ((Grew.refl _).alloc _).trans g0⟩
  · have ht' : totC y ≤ 1048576 := by omega
    have hnn : ¬ szR 1048576 (totC y) < 0 := by rw [szR_pos ht]; omega
    have hnc : y.c.length ≤ 1048576 := by unfold totC at ht'; omega
    have hnb : y.b.length ≤ 1048576 := by unfold totC at ht'; omega
    have hsum : y.b.length + sumI y.b ≤ 1048576 := by unfold totC at ht'; omega
    have HS : Hid (ShortI y.b) := hide (fun x hx => by have := sumI_at hx; omega)
    clear ht ht'
    obtain ⟨bo, hbo⟩ : ∃ bo, certB y = bo := ⟨_, rfl⟩
    have HBO := hide hbo
    clear hbo
    go_enter Try.func9, Try.ntmps9
    go_wp2_with fail
    refine (unhide HZ _ ((Grew.refl _).alloc _)).mono ?_
    rintro e w0 ⟨rfl, g0⟩
    obtain ⟨p0, p1⟩ := (CtAt.box w (.slice a y.c.length cap) (.slice b y.b.length capb) _).grew g0
    have A0 := hide ((CtAt.box w (.slice a y.c.length cap) (.slice b y.b.length capb) _).grew g0)
    have G0 := hide (((Grew.refl w).alloc _).trans g0)
    clear g0
    go_wp2_with fail
    refine (toCert_any y a cap b capb _ ((unhide HL).grew (unhide G0)) ((unhide HB).grew (unhide G0)) hnc hnb (unhide HS)).mono ?_
    rintro e w1 ⟨q1, v1, hs1, rfl, hq1, hr1, i1, o1, r1, g1⟩
    obtain ⟨gx1, cx1, rfl, _, _, _⟩ := r1.shape
    have I1 := hide i1
    have O1 := hide o1
    have R1 := hide r1
    have C1 : Hid (CtV w1 (.agg #[.slice (some ⟨q1, 0, none⟩) y.c.length y.c.length, .slice (some ⟨gx1, 0, none⟩) y.b.length cx1]) y) := hide ⟨_, _, _, _, rfl, Nat.le_refl _, i1, r1.ints⟩
    have S0 := hide (show Grew w0 w1 from g1)
    have Q1 := hide (And.intro hq1 hr1)
    clear i1 o1 r1 g1 p0 p1 hq1 hr1
    have hX := hide (specCertOk y _ w1 (unhide C1) hnc hnb (unhide HS))
    rw [unhide HBO] at hX
    go_wp2_with fail
    refine (unhide hX).mono ?_
    rintro e w2 ⟨rfl, g2⟩
    have S1 := hide g2
    clear g2 hX C1 I1 O1 R1
    obtain ⟨p0, p1⟩ := (unhide A0).grew ((unhide S0).trans (unhide S1))
    go_wp2_with fail
    refine (toCert_any y a cap b capb _ ((unhide HL).grew ((unhide G0).trans ((unhide S0).trans (unhide S1)))) ((unhide HB).grew ((unhide G0).trans ((unhide S0).trans (unhide S1)))) hnc hnb (unhide HS)).mono ?_
    rintro e w3 ⟨q3, v3, hs3, rfl, hq3, hr3, i3, o3, r3, g3⟩
    obtain ⟨gx3, cx3, rfl, _, _, _⟩ := r3.shape
    have I3 := hide i3
    have O3 := hide o3
    have R3 := hide r3
    have C3 : Hid (CtV w3 (.agg #[.slice (some ⟨q3, 0, none⟩) y.c.length y.c.length, .slice (some ⟨gx3, 0, none⟩) y.b.length cx3]) y) := hide ⟨_, _, _, _, rfl, Nat.le_refl _, i3, r3.ints⟩
    have S2 := hide (show Grew w2 w3 from g3)
    have Q3 := hide (And.intro hq3 hr3)
    clear i3 o3 r3 g3 p0 p1 hq3 hr3
    have hX := fun W => hide (fun (g : Grew w3 W) => implCertOk y _ W ((unhide C3).grew g) hnc hnb (unhide HS))
    rw [unhide HBO] at hX
    go_wp2_with fail
    refine (unhide (hX _) ((Grew.refl _).alloc _)).mono ?_
    rintro e w4 ⟨rfl, g4⟩
    have X4 := hide ((CtAt.box w3 (.slice (some ⟨q3, 0, none⟩) y.c.length y.c.length) (.slice (some ⟨gx3, 0, none⟩) y.b.length cx3) _).grew g4)
    have S3 := hide (((Grew.refl w3).alloc _).trans g4)
    clear g4 hX HBO
    have hbb : (bo != bo) = false := by cases bo <;> rfl
    have AI := hide ((unhide A0).grew ((((unhide S0).trans (unhide S1)).trans (unhide S2)).trans (unhide S3)))
    have XI := hide ((unhide X4))
    go_wp2_with fail
    go_region_held_law (fun w' => w'.cell? ⟨w.heap.size, 0, none⟩ = some (.slice a y.c.length cap) ∧ w'.cell? ⟨w.heap.size, 1, none⟩ = some (.slice b y.b.length capb) ∧ w'.cell? ⟨w3.heap.size, 0, none⟩ = some (.slice (some ⟨q3, 0, none⟩) y.c.length y.c.length) ∧ w'.cell? ⟨w3.heap.size, 1, none⟩ = some (.slice (some ⟨gx3, 0, none⟩) y.b.length cx3))
      (first | exact ct2 ((unhide AI).grew (((Grew.refl _).drew.trans ga).trans gb)) ((unhide XI).grew (((Grew.refl _).drew.trans ga).trans gb)) | exact ct2 ((unhide AI).grew ((Grew.refl _).drew.trans ga)) ((unhide XI).grew ((Grew.refl _).drew.trans ga)) | exact ct2 (unhide AI) (unhide XI))
      (first
        | (go_at_call 50; refine (toCert_any y a cap b capb _ ((unhide HL).grew (((unhide G0).trans ((((unhide S0).trans (unhide S1)).trans (unhide S2)).trans (unhide S3))).drew)) ((unhide HB).grew (((unhide G0).trans ((((unhide S0).trans (unhide S1)).trans (unhide S2)).trans (unhide S3))).drew)) hnc hnb (unhide HS)).mono ?_; rintro r wa ⟨qa, va, hsa, rfl, _, _, ia, oa, ra, ga⟩; obtain ⟨gxa, cxa, rfl, _, _, _⟩ := ra.shape)
        | (go_at_call 52; refine (eqCert_same y _ _ _ ((unhide C3).grew ((unhide S3).drew.trans ga)) ⟨_, _, _, _, rfl, Nat.le_refl _, ia, ra.ints⟩ hnc (by omega) (unhide HS)).mono ?_; rintro r w5 ⟨rfl, gb⟩))
    have S4 := hide (show Grew w4 w5 from ((Grew.refl _).drew.trans ga).trans gb)
    clear ga gb oa ia ra AI XI
    go_wp2
    go_ret
    exact ⟨rfl, ((unhide G0).trans (((((unhide S0).trans (unhide S1)).trans (unhide S2)).trans (unhide S3)).trans (unhide S4)))⟩

set_option maxRecDepth 100000 in
theorem lifted (os : Os) (started : os.Started) (H : Type) (enc : TypeId × Value → H) :
    ReturnsInHanded {} Try.checked os 9 .any (Rows.fnExactCertOkSpec.pre6 enc Try.prog Try.f9 Rows.fnExactCertOkRow.domain false) (Rows.fnExactCertOkSpec.post enc Try.prog Try.f9 false true false false) := by
  refine returnsInHanded_of_change (C := Try.checked) own started (by kernel_rfl) Try.func9
    (ChangeSpec.witness6 (enc := enc) (C := Try.checked) false ⟨#[], #[.agg #[.slice none 0 0, .slice none 0 0]], []⟩ 8 (by kernel_rfl) (by kernel_rfl) (by kernel_rfl) (by kernel_rfl)) ?_
  intro W base args ds gs before hval0 hW hcnd _
  have hval : ∀ (j : Nat) t v, Try.f9.params[j]? = some t → args[j]? = some v → Value.okWide Try.prog W .any base t v := hval0
  have hW' := hW
  obtain ⟨p, q, hA0, hV, rfl, hfz, hnd⟩ := hW
  have hA : DataW.TrodAll enc Try.prog W 0 (fun _ => true) true Try.f9.params.toList args.toList ds p := hA0
  rw [Try.params9] at hA hval
  obtain ⟨v0, vs0, d0, ds0, p0, q0, hargs, rfl, rfl, h0, r0⟩ := trodAll_cons hA
  obtain ⟨rfl, rfl, rfl⟩ := trodAll_nil r0
  obtain rfl : args = #[v0] := by cases args; simp_all
  obtain ⟨rfl, rfl⟩ := trodVars_none hV
  have k0 := h0
  have lt0 : ∀ x ∈ p0, x.block < W.heap.size := by obtain ⟨m, hm⟩ := k0; exact DataW.trod_lt m _ _ _ hm
  obtain ⟨cs0, rfl, hsz0⟩ := okWide_struct Try.underlying68 (hval 0 68 v0 rfl rfl)
  obtain ⟨fuel0, hf0⟩ := h0
  obtain ⟨y0, a0, cap0, b0, capb0, hv0, hl0, hn0, hb0, hnb0, hx0⟩ := open_cert hf0
  simp [Value.cells] at hv0
  obtain rfl : cs0 = #[.slice a0 y0.c.length cap0, .slice b0 y0.b.length capb0] := by cases cs0; simp_all
  clear hA0 hval0
  refine (walk y0 a0 cap0 b0 capb0 W hl0 hn0 hb0 hnb0 hx0).mono fun e W' ⟨he, bel⟩ => ?_
  subst he
  exact ⟨_, rfl, _, _, _, [], _, [], hW', trodAll_mk1 (shut_bool Try.underlying4 _), (trodAll_cons_mk (Below.trod laidOut (by kernel_rfl) (of_decide_eq_true (by kernel_rfl)) k0 bel.below lt0) trodAll_mk0), rfl, bel.below.frame _, fun h => by cases h⟩

theorem over : Rows.fnExactCertOkRow.holds Try.pinned (OpenSpec.ofChange Rows.fnExactCertOkSpec) :=
  OpenClaim.holds_of_wide 9 Try.f9 rfl rfl rfl rfl rfl rfl rfl ⟨rfl, rfl, rfl, rfl, rfl⟩ rfl rfl rfl rfl rfl (by kernel_rfl) Try.func9 (by kernel_rfl)
    (of_decide_eq_true (by kernel_rfl)) (by unfold Func.isWrapper; first | (rw [if_pos (by decide +kernel)]; kernel_rfl) | (rw [if_neg (by decide +kernel)]; exact ⟨rfl, rfl⟩))
    (fun os started H enc _ => lifted os started H enc)
end Go.Proofs.Ytpimbbfcmgpckaa.FnExactCertOk
namespace Go.Proofs.Ytpimbbfcmgpckaa
theorem fnExactCertOk_holds : Rows.FnExactCertOkSaid := FnExactCertOk.over
#print axioms fnExactCertOk_holds
end Go.Proofs.Ytpimbbfcmgpckaa
