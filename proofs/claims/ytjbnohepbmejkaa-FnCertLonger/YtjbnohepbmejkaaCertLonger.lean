/-
  FnCertLonger returns true at every two rows of bytes and leaves its arguments as they were: what the statement says; no condition.
-/
import Derived.Test.YtjbnohepbmejkaaCerDr
import Derived.Test.YtjbnohepbmejkaaCerL
import Derived.Test.YtjbnohepbmejkaaVLwA
import Derived.Test.YtjbnohepbmejkaaTFormsA
import Derived.Lib.SmallJoins
import Derived.JoinedOf
import Derived.JoinedAt
import Derived.RowKit3
import Derived.Deep.RegionHeldLaw
import Derived.Deep.RegionLaw
import Derived.Deep.DeepFit
namespace Go.Proofs.Ytjbnohepbmejkaa.FnCertLonger
set_option linter.unusedVariables false
open Go.ChangeShapes Go.WideShapes Go.ChangeAt Go.RowKit Go.Joins
attribute [local simp] far_const

theorem keepQ {w w' : World} {p0 p1 p2 p3 : Addr} {u0 u1 u2 u3 : Value} (h : w.cell? p0 = some u0 ∧ w.cell? p1 = some u1 ∧ w.cell? p2 = some u2 ∧ w.cell? p3 = some u3) (g : Grew w w') : w'.cell? p0 = some u0 ∧ w'.cell? p1 = some u1 ∧ w'.cell? p2 = some u2 ∧ w'.cell? p3 = some u3 :=
  ⟨g.keep h.1, g.keep h.2.1, g.keep h.2.2.1, g.keep h.2.2.2⟩
set_option maxRecDepth 20000 in
set_option maxHeartbeats 16000000 in
theorem walk (a : Option Addr) (n cap : Nat) (a2 : Option Addr) (n2 cap2 : Nat) (w : World) (hb : Byt w a w.heap.size n) (hc : n ≤ cap) (hb2 : Byt w a2 w.heap.size n2) (hc2 : n2 ≤ cap2) :
    Calls Try.prog 8 #[.slice a n cap, .slice a2 n2 cap2] w fun e w' => e = .returned (.bool true) ∧ Grew w w' := by
  by_cases hn : n ≤ 1048576
  · have hn1 : decide ((1048576 : Int) < (n : Int)) = false := by simp; omega
    by_cases hn2 : n2 ≤ 1048576
    · have hn3 : decide ((1048576 : Int) < (n2 : Int)) = false := by simp; omega
      go_enter Try.func8, Try.ntmps8
      go_wp2_with fail
      refine (drawCertOf_any a n cap _ hb hc hn).mono ?_
      rintro e w1 ⟨v, l, base, rfl, vr, hll, hlow, g1⟩
      have HS : Hid (Short l) := hide (hlow.short (by omega))
      have VR := hide vr
      have V1 := hide vr.vtsV
      obtain ⟨gv, capv, rfl, hcapv, _, _, hvts⟩ := vr.shape
      have VT := hide hvts
      clear hvts
      have hl1 : l.length ≤ 1048576 := by omega
      have G1 := hide g1
      obtain ⟨hb1, hb2, hb3, hb4⟩ := certL_bound (hlow.short (by omega))
      have HIF := hide (fun v w (hv : CtV w v (certL l).1) => implCertFinal_l v w hv (hlow.short (by omega)))
      have HFF := hide (finC_final (l := l))
      have HTT := hide (certL_told (l := l))
      obtain ⟨X, hX⟩ : ∃ X, (certL l).1 = X := ⟨_, rfl⟩
      obtain ⟨bb, hbb⟩ : ∃ bb, (certL l).2 = bb := ⟨_, rfl⟩
      rw [hX] at hb1 hb2 hb3 HIF HFF
      rw [hbb] at HTT
      have HSI : Hid (ShortI X.b) := hide (fun x hx => by have := hb3 x hx; omega)
      have HC := hide (And.intro hX hbb)
      have hb0 : (bb != bb) = false := by cases bb <;> rfl
      have hb00 : (bb == bb) = true := by cases bb <;> rfl
      clear hX hbb hb3 hb4 hlow vr g1
      go_wp2_with fail
      refine (specCertOf_r w1 (unhide VR) (unhide HS) hl1).mono ?_
      simp only [unhide HC]
      rintro e w2 ⟨us, vs, rfl, cs, gg⟩
      have S1 := hide gg
      obtain ⟨ua, un, uc, va, vn, vc, rfl, rfl⟩ := cs.open
      have CS := hide cs.ctV
      clear cs
      clear gg
      have B2 := hide (CtAt.box w2 (.slice ua un uc) (.slice va vn vc) 26)
      have S2 : Hid (Grew w2 (w2.alloc (.cells #[(.slice ua un uc), (.slice va vn vc)] 26))) := hide ((Grew.refl w2).alloc _)
      obtain ⟨w3, hw3⟩ : ∃ W, W = w2.alloc (.cells #[(.slice ua un uc), (.slice va vn vc)] 26) := ⟨_, rfl⟩
      have HW3 := hide hw3
      rw [← hw3] at B2 S2
      clear hw3
      go_wp2_with fail
      rw [← unhide HW3]
      refine (implCertOf_v _ ((unhide V1).grew ((unhide S1).trans (unhide S2))) (unhide HS) hl1).mono ?_
      simp only [unhide HC]
      rintro e w4 ⟨ug, vg, rfl, ag, gg⟩
      have S3 := hide gg
      obtain ⟨ga, gn, gc, fa, fn, fc, rfl, rfl⟩ := ag.open
      have CG := hide ag.ctV
      clear ag gg
      have B4 := hide (CtAt.box w4 (.slice ga gn gc) (.slice fa fn fc) 26)
      have S4 : Hid (Grew w4 (w4.alloc (.cells #[(.slice ga gn gc), (.slice fa fn fc)] 26))) := hide ((Grew.refl w4).alloc _)
      obtain ⟨w5, hw5⟩ : ∃ W, W = w4.alloc (.cells #[(.slice ga gn gc), (.slice fa fn fc)] 26) := ⟨_, rfl⟩
      have HW5 := hide hw5
      rw [← hw5] at B4 S4
      clear hw5
      have A5 := hide ((unhide B2).grew ((unhide S3).trans (unhide S4)))
      obtain ⟨p0, p1⟩ := unhide A5
      obtain ⟨q0, q1⟩ := unhide B4
      rw [unhide HW5] at p0 p1 q0 q1
      go_wp2_with fail
      rw [← unhide HW5]
      refine (lwCert_same X _ _ w5 ((unhide CG).grew (unhide S4)) ((unhide CS).grew (((unhide S2).trans (unhide S3)).trans (unhide S4))) hb1 (by omega) (unhide HSI)).mono ?_
      rintro e w6 ⟨rfl, gg⟩
      have S5 := hide gg
      clear gg p0 p1 q0 q1 HW5 HW3
      go_wp2_with fail
      refine (specVotesOk_v _ ((unhide V1).grew (((((unhide S1).trans (unhide S2)).trans (unhide S3)).trans (unhide S4)).trans (unhide S5))) (unhide HS) hl1).mono ?_
      rintro e w7 ⟨rfl, gg⟩
      have S6 := hide gg
      clear gg
      cases hv : votesB l with
      | false =>
        obtain ⟨p0, p1⟩ := (unhide A5).grew ((unhide S5).trans (unhide S6))
        obtain ⟨q0, q1⟩ := (unhide B4).grew ((unhide S5).trans (unhide S6))
        go_wp2_with fail
        refine (lwCert_same X _ _ _ ((unhide CG).grew (((unhide S4).trans (unhide S5)).trans (unhide S6))) ((unhide CS).grew (((((unhide S2).trans (unhide S3)).trans (unhide S4)).trans (unhide S5)).trans (unhide S6))) hb1 (by omega) (unhide HSI)).mono ?_
        rintro e w8 ⟨rfl, gg⟩
        have S7 := hide gg
        clear gg p0 p1 q0 q1
        go_wp2
        go_ret
        exact ⟨by first | rfl | simp [hb00] | simp, (unhide G1).trans (((((((unhide S1).trans (unhide S2)).trans (unhide S3)).trans (unhide S4)).trans (unhide S5)).trans (unhide S6)).trans (unhide S7))⟩
      | true =>
        obtain ⟨N, hNN⟩ : ∃ N : Nat, Hid (N = n2 % (l.length + 1)) := ⟨_, hide rfl⟩
        have hNl : N ≤ l.length := by rw [hNN.out]; exact Nat.lt_succ_iff.1 (Nat.mod_lt _ (by omega))
        have hrem : ((n2 : Int).tmod ((l.length : Int) + 1)) = (N : Int) := by rw [hNN.out]; rw [Int.tmod_eq_emod_of_nonneg (by omega)]; rfl
        have hcut : (N : Int) ≤ (capv : Int) := by omega
        have e1 : ((N : Int)).toNat = N := by omega
        have HLN : Hid ((l.take N).length = N) := hide (by simp; omega)
        have HSN : Hid (Short (l.take N)) := fun y hy => unhide HS y (List.mem_of_mem_take hy)
        have hvn := take_votes hv N
        have hle := final_less hv N
        have hF := unhide HFF hv
        have hT := unhide HTT hv
        have hF2 := finC_final hvn
        have hT2 := certL_told hvn
        have HIR := hide (fun v w (hv : CtV w v (certL (l.take N)).1) => implCertFinal_l v w hv (unhide HSN))
        obtain ⟨F, hFn⟩ : ∃ F, (finalL l).length = F := ⟨_, rfl⟩
        obtain ⟨E, hEn⟩ : ∃ E, (finalL (l.take N)).length = E := ⟨_, rfl⟩
        rw [hFn] at hF hT hle
        rw [hEn] at hF2 hT2 hle
        obtain ⟨Y, hY⟩ : ∃ Y, (certL (l.take N)).1 = Y := ⟨_, rfl⟩
        obtain ⟨yb, hyb⟩ : ∃ yb, (certL (l.take N)).2 = yb := ⟨_, rfl⟩
        rw [hY] at hF2 HIR
        rw [hyb] at hT2
        have HD := hide (And.intro hY hyb)
        have K1 : Hid (∀ v w, CtV w v Y → Calls Try.prog 24 #[v] w fun r w' => ∃ u cap, r = .returned (.slice u E cap) ∧ Grew w w') := hide (fun v w hv => by have := unhide HIR v w hv; rwa [hF2] at this)
        have K2 : Hid (∀ v w, CtV w v X → Calls Try.prog 24 #[v] w fun r w' => ∃ u cap, r = .returned (.slice u F cap) ∧ Grew w w') := hide (fun v w hv => by have := unhide HIF v w hv; rwa [hF] at this)
        have hEF : decide ((E : Int) ≤ (F : Int)) = true := by simp; omega
        have HYB : Hid (yb = true → bb = true) := hide (fun h => by rw [hT2] at h; rw [hT]; simp at h ⊢; omega)
        have HLE := hide hle
        clear hvn hF hT hF2 hT2 HIR HIF HFF HTT hFn hEn hY hyb hv hle
        have hX := hide (implCertOf (some ⟨gv, 0, none⟩) capv (l.take N) w7 (((unhide VT).grew ((((((unhide S1).trans (unhide S2)).trans (unhide S3)).trans (unhide S4)).trans (unhide S5)).trans (unhide S6))).take N) (by rw [unhide HLN]; omega) (unhide HSN) (by rw [unhide HLN]; omega))
        rw [unhide HLN] at hX
        simp only [unhide HD] at hX
        go_wp2_with fail
        refine (unhide hX).mono ?_
        clear hX
        rintro e w8 ⟨ud, vd, rfl, ad, gg⟩
        obtain ⟨da, dn, dc, ea, en, ec, rfl, rfl⟩ := ad.open
        have CD := hide ad.ctV
        clear ad
        have S7 := hide gg
        clear gg
        have B8 := hide (CtAt.box w8 (.slice da dn dc) (.slice ea en ec) 26)
        have S8 : Hid (Grew w8 (w8.alloc (.cells #[(.slice da dn dc), (.slice ea en ec)] 26))) := hide ((Grew.refl w8).alloc _)
        obtain ⟨w9, hw9⟩ : ∃ W, W = w8.alloc (.cells #[(.slice da dn dc), (.slice ea en ec)] 26) := ⟨_, rfl⟩
        have HW9 := hide hw9
        rw [← hw9] at B8 S8
        clear hw9
        cases hy : yb with
        | false =>
          have KA : Hid (Grew w1 w9) := hide ((((((((unhide S1).trans (unhide S2)).trans (unhide S3)).trans (unhide S4)).trans (unhide S5)).trans (unhide S6)).trans (unhide S7)).trans (unhide S8))
          go_wp2_with fail
          rw [← unhide HW9]
          clear HW9
          refine quietly (by kernel_rfl) (by kernel_rfl) ?_
          repeat (go_big_quiet_step (fail))
          refine wpQuiet_nil ?_
          intro _ hw'
          obtain ⟨⟨nq, osq⟩, hw''⟩ := hw'
          subst hw''
          have g7 : Grew w9 (far w9 nq osq) := ⟨_, _, rfl⟩
          go_wp2
          go_ret
          exact ⟨by first | rfl | simp, (unhide G1).trans ((unhide KA).trans g7)⟩
        | true =>
          have hbt := unhide HYB hy
          rw [hbt]
          have C5 := hide ((unhide B4).grew ((((unhide S5).trans (unhide S6)).trans (unhide S7)).trans (unhide S8)))
          have IQ := hide (And.intro (unhide B8).1 (And.intro (unhide B8).2 (And.intro (unhide C5).1 (unhide C5).2)))
          have KD := hide (fun W (g : Grew w9 W) => unhide K1 _ W ((unhide CD).grew ((unhide S8).trans g)))
          have KC := hide (fun W (g : Grew w9 W) => unhide K2 _ W ((unhide CG).grew ((((((unhide S4).trans (unhide S5)).trans (unhide S6)).trans (unhide S7)).trans (unhide S8)).trans g)))
          have KA : Hid (Grew w1 w9) := hide ((((((((unhide S1).trans (unhide S2)).trans (unhide S3)).trans (unhide S4)).trans (unhide S5)).trans (unhide S6)).trans (unhide S7)).trans (unhide S8))
          clear K1 K2
          go_wp2_with fail
          rw [← unhide HW9]
          clear HW9
          go_region_held_law (fun w' => w'.cell? ⟨w8.heap.size, 0, none⟩ = some (.slice da dn dc) ∧ w'.cell? ⟨w8.heap.size, 1, none⟩ = some (.slice ea en ec) ∧ w'.cell? ⟨w4.heap.size, 0, none⟩ = some (.slice ga gn gc) ∧ w'.cell? ⟨w4.heap.size, 1, none⟩ = some (.slice fa fn fc))
            (first | exact unhide IQ | exact keepQ (keepQ (unhide IQ) ga1) gb1 | exact keepQ (unhide IQ) ga1)
            (first
              | (go_at_call 24; refine (unhide KC _ ((Grew.refl _).drew.trans ga1)).mono ?_; rintro r wb ⟨ux, cx, rfl, gb1⟩)
              | (go_at_call 24; refine (unhide KD _ (Grew.refl _).drew).mono ?_; rintro r wa ⟨uy, cy, rfl, ga1⟩))
          have GE := hide (((Grew.refl w9).drew.trans ga1).trans gb1)
          clear ga1 gb1
          go_wp2
          go_ret
          exact ⟨by first | rfl | (simp; exact unhide HLE), (unhide G1).trans ((unhide KA).trans (unhide GE))⟩
    · have hn3 : decide ((1048576 : Int) < (n2 : Int)) = true := by simp; omega
      clear hn2
      go_enter Try.func8, Try.ntmps8
      go_wp2
      go_ret
      exact ⟨rfl, Grew.refl _⟩
  · have hn1 : decide ((1048576 : Int) < (n : Int)) = true := by simp; omega
    clear hn
    go_enter Try.func8, Try.ntmps8
    go_wp2
    go_ret
    exact ⟨rfl, Grew.refl _⟩

set_option maxRecDepth 100000 in
theorem lifted (os : Os) (started : os.Started) (H : Type) (enc : TypeId × Value → H) :
    ReturnsInHanded {} Try.checked os 8 .any (Rows.fnCertLongerSpec.pre6 enc Try.prog Try.f8 Rows.fnCertLongerRow.domain false) (Rows.fnCertLongerSpec.post enc Try.prog Try.f8 false true false false) := by
  refine returnsInHanded_of_change (C := Try.checked) own started (by kernel_rfl) Try.func8
    (ChangeSpec.witness6 (enc := enc) (C := Try.checked) false ⟨#[], #[.slice none 0 0, .slice none 0 0], []⟩ 8 (by kernel_rfl) (by kernel_rfl) (by kernel_rfl) (by kernel_rfl)) ?_
  intro W base args ds gs before hval0 hW hcnd _
  have hval : ∀ (j : Nat) t v, Try.f8.params[j]? = some t → args[j]? = some v → Value.okWide Try.prog W .any base t v := hval0
  have hW' := hW
  obtain ⟨p, q, hA0, hV, rfl, hfz, hnd⟩ := hW
  have hA : DataW.TrodAll enc Try.prog W 0 (fun _ => true) true Try.f8.params.toList args.toList ds p := hA0
  rw [Try.params8] at hA hval
  obtain ⟨v0, vs0, d0, ds0, p0, q0, hargs, rfl, rfl, h0, r0⟩ := trodAll_cons hA
  obtain ⟨v1, vs1, d1, ds1, p1, q1, rfl, rfl, rfl, h1, r1⟩ := trodAll_cons r0
  obtain ⟨rfl, rfl, rfl⟩ := trodAll_nil r1
  obtain rfl : args = #[v0, v1] := by cases args; simp_all
  obtain ⟨rfl, rfl⟩ := trodVars_none hV
  have k0 := h0
  have lt0 : ∀ x ∈ p0, x.block < W.heap.size := by obtain ⟨m, hm⟩ := k0; exact DataW.trod_lt m _ _ _ hm
  obtain ⟨a0, len0, cap0, rfl⟩ := okWide_slice Try.underlying22 (hval 0 22 v0 rfl rfl)
  obtain ⟨fuel0, hf0⟩ := h0
  obtain ⟨hb0, hc0⟩ := open_bytes hf0
  have k1 := h1
  have lt1 : ∀ x ∈ p1, x.block < W.heap.size := by obtain ⟨m, hm⟩ := k1; exact DataW.trod_lt m _ _ _ hm
  obtain ⟨a1, len1, cap1, rfl⟩ := okWide_slice Try.underlying22 (hval 1 22 v1 rfl rfl)
  obtain ⟨fuel1, hf1⟩ := h1
  obtain ⟨hb1, hc1⟩ := open_bytes hf1
  clear hA0 hval0
  refine (walk a0 len0 cap0 a1 len1 cap1 W hb0 hc0 hb1 hc1).mono fun e W' ⟨he, bel⟩ => ?_
  subst he
  exact ⟨_, rfl, _, _, _, [], _, [], hW', trodAll_mk1 (shut_bool Try.underlying4 _), (trodAll_cons_mk (Below.trod laidOut (by kernel_rfl) (of_decide_eq_true (by kernel_rfl)) k0 bel.below lt0) (trodAll_cons_mk (Below.trod laidOut (by kernel_rfl) (of_decide_eq_true (by kernel_rfl)) k1 bel.below lt1) trodAll_mk0)), rfl, bel.below.frame _, fun h => by cases h⟩

theorem over : Rows.fnCertLongerRow.holds Try.pinned (OpenSpec.ofChange Rows.fnCertLongerSpec) :=
  OpenClaim.holds_of_wide 8 Try.f8 rfl rfl rfl rfl rfl rfl rfl ⟨rfl, rfl, rfl, rfl, rfl⟩ rfl rfl rfl rfl rfl (by kernel_rfl) Try.func8 (by kernel_rfl)
    (of_decide_eq_true (by kernel_rfl)) (by unfold Func.isWrapper; first | (rw [if_pos (by decide +kernel)]; kernel_rfl) | (rw [if_neg (by decide +kernel)]; exact ⟨rfl, rfl⟩))
    (fun os started H enc _ => lifted os started H enc)
end Go.Proofs.Ytjbnohepbmejkaa.FnCertLonger
namespace Go.Proofs.Ytjbnohepbmejkaa
theorem fnCertLonger_holds : Rows.FnCertLongerSaid := FnCertLonger.over
#print axioms fnCertLonger_holds
end Go.Proofs.Ytjbnohepbmejkaa
