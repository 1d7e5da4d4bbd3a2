/-
  FnCertOf returns true at every row of bytes and leaves its argument as it was: what the statement says; no condition.
-/
import Derived.Test.YtjbnohepbmejkaaCerDr
import Derived.Test.YtjbnohepbmejkaaCerL
import Derived.Test.YtjbnohepbmejkaaCerVM
import Derived.Test.YtjbnohepbmejkaaVLwA
import Derived.Test.YtjbnohepbmejkaaTFormsA
import Derived.Lib.SmallJoins
import Derived.JoinedOf
import Derived.JoinedAt
import Derived.RowKit3
import Derived.Deep.RegionHeldLaw
import Derived.Deep.RegionLaw
import Derived.Deep.DeepFit
namespace Go.Proofs.Ytjbnohepbmejkaa.FnCertOf
set_option linter.unusedVariables false
open Go.ChangeShapes Go.WideShapes Go.ChangeAt Go.RowKit Go.Joins
attribute [local simp] far_const

theorem certL_votes {l : List Vt} (hv : votesB l = true) : ∀ v ∈ cvotes (certL l).1, hasB l v = true := by
  intro v hm
  by_cases h : 0 < (mostF (allS l)).2
  · obtain ⟨k1, k2, k3, k4⟩ := most_parts h
    obtain ⟨hcb, hcl⟩ := certL_cert hv h
    rw [certL_yes hv h] at hcb hcl hm
    dsimp only at hcb hcl hm
    obtain ⟨M, hM⟩ : ∃ M, (mostF (allS l)).1 = M := ⟨_, rfl⟩
    rw [hM] at hcb hcl hm k3 k4
    have key : ∀ (d : List It) (n : Int), n ∈ forL l d → hasB l ⟨n, d⟩ = true := fun d n hn => by
      unfold forL at hn
      rw [if_pos hv] at hn
      unfold forN at hn
      exact (List.mem_filter.1 hn).2
    have hlen : (certOf l M).c.length = finN M + 1 := by unfold certOf; simp only [List.length_take]; omega
    have t1 : (certOf l M).c.take (finN M + 1 - 2) = M.take (finN M - 1) := by
      unfold certOf; rw [List.take_take]; congr 1; omega
    have t2 : (certOf l M).c.take (finN M + 1 - 1) = M.take (finN M) := by
      unfold certOf; rw [List.take_take]; congr 1; omega
    unfold cvotes at hm
    rw [if_pos hcb, hlen, t1, t2] at hm
    obtain ⟨n, d⟩ := v
    rcases List.mem_append.1 hm with hm | hm
    · rcases List.mem_append.1 hm with hm | hm
      · obtain ⟨rfl, hn⟩ := mem_votesC.1 hm
        exact key _ _ hn
      · obtain ⟨rfl, hn⟩ := mem_votesC.1 hm
        exact key _ _ hn
    · obtain ⟨rfl, hn⟩ := mem_votesC.1 hm
      exact key _ _ hn
  · exfalso
    rw [certL_no (fun hh => h hh.2)] at hm
    have : cvotes (⟨[], []⟩ : Ct) = [] := by decide
    rw [this] at hm
    cases hm
theorem keepQ {w w' : World} {p0 p1 p2 p3 : Addr} {u0 u1 u2 u3 : Value} (h : w.cell? p0 = some u0 ∧ w.cell? p1 = some u1 ∧ w.cell? p2 = some u2 ∧ w.cell? p3 = some u3) (g : Grew w w') : w'.cell? p0 = some u0 ∧ w'.cell? p1 = some u1 ∧ w'.cell? p2 = some u2 ∧ w'.cell? p3 = some u3 :=
  ⟨g.keep h.1, g.keep h.2.1, g.keep h.2.2.1, g.keep h.2.2.2⟩
set_option maxRecDepth 20000 in
set_option maxHeartbeats 16000000 in
theorem walk (a : Option Addr) (n cap : Nat) (w : World) (hb : Byt w a w.heap.size n) (hc : n ≤ cap) :
    Calls Try.prog 4 #[.slice a n cap] w fun e w' => e = .returned (.bool true) ∧ Grew w w' := by
  by_cases hn : n ≤ 1048576
  · have hn1 : decide ((1048576 : Int) < (n : Int)) = false := by simp; omega
    go_enter Try.func4, Try.ntmps4
    go_wp2_with fail
    refine (drawCertOf_any a n cap _ hb hc hn).mono ?_
    rintro e w1 ⟨v, l, base, rfl, vr, hll, hlow, g1⟩
    have HS : Hid (Short l) := hide (hlow.short (by omega))
    have VR := hide vr
    have V1 := hide vr.vtsV
    obtain ⟨gv, capv, rfl, hcapv, _, _, hvts⟩ := vr.shape
    have VT := hide hvts
    clear hvts
    have hl1 : l.length ≤ 1048576 := by omega
    have G1 := hide g1
    obtain ⟨hb1, hb2, hb3, hb4⟩ := certL_bound (hlow.short (by omega))
    have HIF := hide (fun v w (hv : CtV w v (certL l).1) => implCertFinal_l v w hv (hlow.short (by omega)))
    have HFF := hide (finC_final (l := l))
    have HTT := hide (certL_told (l := l))
    obtain ⟨X, hX⟩ : ∃ X, (certL l).1 = X := ⟨_, rfl⟩
    obtain ⟨bb, hbb⟩ : ∃ bb, (certL l).2 = bb := ⟨_, rfl⟩
    rw [hX] at hb1 hb2 hb3 HIF HFF
    rw [hbb] at HTT
    have HSI : Hid (ShortI X.b) := hide (fun x hx => by have := hb3 x hx; omega)
    have HC := hide (And.intro hX hbb)
    have hb0 : (bb != bb) = false := by cases bb <;> rfl
    have hb00 : (bb == bb) = true := by cases bb <;> rfl
    clear hX hbb hb3 hb4 hlow vr g1
    go_wp2_with fail
    refine (specCertOf_r w1 (unhide VR) (unhide HS) hl1).mono ?_
    simp only [unhide HC]
    rintro e w2 ⟨us, vs, rfl, cs, gg⟩
    have S1 := hide gg
    obtain ⟨ua, un, uc, va, vn, vc, rfl, rfl⟩ := cs.open
    have CS := hide cs.ctV
    clear cs
    clear gg
    have B2 := hide (CtAt.box w2 (.slice ua un uc) (.slice va vn vc) 26)
    have S2 : Hid (Grew w2 (w2.alloc (.cells #[(.slice ua un uc), (.slice va vn vc)] 26))) := hide ((Grew.refl w2).alloc _)
    obtain ⟨w3, hw3⟩ : ∃ W, W = w2.alloc (.cells #[(.slice ua un uc), (.slice va vn vc)] 26) := ⟨_, rfl⟩
    have HW3 := hide hw3
    rw [← hw3] at B2 S2
    clear hw3
    go_wp2_with fail
    rw [← unhide HW3]
    refine (implCertOf_v _ ((unhide V1).grew ((unhide S1).trans (unhide S2))) (unhide HS) hl1).mono ?_
    simp only [unhide HC]
    rintro e w4 ⟨ug, vg, rfl, ag, gg⟩
    have S3 := hide gg
    obtain ⟨ga, gn, gc, fa, fn, fc, rfl, rfl⟩ := ag.open
    have CG := hide ag.ctV
    clear ag gg
    have B4 := hide (CtAt.box w4 (.slice ga gn gc) (.slice fa fn fc) 26)
    have S4 : Hid (Grew w4 (w4.alloc (.cells #[(.slice ga gn gc), (.slice fa fn fc)] 26))) := hide ((Grew.refl w4).alloc _)
    obtain ⟨w5, hw5⟩ : ∃ W, W = w4.alloc (.cells #[(.slice ga gn gc), (.slice fa fn fc)] 26) := ⟨_, rfl⟩
    have HW5 := hide hw5
    rw [← hw5] at B4 S4
    clear hw5
    have A5 := hide ((unhide B2).grew ((unhide S3).trans (unhide S4)))
    obtain ⟨p0, p1⟩ := unhide A5
    obtain ⟨q0, q1⟩ := unhide B4
    rw [unhide HW5] at p0 p1 q0 q1
    go_wp2_with fail
    rw [← unhide HW5]
    refine (lwCert_same X _ _ w5 ((unhide CG).grew (unhide S4)) ((unhide CS).grew (((unhide S2).trans (unhide S3)).trans (unhide S4))) hb1 (by omega) (unhide HSI)).mono ?_
    rintro e w6 ⟨rfl, gg⟩
    have S5 := hide gg
    clear gg p0 p1 q0 q1 HW5 HW3
    go_wp2_with fail
    refine (specVotesOk_v _ ((unhide V1).grew (((((unhide S1).trans (unhide S2)).trans (unhide S3)).trans (unhide S4)).trans (unhide S5))) (unhide HS) hl1).mono ?_
    rintro e w7 ⟨rfl, gg⟩
    have S6 := hide gg
    clear gg
    cases hv : votesB l with
    | false =>
      obtain ⟨p0, p1⟩ := (unhide A5).grew ((unhide S5).trans (unhide S6))
      obtain ⟨q0, q1⟩ := (unhide B4).grew ((unhide S5).trans (unhide S6))
      go_wp2_with fail
      refine (lwCert_same X _ _ _ ((unhide CG).grew (((unhide S4).trans (unhide S5)).trans (unhide S6))) ((unhide CS).grew (((((unhide S2).trans (unhide S3)).trans (unhide S4)).trans (unhide S5)).trans (unhide S6))) hb1 (by omega) (unhide HSI)).mono ?_
      rintro e w8 ⟨rfl, gg⟩
      have S7 := hide gg
      clear gg p0 p1 q0 q1
      go_wp2
      go_ret
      exact ⟨by first | rfl | simp [hb00] | simp, (unhide G1).trans (((((((unhide S1).trans (unhide S2)).trans (unhide S3)).trans (unhide S4)).trans (unhide S5)).trans (unhide S6)).trans (unhide S7))⟩
    | true =>
      have hF := unhide HFF hv
      have hT := unhide HTT hv
      have HVM := hide (certL_votes hv)
      have HCB : Hid (0 < (finalL l).length → certB X = true) := hide (fun h => by
        have := (certL_cert hv (by rw [finalL_len hv] at h; exact h)).1
        rwa [(unhide HC).1] at this)
      rw [(unhide HC).1] at HVM
      obtain ⟨f, hf⟩ : ∃ f, finalL l = f := ⟨_, rfl⟩
      have hfl : f.length ≤ 1048576 := by rw [← hf]; exact finalL_short (unhide HS)
      rw [hf] at hF hT HCB
      have HFN := hide hf
      obtain ⟨L, hL⟩ : ∃ L, cvotes X = L := ⟨_, rfl⟩
      have HL := hide hL
      have HLS : Hid (Short L) := by rw [← hL]; exact hide (cvotes_short X)
      have hL12 : L.length ≤ 12 := by rw [← hL]; exact cvotes_len X
      rw [hL] at HVM
      have HF := hide hF
      have HT := hide hT
      clear hL hf HFF HTT hF hT hv
      go_wp2_with fail
      refine (implTreeFinal_v _ ((unhide V1).grew ((((((unhide S1).trans (unhide S2)).trans (unhide S3)).trans (unhide S4)).trans (unhide S5)).trans (unhide S6))) (unhide HS) hl1).mono ?_
      rw [unhide HFN]
      rintro e w8 ⟨vf, rfl, hvf, gg⟩
      have S7 := hide gg
      obtain ⟨za, zc, rfl, _, _, _⟩ := hvf.shape
      clear hvf
      clear gg
      cases hy : bb with
      | false =>
        have hT := unhide HT
        rw [hy] at hT
        have hf0 : f.length = 0 := by simp at hT; exact Nat.eq_zero_of_not_pos (fun h => by simp [List.length_pos_iff] at h; exact h hT)
        have hf1 : ((f.length : Int) == 0) = true := by simp [hf0]
        clear hT hf0
        go_wp2
        go_ret
        exact ⟨by first | rfl | simp [hf1] | simp, (unhide G1).trans (((((((unhide S1).trans (unhide S2)).trans (unhide S3)).trans (unhide S4)).trans (unhide S5)).trans (unhide S6)).trans (unhide S7))⟩
      | true =>
        have hT := unhide HT
        rw [hy] at hT
        have hfp : 0 < f.length := by simpa using hT.symm
        have hCB := unhide HCB hfp
        have hf2 : decide ((0 : Int) < (f.length : Int)) = true := by simp; omega
        have HFP := hide hfp
        clear hT hfp hy
        obtain ⟨p0, p1⟩ := (unhide B4).grew (((unhide S5).trans (unhide S6)).trans (unhide S7))
        go_wp2_with fail
        refine (implCertVotes X _ _ ((unhide CG).grew ((((unhide S4).trans (unhide S5)).trans (unhide S6)).trans (unhide S7))) hb1 (by omega) (unhide HSI)).mono ?_
        rw [unhide HL]
        rintro e w9 ⟨ug, ks, rfl, va, gg⟩
        have S8 := hide gg
        obtain ⟨qa, qc, rfl, hqc, qvt⟩ := va.vtsV
        have GV : Hid (VtsV w9 (.slice qa L.length qc) L) := hide ⟨qa, qc, rfl, hqc, qvt⟩
        clear va qvt
        clear gg p0 p1
        go_wp2_with fail
        go_loopw [10] (fun i wr => ∃ k : Nat, k ≤ L.length ∧ i = .int .i64 k ∧ Hid (Grew w9 wr)) (fun i _ => L.length - (intOf i).toNat)
        case atStart => exact ⟨0, by omega, rfl, hide (Grew.refl _)⟩
        case round =>
          obtain ⟨k, hk, rfl, hg⟩ := hrel
          by_cases hkl : k < L.length
          · obtain ⟨b0, off, c0, e0, d0, a1, c1, d1, i1⟩ := ((unhide GV).grew (unhide hg)).at hkl
            have e0 := e0
            injection e0 with e0 _ e0c
            subst e0 e0c
            have hki : (k : Int) < (L.length : Int) := by omega
            have hhas := unhide HVM L[k] (List.getElem_mem hkl)
            have hsh := unhide HLS L[k] (List.getElem_mem hkl)
            obtain ⟨y, hy⟩ : ∃ y, L[k] = y := ⟨_, rfl⟩
            rw [hy] at d0 d1 i1 hhas hsh
            have I1 := hide i1
            have HSY := hide hsh
            clear i1 hy hsh
            go_wp2_with fail
            refine (lwHas_v y _ _ ((unhide V1).grew (((((((((unhide S1).trans (unhide S2)).trans (unhide S3)).trans (unhide S4)).trans (unhide S5)).trans (unhide S6)).trans (unhide S7)).trans (unhide S8)).trans (unhide hg))) ⟨a1, c1, rfl, unhide I1⟩ (unhide HS) (unhide HSY) hl1).mono ?_
            rw [hhas]
            rintro e wq ⟨rfl, gg⟩
            have hgn := hide ((unhide hg).trans gg)
            clear gg hg d0 d1
            go_wp2
            go_roundw
            case rel => exact ⟨k + 1, by omega, by go_num, hgn⟩
            case measure => simp [intOf]; omega
          · have hle : (L.length : Int) ≤ (k : Int) := by omega
            obtain ⟨p0, p1⟩ := (unhide B4).grew (((((unhide S5).trans (unhide S6)).trans (unhide S7)).trans (unhide S8)).trans (unhide hg))
            go_wp2_with fail
            refine (implCertOk X _ _ ((unhide CG).grew ((((((unhide S4).trans (unhide S5)).trans (unhide S6)).trans (unhide S7)).trans (unhide S8)).trans (unhide hg))) hb1 (by omega) (unhide HSI)).mono ?_
            rw [hCB]
            rintro e wq ⟨rfl, gg⟩
            have hgn := hide ((unhide hg).trans gg)
            clear gg p0 p1
            obtain ⟨p0, p1⟩ := (unhide B4).grew (((((unhide S5).trans (unhide S6)).trans (unhide S7)).trans (unhide S8)).trans (unhide hgn))
            go_wp2_with fail
            refine (unhide HIF _ _ ((unhide CG).grew ((((((unhide S4).trans (unhide S5)).trans (unhide S6)).trans (unhide S7)).trans (unhide S8)).trans (unhide hgn)))).mono ?_
            rw [unhide HF]
            rintro e wz ⟨u5, c5, rfl, gg⟩
            have hgm := hide ((unhide hgn).trans gg)
            have hff : ((f.length : Int) == (f.length : Int)) = true := by simp
            clear gg p0 p1
            go_wp2
            go_ret
            exact ⟨by first | rfl | (simp; exact List.length_pos_iff.1 (unhide HFP)) | (simp; exact unhide HFP), (unhide G1).trans (((((((((unhide S1).trans (unhide S2)).trans (unhide S3)).trans (unhide S4)).trans (unhide S5)).trans (unhide S6)).trans (unhide S7)).trans (unhide S8)).trans (unhide hgm))⟩
  · have hn1 : decide ((1048576 : Int) < (n : Int)) = true := by simp; omega
    clear hn
    go_enter Try.func4, Try.ntmps4
    go_wp2
    go_ret
    exact ⟨rfl, Grew.refl _⟩

set_option maxRecDepth 100000 in
theorem lifted (os : Os) (started : os.Started) (H : Type) (enc : TypeId × Value → H) :
    ReturnsInHanded {} Try.checked os 4 .any (Rows.fnCertOfSpec.pre6 enc Try.prog Try.f4 Rows.fnCertOfRow.domain false) (Rows.fnCertOfSpec.post enc Try.prog Try.f4 false true false false) := by
  refine returnsInHanded_of_change (C := Try.checked) own started (by kernel_rfl) Try.func4
    (ChangeSpec.witness6 (enc := enc) (C := Try.checked) false ⟨#[], #[.slice none 0 0], []⟩ 8 (by kernel_rfl) (by kernel_rfl) (by kernel_rfl) (by kernel_rfl)) ?_
  intro W base args ds gs before hval0 hW hcnd _
  have hval : ∀ (j : Nat) t v, Try.f4.params[j]? = some t → args[j]? = some v → Value.okWide Try.prog W .any base t v := hval0
  have hW' := hW
  obtain ⟨p, q, hA0, hV, rfl, hfz, hnd⟩ := hW
  have hA : DataW.TrodAll enc Try.prog W 0 (fun _ => true) true Try.f4.params.toList args.toList ds p := hA0
  rw [Try.params4] at hA hval
  obtain ⟨v0, vs0, d0, ds0, p0, q0, hargs, rfl, rfl, h0, r0⟩ := trodAll_cons hA
  obtain ⟨rfl, rfl, rfl⟩ := trodAll_nil r0
  obtain rfl : args = #[v0] := by cases args; simp_all
  obtain ⟨rfl, rfl⟩ := trodVars_none hV
  have k0 := h0
  have lt0 : ∀ x ∈ p0, x.block < W.heap.size := by obtain ⟨m, hm⟩ := k0; exact DataW.trod_lt m _ _ _ hm
  obtain ⟨a0, len0, cap0, rfl⟩ := okWide_slice Try.underlying22 (hval 0 22 v0 rfl rfl)
  obtain ⟨fuel0, hf0⟩ := h0
  obtain ⟨hb0, hc0⟩ := open_bytes hf0
  clear hA0 hval0
  refine (walk a0 len0 cap0 W hb0 hc0).mono fun e W' ⟨he, bel⟩ => ?_
  subst he
  exact ⟨_, rfl, _, _, _, [], _, [], hW', trodAll_mk1 (shut_bool Try.underlying4 _), (trodAll_cons_mk (Below.trod laidOut (by kernel_rfl) (of_decide_eq_true (by kernel_rfl)) k0 bel.below lt0) trodAll_mk0), rfl, bel.below.frame _, fun h => by cases h⟩

theorem over : Rows.fnCertOfRow.holds Try.pinned (OpenSpec.ofChange Rows.fnCertOfSpec) :=
  OpenClaim.holds_of_wide 4 Try.f4 rfl rfl rfl rfl rfl rfl rfl ⟨rfl, rfl, rfl, rfl, rfl⟩ rfl rfl rfl rfl rfl (by kernel_rfl) Try.func4 (by kernel_rfl)
    (of_decide_eq_true (by kernel_rfl)) (by unfold Func.isWrapper; first | (rw [if_pos (by decide +kernel)]; kernel_rfl) | (rw [if_neg (by decide +kernel)]; exact ⟨rfl, rfl⟩))
    (fun os started H enc _ => lifted os started H enc)
end Go.Proofs.Ytjbnohepbmejkaa.FnCertOf
namespace Go.Proofs.Ytjbnohepbmejkaa
theorem fnCertOf_holds : Rows.FnCertOfSaid := FnCertOf.over
#print axioms fnCertOf_holds
end Go.Proofs.Ytjbnohepbmejkaa
