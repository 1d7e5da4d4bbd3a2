/-
  FnCertVotes returns true at every row of bytes and leaves its argument as it was: what the statement says; no condition.
-/
import Derived.Test.YteemihgakcmamaaCerDr
import Derived.Test.YteemihgakcmamaaCerVM
import Derived.Test.YteemihgakcmamaaVLwA
import Derived.Test.YteemihgakcmamaaVForms
import Derived.Lib.SmallJoins
import Derived.JoinedOf
import Derived.JoinedAt
import Derived.RowKit3
import Derived.Deep.RegionHeldLaw
import Derived.Deep.RegionLaw
import Derived.Deep.DeepFit
namespace Go.Proofs.Yteemihgakcmamaa.FnCertVotes
set_option linter.unusedVariables false
open Go.ChangeShapes Go.WideShapes Go.ChangeAt Go.RowKit Go.Joins
attribute [local simp] far_const

theorem votesFor_at (w0 : World) (gv : Value) (ca : Option Addr) (q cc : Nat) (L : List Vt) (T : List It) (l : List Int) (hv : VtsV w0 gv L) (hs : Short L) (hL : L.length ≤ 12) (it : Its w0 ca T) (hlq : T.length = q) (hq : q ≤ 1048576) (hf : forL L T = l) :
    Hid (∀ W, Grew w0 W → Calls Try.prog 41 #[gv, .slice ca q cc] W fun r w' => ∃ u, r = .returned u ∧ NumV w' u l ∧ Grew W w') := hide (fun W g => by
  subst hlq
  have := implVotesFor_v ca cc T W (hv.grew g) hs (Nat.le_trans hL (by decide)) (it.grew g) hq
  rw [hf] at this
  exact this.mono (fun _ _ ⟨u, h1, h2, h3⟩ => ⟨u, h1, h2.num, h3⟩))
theorem votesOk_at (w0 : World) (gv : Value) (L : List Vt) (hv : VtsV w0 gv L) (hs : Short L) (hL : L.length ≤ 12) (hk : votesB L = true) :
    Hid (∀ W, Grew w0 W → Calls Try.prog 42 #[gv] W fun r w' => r = .returned (.bool true) ∧ Grew W w') := hide (fun W g => by
  have := implVotesOk_v W (hv.grew g) hs (Nat.le_trans hL (by decide))
  rwa [hk] at this)
theorem keepT {w w' : World} {p0 p1 p2 : Addr} {u0 u1 u2 : Value} (h : w.cell? p0 = some u0 ∧ w.cell? p1 = some u1 ∧ w.cell? p2 = some u2) (g : Grew w w') : w'.cell? p0 = some u0 ∧ w'.cell? p1 = some u1 ∧ w'.cell? p2 = some u2 :=
  ⟨g.keep h.1, g.keep h.2.1, g.keep h.2.2⟩
theorem keepQ {w w' : World} {p0 p1 p2 p3 : Addr} {u0 u1 u2 u3 : Value} (h : w.cell? p0 = some u0 ∧ w.cell? p1 = some u1 ∧ w.cell? p2 = some u2 ∧ w.cell? p3 = some u3) (g : Grew w w') : w'.cell? p0 = some u0 ∧ w'.cell? p1 = some u1 ∧ w'.cell? p2 = some u2 ∧ w'.cell? p3 = some u3 :=
  ⟨g.keep h.1, g.keep h.2.1, g.keep h.2.2.1, g.keep h.2.2.2⟩
set_option maxRecDepth 20000 in
set_option maxHeartbeats 16000000 in
theorem walk (a : Option Addr) (n cap : Nat) (w : World) (hb : Byt w a w.heap.size n) (hc : n ≤ cap) :
    Calls Try.prog 7 #[.slice a n cap] w fun e w' => e = .returned (.bool true) ∧ Grew w w' := by
  by_cases hn : n ≤ 1048576
  · have hn1 : decide ((1048576 : Int) < (n : Int)) = false := by simp; omega
    go_enter Try.func7, Try.ntmps7
    go_wp2_with fail
    refine (drawCertVotes_dc a n cap _ hb hc hn).mono ?_
    rintro e w1 ⟨u, v, x, rfl, cr, hdb, g1⟩
    obtain ⟨ca, cc, cb, cd, rfl, rfl, hcc, hcd, ic, ib⟩ := cr
    have HC := hide ic
    have HB := hide ib
    have HDB := hide hdb
    have hnc : x.c.length ≤ 1048576 := Nat.le_trans hdb.1 (by omega)
    have hnb : x.b.length ≤ 1048576 := Nat.le_trans hdb.2.1 (by omega)
    have HS : Hid (ShortI x.b) := hide (fun y hy => Nat.le_trans (hdb.2.2 y hy) (by omega))
    have CV : Hid (∀ W, Grew w1 W → CtV W (.agg #[.slice ca x.c.length cc, .slice cb x.b.length cd]) x) := hide (fun W g => ⟨_, _, _, _, rfl, hcc, ic.grew g, ib.ints.grew g⟩)
    have G1 := hide g1
    have A := hide (CtAt.box w1 (.slice ca x.c.length cc) (.slice cb x.b.length cd) 31)
    have B2 : Hid (Grew w1 (w1.alloc (.cells #[.slice ca x.c.length cc, .slice cb x.b.length cd] 31))) := hide ((Grew.refl w1).alloc _)
    clear hdb ic ib g1
    obtain ⟨L, hL⟩ : ∃ L, cvotes x = L := ⟨_, rfl⟩
    have HL := hide hL
    have HLS : Hid (Short L) := by rw [← hL]; exact hide (cvotes_short x)
    have hL12 : L.length ≤ 12 := by rw [← hL]; exact cvotes_len x
    have hCK := hide (fun h => cvotes_ok (x := x) h)
    have hCF := hide (fun h => cvotes_for (x := x) h)
    have hCT := hide (cert_three (x := x))
    have hCC := hide (fun h l0 l1 l2 hb => cvotes_count (x := x) h (l0 := l0) (l1 := l1) (l2 := l2) hb)
    rw [hL] at hCK hCF hCC
    clear hL
    obtain ⟨p0, p1⟩ := unhide A
    go_wp2_with fail
    refine (implCertVotes x _ _ (unhide CV _ (unhide B2)) hnc hnb (unhide HS)).mono ?_
    rw [unhide HL]
    rintro e w3 ⟨ug, ks, rfl, va, gg⟩
    have S2 := hide gg
    obtain ⟨ga, gc, rfl, hgc, gvt⟩ := va.vtsV
    have GV : Hid (VtsV w3 (.slice ga L.length gc) L) := hide ⟨ga, gc, rfl, hgc, gvt⟩
    clear va gvt
    clear gg p0 p1
    obtain ⟨p0, p1⟩ := (unhide A).grew (unhide S2)
    go_wp2_with fail
    refine (specCertVotes x _ _ (unhide CV _ ((unhide B2).trans (unhide S2))) hnc hnb (unhide HS)).mono ?_
    rw [unhide HL]
    rintro e w4 ⟨us, rfl, vr, gg⟩
    have S3 := hide gg
    have UV := hide vr.vtsV
    clear vr
    clear gg p0 p1
    go_wp2_with fail
    refine (lwVotes_v _ ((unhide GV).grew (unhide S3)) (unhide UV) (unhide HLS) (unhide HLS) (by omega) (by omega)).mono ?_
    rw [(sameVs_iff L L).2 rfl]
    rintro e w5 ⟨rfl, gg⟩
    have S4 := hide gg
    clear gg
    cases hB : certB x with
    | false =>
      obtain ⟨p0, p1⟩ := (unhide A).grew (((unhide S2).trans (unhide S3)).trans (unhide S4))
      go_wp2_with fail
      refine (specCertOk x _ _ (unhide CV _ ((((unhide B2).trans (unhide S2)).trans (unhide S3)).trans (unhide S4))) hnc hnb (unhide HS)).mono ?_
      rw [hB]
      rintro e w6 ⟨rfl, gg⟩
      have S5 := hide gg
      clear gg p0 p1
      obtain ⟨p0, p1⟩ := (unhide A).grew ((((unhide S2).trans (unhide S3)).trans (unhide S4)).trans (unhide S5))
      go_wp2_with fail
      refine (specCertVotes x _ _ (unhide CV _ (((((unhide B2).trans (unhide S2)).trans (unhide S3)).trans (unhide S4)).trans (unhide S5))) hnc hnb (unhide HS)).mono ?_
      rw [unhide HL]
      rintro e w7 ⟨us, rfl, vr, gg⟩
      have S6 := hide gg
      have UV := hide vr.vtsV
      clear vr
      clear gg p0 p1
      go_wp2_with fail
      refine (lwVotes_v _ ((unhide GV).grew ((((unhide S3).trans (unhide S4)).trans (unhide S5)).trans (unhide S6))) (unhide UV) (unhide HLS) (unhide HLS) (by omega) (by omega)).mono ?_
      rw [(sameVs_iff L L).2 rfl]
      rintro e w8 ⟨rfl, gg⟩
      have S7 := hide gg
      clear gg
      go_wp2
      go_ret
      exact ⟨rfl, (unhide G1).trans (((((((unhide B2).trans (unhide S2)).trans (unhide S3)).trans (unhide S4)).trans (unhide S5)).trans (unhide S6)).trans (unhide S7))⟩
    | true =>
      obtain ⟨p0, p1⟩ := (unhide A).grew (((unhide S2).trans (unhide S3)).trans (unhide S4))
      go_wp2_with fail
      refine (specCertOk x _ _ (unhide CV _ ((((unhide B2).trans (unhide S2)).trans (unhide S3)).trans (unhide S4))) hnc hnb (unhide HS)).mono ?_
      rw [hB]
      rintro e w6 ⟨rfl, gg⟩
      have S5 := hide gg
      clear gg p0 p1
      have HK := hide (unhide hCK hB)
      have HFOR := hide (unhide hCF hB)
      obtain ⟨m, l0, l1, l2, hm, hbe, hy0, hy1, hy2, _, _⟩ := unhide hCT hB
      have hcnt := unhide hCC hB l0 l1 l2 hbe
      have z0 := byB_len hy0
      have z1 := byB_len hy1
      have z2 := byB_len hy2
      obtain ⟨N, hN⟩ : ∃ N, x.c.length = N := ⟨_, rfl⟩
      obtain ⟨p, hp⟩ : ∃ p, N - 2 = p := ⟨_, rfl⟩
      have hN16 : N ≤ 16 := by rw [← hN]; exact (unhide HDB).1
      have hN3 : 3 ≤ N := by omega
      have HNP := hide (And.intro hp hN)
      have hw1 : IntKind.i64.wrap ((N : Int) - 2) = (p : Int) := by rw [IntKind.wrap_i64]; omega
      have hw1' : wrap64 ((N : Int) - 2) = (p : Int) := by unfold wrap64; omega
      have hb3 : x.b.length = 3 := by rw [hbe]; rfl
      have H3 := hide hb3
      have HBE := hide hbe
      have HCNT := hide hcnt
      have HCC' : Hid (x.c.length ≤ cc) := hide hcc
      clear hcnt hm hp hB hcc hcd hy0 hy1 hy2
      have AB := hide ((unhide A).grew ((((unhide S2).trans (unhide S3)).trans (unhide S4)).trans (unhide S5)))
      rw [hN, hb3] at AB ⊢
      clear hN hb3 hbe
      obtain ⟨p0, p1⟩ := unhide AB
      have JB := hide (((((unhide B2).trans (unhide S2)).trans (unhide S3)).trans (unhide S4)).trans (unhide S5))
      go_wp2_with fail
      go_loopw [6] (fun i wr => ∃ k : Nat, k ≤ 3 ∧ i = .int .i64 k ∧ Hid (Grew w6 wr)) (fun i _ => 3 - (intOf i).toNat)
      case atStart => exact ⟨0, by omega, rfl, hide (Grew.refl _)⟩
      case round =>
        obtain ⟨k, hk, rfl, hg⟩ := hrel
        clear p0 p1
        obtain ⟨p0, p1⟩ := (unhide AB).grew (unhide hg)
        by_cases hk3 : k < 3
        · have hlb : k < x.b.length := by have := H3.out; omega
          obtain ⟨b0, off, ai, ci, rfl, d0, _, j0⟩ := (((unhide HB).grew (unhide JB)).grew (unhide hg)).at hlb
          have hfor := unhide HFOR k hlb
          have hk3' : (k : Int) < 3 := by omega
          obtain ⟨q, hq⟩ : ∃ q, p + k = q := ⟨_, rfl⟩
          have hqN : q ≤ N := by have := (unhide HNP).1; omega
          have hqc : q ≤ cc := by have := (unhide HNP).2; have := unhide HCC'; omega
          have hqm : q ≤ 1048576 := by omega
          have hw2 : IntKind.i64.wrap ((p : Int) + (k : Int)) = (q : Int) := by rw [IntKind.wrap_i64]; omega
          have hw2' : wrap64 ((p : Int) + (k : Int)) = (q : Int) := by unfold wrap64; omega
          rw [(unhide HNP).2, (unhide HNP).1, hq] at hfor
          have hlq : (x.c.take q).length = q := by rw [List.length_take]; exact Nat.min_eq_left (Nat.le_trans hqN (Nat.le_of_eq (unhide HNP).2.symm))
          obtain ⟨l, hl⟩ : ∃ l, x.b[k] = l := ⟨_, rfl⟩
          rw [hl] at hfor d0 j0
          have hl4 : l.length ≤ 4 := by rw [← hl]; exact (unhide HDB).2.2 _ (List.getElem_mem hlb)
          obtain ⟨T, hT⟩ : ∃ T, x.c.take q = T := ⟨_, rfl⟩
          have TI := hide (show Its wr ca T from by rw [← hT]; exact ((unhide HC).grew ((unhide JB).trans (unhide hg))).take q)
          rw [hT] at hlq hfor
          have KV := votesFor_at wr (.slice ga L.length gc) ca q cc L T l ((unhide GV).grew ((((unhide S3).trans (unhide S4)).trans (unhide S5)).trans (unhide hg))) (unhide HLS) hL12 (unhide TI) hlq hqm hfor
          clear TI hT
          have IQ := hide (And.intro p0 (And.intro p1 d0))
          have J0 := hide j0
          clear hl hq hfor hlq j0
          go_wp2_with fail
          go_region_held_law (fun w' => w'.cell? ⟨w1.heap.size, 0, none⟩ = some (.slice ca N cc) ∧ w'.cell? ⟨w1.heap.size, 1, none⟩ = some (.slice (some ⟨b0, off, none⟩) 3 cd) ∧ w'.cell? ⟨b0, off + k, none⟩ = some (.slice ai l.length ci))
            (first | exact unhide IQ | exact keepT (keepT (unhide IQ) ga1) gb1 | exact keepT (unhide IQ) ga1)
            (first
              | (go_at_call 41; refine (unhide KV _ (Grew.refl _).drew).mono ?_; rintro r wa ⟨ua, rfl, na, ga1⟩)
              | (go_at_call 40; refine (lwInts_v _ na ⟨ai, ci, rfl, (unhide J0).grew ((Grew.refl _).drew.trans ga1)⟩ (by omega) (by omega)).mono ?_; rintro r wb ⟨rfl, gb1⟩))
          have hgn := hide ((unhide hg).trans (((Grew.refl wr).drew.trans ga1).trans gb1))
          have hdl : decide (l = l) = true := by simp
          clear ga1 gb1 na hg p0 p1 d0 KV IQ J0
          go_wp2
          go_roundw
          case rel => exact ⟨k + 1, by omega, by go_num, hgn⟩
          case measure => simp [intOf]; omega
        · have hle : (3 : Int) ≤ (k : Int) := by omega
          obtain ⟨b0, off, a0, c0, rfl, d0, _, _⟩ := (((unhide HB).grew (unhide JB)).grew (unhide hg)).at (i := 0) (by have := H3.out; omega)
          obtain ⟨b1, o1, a1, c1, e1, d1, _, _⟩ := (((unhide HB).grew (unhide JB)).grew (unhide hg)).at (i := 1) (by have := H3.out; omega)
          obtain ⟨b2, o2, a2, c2, e2, d2, _, _⟩ := (((unhide HB).grew (unhide JB)).grew (unhide hg)).at (i := 2) (by have := H3.out; omega)
          simp only [Option.some.injEq, Addr.mk.injEq, and_true] at e1 e2
          obtain ⟨rfl, rfl⟩ := e1
          obtain ⟨rfl, rfl⟩ := e2
          have q0 : (x.b[0]'(by have := H3.out; omega)) = l0 := by simp [HBE.out]
          have q1 : (x.b[1]'(by have := H3.out; omega)) = l1 := by simp [HBE.out]
          have q2 : (x.b[2]'(by have := H3.out; omega)) = l2 := by simp [HBE.out]
          rw [q0, Nat.add_zero] at d0
          rw [q1] at d1
          rw [q2] at d2
          have KO := votesOk_at wr (.slice ga L.length gc) L ((unhide GV).grew ((((unhide S3).trans (unhide S4)).trans (unhide S5)).trans (unhide hg))) (unhide HLS) hL12 (unhide HK)
          have IQ := hide (And.intro p1 (And.intro d0 (And.intro d1 d2)))
          have s1 : IntKind.i64.wrap ((l0.length : Int) + (l1.length : Int)) = (l0.length : Int) + (l1.length : Int) := by rw [IntKind.wrap_i64]; omega
          have s2 : IntKind.i64.wrap ((l0.length : Int) + (l1.length : Int) + (l2.length : Int)) = (l0.length : Int) + (l1.length : Int) + (l2.length : Int) := by rw [IntKind.wrap_i64]; omega
          have s3 : ((L.length : Int) == (l0.length : Int) + (l1.length : Int) + (l2.length : Int)) = true := by rw [HCNT.out]; simp
          clear q0 q1 q2 d0 d1 d2 p0 p1
          go_wp2_with fail
          go_region_held_law (fun w' => w'.cell? ⟨w1.heap.size, 1, none⟩ = some (.slice (some ⟨b0, off, none⟩) 3 cd) ∧ w'.cell? ⟨b0, off, none⟩ = some (.slice a0 l0.length c0) ∧ w'.cell? ⟨b0, off + 1, none⟩ = some (.slice a1 l1.length c1) ∧ w'.cell? ⟨b0, off + 2, none⟩ = some (.slice a2 l2.length c2))
            (first | exact unhide IQ | exact keepQ (unhide IQ) ga1)
            (first | (go_at_call 42; refine (unhide KO _ (Grew.refl _).drew).mono ?_; rintro r wa ⟨rfl, ga1⟩))
          have GE := hide ((unhide hg).trans ((Grew.refl wr).drew.trans ga1))
          clear ga1
          go_wp2
          go_ret
          exact ⟨by first | rfl | simp [s3], (unhide G1).trans ((unhide JB).trans (unhide GE))⟩
  · have hn1 : decide ((1048576 : Int) < (n : Int)) = true := by simp; omega
    clear hn
    go_enter Try.func7, Try.ntmps7
    go_wp2
    go_ret
    exact ⟨rfl, Grew.refl _⟩

set_option maxRecDepth 100000 in
theorem lifted (os : Os) (started : os.Started) (H : Type) (enc : TypeId × Value → H) :
    ReturnsInHanded {} Try.checked os 7 .any (Rows.fnCertVotesSpec.pre6 enc Try.prog Try.f7 Rows.fnCertVotesRow.domain false) (Rows.fnCertVotesSpec.post enc Try.prog Try.f7 false true false false) := by
  refine returnsInHanded_of_change (C := Try.checked) own started (by kernel_rfl) Try.func7
    (ChangeSpec.witness6 (enc := enc) (C := Try.checked) false ⟨#[], #[.slice none 0 0], []⟩ 8 (by kernel_rfl) (by kernel_rfl) (by kernel_rfl) (by kernel_rfl)) ?_
  intro W base args ds gs before hval0 hW hcnd _
  have hval : ∀ (j : Nat) t v, Try.f7.params[j]? = some t → args[j]? = some v → Value.okWide Try.prog W .any base t v := hval0
  have hW' := hW
  obtain ⟨p, q, hA0, hV, rfl, hfz, hnd⟩ := hW
  have hA : DataW.TrodAll enc Try.prog W 0 (fun _ => true) true Try.f7.params.toList args.toList ds p := hA0
  rw [Try.params7] at hA hval
  obtain ⟨v0, vs0, d0, ds0, p0, q0, hargs, rfl, rfl, h0, r0⟩ := trodAll_cons hA
  obtain ⟨rfl, rfl, rfl⟩ := trodAll_nil r0
  obtain rfl : args = #[v0] := by cases args; simp_all
  obtain ⟨rfl, rfl⟩ := trodVars_none hV
  have k0 := h0
  have lt0 : ∀ x ∈ p0, x.block < W.heap.size := by obtain ⟨m, hm⟩ := k0; exact DataW.trod_lt m _ _ _ hm
  obtain ⟨a0, len0, cap0, rfl⟩ := okWide_slice Try.underlying44 (hval 0 44 v0 rfl rfl)
  obtain ⟨fuel0, hf0⟩ := h0
  obtain ⟨hb0, hc0⟩ := open_bytes hf0
  clear hA0 hval0
  refine (walk a0 len0 cap0 W hb0 hc0).mono fun e W' ⟨he, bel⟩ => ?_
  subst he
  exact ⟨_, rfl, _, _, _, [], _, [], hW', trodAll_mk1 (shut_bool Try.underlying4 _), (trodAll_cons_mk (Below.trod laidOut (by kernel_rfl) (of_decide_eq_true (by kernel_rfl)) k0 bel.below lt0) trodAll_mk0), rfl, bel.below.frame _, fun h => by cases h⟩

theorem over : Rows.fnCertVotesRow.holds Try.pinned (OpenSpec.ofChange Rows.fnCertVotesSpec) :=
  OpenClaim.holds_of_wide 7 Try.f7 rfl rfl rfl rfl rfl rfl rfl ⟨rfl, rfl, rfl, rfl, rfl⟩ rfl rfl rfl rfl rfl (by kernel_rfl) Try.func7 (by kernel_rfl)
    (of_decide_eq_true (by kernel_rfl)) (by unfold Func.isWrapper; first | (rw [if_pos (by decide +kernel)]; kernel_rfl) | (rw [if_neg (by decide +kernel)]; exact ⟨rfl, rfl⟩))
    (fun os started H enc _ => lifted os started H enc)
end Go.Proofs.Yteemihgakcmamaa.FnCertVotes
namespace Go.Proofs.Yteemihgakcmamaa
theorem fnCertVotes_holds : Rows.FnCertVotesSaid := FnCertVotes.over
#print axioms fnCertVotes_holds
end Go.Proofs.Yteemihgakcmamaa
