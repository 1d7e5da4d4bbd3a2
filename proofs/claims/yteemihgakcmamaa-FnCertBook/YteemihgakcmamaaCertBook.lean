/-
  FnCertBook returns true at every row of bytes and leaves its argument as it was: what the statement says; no condition.
-/
import Derived.Test.YteemihgakcmamaaCerDr
import Derived.Test.YteemihgakcmamaaCerF
import Derived.Test.YteemihgakcmamaaSame
import Derived.Test.YteemihgakcmamaaIn
import Derived.Test.YteemihgakcmamaaBookA
import Derived.Test.YteemihgakcmamaaBook6
import Derived.Test.YteemihgakcmamaaNums3
import Derived.Lib.SmallJoins
import Derived.JoinedOf
import Derived.JoinedAt
import Derived.RowKit3
import Derived.Deep.RegionHeldLaw
import Derived.Deep.RegionLaw
import Derived.Deep.DeepFit
namespace Go.Proofs.Yteemihgakcmamaa.FnCertBook
set_option linter.unusedVariables false
open Go.ChangeShapes Go.WideShapes Go.ChangeAt Go.RowKit Go.Joins
attribute [local simp] far_const

theorem keepQ {w w' : World} {p0 p1 p2 p3 : Addr} {u0 u1 u2 u3 : Value} (h : w.cell? p0 = some u0 ∧ w.cell? p1 = some u1 ∧ w.cell? p2 = some u2 ∧ w.cell? p3 = some u3) (g : Grew w w') : w'.cell? p0 = some u0 ∧ w'.cell? p1 = some u1 ∧ w'.cell? p2 = some u2 ∧ w'.cell? p3 = some u3 :=
  ⟨g.keep h.1, g.keep h.2.1, g.keep h.2.2.1, g.keep h.2.2.2⟩
theorem bof_last {c : List It} (h : okB c = true) {p : Nat} (hp : c.length = p + 1) : bokB (bof (c.take p)) = true ∧ ∀ hk : p < c.length, bpay (bof (c.take p)) c[p].f c[p].t c[p].s = bof c := by
  have ht := okB_take h p
  refine ⟨bof_ok ht, fun hk => ?_⟩
  have h1 := payAll_take c p hk
  rw [List.take_of_length_le (by omega)] at h1
  have e1 : bof c = payAll c := by unfold bof; rw [if_pos h]
  have e2 : bof (c.take p) = payAll (c.take p) := by unfold bof; rw [if_pos ht]
  rw [bpay_ok (bof_ok ht) (okB_pay h p hk), e2, e1, h1]
set_option maxRecDepth 20000 in
set_option maxHeartbeats 16000000 in
theorem walk (a : Option Addr) (n cap : Nat) (w : World) (hb : Byt w a w.heap.size n) (hc : n ≤ cap) :
    Calls Try.prog 12 #[.slice a n cap] w fun e w' => e = .returned (.bool true) ∧ Grew w w' := by
  by_cases hn : n ≤ 1048576
  · have hn1 : decide ((1048576 : Int) < (n : Int)) = false := by simp; omega
    go_enter Try.func12, Try.ntmps12
    go_wp2_with fail
    refine (drawCertFinal_dc a n cap _ hb hc hn).mono ?_
    rintro e w1 ⟨u, v, x, rfl, cr, hdb, g1⟩
    obtain ⟨ca, cc, cb, cd, rfl, rfl, hcc, hcd, ic, ib⟩ := cr
    have HC := hide ic
    have HB := hide ib
    have HDB := hide hdb
    have hnc : x.c.length ≤ 1048576 := Nat.le_trans hdb.1 (by omega)
    have hnb : x.b.length ≤ 1048576 := Nat.le_trans hdb.2.1 (by omega)
    have HS : Hid (ShortI x.b) := hide (fun y hy => Nat.le_trans (hdb.2.2 y hy) (by omega))
    have CV : Hid (∀ W, Grew w1 W → CtV W (.agg #[.slice ca x.c.length cc, .slice cb x.b.length cd]) x) := hide (fun W g => ⟨_, _, _, _, rfl, hcc, ic.grew g, ib.ints.grew g⟩)
    have G1 := hide g1
    have A := hide (CtAt.box w1 (.slice ca x.c.length cc) (.slice cb x.b.length cd) 31)
    have B2 : Hid (Grew w1 (w1.alloc (.cells #[.slice ca x.c.length cc, .slice cb x.b.length cd] 31))) := hide ((Grew.refl w1).alloc _)
    clear hdb ic ib g1
    have hE0 := hide (show certB x = false → finC x = [] from fun h => by unfold finC; rw [if_neg (by rw [h]; decide)])
    have hE1 := hide (show certB x = true → finC x = x.c.take (x.c.length - 1) from fun h => by unfold finC; rw [if_pos h])
    have hE3 := hide (certB_three (x := x))
    have hEB : Hid (certB x = true → okB x.c = true) := hide (fun h => by simp only [certB, Bool.and_eq_true] at h; exact h.1)
    obtain ⟨f, hf⟩ : ∃ f, finC x = f := ⟨_, rfl⟩
    have hfl : f.length ≤ 1048576 := by rw [← hf]; exact finC_len x hnc
    have HE := hide hf
    rw [hf] at hE0 hE1
    clear hf
    obtain ⟨p0, p1⟩ := unhide A
    go_wp2_with fail
    refine (implCertFinal x _ _ (unhide CV _ (unhide B2)) hnc hnb (unhide HS)).mono ?_
    rw [unhide HE]
    rintro e w3 ⟨fa, fc, rfl, fi, _, gg⟩
    have S2 := hide gg
    have FI := hide fi
    clear fi
    clear gg p0 p1
    obtain ⟨p0, p1⟩ := (unhide A).grew (unhide S2)
    go_wp2_with fail
    refine (specCertFinal x _ _ (unhide CV _ ((unhide B2).trans (unhide S2))) hnc hnb (unhide HS)).mono ?_
    rw [unhide HE]
    rintro e w4 ⟨sa, sc, rfl, si, gg⟩
    have S3 := hide gg
    have SI := hide si
    clear si
    clear gg p0 p1
    go_wp2_with fail
    refine (lwSame_any fa sa fc sc f f _ ((unhide FI).grew (unhide S3)) (unhide SI) hfl hfl).mono ?_
    rw [(sameB_iff f f).2 rfl]
    rintro e w5 ⟨rfl, gg⟩
    have S4 := hide gg
    clear gg
    cases hB : certB x with
    | false =>
      obtain ⟨p0, p1⟩ := (unhide A).grew (((unhide S2).trans (unhide S3)).trans (unhide S4))
      go_wp2_with fail
      refine (specCertOk x _ _ (unhide CV _ ((((unhide B2).trans (unhide S2)).trans (unhide S3)).trans (unhide S4))) hnc hnb (unhide HS)).mono ?_
      rw [hB]
      rintro e w6 ⟨rfl, gg⟩
      have S5 := hide gg
      clear gg p0 p1
      obtain ⟨p0, p1⟩ := (unhide A).grew ((((unhide S2).trans (unhide S3)).trans (unhide S4)).trans (unhide S5))
      go_wp2_with fail
      refine (specCertFinal x _ _ (unhide CV _ (((((unhide B2).trans (unhide S2)).trans (unhide S3)).trans (unhide S4)).trans (unhide S5))) hnc hnb (unhide HS)).mono ?_
      rw [unhide HE]
      rintro e w7 ⟨sa, sc, rfl, si, gg⟩
      have S6 := hide gg
      have SI := hide si
      clear si
      clear gg p0 p1
      go_wp2_with fail
      refine (lwSame_any fa sa fc sc f f _ ((unhide FI).grew ((((unhide S3).trans (unhide S4)).trans (unhide S5)).trans (unhide S6))) (unhide SI) hfl hfl).mono ?_
      rw [(sameB_iff f f).2 rfl]
      rintro e w8 ⟨rfl, gg⟩
      have S7 := hide gg
      clear gg
      go_wp2
      go_ret
      exact ⟨rfl, (unhide G1).trans (((((((unhide B2).trans (unhide S2)).trans (unhide S3)).trans (unhide S4)).trans (unhide S5)).trans (unhide S6)).trans (unhide S7))⟩
    | true =>
      obtain ⟨p0, p1⟩ := (unhide A).grew (((unhide S2).trans (unhide S3)).trans (unhide S4))
      go_wp2_with fail
      refine (specCertOk x _ _ (unhide CV _ ((((unhide B2).trans (unhide S2)).trans (unhide S3)).trans (unhide S4))) hnc hnb (unhide HS)).mono ?_
      rw [hB]
      rintro e w6 ⟨rfl, gg⟩
      have S5 := hide gg
      clear gg p0 p1
      have h3 := unhide hE3 hB
      have hft := unhide hE1 hB
      have hok := unhide hEB hB
      obtain ⟨p, hp⟩ : ∃ p, x.c.length = p + 1 := ⟨x.c.length - 1, by omega⟩
      have hpl : p < x.c.length := by omega
      obtain ⟨hbk, hby⟩ := bof_last hok hp
      have hby := hby hpl
      have hfT : f = x.c.take p := by rw [hft, hp]; rfl
      rw [← hfT] at hbk hby
      obtain ⟨ib, io, hie, hia⟩ := (unhide HC).at hpl
      obtain ⟨i0, i1, i2, i3⟩ := hia
      have hI := hide (And.intro i1 (And.intro i2 i3))
      obtain ⟨b0, hb0⟩ : ∃ l, bof f = l := ⟨_, rfl⟩
      obtain ⟨b1, hb1⟩ : ∃ l, bof x.c = l := ⟨_, rfl⟩
      have hl0 : b0.length ≤ 1048576 := by
        rcases bof_three f with h | h
        · rw [← hb0, h]; simp
        · obtain ⟨_, _, _, e, _⟩ := bokB_three h
          rw [← hb0, e]; simp
      have hl1 : b1.length ≤ 1048576 := by rw [← hb1, ← hby]; have := bpay_len (bof f) (x.c[p]'hpl).f (x.c[p]'hpl).t (x.c[p]'hpl).s; omega
      rw [hb0] at hbk hby
      rw [hb1] at hby
      obtain ⟨pf, hpf⟩ : ∃ z, (x.c[p]'hpl).f = z := ⟨_, rfl⟩
      obtain ⟨pt, hpt⟩ : ∃ z, (x.c[p]'hpl).t = z := ⟨_, rfl⟩
      obtain ⟨ps, hps⟩ : ∃ z, (x.c[p]'hpl).s = z := ⟨_, rfl⟩
      rw [hpf, hpt, hps] at hI hby
      have HBY := hide hby
      have HBK := hide hbk
      have HB0 := hide hb0
      have HB1 := hide hb1
      have HP := hide hp
      have hp16 : p ≤ 15 := by have := (unhide HDB).1; omega
      subst hie
      clear hft hok h3 hB hby hbk hb0 hb1 i0 i1 i2 i3 hpf hpt hps hfT hp
      go_wp2_with fail
      refine (implBookOf fa fc f _ ((unhide FI).grew (((unhide S3).trans (unhide S4)).trans (unhide S5))) hfl).mono ?_
      rw [unhide HB0]
      rintro e w7 ⟨vb, rfl, ob, gg⟩
      have S6 := hide gg
      have NB := hide ob.num
      clear ob
      clear gg
      have AB := hide ((unhide A).grew (((((unhide S2).trans (unhide S3)).trans (unhide S4)).trans (unhide S5)).trans (unhide S6)))
      rw [unhide HP] at AB ⊢
      obtain ⟨p0, p1⟩ := unhide AB
      have J := hide (And.intro ((unhide hI).1) (And.intro (unhide hI).2.1 (unhide hI).2.2))
      have IQ := hide (And.intro p0 (And.intro (((((((unhide B2).trans (unhide S2)).trans (unhide S3)).trans (unhide S4)).trans (unhide S5)).trans (unhide S6)).keep (unhide hI).1) (And.intro (((((((unhide B2).trans (unhide S2)).trans (unhide S3)).trans (unhide S4)).trans (unhide S5)).trans (unhide S6)).keep (unhide hI).2.1) (((((((unhide B2).trans (unhide S2)).trans (unhide S3)).trans (unhide S4)).trans (unhide S5)).trans (unhide S6)).keep (unhide hI).2.2))))
      have KOK : Hid (∀ W, Grew w7 W → Calls Try.prog 48 #[vb] W fun r w' => r = .returned (.bool true) ∧ w' = W) := hide (fun W g => by
        have := implBookOk_v W ((unhide NB).grew g) hl0
        rwa [unhide HBK] at this)
      have KPY : Hid (∀ W, Grew w7 W → Calls Try.prog 49 #[vb, .agg #[.int .i64 pf, .int .i64 pt, .int .i64 ps]] W fun r w' => ∃ u, r = .returned u ∧ NumV w' u b1 ∧ Grew W w') := hide (fun W g => by
        have := implBookPay_v pf pt ps W ((unhide NB).grew g) hl0
        rw [unhide HBY] at this
        exact this.mono (fun _ _ ⟨u, h1, h2, h3⟩ => ⟨u, h1, h2.num, h3⟩))
      have KOF : Hid (∀ W, Grew w7 W → Calls Try.prog 47 #[.slice (some ⟨ib, io, none⟩) (p + 1) cc] W fun r w' => ∃ u, r = .returned u ∧ NumV w' u b1 ∧ Grew W w') := hide (fun W g => by
        have := implBookOf (some ⟨ib, io, none⟩) cc x.c W ((unhide HC).grew (((((((unhide B2).trans (unhide S2)).trans (unhide S3)).trans (unhide S4)).trans (unhide S5)).trans (unhide S6)).trans g)) hnc
        rw [unhide HB1, unhide HP] at this
        exact this.mono (fun _ _ ⟨u, h1, h2, h3⟩ => ⟨u, h1, h2.num, h3⟩))
      have hw1 : IntKind.i64.wrap (p : Int) = (p : Int) := by rw [IntKind.wrap_i64]; omega
      have hw4 : (p : Int) < ((p + 1 : Nat) : Int) := by omega
      have hw5 : (p : Int) < (p : Int) + 1 := by omega
      have hw6 : (0 : Int) ≤ (p : Int) := by omega
      clear p0 p1
      go_wp2_with fail
      go_region_held_law (fun w' => w'.cell? ⟨w1.heap.size, 0, none⟩ = some (.slice (some ⟨ib, io, none⟩) (p + 1) cc) ∧ w'.cell? ⟨ib, io + p * 4 + 1, none⟩ = some (.int .i64 pf) ∧ w'.cell? ⟨ib, io + p * 4 + 2, none⟩ = some (.int .i64 pt) ∧ w'.cell? ⟨ib, io + p * 4 + 3, none⟩ = some (.int .i64 ps))
        (first | exact unhide IQ | exact keepQ (unhide IQ) gb | exact keepQ (keepQ (unhide IQ) gb) gc | exact keepQ (keepQ (keepQ (unhide IQ) gb) gc) gd)
        (first
          | (go_at_call 48; refine (unhide KOK _ (Grew.refl _).drew).mono ?_; rintro r wa ⟨rfl, rfl⟩)
          | (go_at_call 49; refine (unhide KPY _ (Grew.refl _).drew).mono ?_; rintro r wb ⟨ub, rfl, nb, gb⟩)
          | (go_at_call 47; refine (unhide KOF _ ((Grew.refl _).drew.trans gb)).mono ?_; rintro r wc ⟨uc, rfl, nc, gc⟩)
          | (go_at_call 40; refine (lwInts_v _ (nb.grew gc) nc hl1 hl1).mono ?_; rintro r wd ⟨rfl, gd⟩))
      have GE := hide (((Grew.refl w7).drew.trans gb).trans (gc.trans gd))
      clear gb gc gd nb nc
      go_wp2
      go_ret
      exact ⟨by simp, (unhide G1).trans (((((((unhide B2).trans (unhide S2)).trans (unhide S3)).trans (unhide S4)).trans (unhide S5)).trans (unhide S6)).trans (unhide GE))⟩
  · have hn1 : decide ((1048576 : Int) < (n : Int)) = true := by simp; omega
    clear hn
    go_enter Try.func12, Try.ntmps12
    go_wp2
    go_ret
    exact ⟨rfl, Grew.refl _⟩

set_option maxRecDepth 100000 in
theorem lifted (os : Os) (started : os.Started) (H : Type) (enc : TypeId × Value → H) :
    ReturnsInHanded {} Try.checked os 12 .any (Rows.fnCertBookSpec.pre6 enc Try.prog Try.f12 Rows.fnCertBookRow.domain false) (Rows.fnCertBookSpec.post enc Try.prog Try.f12 false true false false) := by
  refine returnsInHanded_of_change (C := Try.checked) own started (by kernel_rfl) Try.func12
    (ChangeSpec.witness6 (enc := enc) (C := Try.checked) false ⟨#[], #[.slice none 0 0], []⟩ 8 (by kernel_rfl) (by kernel_rfl) (by kernel_rfl) (by kernel_rfl)) ?_
  intro W base args ds gs before hval0 hW hcnd _
  have hval : ∀ (j : Nat) t v, Try.f12.params[j]? = some t → args[j]? = some v → Value.okWide Try.prog W .any base t v := hval0
  have hW' := hW
  obtain ⟨p, q, hA0, hV, rfl, hfz, hnd⟩ := hW
  have hA : DataW.TrodAll enc Try.prog W 0 (fun _ => true) true Try.f12.params.toList args.toList ds p := hA0
  rw [Try.params12] at hA hval
  obtain ⟨v0, vs0, d0, ds0, p0, q0, hargs, rfl, rfl, h0, r0⟩ := trodAll_cons hA
  obtain ⟨rfl, rfl, rfl⟩ := trodAll_nil r0
  obtain rfl : args = #[v0] := by cases args; simp_all
  obtain ⟨rfl, rfl⟩ := trodVars_none hV
  have k0 := h0
  have lt0 : ∀ x ∈ p0, x.block < W.heap.size := by obtain ⟨m, hm⟩ := k0; exact DataW.trod_lt m _ _ _ hm
  obtain ⟨a0, len0, cap0, rfl⟩ := okWide_slice Try.underlying44 (hval 0 44 v0 rfl rfl)
  obtain ⟨fuel0, hf0⟩ := h0
  obtain ⟨hb0, hc0⟩ := open_bytes hf0
  clear hA0 hval0
  refine (walk a0 len0 cap0 W hb0 hc0).mono fun e W' ⟨he, bel⟩ => ?_
  subst he
  exact ⟨_, rfl, _, _, _, [], _, [], hW', trodAll_mk1 (shut_bool Try.underlying4 _), (trodAll_cons_mk (Below.trod laidOut (by kernel_rfl) (of_decide_eq_true (by kernel_rfl)) k0 bel.below lt0) trodAll_mk0), rfl, bel.below.frame _, fun h => by cases h⟩

theorem over : Rows.fnCertBookRow.holds Try.pinned (OpenSpec.ofChange Rows.fnCertBookSpec) :=
  OpenClaim.holds_of_wide 12 Try.f12 rfl rfl rfl rfl rfl rfl rfl ⟨rfl, rfl, rfl, rfl, rfl⟩ rfl rfl rfl rfl rfl (by kernel_rfl) Try.func12 (by kernel_rfl)
    (of_decide_eq_true (by kernel_rfl)) (by unfold Func.isWrapper; first | (rw [if_pos (by decide +kernel)]; kernel_rfl) | (rw [if_neg (by decide +kernel)]; exact ⟨rfl, rfl⟩))
    (fun os started H enc _ => lifted os started H enc)
end Go.Proofs.Yteemihgakcmamaa.FnCertBook
namespace Go.Proofs.Yteemihgakcmamaa
theorem fnCertBook_holds : Rows.FnCertBookSaid := FnCertBook.over
#print axioms fnCertBook_holds
end Go.Proofs.Yteemihgakcmamaa
