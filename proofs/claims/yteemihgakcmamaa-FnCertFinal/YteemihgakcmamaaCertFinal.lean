/-
  FnCertFinal returns true at every row of bytes and leaves its argument as it was: what the statement says; no condition.
-/
import Derived.Test.YteemihgakcmamaaCerDr
import Derived.Test.YteemihgakcmamaaCerF
import Derived.Test.YteemihgakcmamaaSame
import Derived.Test.YteemihgakcmamaaIn
import Derived.Lib.SmallJoins
import Derived.JoinedOf
import Derived.JoinedAt
import Derived.RowKit3
import Derived.Deep.RegionHeldLaw
import Derived.Deep.RegionLaw
import Derived.Deep.DeepFit
namespace Go.Proofs.Yteemihgakcmamaa.FnCertFinal
set_option linter.unusedVariables false
open Go.ChangeShapes Go.WideShapes Go.ChangeAt Go.RowKit Go.Joins
attribute [local simp] far_const

set_option maxRecDepth 20000 in
set_option maxHeartbeats 16000000 in
theorem walk (a : Option Addr) (n cap : Nat) (w : World) (hb : Byt w a w.heap.size n) (hc : n ≤ cap) :
    Calls Try.prog 6 #[.slice a n cap] w fun e w' => e = .returned (.bool true) ∧ Grew w w' := by
  by_cases hn : n ≤ 1048576
  · have hn1 : decide ((1048576 : Int) < (n : Int)) = false := by simp; omega
    go_enter Try.func6, Try.ntmps6
    go_wp2_with fail
    refine (drawCertFinal_dc a n cap _ hb hc hn).mono ?_
    rintro e w1 ⟨u, v, x, rfl, cr, hdb, g1⟩
    obtain ⟨ca, cc, cb, cd, rfl, rfl, hcc, hcd, ic, ib⟩ := cr
    have HC := hide ic
    have HB := hide ib
    have HDB := hide hdb
    have hnc : x.c.length ≤ 1048576 := Nat.le_trans hdb.1 (by omega)
    have hnb : x.b.length ≤ 1048576 := Nat.le_trans hdb.2.1 (by omega)
    have HS : Hid (ShortI x.b) := hide (fun y hy => Nat.le_trans (hdb.2.2 y hy) (by omega))
    have CV : Hid (∀ W, Grew w1 W → CtV W (.agg #[.slice ca x.c.length cc, .slice cb x.b.length cd]) x) := hide (fun W g => ⟨_, _, _, _, rfl, hcc, ic.grew g, ib.ints.grew g⟩)
    have G1 := hide g1
    have A := hide (CtAt.box w1 (.slice ca x.c.length cc) (.slice cb x.b.length cd) 31)
    have B2 : Hid (Grew w1 (w1.alloc (.cells #[.slice ca x.c.length cc, .slice cb x.b.length cd] 31))) := hide ((Grew.refl w1).alloc _)
    clear hdb ic ib g1
    have hE0 := hide (show certB x = false → finC x = [] from fun h => by unfold finC; rw [if_neg (by rw [h]; decide)])
    have hE1 := hide (show certB x = true → finC x = x.c.take (x.c.length - 1) from fun h => by unfold finC; rw [if_pos h])
    have hE3 := hide (certB_three (x := x))
    have hEB : Hid (certB x = true → okB x.c = true) := hide (fun h => by simp only [certB, Bool.and_eq_true] at h; exact h.1)
    obtain ⟨f, hf⟩ : ∃ f, finC x = f := ⟨_, rfl⟩
    have hfl : f.length ≤ 1048576 := by rw [← hf]; exact finC_len x hnc
    have HE := hide hf
    rw [hf] at hE0 hE1
    clear hf
    obtain ⟨p0, p1⟩ := unhide A
    go_wp2_with fail
    refine (implCertFinal x _ _ (unhide CV _ (unhide B2)) hnc hnb (unhide HS)).mono ?_
    rw [unhide HE]
    rintro e w3 ⟨fa, fc, rfl, fi, _, gg⟩
    have S2 := hide gg
    have FI := hide fi
    clear fi
    clear gg p0 p1
    obtain ⟨p0, p1⟩ := (unhide A).grew (unhide S2)
    go_wp2_with fail
    refine (specCertFinal x _ _ (unhide CV _ ((unhide B2).trans (unhide S2))) hnc hnb (unhide HS)).mono ?_
    rw [unhide HE]
    rintro e w4 ⟨sa, sc, rfl, si, gg⟩
    have S3 := hide gg
    have SI := hide si
    clear si
    clear gg p0 p1
    go_wp2_with fail
    refine (lwSame_any fa sa fc sc f f _ ((unhide FI).grew (unhide S3)) (unhide SI) hfl hfl).mono ?_
    rw [(sameB_iff f f).2 rfl]
    rintro e w5 ⟨rfl, gg⟩
    have S4 := hide gg
    clear gg
    cases hB : certB x with
    | false =>
      obtain ⟨p0, p1⟩ := (unhide A).grew (((unhide S2).trans (unhide S3)).trans (unhide S4))
      go_wp2_with fail
      refine (specCertOk x _ _ (unhide CV _ ((((unhide B2).trans (unhide S2)).trans (unhide S3)).trans (unhide S4))) hnc hnb (unhide HS)).mono ?_
      rw [hB]
      rintro e w6 ⟨rfl, gg⟩
      have S5 := hide gg
      clear gg p0 p1
      obtain ⟨p0, p1⟩ := (unhide A).grew ((((unhide S2).trans (unhide S3)).trans (unhide S4)).trans (unhide S5))
      go_wp2_with fail
      refine (specCertFinal x _ _ (unhide CV _ (((((unhide B2).trans (unhide S2)).trans (unhide S3)).trans (unhide S4)).trans (unhide S5))) hnc hnb (unhide HS)).mono ?_
      rw [unhide HE]
      rintro e w7 ⟨sa, sc, rfl, si, gg⟩
      have S6 := hide gg
      have SI := hide si
      clear si
      clear gg p0 p1
      go_wp2_with fail
      refine (lwSame_any fa sa fc sc f f _ ((unhide FI).grew ((((unhide S3).trans (unhide S4)).trans (unhide S5)).trans (unhide S6))) (unhide SI) hfl hfl).mono ?_
      rw [(sameB_iff f f).2 rfl]
      rintro e w8 ⟨rfl, gg⟩
      have S7 := hide gg
      clear gg
      go_wp2
      go_ret
      exact ⟨rfl, (unhide G1).trans (((((((unhide B2).trans (unhide S2)).trans (unhide S3)).trans (unhide S4)).trans (unhide S5)).trans (unhide S6)).trans (unhide S7))⟩
    | true =>
      obtain ⟨p0, p1⟩ := (unhide A).grew (((unhide S2).trans (unhide S3)).trans (unhide S4))
      go_wp2_with fail
      refine (specCertOk x _ _ (unhide CV _ ((((unhide B2).trans (unhide S2)).trans (unhide S3)).trans (unhide S4))) hnc hnb (unhide HS)).mono ?_
      rw [hB]
      rintro e w6 ⟨rfl, gg⟩
      have S5 := hide gg
      clear gg p0 p1
      have h3 := unhide hE3 hB
      have hft := unhide hE1 hB
      have hok := unhide hEB hB
      obtain ⟨p, hp⟩ : ∃ p, x.c.length = p + 1 := ⟨x.c.length - 1, by omega⟩
      have hfp : f.length = p := by rw [hft, List.length_take]; omega
      have HFT : Hid (f = x.c.take p) := hide (by rw [hft, hp]; rfl)
      have HIN : Hid (inC f x.c = true) := hide ((inC_iff _ _).2 ⟨by rw [hft]; exact okB_take hok _, hok, x.c.drop p, by rw [unhide HFT, List.take_append_drop]⟩)
      have HIT := hide (((unhide HC).take p))
      rw [← unhide HFT] at HIT
      have HP := hide hp
      have hxl : x.c.length ≤ 16 := (unhide HDB).1
      have hpc : p ≤ cc := by omega
      have hp16 : p ≤ 15 := by omega
      have hp2 : 2 ≤ p := by omega
      have HFP := hide hfp
      clear hfp
      clear hft hok h3 hB
      have AB := hide ((unhide A).grew ((((unhide S2).trans (unhide S3)).trans (unhide S4)).trans (unhide S5)))
      rw [hp] at AB ⊢
      clear hp hxl
      obtain ⟨p0, p1⟩ := unhide AB
      go_wp2_with fail
      refine (lwSame_n fa ca fc cc f f _ ((unhide FI).grew (((unhide S3).trans (unhide S4)).trans (unhide S5))) ((unhide HIT).grew (((((unhide B2).trans (unhide S2)).trans (unhide S3)).trans (unhide S4)).trans (unhide S5))) f.length p rfl (unhide HFP) hfl (by omega)).mono ?_
      rw [(sameB_iff f f).2 rfl]
      rintro e w7 ⟨rfl, gg⟩
      have S6 := hide gg
      clear gg p0 p1
      obtain ⟨p0, p1⟩ := (unhide AB).grew (unhide S6)
      go_wp2_with fail
      refine (implChainIn_n fa ca fc cc f x.c _ ((unhide FI).grew ((((unhide S3).trans (unhide S4)).trans (unhide S5)).trans (unhide S6))) ((unhide HC).grew ((((((unhide B2).trans (unhide S2)).trans (unhide S3)).trans (unhide S4)).trans (unhide S5)).trans (unhide S6))) f.length (p + 1) rfl (unhide HP) hfl (by omega)).mono ?_
      rw [unhide HIN]
      rintro e w8 ⟨rfl, gg⟩
      have S7 := hide gg
      clear gg p0 p1
      have h3d : (3 : Int) ≤ (p : Int) + 1 := by omega
      have h3e : decide ((3 : Int) ≤ (p : Int) + 1) = true := by simp; omega
      go_wp2
      go_ret
      exact ⟨rfl, (unhide G1).trans (((((((unhide B2).trans (unhide S2)).trans (unhide S3)).trans (unhide S4)).trans (unhide S5)).trans (unhide S6)).trans (unhide S7))⟩
  · have hn1 : decide ((1048576 : Int) < (n : Int)) = true := by simp; omega
    clear hn
    go_enter Try.func6, Try.ntmps6
    go_wp2
    go_ret
    exact ⟨rfl, Grew.refl _⟩

set_option maxRecDepth 100000 in
theorem lifted (os : Os) (started : os.Started) (H : Type) (enc : TypeId × Value → H) :
    ReturnsInHanded {} Try.checked os 6 .any (Rows.fnCertFinalSpec.pre6 enc Try.prog Try.f6 Rows.fnCertFinalRow.domain false) (Rows.fnCertFinalSpec.post enc Try.prog Try.f6 false true false false) := by
  refine returnsInHanded_of_change (C := Try.checked) own started (by kernel_rfl) Try.func6
    (ChangeSpec.witness6 (enc := enc) (C := Try.checked) false ⟨#[], #[.slice none 0 0], []⟩ 8 (by kernel_rfl) (by kernel_rfl) (by kernel_rfl) (by kernel_rfl)) ?_
  intro W base args ds gs before hval0 hW hcnd _
  have hval : ∀ (j : Nat) t v, Try.f6.params[j]? = some t → args[j]? = some v → Value.okWide Try.prog W .any base t v := hval0
  have hW' := hW
  obtain ⟨p, q, hA0, hV, rfl, hfz, hnd⟩ := hW
  have hA : DataW.TrodAll enc Try.prog W 0 (fun _ => true) true Try.f6.params.toList args.toList ds p := hA0
  rw [Try.params6] at hA hval
  obtain ⟨v0, vs0, d0, ds0, p0, q0, hargs, rfl, rfl, h0, r0⟩ := trodAll_cons hA
  obtain ⟨rfl, rfl, rfl⟩ := trodAll_nil r0
  obtain rfl : args = #[v0] := by cases args; simp_all
  obtain ⟨rfl, rfl⟩ := trodVars_none hV
  have k0 := h0
  have lt0 : ∀ x ∈ p0, x.block < W.heap.size := by obtain ⟨m, hm⟩ := k0; exact DataW.trod_lt m _ _ _ hm
  obtain ⟨a0, len0, cap0, rfl⟩ := okWide_slice Try.underlying44 (hval 0 44 v0 rfl rfl)
  obtain ⟨fuel0, hf0⟩ := h0
  obtain ⟨hb0, hc0⟩ := open_bytes hf0
  clear hA0 hval0
  refine (walk a0 len0 cap0 W hb0 hc0).mono fun e W' ⟨he, bel⟩ => ?_
  subst he
  exact ⟨_, rfl, _, _, _, [], _, [], hW', trodAll_mk1 (shut_bool Try.underlying4 _), (trodAll_cons_mk (Below.trod laidOut (by kernel_rfl) (of_decide_eq_true (by kernel_rfl)) k0 bel.below lt0) trodAll_mk0), rfl, bel.below.frame _, fun h => by cases h⟩

theorem over : Rows.fnCertFinalRow.holds Try.pinned (OpenSpec.ofChange Rows.fnCertFinalSpec) :=
  OpenClaim.holds_of_wide 6 Try.f6 rfl rfl rfl rfl rfl rfl rfl ⟨rfl, rfl, rfl, rfl, rfl⟩ rfl rfl rfl rfl rfl (by kernel_rfl) Try.func6 (by kernel_rfl)
    (of_decide_eq_true (by kernel_rfl)) (by unfold Func.isWrapper; first | (rw [if_pos (by decide +kernel)]; kernel_rfl) | (rw [if_neg (by decide +kernel)]; exact ⟨rfl, rfl⟩))
    (fun os started H enc _ => lifted os started H enc)
end Go.Proofs.Yteemihgakcmamaa.FnCertFinal
namespace Go.Proofs.Yteemihgakcmamaa
theorem fnCertFinal_holds : Rows.FnCertFinalSaid := FnCertFinal.over
#print axioms fnCertFinal_holds
end Go.Proofs.Yteemihgakcmamaa
