/-
  FnBookBack returns true at every row of bytes and leaves its argument as it was: what the statement says; no condition.
-/
import Derived.Test.YtnoiammgpdlljaaDrawB
import Derived.Test.YtnoiammgpdlljaaOpenN
import Derived.Test.YtnoiammgpdlljaaBook6
import Derived.Lib.SmallJoins
import Derived.JoinedOf
import Derived.JoinedAt
import Derived.RowKit3
import Derived.Deep.RegionHeld3
namespace Go.Proofs.Ytnoiammgpdlljaa.FnBookBack
set_option linter.unusedVariables false
open Go.ChangeShapes Go.WideShapes Go.ChangeAt Go.RowKit Go.Joins
attribute [local simp] far_const

set_option maxHeartbeats 8000000 in
theorem walk (a : Option Addr) (n cap : Nat) (w : World) (hb : Byt w a w.heap.size n) (hc : n ≤ cap) :
    Calls Try.prog 5 #[.slice a n cap] w fun e w' => e = .returned (.bool true) ∧ Grew w w' := by
  by_cases hn : n ≤ 1048576
  · have hn1 : decide ((1048576 : Int) < (n : Int)) = false := by simp; omega
    go_enter Try.func5, Try.ntmps5
    go_wp2_with fail
    refine (drawBookPay_any a n cap _ hb hc hn).mono ?_
    rintro e w1 ⟨v, l, f, t, s, rfl, nv, hl, g1⟩
    have NV := hide (nv.grew ((Grew.refl _).alloc (.cells #[.int .i64 f, .int .i64 t, .int .i64 s] 25)))
    obtain ⟨X, hX⟩ : ∃ X, bpay l f t s = X := ⟨_, rfl⟩
    have hXl : X.length ≤ 3 := by rw [← hX]; exact bpay_len l f t s
    have HX := hide hX
    clear nv hX
    go_wp2_with fail
    refine (implBookPay_v f t s _ (unhide NV) (by omega)).mono ?_
    rintro e w2 ⟨u, rfl, au, g2⟩
    rw [unhide HX] at au
    have p0 := g2.keep (p := ⟨w1.heap.size, 0, none⟩) (v := .int .i64 f) (by simp [go_sem])
    have p1 := g2.keep (p := ⟨w1.heap.size, 1, none⟩) (v := .int .i64 t) (by simp [go_sem])
    have p2 := g2.keep (p := ⟨w1.heap.size, 2, none⟩) (v := .int .i64 s) (by simp [go_sem])
    have NV := hide ((unhide NV).grew g2)
    have NU := hide au.num
    have G2 := hide (g1.trans (((Grew.refl _).alloc _).trans g2))
    clear au g1 g2
    go_wp2_with fail
    refine (specBookPay_v f t s _ (unhide NV) (by omega)).mono ?_
    rintro e w3 ⟨q, rfl, oq, g3⟩
    rw [unhide HX] at oq
    have p0 := g3.keep p0
    have p1 := g3.keep p1
    have p2 := g3.keep p2
    have NQ := hide oq.num
    have NV := hide ((unhide NV).grew g3)
    have NU := hide ((unhide NU).grew g3)
    have G3 := hide ((unhide G2).trans g3)
    clear oq g3 G2
    go_wp2_with fail
    refine (lwInts_v _ (unhide NU) (unhide NQ) (by omega) (by omega)).mono ?_
    rintro e w4 ⟨rfl, g4⟩
    rw [decide_eq_true rfl]
    have p0 := g4.keep p0
    have p1 := g4.keep p1
    have p2 := g4.keep p2
    have NV := hide ((unhide NV).grew g4)
    have NU := hide ((unhide NU).grew g4)
    have G4 := hide ((unhide G3).trans g4)
    clear g4 G3 NQ
    by_cases hX0 : X = []
    · subst hX0
      obtain ⟨ua, uc, rfl⟩ := (unhide NU).shape
      simp only [List.length_nil] at NU ⊢
      go_wp2_with fail
      refine (specBookPay_v f t s _ (unhide NV) (by omega)).mono ?_
      rintro e w5 ⟨q2, rfl, oq, g5⟩
      rw [unhide HX] at oq
      have NQ := hide oq.num
      have NU := hide ((unhide NU).grew g5)
      have G5 := hide ((unhide G4).trans g5)
      clear oq g5 G4
      go_wp2_with fail
      refine (lwInts_v _ (unhide NU) (unhide NQ) (by omega) (by omega)).mono ?_
      rintro e w6 ⟨rfl, g6⟩
      rw [decide_eq_true rfl]
      have G6 := hide ((unhide G5).trans g6)
      clear g6 G5
      go_wp2
      go_ret
      exact ⟨rfl, unhide G6⟩
    · obtain ⟨hbok, hpay, hXe⟩ := bpay_pos (unhide HX) hX0
      obtain ⟨x, y, z, rfl, hx⟩ := bokB_three hbok
      obtain ⟨x', y', z', hX3, hx'⟩ := bokB_three (payL_ok hbok hpay)
      rw [← hXe] at hX3
      subst hX3
      have HXe := hide hXe
      clear hXe hX0
      obtain ⟨ub, uo, uc, rfl, _⟩ := (unhide NU).three
      have hne : Hid (0 ≤ x ∧ 0 ≤ y ∧ 0 ≤ z ∧ x + y + z = 27) := by show _ ∧ _; omega
      go_wp2_with fail
      refine (lwInts_v _ (unhide NU) (unhide NV) (by simp) (by simp)).mono ?_
      rintro e w5 ⟨rfl, g5⟩
      have p0 := g5.keep p0
      have p1 := g5.keep p1
      have p2 := g5.keep p2
      have NV := hide ((unhide NV).grew g5)
      have NU := hide ((unhide NU).grew g5)
      have G5 := hide ((unhide G4).trans g5)
      clear g5 G4
      by_cases hsame : [x', y', z'] = [x, y, z]
      · rw [decide_eq_true hsame]
        clear hsame HXe
        go_wp2_with fail
        refine (specBookPay_v f t s _ (unhide NV) (by omega)).mono ?_
        rintro e w6 ⟨q2, rfl, oq, g6⟩
        rw [unhide HX] at oq
        have NQ := hide oq.num
        have NU := hide ((unhide NU).grew g6)
        have G6 := hide ((unhide G5).trans g6)
        clear oq g6 G5
        go_wp2_with fail
        refine (lwInts_v _ (unhide NU) (unhide NQ) (by omega) (by omega)).mono ?_
        rintro e w7 ⟨rfl, g7⟩
        rw [decide_eq_true rfl]
        have G7 := hide ((unhide G6).trans g7)
        clear g7 G6
        go_wp2
        go_ret
        exact ⟨rfl, unhide G7⟩
      · rw [decide_eq_false hsame]
        have HX' := hide (show bpay [x, y, z] f t s ≠ [x, y, z] by rw [unhide HX]; exact hsame)
        clear hsame HXe
        have HB := hide (bpay_back (unhide hne) hpay (unhide HX'))
        rw [unhide HX] at HB
        go_wp2_with fail
        refine (implBookPay_v t f s _ (unhide NU) (by simp)).mono ?_
        rintro e w6 ⟨u6, rfl, a6, g6⟩
        rw [unhide HB] at a6
        have N6 := hide a6.num
        have NV := hide ((unhide NV).grew g6)
        have G6 := hide ((unhide G5).trans g6)
        clear a6 g6 G5
        go_wp2_with fail
        refine (lwInts_v _ (unhide N6) (unhide NV) (by simp) (by simp)).mono ?_
        rintro e w7 ⟨rfl, g7⟩
        rw [decide_eq_true rfl]
        have G7 := hide ((unhide G6).trans g7)
        clear g7 G6
        go_wp2
        go_ret
        exact ⟨rfl, unhide G7⟩
  · have hn1 : decide ((1048576 : Int) < (n : Int)) = true := by simp; omega
    clear hn
    go_enter Try.func5, Try.ntmps5
    go_wp2
    go_ret
    exact ⟨rfl, Grew.refl _⟩

set_option maxRecDepth 100000 in
theorem lifted (os : Os) (started : os.Started) (H : Type) (enc : TypeId × Value → H) :
    ReturnsInHanded {} Try.checked os 5 .any (Rows.fnBookBackSpec.pre6 enc Try.prog Try.f5 Rows.fnBookBackRow.domain false) (Rows.fnBookBackSpec.post enc Try.prog Try.f5 false true false false) := by
  refine returnsInHanded_of_change (C := Try.checked) own started (by kernel_rfl) Try.func5
    (ChangeSpec.witness6 (enc := enc) (C := Try.checked) false ⟨#[], #[.slice none 0 0], []⟩ 8 (by kernel_rfl) (by kernel_rfl) (by kernel_rfl) (by kernel_rfl)) ?_
  intro W base args ds gs before hval0 hW hcnd _
  have hval : ∀ (j : Nat) t v, Try.f5.params[j]? = some t → args[j]? = some v → Value.okWide Try.prog W .any base t v := hval0
  have hW' := hW
  obtain ⟨p, q, hA0, hV, rfl, hfz, hnd⟩ := hW
  have hA : DataW.TrodAll enc Try.prog W 0 (fun _ => true) true Try.f5.params.toList args.toList ds p := hA0
  rw [Try.params5] at hA hval
  obtain ⟨v0, vs0, d0, ds0, p0, q0, hargs, rfl, rfl, h0, r0⟩ := trodAll_cons hA
  obtain ⟨rfl, rfl, rfl⟩ := trodAll_nil r0
  obtain rfl : args = #[v0] := by cases args; simp_all
  obtain ⟨rfl, rfl⟩ := trodVars_none hV
  have k0 := h0
  have lt0 : ∀ x ∈ p0, x.block < W.heap.size := by obtain ⟨m, hm⟩ := k0; exact DataW.trod_lt m _ _ _ hm
  obtain ⟨a0, len0, cap0, rfl⟩ := okWide_slice Try.underlying22 (hval 0 22 v0 rfl rfl)
  obtain ⟨fuel0, hf0⟩ := h0
  obtain ⟨hb0, hc0⟩ := open_bytes hf0
  clear hA0 hval0
  refine (walk a0 len0 cap0 W hb0 hc0).mono fun e W' ⟨he, bel⟩ => ?_
  subst he
  exact ⟨_, rfl, _, _, _, [], _, [], hW', trodAll_mk1 (shut_bool Try.underlying4 _), (trodAll_cons_mk (Below.trod laidOut (by kernel_rfl) (of_decide_eq_true (by kernel_rfl)) k0 bel.below lt0) trodAll_mk0), rfl, bel.below.frame _, fun h => by cases h⟩

theorem over : Rows.fnBookBackRow.holds Try.pinned (OpenSpec.ofChange Rows.fnBookBackSpec) :=
  OpenClaim.holds_of_wide 5 Try.f5 rfl rfl rfl rfl rfl rfl rfl ⟨rfl, rfl, rfl, rfl, rfl⟩ rfl rfl rfl rfl rfl (by kernel_rfl) Try.func5 (by kernel_rfl)
    (of_decide_eq_true (by kernel_rfl)) (by unfold Func.isWrapper; first | (rw [if_pos (by decide +kernel)]; kernel_rfl) | (rw [if_neg (by decide +kernel)]; exact ⟨rfl, rfl⟩))
    (fun os started H enc _ => lifted os started H enc)
end Go.Proofs.Ytnoiammgpdlljaa.FnBookBack
namespace Go.Proofs.Ytnoiammgpdlljaa
theorem fnBookBack_holds : Rows.FnBookBackSaid := FnBookBack.over
#print axioms fnBookBack_holds
end Go.Proofs.Ytnoiammgpdlljaa
