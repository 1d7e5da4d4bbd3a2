/-
  FnExactBookOf returns true at every row of items and leaves its argument as it was: what the statement says; no condition.
-/
import Derived.Test.YtnoiammgpdlljaaOpenN
import Derived.Lib.SmallJoins
import Derived.JoinedOf
import Derived.JoinedAt
import Derived.RowKit3
namespace Go.Proofs.Ytnoiammgpdlljaa.FnExactBookOf
set_option linter.unusedVariables false
open Go.ChangeShapes Go.WideShapes Go.ChangeAt Go.RowKit Go.Joins

theorem bof_len (l : List It) : (bof l).length ≤ 3 := by
  rcases bof_three l with h | h
  · rw [h]; simp
  · obtain ⟨x, y, z, e, _⟩ := bokB_three h
    rw [e]; simp

set_option maxHeartbeats 4000000 in
theorem walk (a : Option Addr) (cap : Nat) (l : List It) (w : World) (hl : Its w a l) (hn : l.length ≤ maxLen) :
    Calls Try.prog 13 #[.slice a l.length cap] w fun e w' => e = .returned (.bool true) ∧ Grew w w' := by
  unfold maxLen at hn
  have HL := hide hl
  clear hl
  by_cases hs : l.length ≤ 1048576
  · have hz := szItemS_any a cap l.length 1048576 w (by omega) (by omega) (by omega)
    rw [if_neg (by omega)] at hz
    have HZ := hide hz
    clear hz
    have hnn : ¬ ((1048576 : Int) - l.length < 0) := by omega
    obtain ⟨L, hL⟩ : ∃ L, bof l = L := ⟨_, rfl⟩
    have hLn : L.length ≤ 3 := by rw [← hL]; exact bof_len l
    have HE := hide hL
    clear hL
    have hk0 : decide (1 + 4 * (l.length : Int) < 0) = false := by simp; omega
    have hk1 : decide (1 + (L.length : Int) < 0) = false := by simp; omega
    go_enter Try.func13, Try.ntmps13
    go_wp2_with fail
    refine (unhide HZ).mono ?_
    rintro e w0 ⟨rfl, rfl⟩
    clear HZ
    go_wp2_with fail
    refine (toItemS_any a cap l _ (unhide HL) hs).mono ?_
    rintro e w1 ⟨rfl, g1, i1, o1⟩
    have I1 := hide i1
    clear i1 o1
    go_wp2_with fail
    refine (specBookOf _ _ l _ (unhide I1) hs).mono ?_
    rintro e w2 ⟨v2, rfl, o2, g2⟩
    rw [unhide HE] at o2
    have b2 := hide o2.block
    have n2 := hide o2
    have G2 := hide (g1.trans g2)
    have z12 := hide (And.intro g1.size g2.size)
    clear o2 g1 g2 I1
    go_wp2_with fail
    refine (toItemS_any a cap l _ ((unhide HL).grew (unhide G2)) hs).mono ?_
    rintro e w3 ⟨rfl, g3, i3, o3⟩
    have I3 := hide (And.intro i3 o3)
    have z3 := hide o3.lt
    have n2 := hide ((unhide n2).grew g3)
    have G3 := hide ((unhide G2).trans g3)
    clear i3 o3 g3
    go_wp2_with fail
    refine (implBookOf _ _ l _ (unhide I3).1 hs).mono ?_
    rintro e w4 ⟨v4, rfl, o4, g4⟩
    rw [unhide HE] at o4
    have b4 := hide o4.block
    have n4 := hide o4
    have n2 := hide ((unhide n2).grew g4)
    have I3 := hide (And.intro ((unhide I3).1.grew g4) ((unhide I3).2.grew g4))
    have G4 := hide ((unhide G3).trans g4)
    clear o4 g4 G3
    go_wp2_with fail
    refine (eqIntS_v _ (unhide n4).num (unhide n2).num (by omega) (by omega)).mono ?_
    rintro e w5 ⟨rfl, g5⟩
    rw [decide_eq_true rfl]
    have n4 := hide ((unhide n4).grew g5)
    have n2 := hide ((unhide n2).grew g5)
    have I3 := hide (And.intro ((unhide I3).1.grew g5) ((unhide I3).2.grew g5))
    have G5 := hide ((unhide G4).trans g5)
    clear g5 G4
    go_wp2_with fail
    refine (toItemS_any a cap l _ ((unhide HL).grew (unhide G5)) hs).mono ?_
    rintro e w6 ⟨rfl, g6, i6, o6⟩
    have I6 := hide i6
    have n4 := hide ((unhide n4).grew g6)
    have n2 := hide ((unhide n2).grew g6)
    have I3 := hide (And.intro ((unhide I3).1.grew g6) ((unhide I3).2.grew g6))
    have G6 := hide ((unhide G5).trans g6)
    clear g6 i6 o6 G5
    go_wp2_with fail
    refine (eqItemS_any _ _ _ _ l l _ (unhide I3).1 (unhide I6) hs hs).mono ?_
    rintro e w7 ⟨rfl, g7⟩
    rw [(sameB_iff l l).2 rfl]
    have n4 := hide ((unhide n4).grew g7)
    have n2 := hide ((unhide n2).grew g7)
    have I3 := hide ((unhide I3).2.grew g7)
    have G7 := hide ((unhide G6).trans g7)
    clear g7 G6 I6
    go_wp2_with fail
    refine (mark_any w2.heap.size l.length _ 1 _ (unhide I3) hs (by omega) (by omega)).mono ?_
    rintro e w8 ⟨rfl, _, _, q8⟩
    have za := unhide z12
    have zb := unhide z3
    have G8 := hide (q8.from (unhide G7) (fun y hy => by cases hy; show w0.heap.size ≤ w2.heap.size; omega))
    have n4 := hide ((unhide n4).kept (w' := w8) (fun g hg => q8.keep g (fun x hx => by cases hx; have := (unhide b4 g hg).1; show w2.heap.size ≠ g; omega)))
    have n2 := hide ((unhide n2).kept (w' := w8) (fun g _ _ hg => q8.keep g (fun x hx => by cases hx; have := (unhide b2 g hg).2; show w2.heap.size ≠ g; omega)))
    clear q8 I3 G7
    go_wp2_with fail
    refine (eqIntS_v _ (unhide n4).num (unhide n2).num (by omega) (by omega)).mono ?_
    rintro e w9 ⟨rfl, g9⟩
    rw [decide_eq_true rfl]
    have n4 := hide ((unhide n4).grew g9)
    have n2 := hide ((unhide n2).grew g9)
    have G9 := hide ((unhide G8).trans g9)
    clear g9 G8
    go_wp2_with fail
    refine (markN_v 1 _ (unhide n4) (by omega) (by omega) (by omega)).mono ?_
    rintro e w10 ⟨rfl, n10, q10, f10, _⟩
    have G10 := hide (f10 _ (unhide G9) (fun b hb => by have := (unhide b4 b hb).1; omega))
    have n2 := hide ((unhide n2).kept (w' := w10) (fun g _ _ hg => q10 g (fun h => by have := (unhide b2 g hg).2; have := (unhide b4 g h).1; omega)))
    have n10 := hide n10
    clear q10 f10 n4 G9 za zb
    go_wp2_with fail
    refine (heldN_v (l := []) L.length 1 _ (unhide n10).num (by omega) (by omega) (by omega)).mono ?_
    rintro e w11 ⟨rfl, g11⟩
    have n10 := hide ((unhide n10).grew g11)
    have n2 := hide ((unhide n2).grew g11)
    have G11 := hide ((unhide G10).trans g11)
    clear g11 G10
    go_wp2_with fail
    refine (toItemS_any a cap l _ ((unhide HL).grew (unhide G11)) hs).mono ?_
    rintro e w12 ⟨rfl, g12, i12, o12⟩
    have I12 := hide i12
    have n10 := hide ((unhide n10).grew g12)
    have n2 := hide ((unhide n2).grew g12)
    have G12 := hide ((unhide G11).trans g12)
    clear g12 G11 i12 o12
    go_wp2_with fail
    refine (implBookOf _ _ l _ (unhide I12) hs).mono ?_
    rintro e w13 ⟨v13, rfl, o13, g13⟩
    rw [unhide HE] at o13
    have n13 := hide o13
    have n10 := hide ((unhide n10).grew g13)
    have n2 := hide ((unhide n2).grew g13)
    have G13 := hide ((unhide G12).trans g13)
    clear o13 g13 G12 I12
    go_wp2_with fail
    refine (eqIntS_v _ (unhide n13).num (unhide n2).num (by omega) (by omega)).mono ?_
    rintro e w14 ⟨rfl, g14⟩
    rw [decide_eq_true rfl]
    have n10 := hide ((unhide n10).grew g14)
    have G14 := hide ((unhide G13).trans g14)
    clear g14 G13
    go_wp2_with fail
    refine (heldN_v (l := []) L.length 1 _ (unhide n10).num (by omega) (by omega) (by omega)).mono ?_
    rintro e w15 ⟨rfl, g15⟩
    have G15 := hide ((unhide G14).trans g15)
    clear g15
    go_wp2
    go_ret
    exact ⟨rfl, unhide G15⟩
  · have hz := szItemS_any a cap l.length 1048576 w (by omega) (by omega) (by omega)
    rw [if_pos (by omega)] at hz
    have HZ := hide hz
    clear hz
    go_enter Try.func13, Try.ntmps13
    go_wp2_with fail
    refine (unhide HZ).mono ?_
    rintro e w0 ⟨rfl, rfl⟩
    go_wp2
    go_ret
    exact ⟨rfl, Grew.refl _⟩

set_option maxRecDepth 100000 in
theorem lifted (os : Os) (started : os.Started) (H : Type) (enc : TypeId × Value → H) :
    ReturnsInHanded {} Try.checked os 13 .any (Rows.fnExactBookOfSpec.pre6 enc Try.prog Try.f13 Rows.fnExactBookOfRow.domain false) (Rows.fnExactBookOfSpec.post enc Try.prog Try.f13 false true false false) := by
  refine returnsInHanded_of_change (C := Try.checked) own started (by kernel_rfl) Try.func13
    (ChangeSpec.witness6 (enc := enc) (C := Try.checked) false ⟨#[], #[.slice none 0 0], []⟩ 8 (by kernel_rfl) (by kernel_rfl) (by kernel_rfl) (by kernel_rfl)) ?_
  intro W base args ds gs before hval0 hW hcnd _
  have hval : ∀ (j : Nat) t v, Try.f13.params[j]? = some t → args[j]? = some v → Value.okWide Try.prog W .any base t v := hval0
  have hW' := hW
  obtain ⟨p, q, hA0, hV, rfl, hfz, hnd⟩ := hW
  have hA : DataW.TrodAll enc Try.prog W 0 (fun _ => true) true Try.f13.params.toList args.toList ds p := hA0
  rw [Try.params13] at hA hval
  obtain ⟨v0, vs0, d0, ds0, p0, q0, hargs, rfl, rfl, h0, r0⟩ := trodAll_cons hA
  obtain ⟨rfl, rfl, rfl⟩ := trodAll_nil r0
  obtain rfl : args = #[v0] := by cases args; simp_all
  obtain ⟨rfl, rfl⟩ := trodVars_none hV
  have k0 := h0
  have lt0 : ∀ x ∈ p0, x.block < W.heap.size := by obtain ⟨m, hm⟩ := k0; exact DataW.trod_lt m _ _ _ hm
  obtain ⟨x0, y0, z0, rfl⟩ := okWide_slice Try.underlying43 (hval 0 43 v0 rfl rfl)
  obtain ⟨fuel0, hf0⟩ := h0
  obtain ⟨a0, cap0, l0, hv0, hl0, hn0⟩ := open_items hf0
  simp [Value.cells] at hv0
  obtain ⟨rfl, rfl, rfl⟩ := hv0
  clear hA0 hval0
  refine (walk x0 z0 l0 W hl0 hn0).mono fun e W' ⟨he, bel⟩ => ?_
  subst he
  exact ⟨_, rfl, _, _, _, [], _, [], hW', trodAll_mk1 (shut_bool Try.underlying4 _), (trodAll_cons_mk (Below.trod laidOut (by kernel_rfl) (of_decide_eq_true (by kernel_rfl)) k0 bel.below lt0) trodAll_mk0), rfl, bel.below.frame _, fun h => by cases h⟩

theorem over : Rows.fnExactBookOfRow.holds Try.pinned (OpenSpec.ofChange Rows.fnExactBookOfSpec) :=
  OpenClaim.holds_of_wide 13 Try.f13 rfl rfl rfl rfl rfl rfl rfl ⟨rfl, rfl, rfl, rfl, rfl⟩ rfl rfl rfl rfl rfl (by kernel_rfl) Try.func13 (by kernel_rfl)
    (of_decide_eq_true (by kernel_rfl)) (by unfold Func.isWrapper; first | (rw [if_pos (by decide +kernel)]; kernel_rfl) | (rw [if_neg (by decide +kernel)]; exact ⟨rfl, rfl⟩))
    (fun os started H enc _ => lifted os started H enc)
end Go.Proofs.Ytnoiammgpdlljaa.FnExactBookOf
namespace Go.Proofs.Ytnoiammgpdlljaa
theorem fnExactBookOf_holds : Rows.FnExactBookOfSaid := FnExactBookOf.over
#print axioms fnExactBookOf_holds
end Go.Proofs.Ytnoiammgpdlljaa
