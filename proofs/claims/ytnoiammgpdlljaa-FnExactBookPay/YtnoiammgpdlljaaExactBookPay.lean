/-
  FnExactBookPay returns true at every row of numbers and every payment and leaves its arguments as they were: what the statement says; no condition.
-/
import Derived.Test.YtnoiammgpdlljaaOpenN
import Derived.Lib.SmallJoins
import Derived.JoinedOf
import Derived.JoinedAt
import Derived.RowKit3
import Derived.Deep.RegionHeld3
namespace Go.Proofs.Ytnoiammgpdlljaa.FnExactBookPay
set_option linter.unusedVariables false
open Go.ChangeShapes Go.WideShapes Go.ChangeAt Go.RowKit Go.Joins

theorem bpay_len (l : List Int) (f t s : Int) : (bpay l f t s).length ≤ 3 := by
  unfold bpay
  split
  · rename_i h
    have := payL_ok h.1 h.2
    obtain ⟨x, y, z, e, _⟩ := bokB_three this
    rw [e]; simp
  · simp

set_option maxHeartbeats 4000000 in
theorem walk (a : Option Addr) (cap : Nat) (l : List Int) (f t s : Int) (w : World) (hl : Ints w a l) (hn : l.length ≤ maxLen) :
    Calls Try.prog 12 #[.slice a l.length cap, .agg #[.int .i64 f, .int .i64 t, .int .i64 s]] w fun e w' => e = .returned (.bool true) ∧ Grew w w' := by
  unfold maxLen at hn
  have HL := hide hl
  clear hl
  by_cases hs : l.length ≤ 1048576
  · have hs1 : decide ((1048576 : Int) < (l.length : Int)) = false := by simp; omega
    obtain ⟨L, hL⟩ : ∃ L, bpay l f t s = L := ⟨_, rfl⟩
    have hLn : L.length ≤ 3 := by rw [← hL]; exact bpay_len l f t s
    have HE := hide hL
    clear hL
    have hk0 : decide (1 + (l.length : Int) < 0) = false := by simp; omega
    have hk1 : decide (1 + (L.length : Int) < 0) = false := by simp; omega
    go_enter Try.func12, Try.ntmps12
    have p0 : ((w.alloc (.cells #[.int .i64 f, .int .i64 t, .int .i64 s] 40))).cell? ⟨w.heap.size, 0, none⟩ = some (.int .i64 f) := by simp [go_sem]
    have p1 : ((w.alloc (.cells #[.int .i64 f, .int .i64 t, .int .i64 s] 40))).cell? ⟨w.heap.size, 1, none⟩ = some (.int .i64 t) := by simp [go_sem]
    have p2 : ((w.alloc (.cells #[.int .i64 f, .int .i64 t, .int .i64 s] 40))).cell? ⟨w.heap.size, 2, none⟩ = some (.int .i64 s) := by simp [go_sem]
    have HP := hide (And.intro p0 (And.intro p1 p2))
    have hga : Grew w (w.alloc (.cells #[.int .i64 f, .int .i64 t, .int .i64 s] 40)) := (Grew.refl w).alloc _
    have GA := hide hga
    clear p0 p1 p2 hga
    go_wp2_with fail
    go_region_held3 (fun w' => w'.cell? ⟨w.heap.size, 0, none⟩ = some (.int .i64 f) ∧ w'.cell? ⟨w.heap.size, 1, none⟩ = some (.int .i64 t) ∧ w'.cell? ⟨w.heap.size, 2, none⟩ = some (.int .i64 s))
      (first | exact ⟨g3.keep (g2.keep (g1.keep ((unhide HP).1))), g3.keep (g2.keep (g1.keep ((unhide HP).2.1))), g3.keep (g2.keep (g1.keep ((unhide HP).2.2)))⟩ | exact ⟨g2.keep (g1.keep ((unhide HP).1)), g2.keep (g1.keep ((unhide HP).2.1)), g2.keep (g1.keep ((unhide HP).2.2))⟩ | exact ⟨g1.keep ((unhide HP).1), g1.keep ((unhide HP).2.1), g1.keep ((unhide HP).2.2)⟩ | exact unhide HP | go_keep)
      (first
        | (go_at_call 28; refine (toIntS_any a cap l _ ((unhide HL).grew (unhide GA).drew) hs).mono ?_; rintro r w1 ⟨v1, rfl, o1, g1⟩)
        | (go_at_call 29; refine (toPay_any f t s _).mono ?_; rintro r w2 ⟨rfl, g2⟩)
        | (go_at_call 17; refine (specBookPay_v f t s _ (o1.grew g2).num hs).mono ?_; rintro r w3 ⟨v3, rfl, o3, g3⟩))
    replace g1 := (Grew.refl _).drew.trans g1
    rw [unhide HE] at o3
    have b3 := hide o3.block
    have g13 := (g1.trans g2).trans g3
    have HS3 := hide ((unhide GA).trans g13)
    have zz := hide (And.intro (g1.trans g2).size g3.size)
    have n3 := hide o3
    clear o1 o3
    go_wp2_with fail
    refine (toIntS_any a cap l _ ((unhide HL).grew (unhide HS3)) hs).mono ?_
    rintro e w4 ⟨v4, rfl, o4, g4⟩
    have b4 := hide o4.block
    have g14 := g13.trans g4
    have p0 := g14.keep (unhide HP).1
    have p1 := g14.keep (unhide HP).2.1
    have p2 := g14.keep (unhide HP).2.2
    have n4 := hide o4
    have n3 := hide ((unhide n3).grew g4)
    have z4 := hide g4.size
    clear o4 g13 g1 g2 g3 g4
    go_wp2_with fail
    refine (toPay_any f t s _).mono ?_
    rintro e w5 ⟨rfl, g5⟩
    have n4 := hide ((unhide n4).grew g5)
    have n3 := hide ((unhide n3).grew g5)
    have g15 := g14.trans g5
    clear p0 p1 p2 g14
    go_wp2_with fail
    refine (implBookPay_v f t s _ (unhide n4).num hs).mono ?_
    rintro e w6 ⟨v6, rfl, o6, g6⟩
    rw [unhide HE] at o6
    have b6 := hide o6.block
    have n6 := hide o6
    have n4 := hide ((unhide n4).grew g6)
    have n3 := hide ((unhide n3).grew g6)
    have z5 := hide (And.intro g5.size g6.size)
    have g16 := g15.trans g6
    clear o6 g15 g5 g6
    go_wp2_with fail
    refine (eqIntS_v _ (unhide n6).num (unhide n3).num (by omega) (by omega)).mono ?_
    rintro e w7 ⟨rfl, g7⟩
    rw [decide_eq_true rfl]
    have n6 := hide ((unhide n6).grew g7)
    have n4 := hide ((unhide n4).grew g7)
    have n3 := hide ((unhide n3).grew g7)
    have g17 := g16.trans g7
    clear g16 g7
    go_wp2_with fail
    refine (toIntS_any a cap l _ ((unhide HL).grew ((unhide GA).trans g17)) hs).mono ?_
    rintro e w8 ⟨v8, rfl, o8, g8⟩
    have n8 := hide o8
    have n6 := hide ((unhide n6).grew g8)
    have n4 := hide ((unhide n4).grew g8)
    have n3 := hide ((unhide n3).grew g8)
    have g18 := g17.trans g8
    clear g17 g8 o8
    go_wp2_with fail
    refine (eqIntS_v _ (unhide n4).num (unhide n8).num hs hs).mono ?_
    rintro e w9 ⟨rfl, g9⟩
    rw [decide_eq_true rfl]
    have n6 := hide ((unhide n6).grew g9)
    have n4 := hide ((unhide n4).grew g9)
    have n3 := hide ((unhide n3).grew g9)
    have G9 := hide (g18.trans g9)
    clear g18 g9 n8
    go_wp2_with fail
    refine (markN_v 1 _ (unhide n4).ans hs (by omega) (by omega)).mono ?_
    rintro e w10 ⟨rfl, _, q10, f10, _⟩
    have za := unhide zz
    have zb := unhide z4
    have zc := unhide z5
    simp only [World.size_alloc] at za
    have G10 := hide (f10 _ (unhide G9) (fun b hb => by have := (unhide b4 b hb).1; simp only [World.size_alloc]; omega))
    have n6 := hide ((unhide n6).kept (w' := w10) (fun g hg => q10 g (fun h => by have := (unhide b4 g h).2; have := (unhide b6 g hg).1; omega)))
    have n3 := hide ((unhide n3).kept (w' := w10) (fun g _ _ hg => q10 g (fun h => by have := (unhide b3 g hg).2; have := (unhide b4 g h).1; omega)))
    clear q10 f10 n4 G9
    go_wp2_with fail
    refine (eqIntS_v _ (unhide n6).num (unhide n3).num (by omega) (by omega)).mono ?_
    rintro e w11 ⟨rfl, g11⟩
    rw [decide_eq_true rfl]
    have n6 := hide ((unhide n6).grew g11)
    have n3 := hide ((unhide n3).grew g11)
    have G11 := hide ((unhide G10).trans g11)
    clear g11 G10
    go_wp2_with fail
    refine (markN_v 1 _ (unhide n6) (by omega) (by omega) (by omega)).mono ?_
    rintro e w12 ⟨rfl, n12, q12, f12, _⟩
    have G12 := hide (f12 _ (unhide G11) (fun b hb => by have := (unhide b6 b hb).1; simp only [World.size_alloc]; omega))
    have n3 := hide ((unhide n3).kept (w' := w12) (fun g _ _ hg => q12 g (fun h => by have := (unhide b3 g hg).2; have := (unhide b6 g h).1; omega)))
    have n12 := hide n12
    clear q12 f12 n6 G11 za zb zc
    go_wp2_with fail
    refine (heldN_v (l := []) L.length 1 _ (unhide n12).num (by omega) (by omega) (by omega)).mono ?_
    rintro e w13 ⟨rfl, g13⟩
    have n12 := hide ((unhide n12).grew g13)
    have n3 := hide ((unhide n3).grew g13)
    have G13 := hide ((unhide G12).trans g13)
    clear g13 G12
    go_wp2_with fail
    have p13 := hide (And.intro ((unhide G13).keep (unhide HP).1) (And.intro ((unhide G13).keep (unhide HP).2.1) ((unhide G13).keep (unhide HP).2.2)))
    go_region_held3 (fun w' => w'.cell? ⟨w.heap.size, 0, none⟩ = some (.int .i64 f) ∧ w'.cell? ⟨w.heap.size, 1, none⟩ = some (.int .i64 t) ∧ w'.cell? ⟨w.heap.size, 2, none⟩ = some (.int .i64 s))
      (first | exact ⟨g16.keep (g15.keep (g14.keep ((unhide p13).1))), g16.keep (g15.keep (g14.keep ((unhide p13).2.1))), g16.keep (g15.keep (g14.keep ((unhide p13).2.2)))⟩ | exact ⟨g15.keep (g14.keep ((unhide p13).1)), g15.keep (g14.keep ((unhide p13).2.1)), g15.keep (g14.keep ((unhide p13).2.2))⟩ | exact ⟨g14.keep ((unhide p13).1), g14.keep ((unhide p13).2.1), g14.keep ((unhide p13).2.2)⟩ | exact unhide p13 | go_keep)
      (first
        | (go_at_call 28; refine (toIntS_any a cap l _ ((unhide HL).grew ((unhide GA).trans (unhide G13)).drew) hs).mono ?_; rintro r w14 ⟨v14, rfl, o14, g14⟩)
        | (go_at_call 29; refine (toPay_any f t s _).mono ?_; rintro r w15 ⟨rfl, g15⟩)
        | (go_at_call 15; refine (implBookPay_v f t s _ (o14.grew g15).num hs).mono ?_; rintro r w16 ⟨v16, rfl, o16, g16⟩))
    replace g14 := (Grew.refl _).drew.trans g14
    rw [unhide HE] at o16
    have n12 := hide ((unhide n12).grew (g14.trans g15))
    have n3 := hide ((unhide n3).grew (g14.trans g15))
    have G15 := hide ((unhide G13).trans (g14.trans g15))
    clear g14 g15 o14 G13
    have n16 := hide o16
    have n12 := hide ((unhide n12).grew g16)
    have n3 := hide ((unhide n3).grew g16)
    have G16 := hide ((unhide G15).trans g16)
    clear g16 G15 o16
    go_wp2_with fail
    refine (eqIntS_v _ (unhide n16).num (unhide n3).num (by omega) (by omega)).mono ?_
    rintro e w17 ⟨rfl, g17⟩
    rw [decide_eq_true rfl]
    have n12 := hide ((unhide n12).grew g17)
    have G17 := hide ((unhide G16).trans g17)
    clear g17 G16
    go_wp2_with fail
    refine (heldN_v (l := []) L.length 1 _ (unhide n12).num (by omega) (by omega) (by omega)).mono ?_
    rintro e w18 ⟨rfl, g18⟩
    have G18 := hide (((unhide GA).trans (unhide G17)).trans g18)
    clear g18
    go_wp2
    go_ret
    exact ⟨rfl, unhide G18⟩
  · have hs1 : decide ((1048576 : Int) < (l.length : Int)) = true := by simp; omega
    clear hs
    go_enter Try.func12, Try.ntmps12
    go_wp2
    go_ret
    exact ⟨rfl, (Grew.refl _).alloc _⟩

set_option maxRecDepth 100000 in
theorem lifted (os : Os) (started : os.Started) (H : Type) (enc : TypeId × Value → H) :
    ReturnsInHanded {} Try.checked os 12 .any (Rows.fnExactBookPaySpec.pre6 enc Try.prog Try.f12 Rows.fnExactBookPayRow.domain false) (Rows.fnExactBookPaySpec.post enc Try.prog Try.f12 false true false false) := by
  refine returnsInHanded_of_change (C := Try.checked) own started (by kernel_rfl) Try.func12
    (ChangeSpec.witness6 (enc := enc) (C := Try.checked) false ⟨#[], #[.slice none 0 0, .agg #[.int .i64 0, .int .i64 0, .int .i64 0]], []⟩ 8 (by kernel_rfl) (by kernel_rfl) (by kernel_rfl) (by kernel_rfl)) ?_
  intro W base args ds gs before hval0 hW hcnd _
  have hval : ∀ (j : Nat) t v, Try.f12.params[j]? = some t → args[j]? = some v → Value.okWide Try.prog W .any base t v := hval0
  have hW' := hW
  obtain ⟨p, q, hA0, hV, rfl, hfz, hnd⟩ := hW
  have hA : DataW.TrodAll enc Try.prog W 0 (fun _ => true) true Try.f12.params.toList args.toList ds p := hA0
  rw [Try.params12] at hA hval
  obtain ⟨v0, vs0, d0, ds0, p0, q0, hargs, rfl, rfl, h0, r0⟩ := trodAll_cons hA
  obtain ⟨v1, vs1, d1, ds1, p1, q1, rfl, rfl, rfl, h1, r1⟩ := trodAll_cons r0
  obtain ⟨rfl, rfl, rfl⟩ := trodAll_nil r1
  obtain rfl : args = #[v0, v1] := by cases args; simp_all
  obtain ⟨rfl, rfl⟩ := trodVars_none hV
  have k0 := h0
  have lt0 : ∀ x ∈ p0, x.block < W.heap.size := by obtain ⟨m, hm⟩ := k0; exact DataW.trod_lt m _ _ _ hm
  obtain ⟨a0, len0, cap0, rfl⟩ := okWide_slice Try.underlying23 (hval 0 23 v0 rfl rfl)
  obtain ⟨fuel0, hf0⟩ := h0
  obtain ⟨l0, rfl, hl0, hn0⟩ := open_nums hf0
  have k1 := h1
  have lt1 : ∀ x ∈ p1, x.block < W.heap.size := by obtain ⟨m, hm⟩ := k1; exact DataW.trod_lt m _ _ _ hm
  obtain ⟨c0_1, c1_1, c2_1, y0_1, y1_1, y2_1, m1, hv1, hd1, hp1, hy0_1, hy1_1, hy2_1⟩ := open_agg3 Try.underlying40 (by kernel_rfl) cellsPay (hval 1 40 v1 rfl rfl) h1
  obtain ⟨g0_1, e0_1, _, _⟩ := DataW.trod_int Try.underlying3 hy0_1
  obtain ⟨g1_1, e1_1, _, _⟩ := DataW.trod_int Try.underlying3 hy1_1
  obtain ⟨g2_1, e2_1, _, _⟩ := DataW.trod_int Try.underlying3 hy2_1
  simp at e0_1 e1_1 e2_1
  subst e0_1 e1_1 e2_1 hv1
  clear hA0 hval0
  refine (walk a0 cap0 l0 g0_1 g1_1 g2_1 W hl0 hn0).mono fun e W' ⟨he, bel⟩ => ?_
  subst he
  exact ⟨_, rfl, _, _, _, [], _, [], hW', trodAll_mk1 (shut_bool Try.underlying4 _), (trodAll_cons_mk (Below.trod laidOut (by kernel_rfl) (of_decide_eq_true (by kernel_rfl)) k0 bel.below lt0) (trodAll_cons_mk (Below.trod laidOut (by kernel_rfl) (of_decide_eq_true (by kernel_rfl)) k1 bel.below lt1) trodAll_mk0)), rfl, bel.below.frame _, fun h => by cases h⟩

theorem over : Rows.fnExactBookPayRow.holds Try.pinned (OpenSpec.ofChange Rows.fnExactBookPaySpec) :=
  OpenClaim.holds_of_wide 12 Try.f12 rfl rfl rfl rfl rfl rfl rfl ⟨rfl, rfl, rfl, rfl, rfl⟩ rfl rfl rfl rfl rfl (by kernel_rfl) Try.func12 (by kernel_rfl)
    (of_decide_eq_true (by kernel_rfl)) (by unfold Func.isWrapper; first | (rw [if_pos (by decide +kernel)]; kernel_rfl) | (rw [if_neg (by decide +kernel)]; exact ⟨rfl, rfl⟩))
    (fun os started H enc _ => lifted os started H enc)
end Go.Proofs.Ytnoiammgpdlljaa.FnExactBookPay
namespace Go.Proofs.Ytnoiammgpdlljaa
theorem fnExactBookPay_holds : Rows.FnExactBookPaySaid := FnExactBookPay.over
#print axioms fnExactBookPay_holds
end Go.Proofs.Ytnoiammgpdlljaa
