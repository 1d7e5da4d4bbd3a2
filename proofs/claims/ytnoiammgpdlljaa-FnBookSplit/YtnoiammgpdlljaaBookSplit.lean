/-
  FnBookSplit returns true at every row of bytes and leaves its argument as it was: what the statement says; no condition.
-/
import Derived.Test.YtnoiammgpdlljaaDrawB
import Derived.Test.YtnoiammgpdlljaaOpenN
import Derived.Test.YtnoiammgpdlljaaBook6
import Derived.Lib.SmallJoins
import Derived.JoinedOf
import Derived.JoinedAt
import Derived.RowKit3
import Derived.Deep.RegionHeld3
import Derived.Deep.DeepFit
namespace Go.Proofs.Ytnoiammgpdlljaa.FnBookSplit
set_option linter.unusedVariables false
open Go.ChangeShapes Go.WideShapes Go.ChangeAt Go.RowKit Go.Joins
attribute [local simp] far_const

set_option maxHeartbeats 8000000 in
theorem walk (a : Option Addr) (n cap : Nat) (w : World) (hb : Byt w a w.heap.size n) (hc : n ≤ cap) :
    Calls Try.prog 6 #[.slice a n cap] w fun e w' => e = .returned (.bool true) ∧ Grew w w' := by
  by_cases hn : n ≤ 1048576
  · have hn1 : decide ((1048576 : Int) < (n : Int)) = false := by simp; omega
    go_enter Try.func6, Try.ntmps6
    go_wp2_with fail
    refine (drawBookPay_any a n cap _ hb hc hn).mono ?_
    rintro e w1 ⟨v, l, f, t, s, rfl, nv, hl, g1⟩
    have NV := hide (nv.grew ((Grew.refl _).alloc (.cells #[.int .i64 f, .int .i64 t, .int .i64 s] 25)))
    obtain ⟨X, hX⟩ : ∃ X, bpay l f t s = X := ⟨_, rfl⟩
    have hXl : X.length ≤ 3 := by rw [← hX]; exact bpay_len l f t s
    have HX := hide hX
    clear nv hX
    go_wp2_with fail
    refine (implBookPay_v f t s _ (unhide NV) (by omega)).mono ?_
    rintro e w2 ⟨u, rfl, au, g2⟩
    rw [unhide HX] at au
    have p0 := g2.keep (p := ⟨w1.heap.size, 0, none⟩) (v := .int .i64 f) (by simp [go_sem])
    have p1 := g2.keep (p := ⟨w1.heap.size, 1, none⟩) (v := .int .i64 t) (by simp [go_sem])
    have p2 := g2.keep (p := ⟨w1.heap.size, 2, none⟩) (v := .int .i64 s) (by simp [go_sem])
    have NV := hide ((unhide NV).grew g2)
    have NU := hide au.num
    have G2 := hide (g1.trans (((Grew.refl _).alloc _).trans g2))
    clear au g1 g2
    go_wp2_with fail
    refine (specBookPay_v f t s _ (unhide NV) (by omega)).mono ?_
    rintro e w3 ⟨q, rfl, oq, g3⟩
    rw [unhide HX] at oq
    have p0 := g3.keep p0
    have p1 := g3.keep p1
    have p2 := g3.keep p2
    have NQ := hide oq.num
    have NV := hide ((unhide NV).grew g3)
    have NU := hide ((unhide NU).grew g3)
    have G3 := hide ((unhide G2).trans g3)
    clear oq g3 G2
    go_wp2_with fail
    refine (lwInts_v _ (unhide NU) (unhide NQ) (by omega) (by omega)).mono ?_
    rintro e w4 ⟨rfl, g4⟩
    rw [decide_eq_true rfl]
    have p0 := g4.keep p0
    have p1 := g4.keep p1
    have p2 := g4.keep p2
    have NV := hide ((unhide NV).grew g4)
    have NU := hide ((unhide NU).grew g4)
    have G4 := hide ((unhide G3).trans g4)
    clear g4 G3 NQ
    by_cases hX0 : X = []
    · subst hX0
      obtain ⟨ua, uc, rfl⟩ := (unhide NU).shape
      simp only [List.length_nil] at NU ⊢
      go_wp2_with fail
      refine (specBookPay_v f t s _ (unhide NV) (by omega)).mono ?_
      rintro e w5 ⟨q2, rfl, oq, g5⟩
      rw [unhide HX] at oq
      have NQ := hide oq.num
      have NU := hide ((unhide NU).grew g5)
      have G5 := hide ((unhide G4).trans g5)
      clear oq g5 G4
      go_wp2_with fail
      refine (lwInts_v _ (unhide NU) (unhide NQ) (by omega) (by omega)).mono ?_
      rintro e w6 ⟨rfl, g6⟩
      rw [decide_eq_true rfl]
      have G6 := hide ((unhide G5).trans g6)
      clear g6 G5
      go_wp2
      go_ret
      exact ⟨rfl, unhide G6⟩
    · obtain ⟨hbok, hpay, hXe⟩ := bpay_pos (unhide HX) hX0
      obtain ⟨x, y, z, rfl, hx⟩ := bokB_three hbok
      obtain ⟨x', y', z', hX3, hx'⟩ := bokB_three (payL_ok hbok hpay)
      rw [← hXe] at hX3
      subst hX3
      have HXe := hide hXe
      clear hXe hX0
      obtain ⟨ub, uo, uc, rfl, _⟩ := (unhide NU).three
      have hne : Hid (0 ≤ x ∧ 0 ≤ y ∧ 0 ≤ z ∧ x + y + z = 27) := by show _ ∧ _; omega
      go_wp2_with fail
      refine (lwInts_v _ (unhide NU) (unhide NV) (by simp) (by simp)).mono ?_
      rintro e w5 ⟨rfl, g5⟩
      have p0 := g5.keep p0
      have p1 := g5.keep p1
      have p2 := g5.keep p2
      have NV := hide ((unhide NV).grew g5)
      have NU := hide ((unhide NU).grew g5)
      have G5 := hide ((unhide G4).trans g5)
      clear g5 G4
      by_cases hsame : [x', y', z'] = [x, y, z]
      · rw [decide_eq_true hsame]
        clear hsame HXe
        go_wp2_with fail
        refine (specBookPay_v f t s _ (unhide NV) (by omega)).mono ?_
        rintro e w6 ⟨q2, rfl, oq, g6⟩
        rw [unhide HX] at oq
        have NQ := hide oq.num
        have NU := hide ((unhide NU).grew g6)
        have G6 := hide ((unhide G5).trans g6)
        clear oq g6 G5
        go_wp2_with fail
        refine (lwInts_v _ (unhide NU) (unhide NQ) (by omega) (by omega)).mono ?_
        rintro e w7 ⟨rfl, g7⟩
        rw [decide_eq_true rfl]
        have G7 := hide ((unhide G6).trans g7)
        clear g7 G6
        go_wp2
        go_ret
        exact ⟨rfl, unhide G7⟩
      · rw [decide_eq_false hsame]
        have HX' := hide (show bpay [x, y, z] f t s ≠ [x, y, z] by rw [unhide HX]; exact hsame)
        clear hsame HXe
        obtain ⟨h1, h9, hc⟩ := payB_cases hpay
        clear hc
        by_cases h2 : 2 ≤ s
        · have hlt : decide (s < 2) = false := by simp; omega
          have HB := hide (bpay_split (unhide hne) hpay h2 (unhide HX'))
          rw [unhide HX] at HB
          obtain ⟨Y, hY⟩ : ∃ Y, bpay [x, y, z] f t 1 = Y := ⟨_, rfl⟩
          obtain ⟨Z, hZ⟩ : ∃ Z, bpay [x, y, z] f t (s - 1) = Z := ⟨_, rfl⟩
          have hYl : Y.length ≤ 3 := by rw [← hY]; exact bpay_len _ _ _ _
          have hZl : Z.length ≤ 3 := by rw [← hZ]; exact bpay_len _ _ _ _
          rw [hY, hZ] at HB
          have HY := hide hY
          have HZ := hide hZ
          clear hY hZ hpay hbok h2
          have q0 : ∀ o, (w5.alloc o).cell? ⟨w1.heap.size, 0, none⟩ = some (.int .i64 f) := fun o => ((Grew.refl _).alloc _).keep p0
          have q1 : ∀ o, (w5.alloc o).cell? ⟨w1.heap.size, 1, none⟩ = some (.int .i64 t) := fun o => ((Grew.refl _).alloc _).keep p1
          have q2 : ∀ o, (w5.alloc o).cell? ⟨w1.heap.size, 2, none⟩ = some (.int .i64 s) := fun o => ((Grew.refl _).alloc _).keep p2
          have q3 : ∀ o o', ((w5.alloc o).alloc o').cell? ⟨w1.heap.size, 2, none⟩ = some (.int .i64 s) := fun o o' => ((Grew.refl _).alloc _).keep (q2 o)
          have GW := hide (show Grew w5 ((w5.alloc (.cells #[.int .i64 f, .int .i64 t, .int .i64 1] 25)).alloc (.cells #[.int .i64 f, .int .i64 t, .int .i64 (s - 1)] 25)).drew from (((Grew.refl _).alloc _).alloc _).drew)
          have SC := hide (show (fun w' : World => w'.cell? ⟨w5.heap.size, 0, none⟩ = some (.int .i64 f) ∧ w'.cell? ⟨w5.heap.size, 1, none⟩ = some (.int .i64 t) ∧ w'.cell? ⟨w5.heap.size, 2, none⟩ = some (.int .i64 1) ∧ w'.cell? ⟨w5.heap.size + 1, 0, none⟩ = some (.int .i64 f) ∧ w'.cell? ⟨w5.heap.size + 1, 1, none⟩ = some (.int .i64 t) ∧ w'.cell? ⟨w5.heap.size + 1, 2, none⟩ = some (.int .i64 (s - 1))) ((w5.alloc (.cells #[.int .i64 f, .int .i64 t, .int .i64 1] 25)).alloc (.cells #[.int .i64 f, .int .i64 t, .int .i64 (s - 1)] 25)).drew from by simp [go_sem])
          go_wp2_with fail
          go_region_held3 (fun w' => w'.cell? ⟨w5.heap.size, 0, none⟩ = some (.int .i64 f) ∧ w'.cell? ⟨w5.heap.size, 1, none⟩ = some (.int .i64 t) ∧ w'.cell? ⟨w5.heap.size, 2, none⟩ = some (.int .i64 1) ∧ w'.cell? ⟨w5.heap.size + 1, 0, none⟩ = some (.int .i64 f) ∧ w'.cell? ⟨w5.heap.size + 1, 1, none⟩ = some (.int .i64 t) ∧ w'.cell? ⟨w5.heap.size + 1, 2, none⟩ = some (.int .i64 (s - 1)))
            (first | exact ⟨g11.keep (g10.keep (g9.keep (g8.keep (g7.keep (g6.keep ((unhide SC).1)))))), g11.keep (g10.keep (g9.keep (g8.keep (g7.keep (g6.keep ((unhide SC).2.1)))))), g11.keep (g10.keep (g9.keep (g8.keep (g7.keep (g6.keep ((unhide SC).2.2.1)))))), g11.keep (g10.keep (g9.keep (g8.keep (g7.keep (g6.keep ((unhide SC).2.2.2.1)))))), g11.keep (g10.keep (g9.keep (g8.keep (g7.keep (g6.keep ((unhide SC).2.2.2.2.1)))))), g11.keep (g10.keep (g9.keep (g8.keep (g7.keep (g6.keep ((unhide SC).2.2.2.2.2))))))⟩ | exact ⟨g10.keep (g9.keep (g8.keep (g7.keep (g6.keep ((unhide SC).1))))), g10.keep (g9.keep (g8.keep (g7.keep (g6.keep ((unhide SC).2.1))))), g10.keep (g9.keep (g8.keep (g7.keep (g6.keep ((unhide SC).2.2.1))))), g10.keep (g9.keep (g8.keep (g7.keep (g6.keep ((unhide SC).2.2.2.1))))), g10.keep (g9.keep (g8.keep (g7.keep (g6.keep ((unhide SC).2.2.2.2.1))))), g10.keep (g9.keep (g8.keep (g7.keep (g6.keep ((unhide SC).2.2.2.2.2)))))⟩ | exact ⟨g9.keep (g8.keep (g7.keep (g6.keep ((unhide SC).1)))), g9.keep (g8.keep (g7.keep (g6.keep ((unhide SC).2.1)))), g9.keep (g8.keep (g7.keep (g6.keep ((unhide SC).2.2.1)))), g9.keep (g8.keep (g7.keep (g6.keep ((unhide SC).2.2.2.1)))), g9.keep (g8.keep (g7.keep (g6.keep ((unhide SC).2.2.2.2.1)))), g9.keep (g8.keep (g7.keep (g6.keep ((unhide SC).2.2.2.2.2))))⟩ | exact ⟨g8.keep (g7.keep (g6.keep ((unhide SC).1))), g8.keep (g7.keep (g6.keep ((unhide SC).2.1))), g8.keep (g7.keep (g6.keep ((unhide SC).2.2.1))), g8.keep (g7.keep (g6.keep ((unhide SC).2.2.2.1))), g8.keep (g7.keep (g6.keep ((unhide SC).2.2.2.2.1))), g8.keep (g7.keep (g6.keep ((unhide SC).2.2.2.2.2)))⟩ | exact ⟨g7.keep (g6.keep ((unhide SC).1)), g7.keep (g6.keep ((unhide SC).2.1)), g7.keep (g6.keep ((unhide SC).2.2.1)), g7.keep (g6.keep ((unhide SC).2.2.2.1)), g7.keep (g6.keep ((unhide SC).2.2.2.2.1)), g7.keep (g6.keep ((unhide SC).2.2.2.2.2))⟩ | exact ⟨g6.keep ((unhide SC).1), g6.keep ((unhide SC).2.1), g6.keep ((unhide SC).2.2.1), g6.keep ((unhide SC).2.2.2.1), g6.keep ((unhide SC).2.2.2.2.1), g6.keep ((unhide SC).2.2.2.2.2)⟩ | exact unhide SC | go_keep)
            (first
              | (go_at_call 15; go_fit (implBookPay_v f t 1 _ ((unhide NV).grew (unhide GW)) (by simp)); rintro r w6 ⟨u6, rfl, a6, g6⟩)
              | (go_at_call 15; go_fit (implBookPay_v f t (s - 1) _ (unhide HY ▸ a6.num) (by omega)); rintro r w7 ⟨u7, rfl, a7, g7⟩)
              | (go_at_call 16; go_fit (lwInts_v _ ((unhide HB).1 ▸ a7.num) (((((unhide NU).grew (unhide GW)).grew g6).grew g7)) (by simp) (by simp)); rw [decide_eq_true rfl]; rintro r w8 ⟨rfl, g8⟩)
              | (go_at_call 15; go_fit (implBookPay_v f t (s - 1) _ ((((((unhide NV).grew (unhide GW)).grew g6).grew g7).grew g8)) (by simp)); rintro r w9 ⟨u9, rfl, a9, g9⟩)
              | (go_at_call 15; go_fit (implBookPay_v f t 1 _ (unhide HZ ▸ a9.num) (by omega)); rintro r w10 ⟨u10, rfl, a10, g10⟩)
              | (go_at_call 16; go_fit (lwInts_v _ ((unhide HB).2 ▸ a10.num) ((((((((unhide NU).grew (unhide GW)).grew g6).grew g7).grew g8).grew g9).grew g10)) (by simp) (by simp)); rw [decide_eq_true rfl]; rintro r w11 ⟨rfl, g11⟩))
          have G11 := hide (((((((unhide G5).trans (unhide GW)).trans g6).trans g7).trans g8).trans g9).trans (g10.trans g11))
          clear g6 g7 g8 g9 g10 g11
          go_wp2
          go_ret
          exact ⟨rfl, unhide G11⟩
        · have hlt : decide (s < 2) = true := by simp; omega
          clear h2
          go_wp2_with fail
          refine (specBookPay_v f t s _ (unhide NV) (by omega)).mono ?_
          rintro e w6 ⟨q2, rfl, oq, g6⟩
          rw [unhide HX] at oq
          have NQ := hide oq.num
          have NU := hide ((unhide NU).grew g6)
          have G6 := hide ((unhide G5).trans g6)
          clear oq g6 G5
          go_wp2_with fail
          refine (lwInts_v _ (unhide NU) (unhide NQ) (by omega) (by omega)).mono ?_
          rintro e w7 ⟨rfl, g7⟩
          rw [decide_eq_true rfl]
          have G7 := hide ((unhide G6).trans g7)
          clear g7 G6
          go_wp2
          go_ret
          exact ⟨rfl, unhide G7⟩
  · have hn1 : decide ((1048576 : Int) < (n : Int)) = true := by simp; omega
    clear hn
    go_enter Try.func6, Try.ntmps6
    go_wp2
    go_ret
    exact ⟨rfl, Grew.refl _⟩

set_option maxRecDepth 100000 in
theorem lifted (os : Os) (started : os.Started) (H : Type) (enc : TypeId × Value → H) :
    ReturnsInHanded {} Try.checked os 6 .any (Rows.fnBookSplitSpec.pre6 enc Try.prog Try.f6 Rows.fnBookSplitRow.domain false) (Rows.fnBookSplitSpec.post enc Try.prog Try.f6 false true false false) := by
  refine returnsInHanded_of_change (C := Try.checked) own started (by kernel_rfl) Try.func6
    (ChangeSpec.witness6 (enc := enc) (C := Try.checked) false ⟨#[], #[.slice none 0 0], []⟩ 8 (by kernel_rfl) (by kernel_rfl) (by kernel_rfl) (by kernel_rfl)) ?_
  intro W base args ds gs before hval0 hW hcnd _
  have hval : ∀ (j : Nat) t v, Try.f6.params[j]? = some t → args[j]? = some v → Value.okWide Try.prog W .any base t v := hval0
  have hW' := hW
  obtain ⟨p, q, hA0, hV, rfl, hfz, hnd⟩ := hW
  have hA : DataW.TrodAll enc Try.prog W 0 (fun _ => true) true Try.f6.params.toList args.toList ds p := hA0
  rw [Try.params6] at hA hval
  obtain ⟨v0, vs0, d0, ds0, p0, q0, hargs, rfl, rfl, h0, r0⟩ := trodAll_cons hA
  obtain ⟨rfl, rfl, rfl⟩ := trodAll_nil r0
  obtain rfl : args = #[v0] := by cases args; simp_all
  obtain ⟨rfl, rfl⟩ := trodVars_none hV
  have k0 := h0
  have lt0 : ∀ x ∈ p0, x.block < W.heap.size := by obtain ⟨m, hm⟩ := k0; exact DataW.trod_lt m _ _ _ hm
  obtain ⟨a0, len0, cap0, rfl⟩ := okWide_slice Try.underlying22 (hval 0 22 v0 rfl rfl)
  obtain ⟨fuel0, hf0⟩ := h0
  obtain ⟨hb0, hc0⟩ := open_bytes hf0
  clear hA0 hval0
  refine (walk a0 len0 cap0 W hb0 hc0).mono fun e W' ⟨he, bel⟩ => ?_
  subst he
  exact ⟨_, rfl, _, _, _, [], _, [], hW', trodAll_mk1 (shut_bool Try.underlying4 _), (trodAll_cons_mk (Below.trod laidOut (by kernel_rfl) (of_decide_eq_true (by kernel_rfl)) k0 bel.below lt0) trodAll_mk0), rfl, bel.below.frame _, fun h => by cases h⟩

theorem over : Rows.fnBookSplitRow.holds Try.pinned (OpenSpec.ofChange Rows.fnBookSplitSpec) :=
  OpenClaim.holds_of_wide 6 Try.f6 rfl rfl rfl rfl rfl rfl rfl ⟨rfl, rfl, rfl, rfl, rfl⟩ rfl rfl rfl rfl rfl (by kernel_rfl) Try.func6 (by kernel_rfl)
    (of_decide_eq_true (by kernel_rfl)) (by unfold Func.isWrapper; first | (rw [if_pos (by decide +kernel)]; kernel_rfl) | (rw [if_neg (by decide +kernel)]; exact ⟨rfl, rfl⟩))
    (fun os started H enc _ => lifted os started H enc)
end Go.Proofs.Ytnoiammgpdlljaa.FnBookSplit
namespace Go.Proofs.Ytnoiammgpdlljaa
theorem fnBookSplit_holds : Rows.FnBookSplitSaid := FnBookSplit.over
#print axioms fnBookSplit_holds
end Go.Proofs.Ytnoiammgpdlljaa
