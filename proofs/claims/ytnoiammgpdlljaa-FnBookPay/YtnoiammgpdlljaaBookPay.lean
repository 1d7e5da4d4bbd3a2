/-
  FnBookPay returns true at every row of bytes and leaves its argument as it was: what the statement says; no condition.
-/
import Derived.Test.YtnoiammgpdlljaaDrawB
import Derived.Test.YtnoiammgpdlljaaOpenN
import Derived.Test.YtnoiammgpdlljaaBook6
import Derived.Lib.SmallJoins
import Derived.JoinedOf
import Derived.JoinedAt
import Derived.RowKit3
import Derived.Deep.RegionHeld3
namespace Go.Proofs.Ytnoiammgpdlljaa.FnBookPay
set_option linter.unusedVariables false
open Go.ChangeShapes Go.WideShapes Go.ChangeAt Go.RowKit Go.Joins
attribute [local simp] far_const

set_option maxHeartbeats 8000000 in
theorem walk (a : Option Addr) (n cap : Nat) (w : World) (hb : Byt w a w.heap.size n) (hc : n ≤ cap) :
    Calls Try.prog 4 #[.slice a n cap] w fun e w' => e = .returned (.bool true) ∧ Grew w w' := by
  by_cases hn : n ≤ 1048576
  · have hn1 : decide ((1048576 : Int) < (n : Int)) = false := by simp; omega
    go_enter Try.func4, Try.ntmps4
    go_wp2_with fail
    refine (drawBookPay_any a n cap _ hb hc hn).mono ?_
    rintro e w1 ⟨v, l, f, t, s, rfl, nv, hl, g1⟩
    have NV := hide (nv.grew ((Grew.refl _).alloc (.cells #[.int .i64 f, .int .i64 t, .int .i64 s] 25)))
    obtain ⟨X, hX⟩ : ∃ X, bpay l f t s = X := ⟨_, rfl⟩
    have hXl : X.length ≤ 3 := by rw [← hX]; exact bpay_len l f t s
    have HX := hide hX
    clear nv hX
    go_wp2_with fail
    refine (implBookPay_v f t s _ (unhide NV) (by omega)).mono ?_
    rintro e w2 ⟨u, rfl, au, g2⟩
    rw [unhide HX] at au
    have p0 := g2.keep (p := ⟨w1.heap.size, 0, none⟩) (v := .int .i64 f) (by simp [go_sem])
    have p1 := g2.keep (p := ⟨w1.heap.size, 1, none⟩) (v := .int .i64 t) (by simp [go_sem])
    have p2 := g2.keep (p := ⟨w1.heap.size, 2, none⟩) (v := .int .i64 s) (by simp [go_sem])
    have NV := hide ((unhide NV).grew g2)
    have NU := hide au.num
    have G2 := hide (g1.trans (((Grew.refl _).alloc _).trans g2))
    clear au g1 g2
    go_wp2_with fail
    refine (specBookPay_v f t s _ (unhide NV) (by omega)).mono ?_
    rintro e w3 ⟨q, rfl, oq, g3⟩
    rw [unhide HX] at oq
    have p0 := g3.keep p0
    have p1 := g3.keep p1
    have p2 := g3.keep p2
    have NQ := hide oq.num
    have NV := hide ((unhide NV).grew g3)
    have NU := hide ((unhide NU).grew g3)
    have G3 := hide ((unhide G2).trans g3)
    clear oq g3 G2
    go_wp2_with fail
    refine (lwInts_v _ (unhide NU) (unhide NQ) (by omega) (by omega)).mono ?_
    rintro e w4 ⟨rfl, g4⟩
    rw [decide_eq_true rfl]
    have p0 := g4.keep p0
    have p1 := g4.keep p1
    have p2 := g4.keep p2
    have NV := hide ((unhide NV).grew g4)
    have NU := hide ((unhide NU).grew g4)
    have G4 := hide ((unhide G3).trans g4)
    clear g4 G3 NQ
    by_cases hX0 : X = []
    · subst hX0
      obtain ⟨ua, uc, rfl⟩ := (unhide NU).shape
      simp only [List.length_nil] at NU ⊢
      go_wp2_with fail
      refine (specBookPay_v f t s _ (unhide NV) (by omega)).mono ?_
      rintro e w5 ⟨q2, rfl, oq, g5⟩
      rw [unhide HX] at oq
      have NQ := hide oq.num
      have NU := hide ((unhide NU).grew g5)
      have G5 := hide ((unhide G4).trans g5)
      clear oq g5 G4
      go_wp2_with fail
      refine (lwInts_v _ (unhide NU) (unhide NQ) (by omega) (by omega)).mono ?_
      rintro e w6 ⟨rfl, g6⟩
      rw [decide_eq_true rfl]
      have G6 := hide ((unhide G5).trans g6)
      clear g6 G5
      go_wp2
      go_ret
      exact ⟨rfl, unhide G6⟩
    · obtain ⟨hbok, hpay, hXe⟩ := bpay_pos (unhide HX) hX0
      obtain ⟨x, y, z, rfl, hx⟩ := bokB_three hbok
      obtain ⟨x', y', z', hX3, hx'⟩ := bokB_three (payL_ok hbok hpay)
      rw [← hXe] at hX3
      subst hX3
      have HXe := hide hXe
      clear hXe hX0
      obtain ⟨ub, uo, uc, rfl, c0, c1, c2⟩ := (unhide NU).three
      obtain ⟨vb, vo, vc, rfl, d0, d1, d2⟩ := (unhide NV).three
      have NU4 := NU
      have NV4 := NV
      obtain ⟨h1, h9, hc⟩ := payB_cases hpay
      obtain ⟨hx0, hx1, hy0, hy1, hz0, hz1, _⟩ := hx
      have hh := hide (show 0 ≤ x ∧ 0 ≤ y ∧ 0 ≤ z ∧ x + y + z = 27 by omega)
      have e0 := Grew.gcell d0
      have e1 := Grew.gcell d1
      have e2 := Grew.gcell d2
      have r0 := Grew.gcell p0
      have r2 := Grew.gcell p2
      rcases hc with ⟨rfl, rfl⟩ | ⟨rfl, rfl⟩ | ⟨rfl, rfl⟩ | ⟨rfl, rfl⟩ | ⟨rfl, rfl⟩ | ⟨rfl, rfl⟩
      · by_cases hs : s ≤ x
        · have hX := unhide HX
          rw [pay12 (unhide hh) h1 h9 hs] at hX
          simp only [List.cons.injEq, and_true] at hX
          obtain ⟨rfl, rfl, rfl⟩ := hX
          have hlt : decide (x < s) = false := by simp; omega
          clear hs HX HXe hbok hpay
          go_wp2_with fail
          refine quietly (by kernel_rfl) (by kernel_rfl) ?_
          repeat (go_big_quiet_step (first | fail))
          refine wpQuiet_nil ?_
          rintro w5 ⟨⟨nq, osq⟩, hw⟩
          have g5 : Grew w4 w5 := ⟨nq, osq, hw⟩
          clear hw
          have c0 := Grew.gcell (g5.keep c0)
          have c1 := Grew.gcell (g5.keep c1)
          have c2 := Grew.gcell (g5.keep c2)
          have d0 := Grew.gcell (g5.keep d0)
          have d1 := Grew.gcell (g5.keep d1)
          have d2 := Grew.gcell (g5.keep d2)
          have p0' := g5.keep p0
          have p1' := g5.keep p1
          have p2' := g5.keep p2
          have p0 := Grew.gcell p0'
          have p1 := Grew.gcell p1'
          have p2 := Grew.gcell p2'
          have G5 := hide ((unhide G4).trans g5)
          clear e0 e1 e2 r0 r2 g5 hlt
          go_wp2_with fail
          refine quietly (by kernel_rfl) (by kernel_rfl) ?_
          repeat (go_big_quiet_step (first | fail))
          refine wpQuiet_nil ?_
          rintro w6 ⟨⟨nq, osq⟩, hw⟩
          have g6 : Grew w5 w6 := ⟨nq, osq, hw⟩
          clear hw
          have G6 := hide ((unhide G5).trans g6)
          clear g6
          go_wp2
          go_ret
          exact ⟨rfl, unhide G6⟩
        · have hX := unhide HX
          rw [not12 (unhide hh) h1 h9 (by omega)] at hX
          simp only [List.cons.injEq, and_true] at hX
          obtain ⟨rfl, rfl, rfl⟩ := hX
          have hlt : decide (x < s) = true := by simp; omega
          clear hs HX HXe hbok hpay
          go_wp2_with fail
          refine quietly (by kernel_rfl) (by kernel_rfl) ?_
          repeat (go_big_quiet_step (first | fail))
          refine wpQuiet_nil ?_
          rintro w5 ⟨⟨nq, osq⟩, hw⟩
          have g5 : Grew w4 w5 := ⟨nq, osq, hw⟩
          clear hw
          have NU := hide ((unhide NU4).grew g5)
          have NV := hide ((unhide NV4).grew g5)
          have G5 := hide ((unhide G4).trans g5)
          clear g5
          go_wp2_with fail
          refine (lwInts_v _ (unhide NU) (unhide NV) (by simp) (by simp)).mono ?_
          rintro e w6 ⟨rfl, g6⟩
          rw [decide_eq_true rfl]
          have G6 := hide ((unhide G5).trans g6)
          clear g6
          go_wp2
          go_ret
          exact ⟨rfl, unhide G6⟩
      · by_cases hs : s ≤ x
        · have hX := unhide HX
          rw [pay13 (unhide hh) h1 h9 hs] at hX
          simp only [List.cons.injEq, and_true] at hX
          obtain ⟨rfl, rfl, rfl⟩ := hX
          have hlt : decide (x < s) = false := by simp; omega
          clear hs HX HXe hbok hpay
          go_wp2_with fail
          refine quietly (by kernel_rfl) (by kernel_rfl) ?_
          repeat (go_big_quiet_step (first | fail))
          refine wpQuiet_nil ?_
          rintro w5 ⟨⟨nq, osq⟩, hw⟩
          have g5 : Grew w4 w5 := ⟨nq, osq, hw⟩
          clear hw
          have c0 := Grew.gcell (g5.keep c0)
          have c1 := Grew.gcell (g5.keep c1)
          have c2 := Grew.gcell (g5.keep c2)
          have d0 := Grew.gcell (g5.keep d0)
          have d1 := Grew.gcell (g5.keep d1)
          have d2 := Grew.gcell (g5.keep d2)
          have p0' := g5.keep p0
          have p1' := g5.keep p1
          have p2' := g5.keep p2
          have p0 := Grew.gcell p0'
          have p1 := Grew.gcell p1'
          have p2 := Grew.gcell p2'
          have G5 := hide ((unhide G4).trans g5)
          clear e0 e1 e2 r0 r2 g5 hlt
          go_wp2_with fail
          refine quietly (by kernel_rfl) (by kernel_rfl) ?_
          repeat (go_big_quiet_step (first | fail))
          refine wpQuiet_nil ?_
          rintro w6 ⟨⟨nq, osq⟩, hw⟩
          have g6 : Grew w5 w6 := ⟨nq, osq, hw⟩
          clear hw
          have G6 := hide ((unhide G5).trans g6)
          clear g6
          go_wp2
          go_ret
          exact ⟨rfl, unhide G6⟩
        · have hX := unhide HX
          rw [not13 (unhide hh) h1 h9 (by omega)] at hX
          simp only [List.cons.injEq, and_true] at hX
          obtain ⟨rfl, rfl, rfl⟩ := hX
          have hlt : decide (x < s) = true := by simp; omega
          clear hs HX HXe hbok hpay
          go_wp2_with fail
          refine quietly (by kernel_rfl) (by kernel_rfl) ?_
          repeat (go_big_quiet_step (first | fail))
          refine wpQuiet_nil ?_
          rintro w5 ⟨⟨nq, osq⟩, hw⟩
          have g5 : Grew w4 w5 := ⟨nq, osq, hw⟩
          clear hw
          have NU := hide ((unhide NU4).grew g5)
          have NV := hide ((unhide NV4).grew g5)
          have G5 := hide ((unhide G4).trans g5)
          clear g5
          go_wp2_with fail
          refine (lwInts_v _ (unhide NU) (unhide NV) (by simp) (by simp)).mono ?_
          rintro e w6 ⟨rfl, g6⟩
          rw [decide_eq_true rfl]
          have G6 := hide ((unhide G5).trans g6)
          clear g6
          go_wp2
          go_ret
          exact ⟨rfl, unhide G6⟩
      · by_cases hs : s ≤ y
        · have hX := unhide HX
          rw [pay21 (unhide hh) h1 h9 hs] at hX
          simp only [List.cons.injEq, and_true] at hX
          obtain ⟨rfl, rfl, rfl⟩ := hX
          have hlt : decide (y < s) = false := by simp; omega
          clear hs HX HXe hbok hpay
          go_wp2_with fail
          refine quietly (by kernel_rfl) (by kernel_rfl) ?_
          repeat (go_big_quiet_step (first | fail))
          refine wpQuiet_nil ?_
          rintro w5 ⟨⟨nq, osq⟩, hw⟩
          have g5 : Grew w4 w5 := ⟨nq, osq, hw⟩
          clear hw
          have c0 := Grew.gcell (g5.keep c0)
          have c1 := Grew.gcell (g5.keep c1)
          have c2 := Grew.gcell (g5.keep c2)
          have d0 := Grew.gcell (g5.keep d0)
          have d1 := Grew.gcell (g5.keep d1)
          have d2 := Grew.gcell (g5.keep d2)
          have p0' := g5.keep p0
          have p1' := g5.keep p1
          have p2' := g5.keep p2
          have p0 := Grew.gcell p0'
          have p1 := Grew.gcell p1'
          have p2 := Grew.gcell p2'
          have G5 := hide ((unhide G4).trans g5)
          clear e0 e1 e2 r0 r2 g5 hlt
          go_wp2_with fail
          refine quietly (by kernel_rfl) (by kernel_rfl) ?_
          repeat (go_big_quiet_step (first | fail))
          refine wpQuiet_nil ?_
          rintro w6 ⟨⟨nq, osq⟩, hw⟩
          have g6 : Grew w5 w6 := ⟨nq, osq, hw⟩
          clear hw
          have G6 := hide ((unhide G5).trans g6)
          clear g6
          go_wp2
          go_ret
          exact ⟨rfl, unhide G6⟩
        · have hX := unhide HX
          rw [not21 (unhide hh) h1 h9 (by omega)] at hX
          simp only [List.cons.injEq, and_true] at hX
          obtain ⟨rfl, rfl, rfl⟩ := hX
          have hlt : decide (y < s) = true := by simp; omega
          clear hs HX HXe hbok hpay
          go_wp2_with fail
          refine quietly (by kernel_rfl) (by kernel_rfl) ?_
          repeat (go_big_quiet_step (first | fail))
          refine wpQuiet_nil ?_
          rintro w5 ⟨⟨nq, osq⟩, hw⟩
          have g5 : Grew w4 w5 := ⟨nq, osq, hw⟩
          clear hw
          have NU := hide ((unhide NU4).grew g5)
          have NV := hide ((unhide NV4).grew g5)
          have G5 := hide ((unhide G4).trans g5)
          clear g5
          go_wp2_with fail
          refine (lwInts_v _ (unhide NU) (unhide NV) (by simp) (by simp)).mono ?_
          rintro e w6 ⟨rfl, g6⟩
          rw [decide_eq_true rfl]
          have G6 := hide ((unhide G5).trans g6)
          clear g6
          go_wp2
          go_ret
          exact ⟨rfl, unhide G6⟩
      · by_cases hs : s ≤ y
        · have hX := unhide HX
          rw [pay23 (unhide hh) h1 h9 hs] at hX
          simp only [List.cons.injEq, and_true] at hX
          obtain ⟨rfl, rfl, rfl⟩ := hX
          have hlt : decide (y < s) = false := by simp; omega
          clear hs HX HXe hbok hpay
          go_wp2_with fail
          refine quietly (by kernel_rfl) (by kernel_rfl) ?_
          repeat (go_big_quiet_step (first | fail))
          refine wpQuiet_nil ?_
          rintro w5 ⟨⟨nq, osq⟩, hw⟩
          have g5 : Grew w4 w5 := ⟨nq, osq, hw⟩
          clear hw
          have c0 := Grew.gcell (g5.keep c0)
          have c1 := Grew.gcell (g5.keep c1)
          have c2 := Grew.gcell (g5.keep c2)
          have d0 := Grew.gcell (g5.keep d0)
          have d1 := Grew.gcell (g5.keep d1)
          have d2 := Grew.gcell (g5.keep d2)
          have p0' := g5.keep p0
          have p1' := g5.keep p1
          have p2' := g5.keep p2
          have p0 := Grew.gcell p0'
          have p1 := Grew.gcell p1'
          have p2 := Grew.gcell p2'
          have G5 := hide ((unhide G4).trans g5)
          clear e0 e1 e2 r0 r2 g5 hlt
          go_wp2_with fail
          refine quietly (by kernel_rfl) (by kernel_rfl) ?_
          repeat (go_big_quiet_step (first | fail))
          refine wpQuiet_nil ?_
          rintro w6 ⟨⟨nq, osq⟩, hw⟩
          have g6 : Grew w5 w6 := ⟨nq, osq, hw⟩
          clear hw
          have G6 := hide ((unhide G5).trans g6)
          clear g6
          go_wp2
          go_ret
          exact ⟨rfl, unhide G6⟩
        · have hX := unhide HX
          rw [not23 (unhide hh) h1 h9 (by omega)] at hX
          simp only [List.cons.injEq, and_true] at hX
          obtain ⟨rfl, rfl, rfl⟩ := hX
          have hlt : decide (y < s) = true := by simp; omega
          clear hs HX HXe hbok hpay
          go_wp2_with fail
          refine quietly (by kernel_rfl) (by kernel_rfl) ?_
          repeat (go_big_quiet_step (first | fail))
          refine wpQuiet_nil ?_
          rintro w5 ⟨⟨nq, osq⟩, hw⟩
          have g5 : Grew w4 w5 := ⟨nq, osq, hw⟩
          clear hw
          have NU := hide ((unhide NU4).grew g5)
          have NV := hide ((unhide NV4).grew g5)
          have G5 := hide ((unhide G4).trans g5)
          clear g5
          go_wp2_with fail
          refine (lwInts_v _ (unhide NU) (unhide NV) (by simp) (by simp)).mono ?_
          rintro e w6 ⟨rfl, g6⟩
          rw [decide_eq_true rfl]
          have G6 := hide ((unhide G5).trans g6)
          clear g6
          go_wp2
          go_ret
          exact ⟨rfl, unhide G6⟩
      · by_cases hs : s ≤ z
        · have hX := unhide HX
          rw [pay31 (unhide hh) h1 h9 hs] at hX
          simp only [List.cons.injEq, and_true] at hX
          obtain ⟨rfl, rfl, rfl⟩ := hX
          have hlt : decide (z < s) = false := by simp; omega
          clear hs HX HXe hbok hpay
          go_wp2_with fail
          refine quietly (by kernel_rfl) (by kernel_rfl) ?_
          repeat (go_big_quiet_step (first | fail))
          refine wpQuiet_nil ?_
          rintro w5 ⟨⟨nq, osq⟩, hw⟩
          have g5 : Grew w4 w5 := ⟨nq, osq, hw⟩
          clear hw
          have c0 := Grew.gcell (g5.keep c0)
          have c1 := Grew.gcell (g5.keep c1)
          have c2 := Grew.gcell (g5.keep c2)
          have d0 := Grew.gcell (g5.keep d0)
          have d1 := Grew.gcell (g5.keep d1)
          have d2 := Grew.gcell (g5.keep d2)
          have p0' := g5.keep p0
          have p1' := g5.keep p1
          have p2' := g5.keep p2
          have p0 := Grew.gcell p0'
          have p1 := Grew.gcell p1'
          have p2 := Grew.gcell p2'
          have G5 := hide ((unhide G4).trans g5)
          clear e0 e1 e2 r0 r2 g5 hlt
          go_wp2_with fail
          refine quietly (by kernel_rfl) (by kernel_rfl) ?_
          repeat (go_big_quiet_step (first | fail))
          refine wpQuiet_nil ?_
          rintro w6 ⟨⟨nq, osq⟩, hw⟩
          have g6 : Grew w5 w6 := ⟨nq, osq, hw⟩
          clear hw
          have G6 := hide ((unhide G5).trans g6)
          clear g6
          go_wp2
          go_ret
          exact ⟨rfl, unhide G6⟩
        · have hX := unhide HX
          rw [not31 (unhide hh) h1 h9 (by omega)] at hX
          simp only [List.cons.injEq, and_true] at hX
          obtain ⟨rfl, rfl, rfl⟩ := hX
          have hlt : decide (z < s) = true := by simp; omega
          clear hs HX HXe hbok hpay
          go_wp2_with fail
          refine quietly (by kernel_rfl) (by kernel_rfl) ?_
          repeat (go_big_quiet_step (first | fail))
          refine wpQuiet_nil ?_
          rintro w5 ⟨⟨nq, osq⟩, hw⟩
          have g5 : Grew w4 w5 := ⟨nq, osq, hw⟩
          clear hw
          have NU := hide ((unhide NU4).grew g5)
          have NV := hide ((unhide NV4).grew g5)
          have G5 := hide ((unhide G4).trans g5)
          clear g5
          go_wp2_with fail
          refine (lwInts_v _ (unhide NU) (unhide NV) (by simp) (by simp)).mono ?_
          rintro e w6 ⟨rfl, g6⟩
          rw [decide_eq_true rfl]
          have G6 := hide ((unhide G5).trans g6)
          clear g6
          go_wp2
          go_ret
          exact ⟨rfl, unhide G6⟩
      · by_cases hs : s ≤ z
        · have hX := unhide HX
          rw [pay32 (unhide hh) h1 h9 hs] at hX
          simp only [List.cons.injEq, and_true] at hX
          obtain ⟨rfl, rfl, rfl⟩ := hX
          have hlt : decide (z < s) = false := by simp; omega
          clear hs HX HXe hbok hpay
          go_wp2_with fail
          refine quietly (by kernel_rfl) (by kernel_rfl) ?_
          repeat (go_big_quiet_step (first | fail))
          refine wpQuiet_nil ?_
          rintro w5 ⟨⟨nq, osq⟩, hw⟩
          have g5 : Grew w4 w5 := ⟨nq, osq, hw⟩
          clear hw
          have c0 := Grew.gcell (g5.keep c0)
          have c1 := Grew.gcell (g5.keep c1)
          have c2 := Grew.gcell (g5.keep c2)
          have d0 := Grew.gcell (g5.keep d0)
          have d1 := Grew.gcell (g5.keep d1)
          have d2 := Grew.gcell (g5.keep d2)
          have p0' := g5.keep p0
          have p1' := g5.keep p1
          have p2' := g5.keep p2
          have p0 := Grew.gcell p0'
          have p1 := Grew.gcell p1'
          have p2 := Grew.gcell p2'
          have G5 := hide ((unhide G4).trans g5)
          clear e0 e1 e2 r0 r2 g5 hlt
          go_wp2_with fail
          refine quietly (by kernel_rfl) (by kernel_rfl) ?_
          repeat (go_big_quiet_step (first | fail))
          refine wpQuiet_nil ?_
          rintro w6 ⟨⟨nq, osq⟩, hw⟩
          have g6 : Grew w5 w6 := ⟨nq, osq, hw⟩
          clear hw
          have G6 := hide ((unhide G5).trans g6)
          clear g6
          go_wp2
          go_ret
          exact ⟨rfl, unhide G6⟩
        · have hX := unhide HX
          rw [not32 (unhide hh) h1 h9 (by omega)] at hX
          simp only [List.cons.injEq, and_true] at hX
          obtain ⟨rfl, rfl, rfl⟩ := hX
          have hlt : decide (z < s) = true := by simp; omega
          clear hs HX HXe hbok hpay
          go_wp2_with fail
          refine quietly (by kernel_rfl) (by kernel_rfl) ?_
          repeat (go_big_quiet_step (first | fail))
          refine wpQuiet_nil ?_
          rintro w5 ⟨⟨nq, osq⟩, hw⟩
          have g5 : Grew w4 w5 := ⟨nq, osq, hw⟩
          clear hw
          have NU := hide ((unhide NU4).grew g5)
          have NV := hide ((unhide NV4).grew g5)
          have G5 := hide ((unhide G4).trans g5)
          clear g5
          go_wp2_with fail
          refine (lwInts_v _ (unhide NU) (unhide NV) (by simp) (by simp)).mono ?_
          rintro e w6 ⟨rfl, g6⟩
          rw [decide_eq_true rfl]
          have G6 := hide ((unhide G5).trans g6)
          clear g6
          go_wp2
          go_ret
          exact ⟨rfl, unhide G6⟩
  · have hn1 : decide ((1048576 : Int) < (n : Int)) = true := by simp; omega
    clear hn
    go_enter Try.func4, Try.ntmps4
    go_wp2
    go_ret
    exact ⟨rfl, Grew.refl _⟩

set_option maxRecDepth 100000 in
theorem lifted (os : Os) (started : os.Started) (H : Type) (enc : TypeId × Value → H) :
    ReturnsInHanded {} Try.checked os 4 .any (Rows.fnBookPaySpec.pre6 enc Try.prog Try.f4 Rows.fnBookPayRow.domain false) (Rows.fnBookPaySpec.post enc Try.prog Try.f4 false true false false) := by
  refine returnsInHanded_of_change (C := Try.checked) own started (by kernel_rfl) Try.func4
    (ChangeSpec.witness6 (enc := enc) (C := Try.checked) false ⟨#[], #[.slice none 0 0], []⟩ 8 (by kernel_rfl) (by kernel_rfl) (by kernel_rfl) (by kernel_rfl)) ?_
  intro W base args ds gs before hval0 hW hcnd _
  have hval : ∀ (j : Nat) t v, Try.f4.params[j]? = some t → args[j]? = some v → Value.okWide Try.prog W .any base t v := hval0
  have hW' := hW
  obtain ⟨p, q, hA0, hV, rfl, hfz, hnd⟩ := hW
  have hA : DataW.TrodAll enc Try.prog W 0 (fun _ => true) true Try.f4.params.toList args.toList ds p := hA0
  rw [Try.params4] at hA hval
  obtain ⟨v0, vs0, d0, ds0, p0, q0, hargs, rfl, rfl, h0, r0⟩ := trodAll_cons hA
  obtain ⟨rfl, rfl, rfl⟩ := trodAll_nil r0
  obtain rfl : args = #[v0] := by cases args; simp_all
  obtain ⟨rfl, rfl⟩ := trodVars_none hV
  have k0 := h0
  have lt0 : ∀ x ∈ p0, x.block < W.heap.size := by obtain ⟨m, hm⟩ := k0; exact DataW.trod_lt m _ _ _ hm
  obtain ⟨a0, len0, cap0, rfl⟩ := okWide_slice Try.underlying22 (hval 0 22 v0 rfl rfl)
  obtain ⟨fuel0, hf0⟩ := h0
  obtain ⟨hb0, hc0⟩ := open_bytes hf0
  clear hA0 hval0
  refine (walk a0 len0 cap0 W hb0 hc0).mono fun e W' ⟨he, bel⟩ => ?_
  subst he
  exact ⟨_, rfl, _, _, _, [], _, [], hW', trodAll_mk1 (shut_bool Try.underlying4 _), (trodAll_cons_mk (Below.trod laidOut (by kernel_rfl) (of_decide_eq_true (by kernel_rfl)) k0 bel.below lt0) trodAll_mk0), rfl, bel.below.frame _, fun h => by cases h⟩

theorem over : Rows.fnBookPayRow.holds Try.pinned (OpenSpec.ofChange Rows.fnBookPaySpec) :=
  OpenClaim.holds_of_wide 4 Try.f4 rfl rfl rfl rfl rfl rfl rfl ⟨rfl, rfl, rfl, rfl, rfl⟩ rfl rfl rfl rfl rfl (by kernel_rfl) Try.func4 (by kernel_rfl)
    (of_decide_eq_true (by kernel_rfl)) (by unfold Func.isWrapper; first | (rw [if_pos (by decide +kernel)]; kernel_rfl) | (rw [if_neg (by decide +kernel)]; exact ⟨rfl, rfl⟩))
    (fun os started H enc _ => lifted os started H enc)
end Go.Proofs.Ytnoiammgpdlljaa.FnBookPay
namespace Go.Proofs.Ytnoiammgpdlljaa
theorem fnBookPay_holds : Rows.FnBookPaySaid := FnBookPay.over
#print axioms fnBookPay_holds
end Go.Proofs.Ytnoiammgpdlljaa
