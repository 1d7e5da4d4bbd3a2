/-
  FnBookNone returns true at every two rows of bytes and leaves its arguments as they were: what the statement says; no condition.
-/
import Derived.Test.YtnoiammgpdlljaaDrawB
import Derived.Test.YtnoiammgpdlljaaOpenN
import Derived.Test.YtnoiammgpdlljaaBook6
import Derived.Lib.SmallJoins
import Derived.JoinedOf
import Derived.JoinedAt
import Derived.RowKit3
import Derived.Deep.RegionHeld3
import Derived.Deep.DeepFit
namespace Go.Proofs.Ytnoiammgpdlljaa.FnBookNone
set_option linter.unusedVariables false
open Go.ChangeShapes Go.WideShapes Go.ChangeAt Go.RowKit Go.Joins
attribute [local simp] far_const

set_option maxHeartbeats 8000000 in
theorem walk (a : Option Addr) (n cap : Nat) (b2 : Option Addr) (m cap2 : Nat) (w : World) (hb : Byt w a w.heap.size n) (hc : n ≤ cap) (hb2 : Byt w b2 w.heap.size m) (hc2 : m ≤ cap2) :
    Calls Try.prog 8 #[.slice a n cap, .slice b2 m cap2] w fun e w' => e = .returned (.bool true) ∧ Grew w w' := by
  by_cases hn : n ≤ 1048576
  · have hn1 : decide ((1048576 : Int) < (n : Int)) = false := by simp; omega
    by_cases hm : m ≤ 1048576
    · have hm1 : decide ((1048576 : Int) < (m : Int)) = false := by simp; omega
      go_enter Try.func8, Try.ntmps8
      go_wp2_with fail
      refine (drawBookPay_any a n cap _ hb hc hn).mono ?_
      rintro e w1 ⟨v, l, f, t, s, rfl, nv, hl, g1⟩
      have NV := hide (nv.grew ((Grew.refl _).alloc (.cells #[.int .i64 f, .int .i64 t, .int .i64 s] 25)))
      obtain ⟨X, hX⟩ : ∃ X, bpay l f t s = X := ⟨_, rfl⟩
      have hXl : X.length ≤ 3 := by rw [← hX]; exact bpay_len l f t s
      have HX := hide hX
      clear nv hX
      go_wp2_with fail
      refine (implBookPay_v f t s _ (unhide NV) (by omega)).mono ?_
      rintro e w2 ⟨u, rfl, au, g2⟩
      rw [unhide HX] at au
      have p0 := g2.keep (p := ⟨w1.heap.size, 0, none⟩) (v := .int .i64 f) (by simp [go_sem])
      have p1 := g2.keep (p := ⟨w1.heap.size, 1, none⟩) (v := .int .i64 t) (by simp [go_sem])
      have p2 := g2.keep (p := ⟨w1.heap.size, 2, none⟩) (v := .int .i64 s) (by simp [go_sem])
      have NV := hide ((unhide NV).grew g2)
      have NU := hide au.num
      have G2 := hide (g1.trans (((Grew.refl _).alloc _).trans g2))
      clear au g1 g2
      go_wp2_with fail
      refine (specBookPay_v f t s _ (unhide NV) (by omega)).mono ?_
      rintro e w3 ⟨q, rfl, oq, g3⟩
      rw [unhide HX] at oq
      have p0 := g3.keep p0
      have p1 := g3.keep p1
      have p2 := g3.keep p2
      have NQ := hide oq.num
      have NV := hide ((unhide NV).grew g3)
      have NU := hide ((unhide NU).grew g3)
      have G3 := hide ((unhide G2).trans g3)
      clear oq g3 G2
      go_wp2_with fail
      refine (lwInts_v _ (unhide NU) (unhide NQ) (by omega) (by omega)).mono ?_
      rintro e w4 ⟨rfl, g4⟩
      rw [decide_eq_true rfl]
      have p0 := g4.keep p0
      have p1 := g4.keep p1
      have p2 := g4.keep p2
      have NV := hide ((unhide NV).grew g4)
      have NU := hide ((unhide NU).grew g4)
      have G4 := hide ((unhide G3).trans g4)
      clear g4 G3 NQ
      by_cases hX0 : X = []
      · subst hX0
        obtain ⟨ua, uc, rfl⟩ := (unhide NU).shape
        simp only [List.length_nil] at NU ⊢
        go_wp2_with fail
        refine (specBookPay_v f t s _ (unhide NV) (by omega)).mono ?_
        rintro e w5 ⟨q2, rfl, oq, g5⟩
        rw [unhide HX] at oq
        have NQ := hide oq.num
        have NU := hide ((unhide NU).grew g5)
        have G5 := hide ((unhide G4).trans g5)
        clear oq g5 G4
        go_wp2_with fail
        refine (lwInts_v _ (unhide NU) (unhide NQ) (by omega) (by omega)).mono ?_
        rintro e w6 ⟨rfl, g6⟩
        rw [decide_eq_true rfl]
        have G6 := hide ((unhide G5).trans g6)
        clear g6 G5
        go_wp2
        go_ret
        exact ⟨rfl, unhide G6⟩
      · obtain ⟨hbok, hpay, hXe⟩ := bpay_pos (unhide HX) hX0
        obtain ⟨x, y, z, rfl, hx⟩ := bokB_three hbok
        obtain ⟨x', y', z', hX3, hx'⟩ := bokB_three (payL_ok hbok hpay)
        rw [← hXe] at hX3
        subst hX3
        have HXe := hide hXe
        clear hXe hX0
        obtain ⟨ub, uo, uc, rfl, c0, c1, c2⟩ := (unhide NU).three
        obtain ⟨vb, vo, vc, rfl, d0, d1, d2⟩ := (unhide NV).three
        have NV4 := NV
        obtain ⟨hx0, hx1, hy0, hy1, hz0, hz1, _⟩ := hx
        have hh := hide (show 0 ≤ x ∧ 0 ≤ y ∧ 0 ≤ z ∧ x + y + z = 27 by omega)
        clear HX HXe hbok hpay NU c0 c1 c2 p0 p1 p2
        have hr3 : (m : Int) % 3 = 0 ∨ (m : Int) % 3 = 1 ∨ (m : Int) % 3 = 2 := by omega
        rcases hr3 with hr | hr | hr
        · by_cases h9 : x < 9
          · have h9' : decide (x < 9) = true := by simpa using h9
            by_cases h1 : x < 1
            · have h1' : decide (x < 1) = true := by simpa using h1
              have HA := hide (not12 (unhide hh) (show 1 ≤ x + 1 by omega) (by omega) (by omega))
              go_wp2_with fail
              refine (implBookPay_v 1 2 (x + 1) _ (unhide NV4) (by simp)).mono ?_
              rintro e w5 ⟨u1, rfl, a1, g5⟩
              rw [unhide HA] at a1
              have d0 := g5.keep d0
              have d1 := g5.keep d1
              have d2 := g5.keep d2
              have NV4 := hide ((unhide NV4).grew g5)
              have N5 := hide a1.num
              have G5 := hide ((unhide G4).trans g5)
              clear a1 g5
              go_wp2_with fail
              refine (lwInts_v _ (unhide N5) (unhide NV4) (by simp) (by simp)).mono ?_
              rintro e w6 ⟨rfl, g6⟩
              rw [decide_eq_true rfl]
              have d0 := g6.keep d0
              have d1 := g6.keep d1
              have d2 := g6.keep d2
              have NV4 := hide ((unhide NV4).grew g6)
              have G6 := hide ((unhide G5).trans g6)
              clear g6 N5
              go_wp2
              go_ret
              exact ⟨rfl, unhide G6⟩
            · have h1' : decide (x < 1) = false := by simpa using h1
              have h2' : decide (9 < x) = false := by simp; omega
              have HA := hide (not12 (unhide hh) (show 1 ≤ x + 1 by omega) (by omega) (by omega))
              go_wp2_with fail
              refine (implBookPay_v 1 2 (x + 1) _ (unhide NV4) (by simp)).mono ?_
              rintro e w5 ⟨u1, rfl, a1, g5⟩
              rw [unhide HA] at a1
              have d0 := g5.keep d0
              have d1 := g5.keep d1
              have d2 := g5.keep d2
              have NV4 := hide ((unhide NV4).grew g5)
              have N5 := hide a1.num
              have G5 := hide ((unhide G4).trans g5)
              clear a1 g5
              go_wp2_with fail
              refine (lwInts_v _ (unhide N5) (unhide NV4) (by simp) (by simp)).mono ?_
              rintro e w6 ⟨rfl, g6⟩
              rw [decide_eq_true rfl]
              have d0 := g6.keep d0
              have d1 := g6.keep d1
              have d2 := g6.keep d2
              have NV4 := hide ((unhide NV4).grew g6)
              have G6 := hide ((unhide G5).trans g6)
              clear g6 N5
              have HB := hide (show bpay [x, y, z] 1 2 x = [0, y + x, z] by
                rw [pay12 (unhide hh) (by omega) (by omega) (by omega)]
                exact three_eq (by omega) (by omega) (by omega))
              go_wp2_with fail
              refine (implBookPay_v 1 2 x _ (unhide NV4) (by simp)).mono ?_
              rintro e w7 ⟨u2, rfl, a2, g7⟩
              rw [unhide HB] at a2
              obtain ⟨yb, yo, yc, rfl, c0, c1, c2⟩ := a2.num.three
              have c0 := Grew.gcell c0
              have c1 := Grew.gcell c1
              have c2 := Grew.gcell c2
              have d0 := Grew.gcell (g7.keep d0)
              have d1 := Grew.gcell (g7.keep d1)
              have d2 := Grew.gcell (g7.keep d2)
              have G7 := hide ((unhide G6).trans g7)
              clear a2 g7
              go_wp2_with fail
              refine quietly (by kernel_rfl) (by kernel_rfl) ?_
              repeat (go_big_quiet_step (first | fail))
              refine wpQuiet_nil ?_
              rintro w8 ⟨⟨nq, osq⟩, hw⟩
              have g8 : Grew w7 w8 := ⟨nq, osq, hw⟩
              clear hw
              have G8 := hide ((unhide G7).trans g8)
              clear g8
              go_wp2
              go_ret
              exact ⟨rfl, unhide G8⟩
          · have h9' : decide (x < 9) = false := by simpa using h9
            have h1' : decide (x < 1) = false := by simp; omega
            by_cases h2 : 9 < x
            · have h2' : decide (9 < x) = true := by simpa using h2
              go_wp2
              go_ret
              exact ⟨rfl, unhide G4⟩
            · have h2' : decide (9 < x) = false := by simpa using h2
              have HB := hide (show bpay [x, y, z] 1 2 x = [0, y + x, z] by
                rw [pay12 (unhide hh) (by omega) (by omega) (by omega)]
                exact three_eq (by omega) (by omega) (by omega))
              go_wp2_with fail
              refine (implBookPay_v 1 2 x _ (unhide NV4) (by simp)).mono ?_
              rintro e w5 ⟨u2, rfl, a2, g5⟩
              rw [unhide HB] at a2
              obtain ⟨yb, yo, yc, rfl, c0, c1, c2⟩ := a2.num.three
              have c0 := Grew.gcell c0
              have c1 := Grew.gcell c1
              have c2 := Grew.gcell c2
              have d0 := Grew.gcell (g5.keep d0)
              have d1 := Grew.gcell (g5.keep d1)
              have d2 := Grew.gcell (g5.keep d2)
              have G5 := hide ((unhide G4).trans g5)
              clear a2 g5
              go_wp2_with fail
              refine quietly (by kernel_rfl) (by kernel_rfl) ?_
              repeat (go_big_quiet_step (first | fail))
              refine wpQuiet_nil ?_
              rintro w6 ⟨⟨nq, osq⟩, hw⟩
              have g6 : Grew w5 w6 := ⟨nq, osq, hw⟩
              clear hw
              have G6 := hide ((unhide G5).trans g6)
              clear g6
              go_wp2
              go_ret
              exact ⟨rfl, unhide G6⟩
        · by_cases h9 : y < 9
          · have h9' : decide (y < 9) = true := by simpa using h9
            by_cases h1 : y < 1
            · have h1' : decide (y < 1) = true := by simpa using h1
              have HA := hide (not23 (unhide hh) (show 1 ≤ y + 1 by omega) (by omega) (by omega))
              go_wp2_with fail
              refine (implBookPay_v 2 3 (y + 1) _ (unhide NV4) (by simp)).mono ?_
              rintro e w5 ⟨u1, rfl, a1, g5⟩
              rw [unhide HA] at a1
              have d0 := g5.keep d0
              have d1 := g5.keep d1
              have d2 := g5.keep d2
              have NV4 := hide ((unhide NV4).grew g5)
              have N5 := hide a1.num
              have G5 := hide ((unhide G4).trans g5)
              clear a1 g5
              go_wp2_with fail
              refine (lwInts_v _ (unhide N5) (unhide NV4) (by simp) (by simp)).mono ?_
              rintro e w6 ⟨rfl, g6⟩
              rw [decide_eq_true rfl]
              have d0 := g6.keep d0
              have d1 := g6.keep d1
              have d2 := g6.keep d2
              have NV4 := hide ((unhide NV4).grew g6)
              have G6 := hide ((unhide G5).trans g6)
              clear g6 N5
              go_wp2
              go_ret
              exact ⟨rfl, unhide G6⟩
            · have h1' : decide (y < 1) = false := by simpa using h1
              have h2' : decide (9 < y) = false := by simp; omega
              have HA := hide (not23 (unhide hh) (show 1 ≤ y + 1 by omega) (by omega) (by omega))
              go_wp2_with fail
              refine (implBookPay_v 2 3 (y + 1) _ (unhide NV4) (by simp)).mono ?_
              rintro e w5 ⟨u1, rfl, a1, g5⟩
              rw [unhide HA] at a1
              have d0 := g5.keep d0
              have d1 := g5.keep d1
              have d2 := g5.keep d2
              have NV4 := hide ((unhide NV4).grew g5)
              have N5 := hide a1.num
              have G5 := hide ((unhide G4).trans g5)
              clear a1 g5
              go_wp2_with fail
              refine (lwInts_v _ (unhide N5) (unhide NV4) (by simp) (by simp)).mono ?_
              rintro e w6 ⟨rfl, g6⟩
              rw [decide_eq_true rfl]
              have d0 := g6.keep d0
              have d1 := g6.keep d1
              have d2 := g6.keep d2
              have NV4 := hide ((unhide NV4).grew g6)
              have G6 := hide ((unhide G5).trans g6)
              clear g6 N5
              have HB := hide (show bpay [x, y, z] 2 3 y = [x, 0, z + y] by
                rw [pay23 (unhide hh) (by omega) (by omega) (by omega)]
                exact three_eq (by omega) (by omega) (by omega))
              go_wp2_with fail
              refine (implBookPay_v 2 3 y _ (unhide NV4) (by simp)).mono ?_
              rintro e w7 ⟨u2, rfl, a2, g7⟩
              rw [unhide HB] at a2
              obtain ⟨yb, yo, yc, rfl, c0, c1, c2⟩ := a2.num.three
              have c0 := Grew.gcell c0
              have c1 := Grew.gcell c1
              have c2 := Grew.gcell c2
              have d0 := Grew.gcell (g7.keep d0)
              have d1 := Grew.gcell (g7.keep d1)
              have d2 := Grew.gcell (g7.keep d2)
              have G7 := hide ((unhide G6).trans g7)
              clear a2 g7
              go_wp2_with fail
              refine quietly (by kernel_rfl) (by kernel_rfl) ?_
              repeat (go_big_quiet_step (first | fail))
              refine wpQuiet_nil ?_
              rintro w8 ⟨⟨nq, osq⟩, hw⟩
              have g8 : Grew w7 w8 := ⟨nq, osq, hw⟩
              clear hw
              have G8 := hide ((unhide G7).trans g8)
              clear g8
              go_wp2
              go_ret
              exact ⟨rfl, unhide G8⟩
          · have h9' : decide (y < 9) = false := by simpa using h9
            have h1' : decide (y < 1) = false := by simp; omega
            by_cases h2 : 9 < y
            · have h2' : decide (9 < y) = true := by simpa using h2
              go_wp2
              go_ret
              exact ⟨rfl, unhide G4⟩
            · have h2' : decide (9 < y) = false := by simpa using h2
              have HB := hide (show bpay [x, y, z] 2 3 y = [x, 0, z + y] by
                rw [pay23 (unhide hh) (by omega) (by omega) (by omega)]
                exact three_eq (by omega) (by omega) (by omega))
              go_wp2_with fail
              refine (implBookPay_v 2 3 y _ (unhide NV4) (by simp)).mono ?_
              rintro e w5 ⟨u2, rfl, a2, g5⟩
              rw [unhide HB] at a2
              obtain ⟨yb, yo, yc, rfl, c0, c1, c2⟩ := a2.num.three
              have c0 := Grew.gcell c0
              have c1 := Grew.gcell c1
              have c2 := Grew.gcell c2
              have d0 := Grew.gcell (g5.keep d0)
              have d1 := Grew.gcell (g5.keep d1)
              have d2 := Grew.gcell (g5.keep d2)
              have G5 := hide ((unhide G4).trans g5)
              clear a2 g5
              go_wp2_with fail
              refine quietly (by kernel_rfl) (by kernel_rfl) ?_
              repeat (go_big_quiet_step (first | fail))
              refine wpQuiet_nil ?_
              rintro w6 ⟨⟨nq, osq⟩, hw⟩
              have g6 : Grew w5 w6 := ⟨nq, osq, hw⟩
              clear hw
              have G6 := hide ((unhide G5).trans g6)
              clear g6
              go_wp2
              go_ret
              exact ⟨rfl, unhide G6⟩
        · by_cases h9 : z < 9
          · have h9' : decide (z < 9) = true := by simpa using h9
            by_cases h1 : z < 1
            · have h1' : decide (z < 1) = true := by simpa using h1
              have HA := hide (not31 (unhide hh) (show 1 ≤ z + 1 by omega) (by omega) (by omega))
              go_wp2_with fail
              refine (implBookPay_v 3 1 (z + 1) _ (unhide NV4) (by simp)).mono ?_
              rintro e w5 ⟨u1, rfl, a1, g5⟩
              rw [unhide HA] at a1
              have d0 := g5.keep d0
              have d1 := g5.keep d1
              have d2 := g5.keep d2
              have NV4 := hide ((unhide NV4).grew g5)
              have N5 := hide a1.num
              have G5 := hide ((unhide G4).trans g5)
              clear a1 g5
              go_wp2_with fail
              refine (lwInts_v _ (unhide N5) (unhide NV4) (by simp) (by simp)).mono ?_
              rintro e w6 ⟨rfl, g6⟩
              rw [decide_eq_true rfl]
              have d0 := g6.keep d0
              have d1 := g6.keep d1
              have d2 := g6.keep d2
              have NV4 := hide ((unhide NV4).grew g6)
              have G6 := hide ((unhide G5).trans g6)
              clear g6 N5
              go_wp2
              go_ret
              exact ⟨rfl, unhide G6⟩
            · have h1' : decide (z < 1) = false := by simpa using h1
              have h2' : decide (9 < z) = false := by simp; omega
              have HA := hide (not31 (unhide hh) (show 1 ≤ z + 1 by omega) (by omega) (by omega))
              go_wp2_with fail
              refine (implBookPay_v 3 1 (z + 1) _ (unhide NV4) (by simp)).mono ?_
              rintro e w5 ⟨u1, rfl, a1, g5⟩
              rw [unhide HA] at a1
              have d0 := g5.keep d0
              have d1 := g5.keep d1
              have d2 := g5.keep d2
              have NV4 := hide ((unhide NV4).grew g5)
              have N5 := hide a1.num
              have G5 := hide ((unhide G4).trans g5)
              clear a1 g5
              go_wp2_with fail
              refine (lwInts_v _ (unhide N5) (unhide NV4) (by simp) (by simp)).mono ?_
              rintro e w6 ⟨rfl, g6⟩
              rw [decide_eq_true rfl]
              have d0 := g6.keep d0
              have d1 := g6.keep d1
              have d2 := g6.keep d2
              have NV4 := hide ((unhide NV4).grew g6)
              have G6 := hide ((unhide G5).trans g6)
              clear g6 N5
              have HB := hide (show bpay [x, y, z] 3 1 z = [x + z, y, 0] by
                rw [pay31 (unhide hh) (by omega) (by omega) (by omega)]
                exact three_eq (by omega) (by omega) (by omega))
              go_wp2_with fail
              refine (implBookPay_v 3 1 z _ (unhide NV4) (by simp)).mono ?_
              rintro e w7 ⟨u2, rfl, a2, g7⟩
              rw [unhide HB] at a2
              obtain ⟨yb, yo, yc, rfl, c0, c1, c2⟩ := a2.num.three
              have c0 := Grew.gcell c0
              have c1 := Grew.gcell c1
              have c2 := Grew.gcell c2
              have d0 := Grew.gcell (g7.keep d0)
              have d1 := Grew.gcell (g7.keep d1)
              have d2 := Grew.gcell (g7.keep d2)
              have G7 := hide ((unhide G6).trans g7)
              clear a2 g7
              go_wp2_with fail
              refine quietly (by kernel_rfl) (by kernel_rfl) ?_
              repeat (go_big_quiet_step (first | fail))
              refine wpQuiet_nil ?_
              rintro w8 ⟨⟨nq, osq⟩, hw⟩
              have g8 : Grew w7 w8 := ⟨nq, osq, hw⟩
              clear hw
              have G8 := hide ((unhide G7).trans g8)
              clear g8
              go_wp2
              go_ret
              exact ⟨rfl, unhide G8⟩
          · have h9' : decide (z < 9) = false := by simpa using h9
            have h1' : decide (z < 1) = false := by simp; omega
            by_cases h2 : 9 < z
            · have h2' : decide (9 < z) = true := by simpa using h2
              go_wp2
              go_ret
              exact ⟨rfl, unhide G4⟩
            · have h2' : decide (9 < z) = false := by simpa using h2
              have HB := hide (show bpay [x, y, z] 3 1 z = [x + z, y, 0] by
                rw [pay31 (unhide hh) (by omega) (by omega) (by omega)]
                exact three_eq (by omega) (by omega) (by omega))
              go_wp2_with fail
              refine (implBookPay_v 3 1 z _ (unhide NV4) (by simp)).mono ?_
              rintro e w5 ⟨u2, rfl, a2, g5⟩
              rw [unhide HB] at a2
              obtain ⟨yb, yo, yc, rfl, c0, c1, c2⟩ := a2.num.three
              have c0 := Grew.gcell c0
              have c1 := Grew.gcell c1
              have c2 := Grew.gcell c2
              have d0 := Grew.gcell (g5.keep d0)
              have d1 := Grew.gcell (g5.keep d1)
              have d2 := Grew.gcell (g5.keep d2)
              have G5 := hide ((unhide G4).trans g5)
              clear a2 g5
              go_wp2_with fail
              refine quietly (by kernel_rfl) (by kernel_rfl) ?_
              repeat (go_big_quiet_step (first | fail))
              refine wpQuiet_nil ?_
              rintro w6 ⟨⟨nq, osq⟩, hw⟩
              have g6 : Grew w5 w6 := ⟨nq, osq, hw⟩
              clear hw
              have G6 := hide ((unhide G5).trans g6)
              clear g6
              go_wp2
              go_ret
              exact ⟨rfl, unhide G6⟩
    · have hm1 : decide ((1048576 : Int) < (m : Int)) = true := by simp; omega
      clear hm
      go_enter Try.func8, Try.ntmps8
      go_wp2
      go_ret
      exact ⟨rfl, Grew.refl _⟩
  · have hn1 : decide ((1048576 : Int) < (n : Int)) = true := by simp; omega
    clear hn
    go_enter Try.func8, Try.ntmps8
    go_wp2
    go_ret
    exact ⟨rfl, Grew.refl _⟩

set_option maxRecDepth 100000 in
theorem lifted (os : Os) (started : os.Started) (H : Type) (enc : TypeId × Value → H) :
    ReturnsInHanded {} Try.checked os 8 .any (Rows.fnBookNoneSpec.pre6 enc Try.prog Try.f8 Rows.fnBookNoneRow.domain false) (Rows.fnBookNoneSpec.post enc Try.prog Try.f8 false true false false) := by
  refine returnsInHanded_of_change (C := Try.checked) own started (by kernel_rfl) Try.func8
    (ChangeSpec.witness6 (enc := enc) (C := Try.checked) false ⟨#[], #[.slice none 0 0, .slice none 0 0], []⟩ 8 (by kernel_rfl) (by kernel_rfl) (by kernel_rfl) (by kernel_rfl)) ?_
  intro W base args ds gs before hval0 hW hcnd _
  have hval : ∀ (j : Nat) t v, Try.f8.params[j]? = some t → args[j]? = some v → Value.okWide Try.prog W .any base t v := hval0
  have hW' := hW
  obtain ⟨p, q, hA0, hV, rfl, hfz, hnd⟩ := hW
  have hA : DataW.TrodAll enc Try.prog W 0 (fun _ => true) true Try.f8.params.toList args.toList ds p := hA0
  rw [Try.params8] at hA hval
  obtain ⟨v0, vs0, d0, ds0, p0, q0, hargs, rfl, rfl, h0, r0⟩ := trodAll_cons hA
  obtain ⟨v1, vs1, d1, ds1, p1, q1, rfl, rfl, rfl, h1, r1⟩ := trodAll_cons r0
  obtain ⟨rfl, rfl, rfl⟩ := trodAll_nil r1
  obtain rfl : args = #[v0, v1] := by cases args; simp_all
  obtain ⟨rfl, rfl⟩ := trodVars_none hV
  have k0 := h0
  have lt0 : ∀ x ∈ p0, x.block < W.heap.size := by obtain ⟨m, hm⟩ := k0; exact DataW.trod_lt m _ _ _ hm
  obtain ⟨a0, len0, cap0, rfl⟩ := okWide_slice Try.underlying22 (hval 0 22 v0 rfl rfl)
  obtain ⟨fuel0, hf0⟩ := h0
  obtain ⟨hb0, hc0⟩ := open_bytes hf0
  have k1 := h1
  have lt1 : ∀ x ∈ p1, x.block < W.heap.size := by obtain ⟨m, hm⟩ := k1; exact DataW.trod_lt m _ _ _ hm
  obtain ⟨a1, len1, cap1, rfl⟩ := okWide_slice Try.underlying22 (hval 1 22 v1 rfl rfl)
  obtain ⟨fuel1, hf1⟩ := h1
  obtain ⟨hb1, hc1⟩ := open_bytes hf1
  clear hA0 hval0
  refine (walk a0 len0 cap0 a1 len1 cap1 W hb0 hc0 hb1 hc1).mono fun e W' ⟨he, bel⟩ => ?_
  subst he
  exact ⟨_, rfl, _, _, _, [], _, [], hW', trodAll_mk1 (shut_bool Try.underlying4 _), (trodAll_cons_mk (Below.trod laidOut (by kernel_rfl) (of_decide_eq_true (by kernel_rfl)) k0 bel.below lt0) (trodAll_cons_mk (Below.trod laidOut (by kernel_rfl) (of_decide_eq_true (by kernel_rfl)) k1 bel.below lt1) trodAll_mk0)), rfl, bel.below.frame _, fun h => by cases h⟩

theorem over : Rows.fnBookNoneRow.holds Try.pinned (OpenSpec.ofChange Rows.fnBookNoneSpec) :=
  OpenClaim.holds_of_wide 8 Try.f8 rfl rfl rfl rfl rfl rfl rfl ⟨rfl, rfl, rfl, rfl, rfl⟩ rfl rfl rfl rfl rfl (by kernel_rfl) Try.func8 (by kernel_rfl)
    (of_decide_eq_true (by kernel_rfl)) (by unfold Func.isWrapper; first | (rw [if_pos (by decide +kernel)]; kernel_rfl) | (rw [if_neg (by decide +kernel)]; exact ⟨rfl, rfl⟩))
    (fun os started H enc _ => lifted os started H enc)
end Go.Proofs.Ytnoiammgpdlljaa.FnBookNone
namespace Go.Proofs.Ytnoiammgpdlljaa
theorem fnBookNone_holds : Rows.FnBookNoneSaid := FnBookNone.over
#print axioms fnBookNone_holds
end Go.Proofs.Ytnoiammgpdlljaa
