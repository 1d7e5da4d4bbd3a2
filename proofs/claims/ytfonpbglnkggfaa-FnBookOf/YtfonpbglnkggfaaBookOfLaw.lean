/-
  FnBookOf returns true at every two rows of bytes and leaves its arguments as they were: what the statement says; no condition.
-/
import Derived.Test.YtfonpbglnkggfaaDrawB
import Derived.Test.YtfonpbglnkggfaaOpenN
import Derived.Test.YtfonpbglnkggfaaBook6
import Derived.Lib.SmallJoins
import Derived.JoinedOf
import Derived.JoinedAt
import Derived.RowKit3
import Derived.Deep.RegionHeld3
import Derived.Deep.DeepFit
namespace Go.Proofs.Ytfonpbglnkggfaa.FnBookOf
set_option linter.unusedVariables false
open Go.ChangeShapes Go.WideShapes Go.ChangeAt Go.RowKit Go.Joins
attribute [local simp] far_const

set_option maxHeartbeats 8000000 in
theorem walk (a : Option Addr) (n cap : Nat) (b2 : Option Addr) (m cap2 : Nat) (w : World) (hb : Byt w a w.heap.size n) (hc : n ≤ cap) (hb2 : Byt w b2 w.heap.size m) (hc2 : m ≤ cap2) :
    Calls Try.prog 7 #[.slice a n cap, .slice b2 m cap2] w fun e w' => e = .returned (.bool true) ∧ Grew w w' := by
  by_cases hn : n ≤ 1048576
  · have hn1 : decide ((1048576 : Int) < (n : Int)) = false := by simp; omega
    by_cases hm : m ≤ 1048576
    · have hm1 : decide ((1048576 : Int) < (m : Int)) = false := by simp; omega
      go_enter Try.func7, Try.ntmps7
      go_wp2_with fail
      refine (drawBookOf_any a n cap _ hb hc hn).mono ?_
      rintro e w1 ⟨cb, cc, l, rfl, hcc, ci, hl, g1⟩
      obtain ⟨X, hX⟩ : ∃ X, bof l = X := ⟨_, rfl⟩
      have hXl : X.length ≤ 3 := by
        rw [← hX]
        rcases bof_three l with h | h
        · rw [h]; simp
        · obtain ⟨x, y, z, e, _⟩ := bokB_three h
          rw [e]; simp
      have HX := hide hX
      have CI := hide ci
      have G1 := hide g1
      clear hX ci g1
      go_wp2_with fail
      refine (implBookOf _ _ l _ (unhide CI) (by omega)).mono ?_
      rintro e w2 ⟨u, rfl, au, g2⟩
      rw [unhide HX] at au
      have NU := hide au.num
      have CI := hide ((unhide CI).grew g2)
      have G2 := hide ((unhide G1).trans g2)
      clear au g2 G1
      go_wp2_with fail
      refine (specBookOf _ _ l _ (unhide CI) (by omega)).mono ?_
      rintro e w3 ⟨q, rfl, oq, g3⟩
      rw [unhide HX] at oq
      have NQ := hide oq.num
      have NU := hide ((unhide NU).grew g3)
      have CI := hide ((unhide CI).grew g3)
      have G3 := hide ((unhide G2).trans g3)
      clear oq g3 G2
      go_wp2_with fail
      refine (lwInts_v _ (unhide NU) (unhide NQ) (by omega) (by omega)).mono ?_
      rintro e w4 ⟨rfl, g4⟩
      rw [decide_eq_true rfl]
      have NU := hide ((unhide NU).grew g4)
      have CI := hide ((unhide CI).grew g4)
      have G4 := hide ((unhide G3).trans g4)
      clear g4 G3 NQ
      by_cases hX0 : X = []
      · subst hX0
        obtain ⟨ua, uc, rfl⟩ := (unhide NU).shape
        simp only [List.length_nil] at NU ⊢
        go_wp2_with fail
        refine (specBookOf _ _ l _ (unhide CI) (by omega)).mono ?_
        rintro e w5 ⟨q2, rfl, oq, g5⟩
        rw [unhide HX] at oq
        have NQ := hide oq.num
        have NU := hide ((unhide NU).grew g5)
        have G5 := hide ((unhide G4).trans g5)
        clear oq g5 G4
        go_wp2_with fail
        refine (lwInts_v _ (unhide NU) (unhide NQ) (by omega) (by omega)).mono ?_
        rintro e w6 ⟨rfl, g6⟩
        rw [decide_eq_true rfl]
        have G6 := hide ((unhide G5).trans g6)
        clear g6 G5
        go_wp2
        go_ret
        exact ⟨rfl, unhide G6⟩
      · have hok : okB l = true := by
          cases h : okB l with
          | true => rfl
          | false => exact absurd ((unhide HX).symm.trans (by unfold bof; rw [h]; simp)) hX0
        obtain ⟨x, y, z, hX3, hx⟩ := bokB_three (bof_ok hok)
        rw [unhide HX] at hX3
        subst hX3
        obtain ⟨ub, uo, uc, rfl, c0, c1, c2⟩ := (unhide NU).three
        have hk0 := Int.emod_nonneg (m : Int) (show ((l.length : Int) + 1) ≠ 0 by omega)
        have hk1 := Int.emod_lt_of_pos (m : Int) (show (0 : Int) < (l.length : Int) + 1 by omega)
        obtain ⟨k, hk⟩ := Int.eq_ofNat_of_zero_le hk0
        rw [hk] at hk0 hk1
        have hkl : k ≤ l.length := by omega
        have hkc : k ≤ cc := by omega
        have HT := hide ((unhide CI).take k)
        have HTL := hide (show (l.take k).length = k by rw [List.length_take]; omega)
        have HOK := hide (bof_ok (okB_cut hok k))
        have HC := hide (show Calls Try.prog 18 #[.slice (some ⟨cb, 0, none⟩) k cc] w4 fun r w' => ∃ v, r = .returned v ∧ AnsN w' w4.heap.size v (bof (l.take k)) ∧ Grew w4 w' by
          have := implBookOf (some ⟨cb, 0, none⟩) cc (l.take k) w4 (unhide HT) (by rw [unhide HTL]; omega)
          rw [unhide HTL] at this
          exact this)
        have hbt : bof (l.take k) = payAll (l.take k) := by unfold bof; rw [if_pos (okB_cut hok k)]
        have hbl : bof l = payAll l := by unfold bof; rw [if_pos hok]
        rw [hbt] at HC
        have HXe := hide ((unhide HX).symm.trans hbl)
        have HOKL := hide hok
        clear HX hX0 hok HT HTL hbt hbl HOK c0 c1 c2
        go_wp2_with fail
        refine (unhide HC).mono ?_
        rintro e w5 ⟨u5, rfl, a5, g5⟩
        have N5 := hide a5.num
        have NU := hide ((unhide NU).grew g5)
        have CI5 := hide ((unhide CI).grew g5)
        have G5 := hide ((unhide G4).trans g5)
        have HK := hide hk
        clear a5 g5 HC hk
        go_wp2_with fail
        go_loopw [8, 9] (fun xv iv wr => ∃ i : Nat, i ≤ l.length ∧ iv = .int .i64 i ∧ Hid (NumV wr xv (payAll (l.take i)) ∧ Grew w5 wr)) (fun _ iv _ => l.length - (intOf iv).toNat)
        case atStart => exact ⟨k, hkl, by first | rfl | rw [unhide HK], hide ⟨unhide N5, Grew.refl _⟩⟩
        case round =>
          obtain ⟨i, hi, rfl, HR⟩ := hrel
          by_cases hlt : i < l.length
          · obtain ⟨b, off, hbo, hat⟩ := ((unhide CI5).grew (unhide HR).2).at hlt
            simp only [Option.some.injEq, Addr.mk.injEq, and_true] at hbo
            obtain ⟨rfl, rfl⟩ := hbo
            rw [Nat.zero_add] at hat
            obtain ⟨c0, c1, c2, c3⟩ := hat
            have HT := hide (show bpay (payAll (l.take i)) l[i].f l[i].t l[i].s = payAll (l.take (i + 1)) by rw [bpay_ok (payAll_take_ok (unhide HOKL) i) (okB_pay (unhide HOKL) i hlt), payAll_take l i hlt])
            have HLn := hide (show (payAll (l.take i)).length ≤ 1048576 by
              obtain ⟨_, _, _, e, _⟩ := bokB_three (payAll_take_ok (unhide HOKL) i)
              rw [e]; simp)
            go_wp2_with fail
            refine (implBookPay_v _ _ _ _ (unhide HR).1 (unhide HLn)).mono ?_
            rintro e w6 ⟨u6, rfl, a6, g6⟩
            rw [unhide HT] at a6
            have HR6 := hide (And.intro a6.num ((unhide HR).2.trans g6))
            clear a6 g6
            go_wp2
            go_roundw
            case rel => exact ⟨i + 1, by omega, by go_num, HR6⟩
            case measure => simp [intOf]; omega
          · have hle : (l.length : Int) ≤ (i : Int) := by omega
            have hlt' : decide ((i : Int) < (l.length : Int)) = false := by simp; omega
            have HRn := (unhide HR).1
            rw [List.take_of_length_le (by omega), ← unhide HXe] at HRn
            have N6 := hide HRn
            have NU6 := hide ((unhide NU).grew (unhide HR).2)
            have G6 := hide ((unhide G5).trans (unhide HR).2)
            clear HRn hlt
            go_wp2_with fail
            refine (lwInts_v _ (unhide N6) (unhide NU6) (by simp) (by simp)).mono ?_
            rintro e w7 ⟨rfl, g7⟩
            rw [decide_eq_true rfl]
            have NU7 := hide ((unhide NU6).grew g7)
            have G7 := hide ((unhide G6).trans g7)
            clear g7
            have hbx : bokB [x, y, z] = true := bokB_of (by omega)
            go_wp2_with fail
            refine (implBookOk_v _ (unhide NU7) (by simp)).mono ?_
            rw [hbx]
            rintro e w8 ⟨rfl, rfl⟩
            go_wp2_with fail
            refine (implBookOf none 0 [] _ (.inl rfl) (by simp)).mono ?_
            rintro e w9 ⟨u9, rfl, a9, g9⟩
            have hb0 : bof [] = [9, 9, 9] := by unfold bof; rw [if_pos (by rfl)]; rfl
            rw [hb0] at a9
            have N9 := hide a9.num
            have G9 := hide ((unhide G7).trans g9)
            clear a9 g9
            go_wp2_with fail
            refine (implBookNew _).mono ?_
            rintro e w10 ⟨u10, rfl, a10, g10⟩
            have N9 := hide ((unhide N9).grew g10)
            have N10 := hide a10.num
            have G10 := hide ((unhide G9).trans g10)
            clear a10 g10
            go_wp2_with fail
            refine (lwInts_v _ (unhide N9) (unhide N10) (by simp) (by simp)).mono ?_
            rintro e w11 ⟨rfl, g11⟩
            rw [decide_eq_true rfl]
            have G11 := hide ((unhide G10).trans g11)
            clear g11
            go_wp2
            go_ret
            exact ⟨rfl, unhide G11⟩
    · have hm1 : decide ((1048576 : Int) < (m : Int)) = true := by simp; omega
      clear hm
      go_enter Try.func7, Try.ntmps7
      go_wp2
      go_ret
      exact ⟨rfl, Grew.refl _⟩
  · have hn1 : decide ((1048576 : Int) < (n : Int)) = true := by simp; omega
    clear hn
    go_enter Try.func7, Try.ntmps7
    go_wp2
    go_ret
    exact ⟨rfl, Grew.refl _⟩

set_option maxRecDepth 100000 in
theorem lifted (os : Os) (started : os.Started) (H : Type) (enc : TypeId × Value → H) :
    ReturnsInHanded {} Try.checked os 7 .any (Rows.fnBookOfSpec.pre6 enc Try.prog Try.f7 Rows.fnBookOfRow.domain false) (Rows.fnBookOfSpec.post enc Try.prog Try.f7 false true false false) := by
  refine returnsInHanded_of_change (C := Try.checked) own started (by kernel_rfl) Try.func7
    (ChangeSpec.witness6 (enc := enc) (C := Try.checked) false ⟨#[], #[.slice none 0 0, .slice none 0 0], []⟩ 8 (by kernel_rfl) (by kernel_rfl) (by kernel_rfl) (by kernel_rfl)) ?_
  intro W base args ds gs before hval0 hW hcnd _
  have hval : ∀ (j : Nat) t v, Try.f7.params[j]? = some t → args[j]? = some v → Value.okWide Try.prog W .any base t v := hval0
  have hW' := hW
  obtain ⟨p, q, hA0, hV, rfl, hfz, hnd⟩ := hW
  have hA : DataW.TrodAll enc Try.prog W 0 (fun _ => true) true Try.f7.params.toList args.toList ds p := hA0
  rw [Try.params7] at hA hval
  obtain ⟨v0, vs0, d0, ds0, p0, q0, hargs, rfl, rfl, h0, r0⟩ := trodAll_cons hA
  obtain ⟨v1, vs1, d1, ds1, p1, q1, rfl, rfl, rfl, h1, r1⟩ := trodAll_cons r0
  obtain ⟨rfl, rfl, rfl⟩ := trodAll_nil r1
  obtain rfl : args = #[v0, v1] := by cases args; simp_all
  obtain ⟨rfl, rfl⟩ := trodVars_none hV
  have k0 := h0
  have lt0 : ∀ x ∈ p0, x.block < W.heap.size := by obtain ⟨m, hm⟩ := k0; exact DataW.trod_lt m _ _ _ hm
  obtain ⟨a0, len0, cap0, rfl⟩ := okWide_slice Try.underlying22 (hval 0 22 v0 rfl rfl)
  obtain ⟨fuel0, hf0⟩ := h0
  obtain ⟨hb0, hc0⟩ := open_bytes hf0
  have k1 := h1
  have lt1 : ∀ x ∈ p1, x.block < W.heap.size := by obtain ⟨m, hm⟩ := k1; exact DataW.trod_lt m _ _ _ hm
  obtain ⟨a1, len1, cap1, rfl⟩ := okWide_slice Try.underlying22 (hval 1 22 v1 rfl rfl)
  obtain ⟨fuel1, hf1⟩ := h1
  obtain ⟨hb1, hc1⟩ := open_bytes hf1
  clear hA0 hval0
  refine (walk a0 len0 cap0 a1 len1 cap1 W hb0 hc0 hb1 hc1).mono fun e W' ⟨he, bel⟩ => ?_
  subst he
  exact ⟨_, rfl, _, _, _, [], _, [], hW', trodAll_mk1 (shut_bool Try.underlying4 _), (trodAll_cons_mk (Below.trod laidOut (by kernel_rfl) (of_decide_eq_true (by kernel_rfl)) k0 bel.below lt0) (trodAll_cons_mk (Below.trod laidOut (by kernel_rfl) (of_decide_eq_true (by kernel_rfl)) k1 bel.below lt1) trodAll_mk0)), rfl, bel.below.frame _, fun h => by cases h⟩

theorem over : Rows.fnBookOfRow.holds Try.pinned (OpenSpec.ofChange Rows.fnBookOfSpec) :=
  OpenClaim.holds_of_wide 7 Try.f7 rfl rfl rfl rfl rfl rfl rfl ⟨rfl, rfl, rfl, rfl, rfl⟩ rfl rfl rfl rfl rfl (by kernel_rfl) Try.func7 (by kernel_rfl)
    (of_decide_eq_true (by kernel_rfl)) (by unfold Func.isWrapper; first | (rw [if_pos (by decide +kernel)]; kernel_rfl) | (rw [if_neg (by decide +kernel)]; exact ⟨rfl, rfl⟩))
    (fun os started H enc _ => lifted os started H enc)
end Go.Proofs.Ytfonpbglnkggfaa.FnBookOf
namespace Go.Proofs.Ytfonpbglnkggfaa
theorem fnBookOf_holds : Rows.FnBookOfSaid := FnBookOf.over
#print axioms fnBookOf_holds
end Go.Proofs.Ytfonpbglnkggfaa
