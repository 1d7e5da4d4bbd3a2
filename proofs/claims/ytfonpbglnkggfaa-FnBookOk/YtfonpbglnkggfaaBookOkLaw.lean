/-
  FnBookOk returns true at every two rows of bytes and leaves its arguments as they were: what the statement says; no condition.
-/
import Derived.Test.YtfonpbglnkggfaaDrawB
import Derived.Test.YtfonpbglnkggfaaOpenN
import Derived.Test.YtfonpbglnkggfaaBook6
import Derived.Lib.SmallJoins
import Derived.JoinedOf
import Derived.JoinedAt
import Derived.RowKit3
import Derived.Deep.RegionHeld3
import Derived.Deep.DeepFit
namespace Go.Proofs.Ytfonpbglnkggfaa.FnBookOk
set_option linter.unusedVariables false
open Go.ChangeShapes Go.WideShapes Go.ChangeAt Go.RowKit Go.Joins
attribute [local simp] far_const

set_option maxHeartbeats 8000000 in
theorem walk (a : Option Addr) (n cap : Nat) (b2 : Option Addr) (m cap2 : Nat) (w : World) (hb : Byt w a w.heap.size n) (hc : n ≤ cap) (hb2 : Byt w b2 w.heap.size m) (hc2 : m ≤ cap2) :
    Calls Try.prog 8 #[.slice a n cap, .slice b2 m cap2] w fun e w' => e = .returned (.bool true) ∧ Grew w w' := by
  by_cases hn : n ≤ 1048576
  · have hn1 : decide ((1048576 : Int) < (n : Int)) = false := by simp; omega
    by_cases hm : m ≤ 1048576
    · have hm1 : decide ((1048576 : Int) < (m : Int)) = false := by simp; omega
      go_enter Try.func8, Try.ntmps8
      go_wp2_with fail
      refine (drawBookOk_any a n cap _ hb hc hn).mono ?_
      rintro e w1 ⟨vb, vo, vc, l, rfl, hi1, hl, hvc, g1⟩
      have NV := hide (NumV.of (cap := vc) rfl hi1)
      have G1 := hide g1
      have HVC := hide hvc
      clear hi1 hvc g1
      go_wp2_with fail
      refine (implBookOk_v _ (unhide NV) (by omega)).mono ?_
      rintro e w2 ⟨rfl, rfl⟩
      go_wp2_with fail
      refine (specBookOk_v _ (unhide NV) (by omega)).mono ?_
      rintro e w3 ⟨rfl, rfl⟩
      cases hbok : bokB l with
      | false =>
        go_wp2_with fail
        refine (specBookOk_v _ (unhide NV) (by omega)).mono ?_
        rw [hbok]
        rintro e w4 ⟨rfl, rfl⟩
        go_wp2
        go_ret
        exact ⟨rfl, unhide G1⟩
      | true =>
        obtain ⟨x, y, z, rfl, hx⟩ := bokB_three hbok
        obtain ⟨_, _, _, hv, d0, d1, d2⟩ := (unhide NV).three
        simp only [Value.slice.injEq, Option.some.injEq, Addr.mk.injEq, and_true] at hv
        obtain ⟨⟨rfl, rfl⟩, _, rfl⟩ := hv
        have hvc : 3 ≤ vc := unhide HVC
        simp only [List.length_cons, List.length_nil, Nat.zero_add, Nat.reduceAdd]
        obtain ⟨hx0, hx1, hy0, hy1, hz0, hz1, hsum⟩ := hx
        have O0 := hide (OwnN.lit (w := w3) (Nat.le_refl _) [] 0 rfl (by omega))
        have HI := hide (show Ints (w3.alloc (.cells #[] 3)) (some ⟨vb, vo, none⟩) [x, y, z] from by
          obtain ⟨_, _, hv, hi⟩ := unhide NV
          simp only [Value.slice.injEq] at hv
          obtain ⟨rfl, _, _⟩ := hv
          exact hi.grew ((Grew.refl _).alloc _))
        go_wp2_with (first | (at_builtin; refine wpList_nums rfl _ _ rfl w3.heap.size _ [] rfl (unhide O0) ⟨vb, vo, none⟩ vc [x, y, z] 3 rfl rfl (unhide HI) (by simp) (by simp) ?_))
        intro v4 w4 o4 g4
        replace o4 : OwnN w4 w3.heap.size v4 [x, y, z] := o4
        have hbv : vb < w3.heap.size := World.block_lt_of_cell? w3 _ d0
        have d0 := g4.cell (((Grew.refl w3).alloc (.cells #[] 3)).keep d0) (by simp [Value.ownBlock]; omega)
        have d1 := g4.cell (((Grew.refl w3).alloc (.cells #[] 3)).keep d1) (by simp [Value.ownBlock]; omega)
        have d2 := g4.cell (((Grew.refl w3).alloc (.cells #[] 3)).keep d2) (by simp [Value.ownBlock]; omega)
        have G4 := hide ((unhide G1).trans ((((Grew.refl w3).alloc (.cells #[] 3))).grown g4 (fun k hk => by simp [Value.ownBlock] at hk; omega)))
        obtain ⟨g, cp, rfl, hcp, hbg, hgs, hi4, hf4⟩ := o4.shape
        obtain ⟨_, _, hv, c0, c1, c2⟩ := hi4.three
        simp only [Option.some.injEq, Addr.mk.injEq, and_true] at hv
        obtain ⟨rfl, rfl⟩ := hv
        simp only [Nat.zero_add] at c1 c2
        have z0 := hf4 0
        have z1 := hf4 1
        have z2 := hf4 2
        have hne : g ≠ vb := by omega
        have hbg' : w.heap.size ≤ g := by
          have := (unhide G1).size
          omega
        have O4 := hide o4
        have hs1 : IntKind.i64.wrap (x + y) = x + y := by rw [IntKind.wrap_i64]; omega
        have hs27 : IntKind.i64.wrap (x + y + z) = 27 := by rw [IntKind.wrap_i64]; omega
        clear o4 hi4 hf4 g4 O0 HI NV
        have hr3 : (m : Int) % 3 = 0 ∨ (m : Int) % 3 = 1 ∨ (m : Int) % 3 = 2 := by omega
        rcases hr3 with hr | hr | hr
        · have O5 := hide (show OwnN (w4.setCell ⟨g, 0, none⟩ (.int .i64 (x + 1))) w3.heap.size (.slice (some ⟨g, 0, none⟩) 3 cp) [x + 1, y, z] from (unhide O4).set 0 (x + 1))
          have hx5 : bokB [x + 1, y, z] = false := by
            cases e : bokB [x + 1, y, z] with
            | false => rfl
            | true =>
              obtain ⟨_, _, _, e1, e2⟩ := bokB_three e
              simp only [List.cons.injEq, and_true] at e1
              omega
          have ht : bokB [y, z] = false := by simp [bokB]
          have hn9 : bokB [9, 9, 9] = true := bokB_of (by omega)
          obtain ⟨W, hW⟩ : ∃ W, W = w4.setCell ⟨g, 0, none⟩ (.int .i64 (x + 1)) := ⟨_, rfl⟩
          have e0 : W.cell? ⟨vb, vo, none⟩ = some (.int .i64 x) := by rw [hW, World.cell?_setCell_other _ _ _ _ (by intro c; injection c with c _ _; exact hne c)]; exact d0
          have e1 : W.cell? ⟨vb, vo + 1, none⟩ = some (.int .i64 y) := by rw [hW, World.cell?_setCell_other _ _ _ _ (by intro c; injection c with c _ _; exact hne c)]; exact d1
          have e2 : W.cell? ⟨vb, vo + 2, none⟩ = some (.int .i64 z) := by rw [hW, World.cell?_setCell_other _ _ _ _ (by intro c; injection c with c _ _; exact hne c)]; exact d2
          have SC := hide (And.intro e0 (And.intro e1 e2))
          rw [← hW] at O5
          have NT := hide (show Ints W (some ⟨vb, vo + 1, none⟩) [y, z] from .inr ⟨vb, vo + 1, rfl, fun i hi => by
            match i, hi with
            | 0, _ => exact e1
            | 1, _ => exact e2⟩)
          have G5 := hide (show Grew w W by rw [hW]; exact (unhide G4).setCell (p := ⟨g, 0, none⟩) hbg' _)
          have HW := hide hW
          clear hW e0 e1 e2 O4
          go_wp2_with fail
          rw [← unhide HW]
          go_region_held3 (fun w' => w'.cell? ⟨vb, vo, none⟩ = some (.int .i64 x) ∧ w'.cell? ⟨vb, vo + 1, none⟩ = some (.int .i64 y) ∧ w'.cell? ⟨vb, vo + 2, none⟩ = some (.int .i64 z))
            (first | exact ⟨g6.keep (unhide SC).1, g6.keep (unhide SC).2.1, g6.keep (unhide SC).2.2⟩ | exact unhide SC | go_keep)
            (first
              | (go_at_call 22; go_fit (implBookOk_v _ ((unhide O5).grew (Grew.refl _).drew).num (by simp)); rw [hx5]; rintro r w5 ⟨rfl, rfl⟩)
              | (go_at_call 22; rw [if_neg (show ¬ vc = 1 by omega)]; go_fit (implBookOk _ _ [y, z] _ ((unhide NT).grew (Grew.refl _).drew) (by simp)); rw [ht]; rintro r w5 ⟨rfl, rfl⟩)
              | (go_at_call 23; go_fit (implBookNew _); rintro r w6 ⟨v6, rfl, o6, g6⟩)
              | (go_at_call 22; go_fit (implBookOk_v _ o6.num (by simp)); rw [hn9]; rintro r w5 ⟨rfl, rfl⟩))
          have G6 := hide ((unhide G5).trans ((Grew.refl _).drew.trans g6))
          clear g6
          go_wp2
          go_ret
          exact ⟨rfl, unhide G6⟩
        · have O5 := hide (show OwnN (w4.setCell ⟨g, 1, none⟩ (.int .i64 (y + 1))) w3.heap.size (.slice (some ⟨g, 0, none⟩) 3 cp) [x, y + 1, z] from (unhide O4).set 1 (y + 1))
          have hx5 : bokB [x, y + 1, z] = false := by
            cases e : bokB [x, y + 1, z] with
            | false => rfl
            | true =>
              obtain ⟨_, _, _, e1, e2⟩ := bokB_three e
              simp only [List.cons.injEq, and_true] at e1
              omega
          have ht : bokB [y, z] = false := by simp [bokB]
          have hn9 : bokB [9, 9, 9] = true := bokB_of (by omega)
          obtain ⟨W, hW⟩ : ∃ W, W = w4.setCell ⟨g, 1, none⟩ (.int .i64 (y + 1)) := ⟨_, rfl⟩
          have e0 : W.cell? ⟨vb, vo, none⟩ = some (.int .i64 x) := by rw [hW, World.cell?_setCell_other _ _ _ _ (by intro c; injection c with c _ _; exact hne c)]; exact d0
          have e1 : W.cell? ⟨vb, vo + 1, none⟩ = some (.int .i64 y) := by rw [hW, World.cell?_setCell_other _ _ _ _ (by intro c; injection c with c _ _; exact hne c)]; exact d1
          have e2 : W.cell? ⟨vb, vo + 2, none⟩ = some (.int .i64 z) := by rw [hW, World.cell?_setCell_other _ _ _ _ (by intro c; injection c with c _ _; exact hne c)]; exact d2
          have SC := hide (And.intro e0 (And.intro e1 e2))
          rw [← hW] at O5
          have NT := hide (show Ints W (some ⟨vb, vo + 1, none⟩) [y, z] from .inr ⟨vb, vo + 1, rfl, fun i hi => by
            match i, hi with
            | 0, _ => exact e1
            | 1, _ => exact e2⟩)
          have G5 := hide (show Grew w W by rw [hW]; exact (unhide G4).setCell (p := ⟨g, 1, none⟩) hbg' _)
          have HW := hide hW
          clear hW e0 e1 e2 O4
          go_wp2_with fail
          rw [← unhide HW]
          go_region_held3 (fun w' => w'.cell? ⟨vb, vo, none⟩ = some (.int .i64 x) ∧ w'.cell? ⟨vb, vo + 1, none⟩ = some (.int .i64 y) ∧ w'.cell? ⟨vb, vo + 2, none⟩ = some (.int .i64 z))
            (first | exact ⟨g6.keep (unhide SC).1, g6.keep (unhide SC).2.1, g6.keep (unhide SC).2.2⟩ | exact unhide SC | go_keep)
            (first
              | (go_at_call 22; go_fit (implBookOk_v _ ((unhide O5).grew (Grew.refl _).drew).num (by simp)); rw [hx5]; rintro r w5 ⟨rfl, rfl⟩)
              | (go_at_call 22; rw [if_neg (show ¬ vc = 1 by omega)]; go_fit (implBookOk _ _ [y, z] _ ((unhide NT).grew (Grew.refl _).drew) (by simp)); rw [ht]; rintro r w5 ⟨rfl, rfl⟩)
              | (go_at_call 23; go_fit (implBookNew _); rintro r w6 ⟨v6, rfl, o6, g6⟩)
              | (go_at_call 22; go_fit (implBookOk_v _ o6.num (by simp)); rw [hn9]; rintro r w5 ⟨rfl, rfl⟩))
          have G6 := hide ((unhide G5).trans ((Grew.refl _).drew.trans g6))
          clear g6
          go_wp2
          go_ret
          exact ⟨rfl, unhide G6⟩
        · have O5 := hide (show OwnN (w4.setCell ⟨g, 2, none⟩ (.int .i64 (z + 1))) w3.heap.size (.slice (some ⟨g, 0, none⟩) 3 cp) [x, y, z + 1] from (unhide O4).set 2 (z + 1))
          have hx5 : bokB [x, y, z + 1] = false := by
            cases e : bokB [x, y, z + 1] with
            | false => rfl
            | true =>
              obtain ⟨_, _, _, e1, e2⟩ := bokB_three e
              simp only [List.cons.injEq, and_true] at e1
              omega
          have ht : bokB [y, z] = false := by simp [bokB]
          have hn9 : bokB [9, 9, 9] = true := bokB_of (by omega)
          obtain ⟨W, hW⟩ : ∃ W, W = w4.setCell ⟨g, 2, none⟩ (.int .i64 (z + 1)) := ⟨_, rfl⟩
          have e0 : W.cell? ⟨vb, vo, none⟩ = some (.int .i64 x) := by rw [hW, World.cell?_setCell_other _ _ _ _ (by intro c; injection c with c _ _; exact hne c)]; exact d0
          have e1 : W.cell? ⟨vb, vo + 1, none⟩ = some (.int .i64 y) := by rw [hW, World.cell?_setCell_other _ _ _ _ (by intro c; injection c with c _ _; exact hne c)]; exact d1
          have e2 : W.cell? ⟨vb, vo + 2, none⟩ = some (.int .i64 z) := by rw [hW, World.cell?_setCell_other _ _ _ _ (by intro c; injection c with c _ _; exact hne c)]; exact d2
          have SC := hide (And.intro e0 (And.intro e1 e2))
          rw [← hW] at O5
          have NT := hide (show Ints W (some ⟨vb, vo + 1, none⟩) [y, z] from .inr ⟨vb, vo + 1, rfl, fun i hi => by
            match i, hi with
            | 0, _ => exact e1
            | 1, _ => exact e2⟩)
          have G5 := hide (show Grew w W by rw [hW]; exact (unhide G4).setCell (p := ⟨g, 2, none⟩) hbg' _)
          have HW := hide hW
          clear hW e0 e1 e2 O4
          go_wp2_with fail
          rw [← unhide HW]
          go_region_held3 (fun w' => w'.cell? ⟨vb, vo, none⟩ = some (.int .i64 x) ∧ w'.cell? ⟨vb, vo + 1, none⟩ = some (.int .i64 y) ∧ w'.cell? ⟨vb, vo + 2, none⟩ = some (.int .i64 z))
            (first | exact ⟨g6.keep (unhide SC).1, g6.keep (unhide SC).2.1, g6.keep (unhide SC).2.2⟩ | exact unhide SC | go_keep)
            (first
              | (go_at_call 22; go_fit (implBookOk_v _ ((unhide O5).grew (Grew.refl _).drew).num (by simp)); rw [hx5]; rintro r w5 ⟨rfl, rfl⟩)
              | (go_at_call 22; rw [if_neg (show ¬ vc = 1 by omega)]; go_fit (implBookOk _ _ [y, z] _ ((unhide NT).grew (Grew.refl _).drew) (by simp)); rw [ht]; rintro r w5 ⟨rfl, rfl⟩)
              | (go_at_call 23; go_fit (implBookNew _); rintro r w6 ⟨v6, rfl, o6, g6⟩)
              | (go_at_call 22; go_fit (implBookOk_v _ o6.num (by simp)); rw [hn9]; rintro r w5 ⟨rfl, rfl⟩))
          have G6 := hide ((unhide G5).trans ((Grew.refl _).drew.trans g6))
          clear g6
          go_wp2
          go_ret
          exact ⟨rfl, unhide G6⟩
    · have hm1 : decide ((1048576 : Int) < (m : Int)) = true := by simp; omega
      clear hm
      go_enter Try.func8, Try.ntmps8
      go_wp2
      go_ret
      exact ⟨rfl, Grew.refl _⟩
  · have hn1 : decide ((1048576 : Int) < (n : Int)) = true := by simp; omega
    clear hn
    go_enter Try.func8, Try.ntmps8
    go_wp2
    go_ret
    exact ⟨rfl, Grew.refl _⟩

set_option maxRecDepth 100000 in
theorem lifted (os : Os) (started : os.Started) (H : Type) (enc : TypeId × Value → H) :
    ReturnsInHanded {} Try.checked os 8 .any (Rows.fnBookOkSpec.pre6 enc Try.prog Try.f8 Rows.fnBookOkRow.domain false) (Rows.fnBookOkSpec.post enc Try.prog Try.f8 false true false false) := by
  refine returnsInHanded_of_change (C := Try.checked) own started (by kernel_rfl) Try.func8
    (ChangeSpec.witness6 (enc := enc) (C := Try.checked) false ⟨#[], #[.slice none 0 0, .slice none 0 0], []⟩ 8 (by kernel_rfl) (by kernel_rfl) (by kernel_rfl) (by kernel_rfl)) ?_
  intro W base args ds gs before hval0 hW hcnd _
  have hval : ∀ (j : Nat) t v, Try.f8.params[j]? = some t → args[j]? = some v → Value.okWide Try.prog W .any base t v := hval0
  have hW' := hW
  obtain ⟨p, q, hA0, hV, rfl, hfz, hnd⟩ := hW
  have hA : DataW.TrodAll enc Try.prog W 0 (fun _ => true) true Try.f8.params.toList args.toList ds p := hA0
  rw [Try.params8] at hA hval
  obtain ⟨v0, vs0, d0, ds0, p0, q0, hargs, rfl, rfl, h0, r0⟩ := trodAll_cons hA
  obtain ⟨v1, vs1, d1, ds1, p1, q1, rfl, rfl, rfl, h1, r1⟩ := trodAll_cons r0
  obtain ⟨rfl, rfl, rfl⟩ := trodAll_nil r1
  obtain rfl : args = #[v0, v1] := by cases args; simp_all
  obtain ⟨rfl, rfl⟩ := trodVars_none hV
  have k0 := h0
  have lt0 : ∀ x ∈ p0, x.block < W.heap.size := by obtain ⟨m, hm⟩ := k0; exact DataW.trod_lt m _ _ _ hm
  obtain ⟨a0, len0, cap0, rfl⟩ := okWide_slice Try.underlying22 (hval 0 22 v0 rfl rfl)
  obtain ⟨fuel0, hf0⟩ := h0
  obtain ⟨hb0, hc0⟩ := open_bytes hf0
  have k1 := h1
  have lt1 : ∀ x ∈ p1, x.block < W.heap.size := by obtain ⟨m, hm⟩ := k1; exact DataW.trod_lt m _ _ _ hm
  obtain ⟨a1, len1, cap1, rfl⟩ := okWide_slice Try.underlying22 (hval 1 22 v1 rfl rfl)
  obtain ⟨fuel1, hf1⟩ := h1
  obtain ⟨hb1, hc1⟩ := open_bytes hf1
  clear hA0 hval0
  refine (walk a0 len0 cap0 a1 len1 cap1 W hb0 hc0 hb1 hc1).mono fun e W' ⟨he, bel⟩ => ?_
  subst he
  exact ⟨_, rfl, _, _, _, [], _, [], hW', trodAll_mk1 (shut_bool Try.underlying4 _), (trodAll_cons_mk (Below.trod laidOut (by kernel_rfl) (of_decide_eq_true (by kernel_rfl)) k0 bel.below lt0) (trodAll_cons_mk (Below.trod laidOut (by kernel_rfl) (of_decide_eq_true (by kernel_rfl)) k1 bel.below lt1) trodAll_mk0)), rfl, bel.below.frame _, fun h => by cases h⟩

theorem over : Rows.fnBookOkRow.holds Try.pinned (OpenSpec.ofChange Rows.fnBookOkSpec) :=
  OpenClaim.holds_of_wide 8 Try.f8 rfl rfl rfl rfl rfl rfl rfl ⟨rfl, rfl, rfl, rfl, rfl⟩ rfl rfl rfl rfl rfl (by kernel_rfl) Try.func8 (by kernel_rfl)
    (of_decide_eq_true (by kernel_rfl)) (by unfold Func.isWrapper; first | (rw [if_pos (by decide +kernel)]; kernel_rfl) | (rw [if_neg (by decide +kernel)]; exact ⟨rfl, rfl⟩))
    (fun os started H enc _ => lifted os started H enc)
end Go.Proofs.Ytfonpbglnkggfaa.FnBookOk
namespace Go.Proofs.Ytfonpbglnkggfaa
theorem fnBookOk_holds : Rows.FnBookOkSaid := FnBookOk.over
#print axioms fnBookOk_holds
end Go.Proofs.Ytfonpbglnkggfaa
