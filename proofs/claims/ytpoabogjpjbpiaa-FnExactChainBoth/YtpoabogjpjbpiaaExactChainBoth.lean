/-
  FnExactChainBoth returns true at every two rows of items and leaves its arguments as they were: what the statement says; no condition.
-/
import Derived.Test.YtpoabogjpjbpiaaOpen
import Derived.Test.YtpoabogjpjbpiaaHeld
namespace Go.Proofs.Ytpoabogjpjbpiaa.FnExactChainBoth
set_option linter.unusedVariables false
open Go.ChangeShapes Go.WideShapes Go.ChangeAt Go.RowKit

set_option maxHeartbeats 4000000 in
theorem walk (a : Option Addr) (ca : Nat) (l : List It) (b : Option Addr) (cb : Nat) (m : List It) (w : World) (hl : Its w a l) (hn : l.length ≤ maxLen) (hm : Its w b m) (hn' : m.length ≤ maxLen) :
    Calls Try.prog 10 #[.slice a l.length ca, .slice b m.length cb] w fun e w' => e = .returned (.bool true) ∧ Grew w w' := by
  unfold maxLen at hn hn'
  by_cases hs : l.length ≤ 1048576
  · have hz := szItemS_any a ca l.length 1048576 w (by omega) (by omega) (by omega)
    rw [if_neg (by omega)] at hz
    have HZ := hide hz
    clear hz
    have hnn : ¬ ((1048576 : Int) - l.length < 0) := by omega
    by_cases hs2 : l.length + m.length ≤ 1048576
    · have hz2 := szItemS_any b cb m.length (1048576 - l.length) w (by omega) (by omega) (by omega)
      rw [if_neg (by omega)] at hz2
      have HZ2 := hide hz2
      clear hz2
      have hnn2 : ¬ ((1048576 : Int) - l.length - m.length < 0) := by omega
      have hs3 : m.length ≤ 1048576 := by omega
      have hlc := (bothC_len l m).1
      obtain ⟨lc, hlcc⟩ : ∃ lc, bothC l m = lc := ⟨_, rfl⟩
      rw [hlcc] at hlc
      have HC := hide hlcc
      clear hlcc
      go_enter Try.func10, Try.ntmps10
      go_wp2_with fail
      refine (unhide HZ).mono ?_
      rintro e w0 ⟨rfl, rfl⟩
      go_wp2_with fail
      refine (unhide HZ2).mono ?_
      rintro e w0 ⟨rfl, rfl⟩
      go_wp2_with fail
      refine (toItemS_any a ca l _ hl hs).mono ?_
      rintro e w1 ⟨rfl, g1, i1, o1⟩
      go_wp2_with fail
      refine (toItemS_any b cb m _ (hm.grew g1) hs3).mono ?_
      rintro e w2 ⟨rfl, g2, i2, o2⟩
      go_wp2_with fail
      refine (specBoth _ _ _ _ l m _ (i1.grew g2) i2 hs hs3 (Nat.le_refl _)).mono ?_
      rintro e w3 ⟨gs, cs, rfl, is3, g3, hgs⟩
      rw [unhide HC] at is3 ⊢
      have hgs3 : 0 < lc.length → gs < w3.heap.size := fun h => by
        obtain ⟨b', off', hx, hat⟩ := is3.at h
        simp only [Option.some.injEq, Addr.mk.injEq, and_true] at hx
        have := World.block_lt_of_cell? w3 _ hat.1
        simp only at this
        omega
      have G3 := (g1.trans g2).trans g3
      go_wp2_with fail
      refine (toItemS_any a ca l _ (hl.grew G3) hs).mono ?_
      rintro e w4 ⟨rfl, g4, i4, o4⟩
      go_wp2_with fail
      refine (toItemS_any b cb m _ (hm.grew (G3.trans g4)) hs3).mono ?_
      rintro e w5 ⟨rfl, g5, i5, o5⟩
      go_wp2_with fail
      refine (implBoth _ _ _ _ l m _ (i4.grew g5) i5 hs hs3).mono ?_
      rintro e w6 ⟨x, cx, rfl, ix, g6, hox⟩
      rw [unhide HC] at ix hox ⊢
      have G6 := ((G3.trans g4).trans g5).trans g6
      have is6 := is3.grew ((g4.trans g5).trans g6)
      go_wp2_with fail
      refine (eqItemS_any _ _ _ _ lc lc _ ix is6 (by omega) (by omega)).mono ?_
      rintro e w7 ⟨rfl, g7⟩
      rw [(sameB_iff lc lc).2 rfl]
      have G7 := G6.trans g7
      go_wp2_with fail
      refine (toItemS_any a ca l _ (hl.grew G7) hs).mono ?_
      rintro e w8 ⟨rfl, g8, i8, o8⟩
      go_wp2_with fail
      refine (eqItemS_any _ _ _ _ l l _ (i4.grew (((g5.trans g6).trans g7).trans g8)) i8 hs hs).mono ?_
      rintro e w9 ⟨rfl, g9⟩
      rw [(sameB_iff l l).2 rfl]
      have G9 := (G7.trans g8).trans g9
      go_wp2_with fail
      refine (toItemS_any b cb m _ (hm.grew G9) hs3).mono ?_
      rintro e w10 ⟨rfl, g10, i10, o10⟩
      have g610 := ((g7.trans g8).trans g9).trans g10
      go_wp2_with fail
      refine (eqItemS_any _ _ _ _ m m _ (i5.grew (g6.trans g610)) i10 hs3 hs3).mono ?_
      rintro e w11 ⟨rfl, g11⟩
      rw [(sameB_iff m m).2 rfl]
      have G11 := (G9.trans g10).trans g11
      have g611 := g610.trans g11
      have z3 := G3.size
      have z4 := o4.lt
      have z5 := o5.lt
      have z45 := g4.size
      go_wp2_with fail
      refine (mark_any w3.heap.size l.length _ 1 _ (o4.grew ((g5.trans g6).trans g611)) hs (by omega) (by omega)).mono ?_
      rintro e w12 ⟨rfl, _, _, q12⟩
      have G12 := q12.from G11 (fun y hy => by cases hy; exact z3)
      have z56 := g5.size
      have ne12 : 0 < lc.length → gs < w3.heap.size := hgs3
      have is12 := q12.its (is6.grew g611) (fun hp y z hy hz => by cases hy; cases hz; have := hgs3 hp; show w3.heap.size ≠ gs; omega)
      have ix12 := q12.its (ix.grew g611) (fun hp y z hy hz => by
        cases hy
        rcases hox with ⟨h0, _⟩ | ⟨g, rfl, hg, _⟩
        · omega
        · cases hz; show w3.heap.size ≠ g; omega)
      have o512 := q12.own (o5.grew (g6.trans g611)) (fun y hy => by cases hy; show w3.heap.size ≠ w4.heap.size; omega)
      have ox12 : lc.length = 0 ∧ x = none ∨ ∃ g, x = some ⟨g, 0, none⟩ ∧ w5.heap.size ≤ g ∧ Own w12 g lc.length := by
        rcases hox with h | ⟨g, hx, hg, ho⟩
        · exact .inl h
        · exact .inr ⟨g, hx, hg, q12.own (ho.grew g611) (fun y hy => by cases hy; show w3.heap.size ≠ g; omega)⟩
      have hk0 : decide (1 + 4 * (l.length : Int) + 4 * (m.length : Int) < 0) = false := by simp; omega
      have hk1 : decide (1 + 4 * (lc.length : Int) < 0) = false := by simp; omega
      have hk2 : ((1 + 4 * (lc.length : Int)) < 0) = False := by simp; omega
      clear i1 i2 i8 i10 o1 o2 o8 o10 hox ix is3 is6 o4 o5
      go_wp2_with fail
      refine (mark_any w4.heap.size m.length _ (1 + 4 * l.length) _ o512 hs3 (by omega) (by omega)).mono ?_
      rintro e w13 ⟨rfl, _, _, q13⟩
      have G13 := q13.from G12 (fun y hy => by cases hy; show w0.heap.size ≤ w4.heap.size; omega)
      have is13 := q13.its is12 (fun hp y z hy hz => by cases hy; cases hz; have := hgs3 hp; show w4.heap.size ≠ gs; omega)
      have ix13 := q13.its ix12 (fun hp y z hy hz => by
        cases hy
        rcases ox12 with ⟨h0, _⟩ | ⟨g, rfl, hg, _⟩
        · omega
        · cases hz; show w4.heap.size ≠ g; omega)
      have ox13 : lc.length = 0 ∧ x = none ∨ ∃ g, x = some ⟨g, 0, none⟩ ∧ w5.heap.size ≤ g ∧ Own w13 g lc.length := by
        rcases ox12 with h | ⟨g, hx, hg, ho⟩
        · exact .inl h
        · exact .inr ⟨g, hx, hg, q13.own ho (fun y hy => by cases hy; show w4.heap.size ≠ g; omega)⟩
      clear is12 ix12 ox12 o512
      go_wp2_with fail
      refine (eqItemS_any _ _ _ _ lc lc _ ix13 is13 (by omega) (by omega)).mono ?_
      rintro e w14 ⟨rfl, g14⟩
      rw [(sameB_iff lc lc).2 rfl]
      have G14 := G13.trans g14
      have ox14 : lc.length = 0 ∧ x = none ∨ ∃ g, x = some ⟨g, 0, none⟩ ∧ Own w14 g lc.length := by
        rcases ox13 with h | ⟨g, hx, hg, ho⟩
        · exact .inl h
        · exact .inr ⟨g, hx, ho.grew g14⟩
      have hxb : ∀ y, x = some y → w5.heap.size ≤ y.block := fun y hy => by
        rcases ox13 with ⟨_, h⟩ | ⟨g, hx, hg, _⟩
        · rw [h] at hy; cases hy
        · rw [hx] at hy; cases hy; exact hg
      have HXB := hide hxb
      have HOX := hide ox14
      clear ox13 ox14 hxb
      go_wp2_with fail
      refine (mark_x x lc.length _ 1 _ (unhide HOX) (by omega) (by omega) (by omega)).mono ?_
      rintro e w15 ⟨rfl, im15, q15⟩
      have G15 := q15.from G14 (fun y hy => by have := unhide HXB y hy; omega)
      have is15 := q15.its (is13.grew g14) (fun hp y z hy hz => by have := unhide HXB y hy; cases hz; have := hgs3 hp; show y.block ≠ gs; omega)
      clear is13 ix13
      go_wp2_with fail
      refine (held_any x lc.length _ 1 _ im15 (by omega) (by omega) (by omega)).mono ?_
      rintro e w16 ⟨rfl, g16⟩
      have G16 := G15.trans g16
      go_wp2_with fail
      refine (toItemS_any a ca l _ (hl.grew G16) hs).mono ?_
      rintro e w17 ⟨rfl, g17, i17, o17⟩
      go_wp2_with fail
      refine (toItemS_any b cb m _ (hm.grew (G16.trans g17)) hs3).mono ?_
      rintro e w18 ⟨rfl, g18, i18, o18⟩
      go_wp2_with fail
      refine (implBoth _ _ _ _ l m _ (i17.grew g18) i18 hs hs3).mono ?_
      rintro e w19 ⟨y, cy, rfl, iy, g19, _⟩
      rw [unhide HC] at iy ⊢
      have g1519 := ((g16.trans g17).trans g18).trans g19
      go_wp2_with fail
      refine (eqItemS_any _ _ _ _ lc lc _ iy (is15.grew g1519) (by omega) (by omega)).mono ?_
      rintro e w20 ⟨rfl, g20⟩
      rw [(sameB_iff lc lc).2 rfl]
      have g1520 := g1519.trans g20
      go_wp2_with fail
      refine (held_any x lc.length _ 1 _ (im15.grew g1520) (by omega) (by omega) (by omega)).mono ?_
      rintro e w21 ⟨rfl, g21⟩
      go_wp2
      go_ret
      exact ⟨rfl, (G15.trans g1520).trans g21⟩
    · have hz2 := szItemS_any b cb m.length (1048576 - l.length) w (by omega) (by omega) (by omega)
      rw [if_pos (by omega)] at hz2
      have HZ2 := hide hz2
      clear hz2
      go_enter Try.func10, Try.ntmps10
      go_wp2_with fail
      refine (unhide HZ).mono ?_
      rintro e w0 ⟨rfl, rfl⟩
      go_wp2_with fail
      refine (unhide HZ2).mono ?_
      rintro e w0 ⟨rfl, rfl⟩
      go_wp2
      go_ret
      exact ⟨rfl, Grew.refl _⟩
  · have hz := szItemS_any a ca l.length 1048576 w (by omega) (by omega) (by omega)
    rw [if_pos (by omega)] at hz
    have HZ := hide hz
    clear hz
    go_enter Try.func10, Try.ntmps10
    go_wp2_with fail
    refine (unhide HZ).mono ?_
    rintro e w0 ⟨rfl, rfl⟩
    go_wp2
    go_ret
    exact ⟨rfl, Grew.refl _⟩

set_option maxRecDepth 100000 in
theorem lifted (os : Os) (started : os.Started) (H : Type) (enc : TypeId × Value → H) :
    ReturnsInHanded {} Try.checked os 10 .any (Rows.fnExactChainBothSpec.pre6 enc Try.prog Try.f10 Rows.fnExactChainBothRow.domain false) (Rows.fnExactChainBothSpec.post enc Try.prog Try.f10 false true false false) := by
  refine returnsInHanded_of_change (C := Try.checked) own started (by kernel_rfl) Try.func10
    (ChangeSpec.witness6 (enc := enc) (C := Try.checked) false ⟨#[], #[.slice none 0 0, .slice none 0 0], []⟩ 8 (by kernel_rfl) (by kernel_rfl) (by kernel_rfl) (by kernel_rfl)) ?_
  intro W base args ds gs before hval0 hW hcnd _
  have hval : ∀ (j : Nat) t v, Try.f10.params[j]? = some t → args[j]? = some v → Value.okWide Try.prog W .any base t v := hval0
  have hW' := hW
  obtain ⟨p, q, hA0, hV, rfl, hfz, hnd⟩ := hW
  have hA : DataW.TrodAll enc Try.prog W 0 (fun _ => true) true Try.f10.params.toList args.toList ds p := hA0
  rw [Try.params10] at hA hval
  obtain ⟨v0, vs0, d0, ds0, p0, q0, hargs, rfl, rfl, h0, r0⟩ := trodAll_cons hA
  obtain ⟨v1, vs1, d1, ds1, p1, q1, rfl, rfl, rfl, h1, r1⟩ := trodAll_cons r0
  obtain ⟨rfl, rfl, rfl⟩ := trodAll_nil r1
  obtain rfl : args = #[v0, v1] := by cases args; simp_all
  obtain ⟨rfl, rfl⟩ := trodVars_none hV
  have k0 := h0
  have lt0 : ∀ x ∈ p0, x.block < W.heap.size := by obtain ⟨m, hm⟩ := k0; exact DataW.trod_lt m _ _ _ hm
  obtain ⟨x0, y0, z0, rfl⟩ := okWide_slice Try.underlying41 (hval 0 41 v0 rfl rfl)
  obtain ⟨fuel0, hf0⟩ := h0
  obtain ⟨a0, cap0, l0, hv0, hl0, hn0⟩ := open_items hf0
  simp [Value.cells] at hv0
  obtain ⟨rfl, rfl, rfl⟩ := hv0
  have k1 := h1
  have lt1 : ∀ x ∈ p1, x.block < W.heap.size := by obtain ⟨m, hm⟩ := k1; exact DataW.trod_lt m _ _ _ hm
  obtain ⟨x1, y1, z1, rfl⟩ := okWide_slice Try.underlying41 (hval 1 41 v1 rfl rfl)
  obtain ⟨fuel1, hf1⟩ := h1
  obtain ⟨a1, cap1, l1, hv1, hl1, hn1⟩ := open_items hf1
  simp [Value.cells] at hv1
  obtain ⟨rfl, rfl, rfl⟩ := hv1
  clear hA0 hval0
  refine (walk x0 z0 l0 x1 z1 l1 W hl0 hn0 hl1 hn1).mono fun e W' ⟨he, bel⟩ => ?_
  subst he
  exact ⟨_, rfl, _, _, _, [], _, [], hW', trodAll_mk1 (shut_bool Try.underlying4 _), (trodAll_cons_mk (Below.trod laidOut (by kernel_rfl) (of_decide_eq_true (by kernel_rfl)) k0 bel.below lt0) (trodAll_cons_mk (Below.trod laidOut (by kernel_rfl) (of_decide_eq_true (by kernel_rfl)) k1 bel.below lt1) trodAll_mk0)), rfl, bel.below.frame _, fun h => by cases h⟩

theorem over : Rows.fnExactChainBothRow.holds Try.pinned (OpenSpec.ofChange Rows.fnExactChainBothSpec) :=
  OpenClaim.holds_of_wide 10 Try.f10 rfl rfl rfl rfl rfl rfl rfl ⟨rfl, rfl, rfl, rfl, rfl⟩ rfl rfl rfl rfl rfl (by kernel_rfl) Try.func10 (by kernel_rfl)
    (of_decide_eq_true (by kernel_rfl)) (by unfold Func.isWrapper; first | (rw [if_pos (by decide +kernel)]; kernel_rfl) | (rw [if_neg (by decide +kernel)]; exact ⟨rfl, rfl⟩))
    (fun os started H enc _ => lifted os started H enc)
end Go.Proofs.Ytpoabogjpjbpiaa.FnExactChainBoth
namespace Go.Proofs.Ytpoabogjpjbpiaa
theorem fnExactChainBoth_holds : Rows.FnExactChainBothSaid := FnExactChainBoth.over
#print axioms fnExactChainBoth_holds
end Go.Proofs.Ytpoabogjpjbpiaa
