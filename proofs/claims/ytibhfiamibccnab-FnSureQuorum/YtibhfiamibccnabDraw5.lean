/-
  Two chains that are drawn, and the draws of the laws on chains.
-/
import Derived.Test.YtibhfiamibccnabDraw4
namespace Go.Proofs.Ytibhfiamibccnab
set_option linter.unusedVariables false
open Go.RowKit
attribute [local simp] far_const

theorem OwnL.grown {w w' : World} {base : Nat} {v : Value} {l : List It} {row : Option Nat} (h : OwnL w base v l) (g : w.grownBy w' row) (hne : ∀ i k, v.ownBlock = some i → row = some k → i ≠ k) : OwnL w' base v l :=
  h.kept fun i _ hi hv => g.block i hi (fun e => hne i i hv e.symm rfl)

set_option maxHeartbeats 8000000 in
theorem l71Two_any (R N : Nat) (w : World) (hr : Rd w R N) (hN : N + 88 ≤ 1048576) :
    Calls Try.prog 78 #[.pointer (some ⟨R, 0, none⟩)] w fun r w' => ∃ va la vb lb, r = .returned (.tuple #[va, vb]) ∧ OwnL w' w.heap.size va la ∧ OwnL w' w.heap.size vb lb ∧ la.length ≤ 16 ∧ lb.length ≤ 16 ∧ Rd w' R (N + 88) ∧ Ran R w w' := by
  have hlt := hr.lt
  go_enter Try.func78, Try.ntmps78
  go_wp2_with fail
  refine (l71Off_any R N _ hr (by omega)).mono ?_
  rintro r w1 ⟨va, la, rfl, o1, hl1, r1, g1⟩
  go_wp2_with fail
  refine (l71Off_any R _ _ r1 (by omega)).mono ?_
  rintro r w2 ⟨vb, lb, rfl, o2, hl2, r2, g2⟩
  have h1 := g1.size
  have hlt1 : R < w1.heap.size := by omega
  have hva : ∀ k, va.ownBlock = some k → k < w1.heap.size := fun k hk => (o1.block k hk).2
  have o12 := o1.ran g2 hlt
  go_wp2_with fail
  refine (pick_any R _ 4 _ r2 (by omega) (by omega)).mono ?_
  rintro r w3 ⟨x, rfl, x0, x1, x2, r3, g3⟩
  clear x1 x2
  have o13 := o12.ran g3 hlt
  have o23 := o2.ran g3 hlt1
  have G3 := (g1.trans g2).trans g3
  have HVA := hide hva
  clear hva o1 o12 o2 r1 r2 hr
  have fin : ∀ (vb : Value) (lb : List It) (wz : World), OwnL wz w1.heap.size vb lb → lb.length ≤ 9 → OwnL wz w.heap.size va la → Rd wz R (N + 87) → Ran R w wz →
      Calls Try.prog 33 #[.pointer (some ⟨R, 0, none⟩), .int .i64 2] wz fun r w' => ∃ x : Int, r = .returned (.int .i64 x) ∧ 0 ≤ x ∧ x < 2 ∧ OwnL w' w.heap.size va la ∧ OwnL w' w.heap.size vb lb ∧ Rd w' R (N + 88) ∧ Ran R w w' := by
    intro vb lb wz ob hlb oa rz gz
    refine (pick_any R _ 2 _ rz (by omega) (by omega)).mono ?_
    rintro r wy ⟨x, rfl, x0, x1, x2, ry, gy⟩
    exact ⟨x, rfl, x0, x1 (by omega), oa.ran gy hlt, (ob.ran gy hlt1).low h1, ry, gz.trans gy⟩
  have FIN := hide fin
  clear fin
  by_cases hx : 0 < x
  · obtain ⟨g, capA, rfl, hca, hg1, hg2, hits⟩ := o13.shape
    clear hits
    go_wp2_with fail
    refine (pick_any R _ (la.length + 1) _ (r3.grew ((Grew.refl _).alloc _)) (by omega) (by omega)).mono ?_
    rintro r w4 ⟨y, rfl, y0, y1, y2, r4, g4⟩
    have y3 := y1 (by omega)
    clear y1 y2
    obtain ⟨k, rfl⟩ := Int.eq_ofNat_of_zero_le y0
    have hb4 : w1.heap.size ≤ w3.heap.size := Nat.le_trans g2.size g3.size
    have oe : OwnL w4 w1.heap.size (.slice (some ⟨w3.heap.size, 0, none⟩) 0 0) [] := (OwnL.empty hb4).ran g4 hlt1
    have oa4 := (o13.grew ((Grew.refl _).alloc _)).ran g4 hlt
    have G4 := (G3.grew ((Grew.refl _).alloc _)).trans g4
    obtain ⟨_, _, hveq, _, _, _, hits4⟩ := oa4.shape
    simp only [Value.slice.injEq, Option.some.injEq, Addr.mk.injEq, and_true, true_and] at hveq
    obtain ⟨rfl, rfl⟩ := hveq
    have hsz4 : w1.heap.size ≤ w4.heap.size := by have := oe.block _ rfl; omega
    have hkc : k ≤ capA := by omega
    go_wp2_with (first | (at_builtin; refine wpList_items rfl _ _ rfl w1.heap.size _ [] rfl oe ⟨g, 0, none⟩ capA (la.take k) k (by rw [List.length_take]; omega) rfl (hits4.take k) (by simp; omega) hsz4 ?_))
    intro v5 w5 o5 g5
    have hva5 := unhide HVA g rfl
    have own5 : ∀ i, Value.ownBlock (.slice (some ⟨w3.heap.size, 0, none⟩) 0 0) = some i → i = w3.heap.size := fun i hi => by simpa [Value.ownBlock] using hi.symm
    have r5 := r4.grown g5 (fun i hi => by have := own5 i hi; omega)
    have G5 := G4.grown g5 (fun i hi => by have := own5 i hi; omega)
    have oa5 := oa4.grown g5 (fun i j hi hj => by have := own5 j hj; have hi' : g = i := by simpa [Value.ownBlock] using hi
                                                  omega)
    have hl5 : ([] ++ la.take k).length ≤ 7 := by simp; omega
    clear oe oa4 o13 o23 g5 hits4 hb4 G4
    go_wp2_with fail
    refine (pick_any R _ 3 _ r5 (by omega) (by omega)).mono ?_
    rintro r w6 ⟨z, rfl, z0, z1, z2, r6, g6⟩
    have z3 := z1 (by omega)
    clear z1 z2
    obtain ⟨k0, rfl⟩ := Int.eq_ofNat_of_zero_le z0
    have o6 := o5.ran g6 hlt1
    have oa6 := oa5.ran g6 hlt
    have G6 := G5.trans g6
    clear o5 oa5 G5 g6 r5
    go_wp2_with fail
    go_loopw [5, 6] (fun b n wr => ∃ (v : Value) (m : List It) (k : Nat), b = v ∧ n = .int .i64 k ∧ m.length + k ≤ 9 ∧ OwnL wr w1.heap.size v m ∧ OwnL wr w.heap.size (.slice (some ⟨g, 0, none⟩) la.length capA) la ∧ Rd wr R (N + 87 - 4 * k) ∧ Ran R w wr) (fun _ n _ => (intOf n).toNat)
    case atStart => exact ⟨_, [] ++ la.take k, k0, rfl, rfl, by have := hl5; simp only [List.nil_append, List.length_take] at this ⊢; omega, o6, oa6, r6.more (by omega), G6⟩
    case round =>
      obtain ⟨v, m, k, rfl, rfl, hk, ho, hoa, hrd, hran⟩ := hrel
      obtain ⟨gb, capB, rfl, hcb, hb1, hb2, hitb⟩ := ho.shape
      by_cases hk0 : 0 < k
      · by_cases hm0 : 0 < m.length
        · obtain ⟨c0, _⟩ := ho.cells (j := (m.length - 1) * 4) (by omega)
          obtain ⟨q, c0⟩ := c0
          clear hitb
          go_wp2_with fail
          refine (pick_any R _ 2 _ hrd (by omega) (by omega)).mono ?_
          rintro r w7 ⟨u, rfl, u0, u1, u2, r7, g7⟩
          have u3 := u1 (by omega)
          clear u1 u2
          go_wp2_with fail
          refine (l71Pay_any R _ _ r7 (by omega)).mono ?_
          rintro r w8 ⟨f, t, s, rfl, r8, g8⟩
          have g78 := g7.trans g8
          have o8 := ho.ran g78 hlt1
          have oa8 := hoa.ran g78 hlt
          have hsz : w1.heap.size ≤ w8.heap.size := by have := (o8.block _ rfl); omega
          go_wp2_with (first | (at_builtin; refine wpList_items rfl _ _ rfl w1.heap.size _ m rfl (o8.grew ((Grew.refl _).alloc _)) ⟨w8.heap.size, 0, none⟩ 1 [⟨wrap64 (wrap64 (q + 1) + u), f, t, s⟩] 1 rfl rfl (its_one _ _ _) (by simp; omega) (by simp; omega) ?_))
          intro v' w9 o9 g9
          have hbl : ∀ i, _ = some i → w1.heap.size ≤ i := fun i hi => (o8.block i hi).1
          have r9 := (r8.grew ((Grew.refl _).alloc _)).grown g9 (fun i hi => by have := hbl i hi; omega)
          have G9 := ((hran.trans g78).grew ((Grew.refl _).alloc _)).grown g9 (fun i hi => by have := hbl i hi; omega)
          have oa9 := (oa8.grew ((Grew.refl _).alloc _)).grown g9 (fun i j hi hj => by have := unhide HVA i hi; have := hbl j hj; omega)
          clear o8 oa8 ho hoa g9 hbl
          go_wp2
          go_roundw
          case rel => exact ⟨v', _, k - 1, rfl, by go_num, by simp; omega, o9, oa9, r9.more (by omega), G9⟩
          case measure => simp [intOf]; omega
        · have hm1 : decide (0 < m.length) = false := decide_eq_false hm0
          have HK := hide hk
          clear hitb
          go_wp2_with fail
          have hk := unhide HK
          refine (pick_any R _ 2 _ hrd (by omega) (by omega)).mono ?_
          rintro r w7 ⟨u, rfl, u0, u1, u2, r7, g7⟩
          have u3 := u1 (by omega)
          clear u1 u2
          go_wp2_with fail
          refine (l71Pay_any R _ _ r7 (by omega)).mono ?_
          rintro r w8 ⟨f, t, s, rfl, r8, g8⟩
          have g78 := g7.trans g8
          have o8 := ho.ran g78 hlt1
          have oa8 := hoa.ran g78 hlt
          have hsz : w1.heap.size ≤ w8.heap.size := by have := (o8.block _ rfl); omega
          go_wp2_with (first | (at_builtin; refine wpList_items rfl _ _ rfl w1.heap.size _ m rfl (o8.grew ((Grew.refl _).alloc _)) ⟨w8.heap.size, 0, none⟩ 1 [⟨1 + u, f, t, s⟩] 1 rfl rfl (its_one _ _ _) (by simp; omega) (by simp; omega) ?_))
          intro v' w9 o9 g9
          have hbl : ∀ i, _ = some i → w1.heap.size ≤ i := fun i hi => (o8.block i hi).1
          have r9 := (r8.grew ((Grew.refl _).alloc _)).grown g9 (fun i hi => by have := hbl i hi; omega)
          have G9 := ((hran.trans g78).grew ((Grew.refl _).alloc _)).grown g9 (fun i hi => by have := hbl i hi; omega)
          have oa9 := (oa8.grew ((Grew.refl _).alloc _)).grown g9 (fun i j hi hj => by have := unhide HVA i hi; have := hbl j hj; omega)
          clear o8 oa8 ho hoa g9 hbl
          go_wp2
          go_roundw
          case rel => exact ⟨v', _, k - 1, rfl, by go_num, by simp; omega, o9, oa9, r9.more (by omega), G9⟩
          case measure => simp [intOf]; omega
      · have hk1 : k = 0 := by omega
        subst hk1
        clear hitb
        go_wp2_with fail
        refine (unhide FIN _ m _ ho (by omega) hoa (hrd.more (by omega)) hran).mono ?_
        rintro r w7 ⟨y, rfl, y0, y1, oa, ob, r7, G7⟩
        rcases (show y = 0 ∨ y = 1 by omega) with rfl | rfl
        · go_wp2
          go_ret2
          exact ⟨_, m, _, la, rfl, ob, oa, by omega, by omega, r7, G7⟩
        · go_wp2
          go_ret2
          exact ⟨_, la, _, m, rfl, oa, ob, by omega, by omega, r7, G7⟩
  · have hx' : decide (0 < x) = false := by simp; omega
    go_wp2_with fail
    refine (unhide FIN vb lb _ o23 (by omega) o13 (r3.more (by omega)) G3).mono ?_
    rintro r w4 ⟨y, rfl, y0, y1, oa, ob, r4, G4⟩
    rcases (show y = 0 ∨ y = 1 by omega) with rfl | rfl
    · go_wp2
      go_ret2
      exact ⟨vb, lb, va, la, rfl, ob, oa, by omega, by omega, r4, G4⟩
    · go_wp2
      go_ret2
      exact ⟨va, la, vb, lb, rfl, oa, ob, by omega, by omega, r4, G4⟩
end Go.Proofs.Ytibhfiamibccnab
