/-
  Chains that are drawn, seldom spoilt.
-/
import Derived.Test.YtibhfiamibccnabDraw3
namespace Go.Proofs.Ytibhfiamibccnab
set_option linter.unusedVariables false
open Go.RowKit
attribute [local simp] far_const

/-- A cell of a row of items that the call owns, stored into: items still. -/
theorem OwnL.set {w : World} {base g cap : Nat} {l : List It} (h : OwnL w base (.slice (some ⟨g, 0, none⟩) l.length cap) l) (j : Nat) (z : Int) :
    ∃ l' : List It, l'.length = l.length ∧ OwnL (w.setCell ⟨g, j, none⟩ (.int .i64 z)) base (.slice (some ⟨g, 0, none⟩) l.length cap) l' := by
  have hs := (World.ownsRow.stored h.2 j (.int .i64 z)).1
  obtain ⟨l', h1, h2⟩ := flat_of l.length ((flat l).set j (.int .i64 z)) (by rw [List.length_set, flat_length]) (fun u hu => by
    rcases List.mem_or_eq_of_mem_set hu with h | h
    · exact flat_ints l u h
    · exact ⟨z, h⟩)
  refine ⟨l', h1, fun e => by simp at e, ?_⟩
  show World.ownsRow _ _ _ _ _ l'.length (flat l')
  rw [h1, ← h2]; exact hs
theorem OwnL.cells {w : World} {base g cap : Nat} {l : List It} (h : OwnL w base (.slice (some ⟨g, 0, none⟩) l.length cap) l) {j : Nat} (hj : j < l.length * 4) : (∃ z : Int, w.cell? ⟨g, j, none⟩ = some (.int .i64 z)) ∧ w.frozen? ⟨g, j, none⟩ = false := by
  refine ⟨?_, World.ownsRow.frozenAt h.2 j⟩
  rw [World.ownsRow.cellAt h.2 j hj]
  have hl : j < (flat l).length := by rw [flat_length]; exact hj
  obtain ⟨z, hz⟩ := flat_ints l (flat l)[j] (List.getElem_mem hl)
  exact ⟨z, by rw [List.getElem?_eq_getElem hl, hz]⟩

set_option maxHeartbeats 4000000 in
theorem l71Off_any (R N : Nat) (w : World) (hr : Rd w R N) (hN : N + 38 ≤ 1048576) :
    Calls Try.prog 69 #[.pointer (some ⟨R, 0, none⟩)] w fun r w' => ∃ v l, r = .returned v ∧ OwnL w' w.heap.size v l ∧ l.length ≤ 7 ∧ Rd w' R (N + 38) ∧ Ran R w w' := by
  have hlt := hr.lt
  go_enter Try.func69, Try.ntmps69
  go_wp2_with fail
  refine (l71Chain_any R N _ hr (by omega)).mono ?_
  rintro r w1 ⟨v, l, rfl, o1, hl, r1, g1⟩
  go_wp2_with fail
  refine (pick_any R (N + 31) 16 _ r1 (by omega) (by omega)).mono ?_
  rintro r w2 ⟨x, rfl, x0, x1, x2, r2, g2⟩
  clear x1 x2
  have o2 := o1.ran g2 hlt
  have G2 := g1.trans g2
  clear o1 g1 g2 r1
  rcases (show x = 0 ∨ x = 1 ∨ x = 2 ∨ 3 ≤ x by omega) with rfl | rfl | rfl | hx
  · go_wp2_with fail
    refine (pick_any R (N + 31 + 1) 4 _ r2 (by omega) (by omega)).mono ?_
    rintro r w3 ⟨y, rfl, y0, y1, y2, r3, g3⟩
    clear y1 y2
    go_wp2_with fail
    refine (l71AnyPay_any R _ _ r3 (by omega)).mono ?_
    rintro r w4 ⟨f, t, s, rfl, r4, g4⟩
    have G4 := (G2.trans g3).trans g4
    have o4 := o2.ran (g3.trans g4) hlt
    have hsz : w.heap.size ≤ w4.heap.size := G4.size
    have hbl : ∀ k, _ = some k → w.heap.size ≤ k := fun k hk => (o4.block k hk).1
    go_wp2_with (first | (at_builtin; refine wpList_items rfl _ _ rfl w.heap.size _ l rfl (o4.grew ((Grew.refl _).alloc _)) ⟨w4.heap.size, 0, none⟩ 1 [⟨y, f, t, s⟩] 1 rfl rfl (its_one _ _ _) (by simp; omega) (by simp; omega) ?_))
    intro v' w5 o5 g5
    have r5 := (r4.grew ((Grew.refl _).alloc _)).grown g5 (fun k hk => by have := hbl k hk; omega)
    have G5 := (G4.grew ((Grew.refl _).alloc _)).grown g5 hbl
    clear o4 o2 g5 hbl
    go_wp2
    go_ret
    exact ⟨v', _, rfl, o5, by simp; omega, r5.more (by omega), G5⟩
  · obtain ⟨b, cap, rfl, hcap, hg1, hg2, hits⟩ := o2.shape
    by_cases hl0 : 0 < l.length
    · clear hits
      have HO := hide o2
      go_wp2_with fail
      refine (pick_any R (N + 31 + 1) l.length _ r2 (by omega) (by omega)).mono ?_
      rintro r w3 ⟨y, rfl, y0, y1, y2, r3, g3⟩
      have y3 := y1 (by omega)
      clear y1 y2
      have o3 := o2.ran g3 hlt
      go_wp2_with fail
      refine (pick_any R _ 3 _ (r3.grew ((Grew.refl _).alloc _)) (by omega) (by omega)).mono ?_
      rintro r w4 ⟨z, rfl, z0, z1, z2, r4, g4⟩
      have z3 := z1 (by omega)
      clear z1 z2
      have hn3 : w3.heap.size ≠ R := by have := r3.lt; omega
      have s0 := g4.cell (p := ⟨w3.heap.size, 0, none⟩) (v := .int .i64 0) hn3 (by simp [go_sem])
      have s1 := g4.cell (p := ⟨w3.heap.size, 1, none⟩) (v := .int .i64 30) hn3 (by simp [go_sem])
      have s2 := g4.cell (p := ⟨w3.heap.size, 2, none⟩) (v := .int .i64 31) hn3 (by simp [go_sem])
      have o4 := (o3.grew ((Grew.refl _).alloc _)).ran g4 hlt
      have G4 := ((G2.trans g3).grew ((Grew.refl _).alloc _)).trans g4
      obtain ⟨k, rfl⟩ := Int.eq_ofNat_of_zero_le y0
      obtain ⟨⟨q, hq⟩, hfz⟩ := o4.cells (j := k * 4) (by omega)
      have HO4 := hide o4
      clear o2 o3 o4 g3 g4 G2
      have hR : R < b := by omega
      rcases (show z = 0 ∨ z = 1 ∨ z = 2 by omega) with rfl | rfl | rfl
      all_goals
        go_wp2
        go_ret
        obtain ⟨l', hl', o'⟩ := OwnL.set (unhide HO4) (k * 4) _
        refine ⟨_, l', rfl, ?_, ?_, ?_, ?_⟩
        · exact o'
        · omega
        · exact (r4.setCell (p := ⟨b, k * 4, none⟩) hR _).more (by omega)
        · exact G4.setCell (.inr hg1) _
    · have h0 : decide (0 < l.length) = false := decide_eq_false hl0
      have HO := hide o2
      have HL := hide hl
      clear hits o2
      go_wp2
      go_ret
      exact ⟨_, l, rfl, unhide HO, Nat.le_succ_of_le (unhide HL), r2.more (by omega), G2⟩
  · obtain ⟨b, cap, rfl, hcap, hg1, hg2, hits⟩ := o2.shape
    by_cases hl0 : 0 < l.length
    · clear hits
      go_wp2_with fail
      refine (pick_any R (N + 31 + 1) l.length _ r2 (by omega) (by omega)).mono ?_
      rintro r w3 ⟨y, rfl, y0, y1, y2, r3, g3⟩
      have y3 := y1 (by omega)
      clear y1 y2
      go_wp2_with fail
      refine (l71AnyPay_any R _ _ r3 (by omega)).mono ?_
      rintro r w4 ⟨f, t, s, rfl, r4, g4⟩
      have o4 := o2.ran (g3.trans g4) hlt
      have G4 := (G2.trans g3).trans g4
      obtain ⟨k, rfl⟩ := Int.eq_ofNat_of_zero_le y0
      obtain ⟨⟨q1, hq1⟩, hf1⟩ := o4.cells (j := k * 4 + 1) (by omega)
      obtain ⟨⟨q2, hq2⟩, hf2⟩ := o4.cells (j := k * 4 + 2) (by omega)
      obtain ⟨⟨q3, hq3⟩, hf3⟩ := o4.cells (j := k * 4 + 3) (by omega)
      have HO4 := hide o4
      clear o2 o4 g3 g4 G2
      have hR : R < b := by omega
      go_wp2
      go_ret
      obtain ⟨l1, hl1, o'⟩ := OwnL.set (unhide HO4) (k * 4 + 1) f
      rw [← hl1] at o'
      obtain ⟨l2, hl2, o2'⟩ := OwnL.set o' (k * 4 + 2) t
      rw [← hl2] at o2'
      obtain ⟨l3, hl3, o3'⟩ := OwnL.set o2' (k * 4 + 3) s
      rw [hl2, hl1] at o3'
      refine ⟨_, l3, rfl, ?_, ?_, ?_, ?_⟩
      · exact o3'
      · omega
      · exact (((r4.setCell (p := ⟨b, k * 4 + 1, none⟩) hR _).setCell (p := ⟨b, k * 4 + 2, none⟩) hR _).setCell (p := ⟨b, k * 4 + 3, none⟩) hR _).more (by omega)
      · exact ((G4.setCell (.inr hg1) _).setCell (.inr hg1) _).setCell (.inr hg1) _
    · have h0 : decide (0 < l.length) = false := decide_eq_false hl0
      have HO := hide o2
      have HL := hide hl
      clear hits o2
      go_wp2
      go_ret
      exact ⟨_, l, rfl, unhide HO, Nat.le_succ_of_le (unhide HL), r2.more (by omega), G2⟩
  · have hx0 : (x == 0) = false := by simp; omega
    have hx1 : (x == 1) = false := by simp; omega
    have hx2 : (x == 2) = false := by simp; omega
    go_wp2
    go_ret
    exact ⟨v, l, rfl, o2, by omega, r2.more (by omega), G2⟩
end Go.Proofs.Ytibhfiamibccnab
