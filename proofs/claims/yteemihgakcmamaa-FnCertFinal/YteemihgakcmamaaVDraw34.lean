/-
  Texts together: VDraw3, VDraw4.
-/
import Derived.Test.YteemihgakcmamaaVDraw2
namespace Go.Proofs.Yteemihgakcmamaa
set_option linter.unusedVariables false
open Go.RowKit
attribute [local simp] far_const

/-- A vote of a row: its cells, and where its chain lies. -/
theorem VRow.get {w : World} {base g cap : Nat} {l : List Vt} (h : VRow w base (.slice (some ⟨g, 0, none⟩) l.length cap) l) {i : Nat} (hi : i < l.length) :
    ∃ a c, w.cell? ⟨g, i * 2, none⟩ = some (.int .i64 l[i].n) ∧ w.cell? ⟨g, i * 2 + 1, none⟩ = some (.slice a l[i].c.length c) ∧ Its w a l[i].c ∧ ∀ x, a = some x → x.off = 0 ∧ x.spot = none ∧ base ≤ x.block ∧ x.block < w.heap.size ∧ x.block ≠ g := by
  obtain ⟨nz, cs, row, hc⟩ := h
  obtain ⟨a, c, h1, h2, h3, h4, _⟩ := hc i hi
  exact ⟨a, c, by rw [row.cellAt (i * 2) (by omega)]; exact h1, by rw [row.cellAt (i * 2 + 1) (by omega)]; exact h2, h3, fun x hx => ⟨(h4 x hx).1, (h4 x hx).2.1, (h4 x hx).2.2.1, (h4 x hx).2.2.2.1, fun e => (h4 x hx).2.2.2.2 (by rw [e]; rfl)⟩⟩

set_option maxHeartbeats 4000000 in
theorem l71Spoilt_any (R N : Nat) (w : World) (hr : Rd w R N) (hN : N + 800 ≤ 1048576) :
    Calls Try.prog 107 #[.pointer (some ⟨R, 0, none⟩)] w fun r w' => ∃ v l, r = .returned v ∧ VRow w' w.heap.size v l ∧ l.length ≤ 193 ∧ Low 16 l ∧ Rd w' R (N + 800) ∧ Ran R w w' := by
  have hlt := hr.lt
  go_enter Try.func107, Try.ntmps107
  go_wp2_with fail
  refine (l71Votes_any R N _ hr (by omega)).mono ?_
  rintro r w1 ⟨v, l, rfl, o1, hl, hlw, r1, g1⟩
  go_wp2_with fail
  refine (pick_any R _ 20 _ r1 (by omega) (by omega)).mono ?_
  rintro r w2 ⟨x, rfl, x0, x1, x2, r2, g2⟩
  clear x1 x2
  have o2 := o1.ran g2 hlt
  have G2 := g1.trans g2
  have HLW := hide hlw
  obtain ⟨g, cap, rfl, hcap, hg1, hg2, _⟩ := o2.shape
  have O2 := hide o2
  clear o1 g1 g2 r1 o2 hlw
  rcases (show x = 0 ∨ x = 1 ∨ 2 ≤ x by omega) with rfl | rfl | hx
  · go_wp2_with fail
    refine (l71Vote_any R _ _ r2 (by omega)).mono ?_
    rintro r w3 ⟨y, ay, cy, rfl, iy, hy7, fy, r3, g3⟩
    have O3 := hide ((unhide O2).ran g3 hlt)
    have G3 := G2.trans g3
    have hz3 := g3.size
    have hz2 := G2.size
    have FY := hide fy
    clear g3 G2 r2 fy
    go_wp2_with (first | (at_builtin; refine wpList_vrow rfl _ _ rfl w.heap.size _ l rfl ((unhide O3).grew ((Grew.refl _).alloc _)) ⟨w3.heap.size, 0, none⟩ 1 rfl y ay cy (cells_two _ _ _ _ _ _) (iy.grew ((Grew.refl _).alloc _)) (fun z hz => by have := unhide FY z hz; exact ⟨this.1, this.2.1, by omega, by simp; omega, fun e => by have e' : g = z.block := Option.some.inj e; omega⟩) (by omega) (by omega) (by simp; omega) ?_))
    intro v4 w4 o4 g4 _
    have O4 := hide o4
    have R4 := (r3.grew ((Grew.refl _).alloc _)).grown g4 (fun k hk => by cases hk; show R < g; omega)
    have G4 := (G3.grew ((Grew.refl _).alloc _)).grown g4 (fun k hk => by cases hk; exact hg1)
    have LW := hide ((unhide HLW).snoc (x := y) (by omega))
    clear o4 g4
    go_wp2
    go_ret
    exact ⟨v4, _, rfl, unhide O4, by simp; omega, unhide LW, R4.more (by omega), G4⟩
  · by_cases hl0 : 0 < l.length
    · go_wp2_with fail
      refine (pick_any R _ l.length _ r2 (by omega) (by omega)).mono ?_
      rintro r w3 ⟨y, rfl, y0, y1, y2, r3, g3⟩
      have y3 := y1 (by omega)
      clear y1 y2
      obtain ⟨k, rfl⟩ := Int.eq_ofNat_of_zero_le y0
      have hkl : k < l.length := by omega
      have O3 := hide ((unhide O2).ran g3 hlt)
      obtain ⟨ay, cy, c0, c1, iy, fy⟩ := (unhide O3).get hkl
      have hcp : l[k].c.length ≤ cy := (unhide O3).room g 0 rfl k hkl _ _ _ (by rw [Nat.zero_add]; exact c1)
      have FY := hide fy
      have IY := hide iy
      have G3 := G2.trans g3
      have hz3 := g3.size
      have hz2 := G2.size
      clear g3 G2 r2 fy iy
      go_wp2_with (first | (at_builtin; refine wpList_vrow rfl _ _ rfl w.heap.size _ l rfl ((unhide O3).grew ((Grew.refl _).alloc _)) ⟨w3.heap.size, 0, none⟩ 1 rfl l[k] ay cy (cells_two _ _ _ _ _ _) ((unhide IY).grew ((Grew.refl _).alloc _)) (fun z hz => by have := unhide FY z hz; exact ⟨this.1, this.2.1, this.2.2.1, by simp; omega, fun e => by have e' : g = z.block := Option.some.inj e; omega⟩) (by omega) (by omega) (by simp; omega) ?_))
      intro v4 w4 o4 g4 _
      have O4 := hide o4
      have R4 := (r3.grew ((Grew.refl _).alloc _)).grown g4 (fun k hk => by cases hk; show R < g; omega)
      have G4 := (G3.grew ((Grew.refl _).alloc _)).grown g4 (fun k hk => by cases hk; exact hg1)
      have LW := hide ((unhide HLW).snoc (x := l[k]) ((unhide HLW).at hkl))
      clear o4 g4
      go_wp2
      go_ret
      exact ⟨v4, l ++ [l[k]], rfl, unhide O4, by simp; omega, unhide LW, R4.more (by omega), G4⟩
    · have h0 : decide (0 < l.length) = false := decide_eq_false hl0
      go_wp2
      go_ret
      exact ⟨_, l, rfl, unhide O2, by omega, unhide HLW, r2.more (by omega), G2⟩
  · have hx0 : (x == 0) = false := by simp; omega
    have hx1 : (x == 1) = false := by simp; omega
    go_wp2
    go_ret
    exact ⟨_, l, rfl, unhide O2, by omega, unhide HLW, r2.more (by omega), G2⟩

set_option linter.unusedVariables false
open Go.RowKit
attribute [local simp] far_const

theorem Byt.alloc {w : World} {a : Option Addr} {n : Nat} (hb : Byt w a w.heap.size n) (o : Obj) : Byt (w.alloc o) a (w.alloc o).heap.size n := by
  rcases hb with h | ⟨b, off, ha, hb, h⟩
  · exact .inl h
  · exact .inr ⟨b, off, ha, by simp; omega, fun i hi => by obtain ⟨z, h1, h2, h3⟩ := h i hi; exact ⟨z, h1, h2, ((Grew.refl w).alloc _).keep h3⟩⟩

end Go.Proofs.Yteemihgakcmamaa
