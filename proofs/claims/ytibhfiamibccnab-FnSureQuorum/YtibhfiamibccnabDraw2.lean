/-
  What the draws hand back: readers, payments, chains: of whatever content, in memory of their own.
-/
import Derived.Test.YtibhfiamibccnabRows2
namespace Go.Proofs.Ytibhfiamibccnab
set_option linter.unusedVariables false
open Go.RowKit
attribute [local simp] far_const

theorem Ran.frozen {R : Nat} {a b : World} (h : Ran R a b) {p : Addr} (hn : p.block ≠ R) (hl : p.block < a.heap.size) {v : Bool} (hv : a.frozen? p = v) : b.frozen? p = v := by
  rw [World.frozen?_of_block (w := a) (h.keep p.block hl hn)]; exact hv

set_option maxHeartbeats 1000000 in
theorem open_any (a : Option Addr) (n cap : Nat) (w : World) (hb : Byt w a w.heap.size n) (hc : n ≤ cap) (hn : n ≤ 1048576) :
    Calls Try.prog 31 #[.slice a n cap] w fun r w' => r = .returned (.pointer (some ⟨w.heap.size, 0, none⟩)) ∧ Rd w' w.heap.size 0 ∧ Grew w w' := by
  have byt : ∀ (m : Nat), m ≤ n → m ≤ 2000 → Rd (w.alloc (.cells #[.slice a m cap, .int .i64 0] 87)) w.heap.size 0 := fun m hm hm2 => by
    refine ⟨a, m, cap, 0, by simp [go_sem], by simp [go_sem], by simp [go_sem], by omega, by omega, hm2, ?_⟩
    rcases hb with h | ⟨b, off, ha, hb, h⟩
    · exact .inl (by omega)
    · refine .inr ⟨b, off, ha, hb, fun i hi => ?_⟩
      obtain ⟨z, z0, z1, hz⟩ := h i (by omega)
      exact ⟨z, z0, z1, ((Grew.refl w).alloc _).keep hz⟩
  by_cases h2 : n ≤ 2000
  · have hx : ((2000 : Int) < (n : Int)) = False := by simp; omega
    have HB := hide (byt n (Nat.le_refl _) h2)
    clear byt
    go_enter Try.func31, Try.ntmps31
    go_wp2
    go_ret
    exact ⟨rfl, unhide HB, (Grew.refl _).alloc _⟩
  · have hx : (2000 : Int) < (n : Int) := by omega
    have hx2 : (2000 : Int) ≤ (cap : Int) := by omega
    have HB := hide (byt 2000 (by omega) (Nat.le_refl _))
    clear byt
    rcases hb with h | ⟨b, off, rfl, hb, h⟩
    · exact absurd h (by omega)
    · have HH := hide h
      clear h
      go_enter Try.func31, Try.ntmps31
      go_wp2
      go_ret
      exact ⟨rfl, unhide HB, (Grew.refl _).alloc _⟩

set_option maxHeartbeats 1000000 in
theorem l71Pay_ok (R N : Nat) (w : World) (hr : Rd w R N) (hN : N + 3 ≤ 1048576) :
    Calls Try.prog 79 #[.pointer (some ⟨R, 0, none⟩)] w fun r w' => ∃ f t s : Int, r = .returned (.agg #[.int .i64 f, .int .i64 t, .int .i64 s]) ∧ payB f t s = true ∧ Rd w' R (N + 3) ∧ Ran R w w' := by
  have hlt := hr.lt
  have hne : w.heap.size ≠ R := by omega
  go_enter Try.func79, Try.ntmps79
  go_wp2_with fail
  refine (pick_any R N 3 _ (hr.grew ((Grew.refl _).alloc _)) (by omega) (by omega)).mono ?_
  rintro r w1 ⟨x1, rfl, x10, x11, x12, r1, g1⟩
  have x13 := x11 (by omega)
  clear x11 x12
  go_wp2_with fail
  refine (pick_any R (N + 1) 2 _ r1 (by omega) (by omega)).mono ?_
  rintro r w2 ⟨x2, rfl, x20, x21, x22, r2, g2⟩
  have x23 := x21 (by omega)
  clear x21 x22
  go_wp2_with fail
  refine (pick_any R (N + 1 + 1) 9 _ r2 (by omega) (by omega)).mono ?_
  rintro r w3 ⟨x3, rfl, x30, x31, x32, r3, g3⟩
  have x33 := x31 (by omega)
  clear x31 x32
  have g := (g1.trans g2).trans g3
  have c0 := g.cell (p := ⟨w.heap.size, 0, none⟩) (v := .int .i64 0) hne (by simp [go_sem])
  have c1 := g.cell (p := ⟨w.heap.size, 1, none⟩) (v := .int .i64 0) hne (by simp [go_sem])
  have c2 := g.cell (p := ⟨w.heap.size, 2, none⟩) (v := .int .i64 0) hne (by simp [go_sem])
  have z0 := g.frozen (p := ⟨w.heap.size, 0, none⟩) (v := false) hne (by simp) (by simp [go_sem])
  have z1 := g.frozen (p := ⟨w.heap.size, 1, none⟩) (v := false) hne (by simp) (by simp [go_sem])
  have z2 := g.frozen (p := ⟨w.heap.size, 2, none⟩) (v := false) hne (by simp) (by simp [go_sem])
  go_wp2
  refine bodyPost_ret (by simp [results, Try.results79, go_sem, c0, c1, c2]; try rfl) rfl ?_
  refine ⟨_, _, _, rfl, ?_, (((r3.setCell (p := ⟨w.heap.size, 0, none⟩) hlt _).setCell (p := ⟨w.heap.size, 1, none⟩) hlt _).setCell (p := ⟨w.heap.size, 2, none⟩) hlt _),
    (((((Ran.refl R w).grew ((Grew.refl _).alloc _)).trans g).setCell (.inr (Nat.le_refl _)) _).setCell (.inr (Nat.le_refl _)) _).setCell (.inr (Nat.le_refl _)) _⟩
  have hs : inB (1 + x3) 1 9 = true := by simp only [inB, Bool.and_eq_true, decide_eq_true_eq]; omega
  unfold payB
  rw [hs]
  rcases (show x1 = 0 ∨ x1 = 1 ∨ x1 = 2 by omega) with rfl | rfl | rfl <;> rcases (show x2 = 0 ∨ x2 = 1 by omega) with rfl | rfl <;> decide
theorem l71Pay_any (R N : Nat) (w : World) (hr : Rd w R N) (hN : N + 3 ≤ 1048576) :
    Calls Try.prog 79 #[.pointer (some ⟨R, 0, none⟩)] w fun r w' => ∃ f t s : Int, r = .returned (.agg #[.int .i64 f, .int .i64 t, .int .i64 s]) ∧ Rd w' R (N + 3) ∧ Ran R w w' :=
  (l71Pay_ok R N w hr hN).mono fun _ _ ⟨f, t, s, h1, _, h2⟩ => ⟨f, t, s, h1, h2⟩

/-- What a payment's draw leaves: the payment, in a variable's block. -/
theorem pay_end {R N B : Nat} {w w1 : World} (h : R < B) (hb : w.heap.size ≤ B) (r : Rd w1 R N) (g : Ran R w w1) (v : Value) (j : Nat) : Rd (w1.setCell ⟨B, j, none⟩ v) R N ∧ Ran R w (w1.setCell ⟨B, j, none⟩ v) :=
  ⟨r.setCell (p := ⟨B, j, none⟩) h v, g.setCell (.inr hb) v⟩

set_option maxHeartbeats 4000000 in
theorem l71AnyPay_any (R N : Nat) (w : World) (hr : Rd w R N) (hN : N + 5 ≤ 1048576) :
    Calls Try.prog 84 #[.pointer (some ⟨R, 0, none⟩)] w fun r w' => ∃ f t s : Int, r = .returned (.agg #[.int .i64 f, .int .i64 t, .int .i64 s]) ∧ Rd w' R (N + 5) ∧ Ran R w w' := by
  have hlt := hr.lt
  have hne : w.heap.size ≠ R := by omega
  go_enter Try.func84, Try.ntmps84
  go_wp2_with fail
  refine (l71Pay_any R N _ (hr.grew ((Grew.refl _).alloc _)) (by omega)).mono ?_
  rintro r w1 ⟨f, t, s, rfl, r1, g1⟩
  have h1 := g1.size
  simp only [World.size_alloc] at h1
  have c0 := g1.cell (p := ⟨w.heap.size, 0, none⟩) (v := .int .i64 0) hne (by simp [go_sem])
  have c1 := g1.cell (p := ⟨w.heap.size, 1, none⟩) (v := .int .i64 0) hne (by simp [go_sem])
  have c2 := g1.cell (p := ⟨w.heap.size, 2, none⟩) (v := .int .i64 0) hne (by simp [go_sem])
  have z0 := g1.frozen (p := ⟨w.heap.size, 0, none⟩) (v := false) hne (by simp) (by simp [go_sem])
  have z1 := g1.frozen (p := ⟨w.heap.size, 1, none⟩) (v := false) hne (by simp) (by simp [go_sem])
  have z2 := g1.frozen (p := ⟨w.heap.size, 2, none⟩) (v := false) hne (by simp) (by simp [go_sem])
  have G1 := ((Ran.refl R w).grew ((Grew.refl _).alloc _)).trans g1
  clear g1
  have hn1 : w1.heap.size ≠ R := by omega
  go_wp2_with fail
  refine (pick_any R (N + 3) 12 _ (r1.grew ((Grew.refl _).alloc _)) (by omega) (by omega)).mono ?_
  rintro r w2 ⟨x, rfl, x0, x1, x2, r2, g2⟩
  have x3 := x1 (by omega)
  clear x1 x2
  have h2 := g2.size
  simp only [World.size_alloc] at h2
  have d0 := g2.cell (p := ⟨w.heap.size, 0, none⟩) (v := .int .i64 0) hne (((Grew.refl _).alloc _).keep c0)
  have d1 := g2.cell (p := ⟨w.heap.size, 1, none⟩) (v := .int .i64 0) hne (((Grew.refl _).alloc _).keep c1)
  have d2 := g2.cell (p := ⟨w.heap.size, 2, none⟩) (v := .int .i64 0) hne (((Grew.refl _).alloc _).keep c2)
  have y0 := g2.frozen (p := ⟨w.heap.size, 0, none⟩) (v := false) hne (by simp; omega) (by rw [((Grew.refl w1).alloc _).below.frozen (by show w.heap.size < w1.heap.size; omega)]; exact z0)
  have y1 := g2.frozen (p := ⟨w.heap.size, 1, none⟩) (v := false) hne (by simp; omega) (by rw [((Grew.refl w1).alloc _).below.frozen (by show w.heap.size < w1.heap.size; omega)]; exact z1)
  have y2 := g2.frozen (p := ⟨w.heap.size, 2, none⟩) (v := false) hne (by simp; omega) (by rw [((Grew.refl w1).alloc _).below.frozen (by show w.heap.size < w1.heap.size; omega)]; exact z2)
  have p0 := g2.cell (p := ⟨w1.heap.size, 0, none⟩) (v := .int .i64 f) hn1 (by simp [go_sem])
  have p1 := g2.cell (p := ⟨w1.heap.size, 1, none⟩) (v := .int .i64 t) hn1 (by simp [go_sem])
  have p2 := g2.cell (p := ⟨w1.heap.size, 2, none⟩) (v := .int .i64 s) hn1 (by simp [go_sem])
  have q0 := g2.frozen (p := ⟨w1.heap.size, 0, none⟩) (v := false) hn1 (by simp) (by simp [go_sem])
  have q1 := g2.frozen (p := ⟨w1.heap.size, 1, none⟩) (v := false) hn1 (by simp) (by simp [go_sem])
  have q2 := g2.frozen (p := ⟨w1.heap.size, 2, none⟩) (v := false) hn1 (by simp) (by simp [go_sem])
  have hbb : w.heap.size ≠ w1.heap.size := by omega
  have hbb' : w1.heap.size ≠ w.heap.size := by omega
  have G2 := (G1.grew ((Grew.refl _).alloc _)).trans g2
  clear g2 G1 c0 c1 c2 z0 z1 z2 r1 hr
  have hB : R < w1.heap.size := by omega
  have hW : w.heap.size ≤ w1.heap.size := by omega
  rcases (show x = 0 ∨ x = 1 ∨ x = 2 ∨ 3 ≤ x by omega) with rfl | rfl | rfl | hx
  · go_wp2
    refine bodyPost_ret (by simp [results, Try.results84, go_sem, d0, d1, d2]; try rfl) rfl ?_
    have e1 := pay_end hB hW r2 G2 (.int .i64 f) 1
    have e2 := pay_end hlt (Nat.le_refl _) e1.1 e1.2 (.int .i64 f) 0
    have e3 := pay_end hlt (Nat.le_refl _) e2.1 e2.2 (.int .i64 f) 1
    have e4 := pay_end hlt (Nat.le_refl _) e3.1 e3.2 (.int .i64 s) 2
    exact ⟨_, _, _, rfl, e4.1.more (by omega), e4.2⟩
  · go_wp2_with fail
    refine (pick_any R (N + 3 + 1) 2 _ (r2.grew ((Grew.refl _).alloc _)) (by omega) (by omega)).mono ?_
    rintro r w3 ⟨y, rfl, yy0, yy1, yy2, r3, g3⟩
    have yy3 := yy1 (by omega)
    clear yy1 yy2
    have hn2 : w2.heap.size ≠ R := by omega
    have d0 := g3.cell hne (((Grew.refl _).alloc _).keep d0)
    have d1 := g3.cell hne (((Grew.refl _).alloc _).keep d1)
    have d2 := g3.cell hne (((Grew.refl _).alloc _).keep d2)
    have p0 := g3.cell hn1 (((Grew.refl _).alloc _).keep p0)
    have p1 := g3.cell hn1 (((Grew.refl _).alloc _).keep p1)
    have p2 := g3.cell hn1 (((Grew.refl _).alloc _).keep p2)
    have s0 := g3.cell (p := ⟨w2.heap.size, 0, none⟩) (v := .int .i64 0) hn2 (by simp [go_sem])
    have s1 := g3.cell (p := ⟨w2.heap.size, 1, none⟩) (v := .int .i64 10) hn2 (by simp [go_sem])
    have y0 := g3.frozen (p := ⟨w.heap.size, 0, none⟩) (v := false) hne (by simp; omega) (by rw [((Grew.refl w2).alloc _).below.frozen (by show w.heap.size < w2.heap.size; omega)]; exact y0)
    have y1 := g3.frozen (p := ⟨w.heap.size, 1, none⟩) (v := false) hne (by simp; omega) (by rw [((Grew.refl w2).alloc _).below.frozen (by show w.heap.size < w2.heap.size; omega)]; exact y1)
    have y2 := g3.frozen (p := ⟨w.heap.size, 2, none⟩) (v := false) hne (by simp; omega) (by rw [((Grew.refl w2).alloc _).below.frozen (by show w.heap.size < w2.heap.size; omega)]; exact y2)
    have q0 := g3.frozen (p := ⟨w1.heap.size, 0, none⟩) (v := false) hn1 (by simp; omega) (by rw [((Grew.refl w2).alloc _).below.frozen (by show w1.heap.size < w2.heap.size; omega)]; exact q0)
    have q1 := g3.frozen (p := ⟨w1.heap.size, 1, none⟩) (v := false) hn1 (by simp; omega) (by rw [((Grew.refl w2).alloc _).below.frozen (by show w1.heap.size < w2.heap.size; omega)]; exact q1)
    have q2 := g3.frozen (p := ⟨w1.heap.size, 2, none⟩) (v := false) hn1 (by simp; omega) (by rw [((Grew.refl w2).alloc _).below.frozen (by show w1.heap.size < w2.heap.size; omega)]; exact q2)
    have G3 := (G2.grew ((Grew.refl _).alloc _)).trans g3
    clear g3 G2
    rcases (show y = 0 ∨ y = 1 by omega) with rfl | rfl
    all_goals
      go_wp2
      refine bodyPost_ret (by simp [results, Try.results84, go_sem, d0, d1, d2]; try rfl) rfl ?_
      refine ⟨_, _, _, rfl, ?_, ?_⟩
      · exact (((r3.setCell (p := ⟨w1.heap.size, 2, none⟩) hB _).setCell (p := ⟨w.heap.size, 0, none⟩) hlt _).setCell (p := ⟨w.heap.size, 1, none⟩) hlt _).setCell (p := ⟨w.heap.size, 2, none⟩) hlt _
      · exact (((G3.setCell (p := ⟨w1.heap.size, 2, none⟩) (.inr hW) _).setCell (p := ⟨w.heap.size, 0, none⟩) (.inr (Nat.le_refl _)) _).setCell (p := ⟨w.heap.size, 1, none⟩) (.inr (Nat.le_refl _)) _).setCell (p := ⟨w.heap.size, 2, none⟩) (.inr (Nat.le_refl _)) _
  · go_wp2_with fail
    refine (pick_any R (N + 3 + 1) 2 _ (r2.grew ((Grew.refl _).alloc _)) (by omega) (by omega)).mono ?_
    rintro r w3 ⟨y, rfl, yy0, yy1, yy2, r3, g3⟩
    have yy3 := yy1 (by omega)
    clear yy1 yy2
    have hn2 : w2.heap.size ≠ R := by omega
    have d0 := g3.cell hne (((Grew.refl _).alloc _).keep d0)
    have d1 := g3.cell hne (((Grew.refl _).alloc _).keep d1)
    have d2 := g3.cell hne (((Grew.refl _).alloc _).keep d2)
    have p0 := g3.cell hn1 (((Grew.refl _).alloc _).keep p0)
    have p1 := g3.cell hn1 (((Grew.refl _).alloc _).keep p1)
    have p2 := g3.cell hn1 (((Grew.refl _).alloc _).keep p2)
    have s0 := g3.cell (p := ⟨w2.heap.size, 0, none⟩) (v := .int .i64 0) hn2 (by simp [go_sem])
    have s1 := g3.cell (p := ⟨w2.heap.size, 1, none⟩) (v := .int .i64 4) hn2 (by simp [go_sem])
    have y0 := g3.frozen (p := ⟨w.heap.size, 0, none⟩) (v := false) hne (by simp; omega) (by rw [((Grew.refl w2).alloc _).below.frozen (by show w.heap.size < w2.heap.size; omega)]; exact y0)
    have y1 := g3.frozen (p := ⟨w.heap.size, 1, none⟩) (v := false) hne (by simp; omega) (by rw [((Grew.refl w2).alloc _).below.frozen (by show w.heap.size < w2.heap.size; omega)]; exact y1)
    have y2 := g3.frozen (p := ⟨w.heap.size, 2, none⟩) (v := false) hne (by simp; omega) (by rw [((Grew.refl w2).alloc _).below.frozen (by show w.heap.size < w2.heap.size; omega)]; exact y2)
    have q0 := g3.frozen (p := ⟨w1.heap.size, 0, none⟩) (v := false) hn1 (by simp; omega) (by rw [((Grew.refl w2).alloc _).below.frozen (by show w1.heap.size < w2.heap.size; omega)]; exact q0)
    have q1 := g3.frozen (p := ⟨w1.heap.size, 1, none⟩) (v := false) hn1 (by simp; omega) (by rw [((Grew.refl w2).alloc _).below.frozen (by show w1.heap.size < w2.heap.size; omega)]; exact q1)
    have q2 := g3.frozen (p := ⟨w1.heap.size, 2, none⟩) (v := false) hn1 (by simp; omega) (by rw [((Grew.refl w2).alloc _).below.frozen (by show w1.heap.size < w2.heap.size; omega)]; exact q2)
    have G3 := (G2.grew ((Grew.refl _).alloc _)).trans g3
    clear g3 G2
    rcases (show y = 0 ∨ y = 1 by omega) with rfl | rfl
    all_goals
      go_wp2
      refine bodyPost_ret (by simp [results, Try.results84, go_sem, d0, d1, d2]; try rfl) rfl ?_
      refine ⟨_, _, _, rfl, ?_, ?_⟩
      · exact (((r3.setCell (p := ⟨w1.heap.size, 0, none⟩) hB _).setCell (p := ⟨w.heap.size, 0, none⟩) hlt _).setCell (p := ⟨w.heap.size, 1, none⟩) hlt _).setCell (p := ⟨w.heap.size, 2, none⟩) hlt _
      · exact (((G3.setCell (p := ⟨w1.heap.size, 0, none⟩) (.inr hW) _).setCell (p := ⟨w.heap.size, 0, none⟩) (.inr (Nat.le_refl _)) _).setCell (p := ⟨w.heap.size, 1, none⟩) (.inr (Nat.le_refl _)) _).setCell (p := ⟨w.heap.size, 2, none⟩) (.inr (Nat.le_refl _)) _
  · have hx0 : (x == 0) = false := by simp; omega
    have hx1 : (x == 1) = false := by simp; omega
    have hx2 : (x == 2) = false := by simp; omega
    go_wp2
    refine bodyPost_ret (by simp [results, Try.results84, go_sem, d0, d1, d2]; try rfl) rfl ?_
    have e2 := pay_end hlt (Nat.le_refl _) r2 G2 (.int .i64 f) 0
    have e3 := pay_end hlt (Nat.le_refl _) e2.1 e2.2 (.int .i64 t) 1
    have e4 := pay_end hlt (Nat.le_refl _) e3.1 e3.2 (.int .i64 s) 2
    exact ⟨_, _, _, rfl, e4.1.more (by omega), e4.2⟩
end Go.Proofs.Ytibhfiamibccnab
