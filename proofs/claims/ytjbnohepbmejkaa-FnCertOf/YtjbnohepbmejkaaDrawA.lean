/-
  Texts together: Draw2, Draw3, Draw4, Draw5, Draw6.
-/
import Derived.Test.YtjbnohepbmejkaaRows2
namespace Go.Proofs.Ytjbnohepbmejkaa
set_option linter.unusedVariables false
open Go.RowKit
attribute [local simp] far_const

theorem Ran.frozen {R : Nat} {a b : World} (h : Ran R a b) {p : Addr} (hn : p.block ≠ R) (hl : p.block < a.heap.size) {v : Bool} (hv : a.frozen? p = v) : b.frozen? p = v := by
  rw [World.frozen?_of_block (w := a) (h.keep p.block hl hn)]; exact hv

set_option maxHeartbeats 1000000 in
theorem open_any (a : Option Addr) (n cap : Nat) (w : World) (hb : Byt w a w.heap.size n) (hc : n ≤ cap) (hn : n ≤ 1048576) :
    Calls Try.prog 47 #[.slice a n cap] w fun r w' => r = .returned (.pointer (some ⟨w.heap.size, 0, none⟩)) ∧ Rd w' w.heap.size 0 ∧ Grew w w' := by
  have byt : ∀ (m : Nat), m ≤ n → m ≤ 2000 → Rd (w.alloc (.cells #[.slice a m cap, .int .i64 0] 137)) w.heap.size 0 := fun m hm hm2 => by
    refine ⟨a, m, cap, 0, by simp [go_sem], by simp [go_sem], by simp [go_sem], by omega, by omega, hm2, ?_⟩
    rcases hb with h | ⟨b, off, ha, hb, h⟩
    · exact .inl (by omega)
    · refine .inr ⟨b, off, ha, hb, fun i hi => ?_⟩
      obtain ⟨z, z0, z1, hz⟩ := h i (by omega)
      exact ⟨z, z0, z1, ((Grew.refl w).alloc _).keep hz⟩
  by_cases h2 : n ≤ 2000
  · have hx : ((2000 : Int) < (n : Int)) = False := by simp; omega
    have HB := hide (byt n (Nat.le_refl _) h2)
    clear byt
    go_enter Try.func47, Try.ntmps47
    go_wp2
    go_ret
    exact ⟨rfl, unhide HB, (Grew.refl _).alloc _⟩
  · have hx : (2000 : Int) < (n : Int) := by omega
    have hx2 : (2000 : Int) ≤ (cap : Int) := by omega
    have HB := hide (byt 2000 (by omega) (Nat.le_refl _))
    clear byt
    rcases hb with h | ⟨b, off, rfl, hb, h⟩
    · exact absurd h (by omega)
    · have HH := hide h
      clear h
      go_enter Try.func47, Try.ntmps47
      go_wp2
      go_ret
      exact ⟨rfl, unhide HB, (Grew.refl _).alloc _⟩

set_option maxHeartbeats 1000000 in
theorem l71Pay_ok (R N : Nat) (w : World) (hr : Rd w R N) (hN : N + 3 ≤ 1048576) :
    Calls Try.prog 137 #[.pointer (some ⟨R, 0, none⟩)] w fun r w' => ∃ f t s : Int, r = .returned (.agg #[.int .i64 f, .int .i64 t, .int .i64 s]) ∧ payB f t s = true ∧ Rd w' R (N + 3) ∧ Ran R w w' := by
  have hlt := hr.lt
  have hne : w.heap.size ≠ R := by omega
  go_enter Try.func137, Try.ntmps137
  go_wp2_with fail
  refine (pick_any R N 3 _ (hr.grew ((Grew.refl _).alloc _)) (by omega) (by omega)).mono ?_
  rintro r w1 ⟨x1, rfl, x10, x11, x12, r1, g1⟩
  have x13 := x11 (by omega)
  clear x11 x12
  go_wp2_with fail
  refine (pick_any R (N + 1) 2 _ r1 (by omega) (by omega)).mono ?_
  rintro r w2 ⟨x2, rfl, x20, x21, x22, r2, g2⟩
  have x23 := x21 (by omega)
  clear x21 x22
  go_wp2_with fail
  refine (pick_any R (N + 1 + 1) 9 _ r2 (by omega) (by omega)).mono ?_
  rintro r w3 ⟨x3, rfl, x30, x31, x32, r3, g3⟩
  have x33 := x31 (by omega)
  clear x31 x32
  have g := (g1.trans g2).trans g3
  have c0 := g.cell (p := ⟨w.heap.size, 0, none⟩) (v := .int .i64 0) hne (by simp [go_sem])
  have c1 := g.cell (p := ⟨w.heap.size, 1, none⟩) (v := .int .i64 0) hne (by simp [go_sem])
  have c2 := g.cell (p := ⟨w.heap.size, 2, none⟩) (v := .int .i64 0) hne (by simp [go_sem])
  have z0 := g.frozen (p := ⟨w.heap.size, 0, none⟩) (v := false) hne (by simp) (by simp [go_sem])
  have z1 := g.frozen (p := ⟨w.heap.size, 1, none⟩) (v := false) hne (by simp) (by simp [go_sem])
  have z2 := g.frozen (p := ⟨w.heap.size, 2, none⟩) (v := false) hne (by simp) (by simp [go_sem])
  go_wp2
  refine bodyPost_ret (by simp [results, Try.results137, go_sem, c0, c1, c2]; try rfl) rfl ?_
  refine ⟨_, _, _, rfl, ?_, (((r3.setCell (p := ⟨w.heap.size, 0, none⟩) hlt _).setCell (p := ⟨w.heap.size, 1, none⟩) hlt _).setCell (p := ⟨w.heap.size, 2, none⟩) hlt _),
    (((((Ran.refl R w).grew ((Grew.refl _).alloc _)).trans g).setCell (.inr (Nat.le_refl _)) _).setCell (.inr (Nat.le_refl _)) _).setCell (.inr (Nat.le_refl _)) _⟩
  have hs : inB (1 + x3) 1 9 = true := by simp only [inB, Bool.and_eq_true, decide_eq_true_eq]; omega
  unfold payB
  rw [hs]
  rcases (show x1 = 0 ∨ x1 = 1 ∨ x1 = 2 by omega) with rfl | rfl | rfl <;> rcases (show x2 = 0 ∨ x2 = 1 by omega) with rfl | rfl <;> decide
theorem l71Pay_any (R N : Nat) (w : World) (hr : Rd w R N) (hN : N + 3 ≤ 1048576) :
    Calls Try.prog 137 #[.pointer (some ⟨R, 0, none⟩)] w fun r w' => ∃ f t s : Int, r = .returned (.agg #[.int .i64 f, .int .i64 t, .int .i64 s]) ∧ Rd w' R (N + 3) ∧ Ran R w w' :=
  (l71Pay_ok R N w hr hN).mono fun _ _ ⟨f, t, s, h1, _, h2⟩ => ⟨f, t, s, h1, h2⟩

/-- What a payment's draw leaves: the payment, in a variable's block. -/
theorem pay_end {R N B : Nat} {w w1 : World} (h : R < B) (hb : w.heap.size ≤ B) (r : Rd w1 R N) (g : Ran R w w1) (v : Value) (j : Nat) : Rd (w1.setCell ⟨B, j, none⟩ v) R N ∧ Ran R w (w1.setCell ⟨B, j, none⟩ v) :=
  ⟨r.setCell (p := ⟨B, j, none⟩) h v, g.setCell (.inr hb) v⟩

set_option maxHeartbeats 4000000 in
theorem l71AnyPay_any (R N : Nat) (w : World) (hr : Rd w R N) (hN : N + 5 ≤ 1048576) :
    Calls Try.prog 138 #[.pointer (some ⟨R, 0, none⟩)] w fun r w' => ∃ f t s : Int, r = .returned (.agg #[.int .i64 f, .int .i64 t, .int .i64 s]) ∧ Rd w' R (N + 5) ∧ Ran R w w' := by
  have hlt := hr.lt
  have hne : w.heap.size ≠ R := by omega
  go_enter Try.func138, Try.ntmps138
  go_wp2_with fail
  refine (l71Pay_any R N _ (hr.grew ((Grew.refl _).alloc _)) (by omega)).mono ?_
  rintro r w1 ⟨f, t, s, rfl, r1, g1⟩
  have h1 := g1.size
  simp only [World.size_alloc] at h1
  have c0 := g1.cell (p := ⟨w.heap.size, 0, none⟩) (v := .int .i64 0) hne (by simp [go_sem])
  have c1 := g1.cell (p := ⟨w.heap.size, 1, none⟩) (v := .int .i64 0) hne (by simp [go_sem])
  have c2 := g1.cell (p := ⟨w.heap.size, 2, none⟩) (v := .int .i64 0) hne (by simp [go_sem])
  have z0 := g1.frozen (p := ⟨w.heap.size, 0, none⟩) (v := false) hne (by simp) (by simp [go_sem])
  have z1 := g1.frozen (p := ⟨w.heap.size, 1, none⟩) (v := false) hne (by simp) (by simp [go_sem])
  have z2 := g1.frozen (p := ⟨w.heap.size, 2, none⟩) (v := false) hne (by simp) (by simp [go_sem])
  have G1 := ((Ran.refl R w).grew ((Grew.refl _).alloc _)).trans g1
  clear g1
  have hn1 : w1.heap.size ≠ R := by omega
  go_wp2_with fail
  refine (pick_any R (N + 3) 12 _ (r1.grew ((Grew.refl _).alloc _)) (by omega) (by omega)).mono ?_
  rintro r w2 ⟨x, rfl, x0, x1, x2, r2, g2⟩
  have x3 := x1 (by omega)
  clear x1 x2
  have h2 := g2.size
  simp only [World.size_alloc] at h2
  have d0 := g2.cell (p := ⟨w.heap.size, 0, none⟩) (v := .int .i64 0) hne (((Grew.refl _).alloc _).keep c0)
  have d1 := g2.cell (p := ⟨w.heap.size, 1, none⟩) (v := .int .i64 0) hne (((Grew.refl _).alloc _).keep c1)
  have d2 := g2.cell (p := ⟨w.heap.size, 2, none⟩) (v := .int .i64 0) hne (((Grew.refl _).alloc _).keep c2)
  have y0 := g2.frozen (p := ⟨w.heap.size, 0, none⟩) (v := false) hne (by simp; omega) (by rw [((Grew.refl w1).alloc _).below.frozen (by show w.heap.size < w1.heap.size; omega)]; exact z0)
  have y1 := g2.frozen (p := ⟨w.heap.size, 1, none⟩) (v := false) hne (by simp; omega) (by rw [((Grew.refl w1).alloc _).below.frozen (by show w.heap.size < w1.heap.size; omega)]; exact z1)
  have y2 := g2.frozen (p := ⟨w.heap.size, 2, none⟩) (v := false) hne (by simp; omega) (by rw [((Grew.refl w1).alloc _).below.frozen (by show w.heap.size < w1.heap.size; omega)]; exact z2)
  have p0 := g2.cell (p := ⟨w1.heap.size, 0, none⟩) (v := .int .i64 f) hn1 (by simp [go_sem])
  have p1 := g2.cell (p := ⟨w1.heap.size, 1, none⟩) (v := .int .i64 t) hn1 (by simp [go_sem])
  have p2 := g2.cell (p := ⟨w1.heap.size, 2, none⟩) (v := .int .i64 s) hn1 (by simp [go_sem])
  have q0 := g2.frozen (p := ⟨w1.heap.size, 0, none⟩) (v := false) hn1 (by simp) (by simp [go_sem])
  have q1 := g2.frozen (p := ⟨w1.heap.size, 1, none⟩) (v := false) hn1 (by simp) (by simp [go_sem])
  have q2 := g2.frozen (p := ⟨w1.heap.size, 2, none⟩) (v := false) hn1 (by simp) (by simp [go_sem])
  have hbb : w.heap.size ≠ w1.heap.size := by omega
  have hbb' : w1.heap.size ≠ w.heap.size := by omega
  have G2 := (G1.grew ((Grew.refl _).alloc _)).trans g2
  clear g2 G1 c0 c1 c2 z0 z1 z2 r1 hr
  have hB : R < w1.heap.size := by omega
  have hW : w.heap.size ≤ w1.heap.size := by omega
  rcases (show x = 0 ∨ x = 1 ∨ x = 2 ∨ 3 ≤ x by omega) with rfl | rfl | rfl | hx
  · go_wp2
    refine bodyPost_ret (by simp [results, Try.results138, go_sem, d0, d1, d2]; try rfl) rfl ?_
    have e1 := pay_end hB hW r2 G2 (.int .i64 f) 1
    have e2 := pay_end hlt (Nat.le_refl _) e1.1 e1.2 (.int .i64 f) 0
    have e3 := pay_end hlt (Nat.le_refl _) e2.1 e2.2 (.int .i64 f) 1
    have e4 := pay_end hlt (Nat.le_refl _) e3.1 e3.2 (.int .i64 s) 2
    exact ⟨_, _, _, rfl, e4.1.more (by omega), e4.2⟩
  · go_wp2_with fail
    refine (pick_any R (N + 3 + 1) 2 _ (r2.grew ((Grew.refl _).alloc _)) (by omega) (by omega)).mono ?_
    rintro r w3 ⟨y, rfl, yy0, yy1, yy2, r3, g3⟩
    have yy3 := yy1 (by omega)
    clear yy1 yy2
    have hn2 : w2.heap.size ≠ R := by omega
    have d0 := g3.cell hne (((Grew.refl _).alloc _).keep d0)
    have d1 := g3.cell hne (((Grew.refl _).alloc _).keep d1)
    have d2 := g3.cell hne (((Grew.refl _).alloc _).keep d2)
    have p0 := g3.cell hn1 (((Grew.refl _).alloc _).keep p0)
    have p1 := g3.cell hn1 (((Grew.refl _).alloc _).keep p1)
    have p2 := g3.cell hn1 (((Grew.refl _).alloc _).keep p2)
    have s0 := g3.cell (p := ⟨w2.heap.size, 0, none⟩) (v := .int .i64 0) hn2 (by simp [go_sem])
    have s1 := g3.cell (p := ⟨w2.heap.size, 1, none⟩) (v := .int .i64 10) hn2 (by simp [go_sem])
    have y0 := g3.frozen (p := ⟨w.heap.size, 0, none⟩) (v := false) hne (by simp; omega) (by rw [((Grew.refl w2).alloc _).below.frozen (by show w.heap.size < w2.heap.size; omega)]; exact y0)
    have y1 := g3.frozen (p := ⟨w.heap.size, 1, none⟩) (v := false) hne (by simp; omega) (by rw [((Grew.refl w2).alloc _).below.frozen (by show w.heap.size < w2.heap.size; omega)]; exact y1)
    have y2 := g3.frozen (p := ⟨w.heap.size, 2, none⟩) (v := false) hne (by simp; omega) (by rw [((Grew.refl w2).alloc _).below.frozen (by show w.heap.size < w2.heap.size; omega)]; exact y2)
    have q0 := g3.frozen (p := ⟨w1.heap.size, 0, none⟩) (v := false) hn1 (by simp; omega) (by rw [((Grew.refl w2).alloc _).below.frozen (by show w1.heap.size < w2.heap.size; omega)]; exact q0)
    have q1 := g3.frozen (p := ⟨w1.heap.size, 1, none⟩) (v := false) hn1 (by simp; omega) (by rw [((Grew.refl w2).alloc _).below.frozen (by show w1.heap.size < w2.heap.size; omega)]; exact q1)
    have q2 := g3.frozen (p := ⟨w1.heap.size, 2, none⟩) (v := false) hn1 (by simp; omega) (by rw [((Grew.refl w2).alloc _).below.frozen (by show w1.heap.size < w2.heap.size; omega)]; exact q2)
    have G3 := (G2.grew ((Grew.refl _).alloc _)).trans g3
    clear g3 G2
    rcases (show y = 0 ∨ y = 1 by omega) with rfl | rfl
    all_goals
      go_wp2
      refine bodyPost_ret (by simp [results, Try.results138, go_sem, d0, d1, d2]; try rfl) rfl ?_
      refine ⟨_, _, _, rfl, ?_, ?_⟩
      · exact (((r3.setCell (p := ⟨w1.heap.size, 2, none⟩) hB _).setCell (p := ⟨w.heap.size, 0, none⟩) hlt _).setCell (p := ⟨w.heap.size, 1, none⟩) hlt _).setCell (p := ⟨w.heap.size, 2, none⟩) hlt _
      · exact (((G3.setCell (p := ⟨w1.heap.size, 2, none⟩) (.inr hW) _).setCell (p := ⟨w.heap.size, 0, none⟩) (.inr (Nat.le_refl _)) _).setCell (p := ⟨w.heap.size, 1, none⟩) (.inr (Nat.le_refl _)) _).setCell (p := ⟨w.heap.size, 2, none⟩) (.inr (Nat.le_refl _)) _
  · go_wp2_with fail
    refine (pick_any R (N + 3 + 1) 2 _ (r2.grew ((Grew.refl _).alloc _)) (by omega) (by omega)).mono ?_
    rintro r w3 ⟨y, rfl, yy0, yy1, yy2, r3, g3⟩
    have yy3 := yy1 (by omega)
    clear yy1 yy2
    have hn2 : w2.heap.size ≠ R := by omega
    have d0 := g3.cell hne (((Grew.refl _).alloc _).keep d0)
    have d1 := g3.cell hne (((Grew.refl _).alloc _).keep d1)
    have d2 := g3.cell hne (((Grew.refl _).alloc _).keep d2)
    have p0 := g3.cell hn1 (((Grew.refl _).alloc _).keep p0)
    have p1 := g3.cell hn1 (((Grew.refl _).alloc _).keep p1)
    have p2 := g3.cell hn1 (((Grew.refl _).alloc _).keep p2)
    have s0 := g3.cell (p := ⟨w2.heap.size, 0, none⟩) (v := .int .i64 0) hn2 (by simp [go_sem])
    have s1 := g3.cell (p := ⟨w2.heap.size, 1, none⟩) (v := .int .i64 4) hn2 (by simp [go_sem])
    have y0 := g3.frozen (p := ⟨w.heap.size, 0, none⟩) (v := false) hne (by simp; omega) (by rw [((Grew.refl w2).alloc _).below.frozen (by show w.heap.size < w2.heap.size; omega)]; exact y0)
    have y1 := g3.frozen (p := ⟨w.heap.size, 1, none⟩) (v := false) hne (by simp; omega) (by rw [((Grew.refl w2).alloc _).below.frozen (by show w.heap.size < w2.heap.size; omega)]; exact y1)
    have y2 := g3.frozen (p := ⟨w.heap.size, 2, none⟩) (v := false) hne (by simp; omega) (by rw [((Grew.refl w2).alloc _).below.frozen (by show w.heap.size < w2.heap.size; omega)]; exact y2)
    have q0 := g3.frozen (p := ⟨w1.heap.size, 0, none⟩) (v := false) hn1 (by simp; omega) (by rw [((Grew.refl w2).alloc _).below.frozen (by show w1.heap.size < w2.heap.size; omega)]; exact q0)
    have q1 := g3.frozen (p := ⟨w1.heap.size, 1, none⟩) (v := false) hn1 (by simp; omega) (by rw [((Grew.refl w2).alloc _).below.frozen (by show w1.heap.size < w2.heap.size; omega)]; exact q1)
    have q2 := g3.frozen (p := ⟨w1.heap.size, 2, none⟩) (v := false) hn1 (by simp; omega) (by rw [((Grew.refl w2).alloc _).below.frozen (by show w1.heap.size < w2.heap.size; omega)]; exact q2)
    have G3 := (G2.grew ((Grew.refl _).alloc _)).trans g3
    clear g3 G2
    rcases (show y = 0 ∨ y = 1 by omega) with rfl | rfl
    all_goals
      go_wp2
      refine bodyPost_ret (by simp [results, Try.results138, go_sem, d0, d1, d2]; try rfl) rfl ?_
      refine ⟨_, _, _, rfl, ?_, ?_⟩
      · exact (((r3.setCell (p := ⟨w1.heap.size, 0, none⟩) hB _).setCell (p := ⟨w.heap.size, 0, none⟩) hlt _).setCell (p := ⟨w.heap.size, 1, none⟩) hlt _).setCell (p := ⟨w.heap.size, 2, none⟩) hlt _
      · exact (((G3.setCell (p := ⟨w1.heap.size, 0, none⟩) (.inr hW) _).setCell (p := ⟨w.heap.size, 0, none⟩) (.inr (Nat.le_refl _)) _).setCell (p := ⟨w.heap.size, 1, none⟩) (.inr (Nat.le_refl _)) _).setCell (p := ⟨w.heap.size, 2, none⟩) (.inr (Nat.le_refl _)) _
  · have hx0 : (x == 0) = false := by simp; omega
    have hx1 : (x == 1) = false := by simp; omega
    have hx2 : (x == 2) = false := by simp; omega
    go_wp2
    refine bodyPost_ret (by simp [results, Try.results138, go_sem, d0, d1, d2]; try rfl) rfl ?_
    have e2 := pay_end hlt (Nat.le_refl _) r2 G2 (.int .i64 f) 0
    have e3 := pay_end hlt (Nat.le_refl _) e2.1 e2.2 (.int .i64 t) 1
    have e4 := pay_end hlt (Nat.le_refl _) e3.1 e3.2 (.int .i64 s) 2
    exact ⟨_, _, _, rfl, e4.1.more (by omega), e4.2⟩

set_option linter.unusedVariables false
open Go.RowKit
attribute [local simp] far_const

theorem Rd.low {w w' : World} {R N : Nat} (h : Rd w R N) (e : ∀ b, b ≤ R → w'.heap[b]? = w.heap[b]?) : Rd w' R N := by
  obtain ⟨a, n, cap, q, h0, h1, h2, h3, h4, h5, h6⟩ := h
  refine ⟨a, n, cap, q, ?_, ?_, ?_, h3, h4, h5, ?_⟩
  · rw [World.cell?_of_block (w := w) (e R (Nat.le_refl _))]; exact h0
  · rw [World.cell?_of_block (w := w) (e R (Nat.le_refl _))]; exact h1
  · rw [World.frozen?_of_block (w := w) (e R (Nat.le_refl _))]; exact h2
  · rcases h6 with h | ⟨b, off, ha, hb, h⟩
    · exact .inl h
    · exact .inr ⟨b, off, ha, hb, fun i hi => by obtain ⟨z, h1, h2, h3⟩ := h i hi; exact ⟨z, h1, h2, by rw [World.cell?_of_block (w := w) (e b (by omega))]; exact h3⟩⟩
theorem Rd.grown {w w' : World} {R N : Nat} {row : Option Nat} (h : Rd w R N) (g : w.grownBy w' row) (hr : ∀ k, row = some k → R < k) : Rd w' R N :=
  h.low fun b hb => g.block b (by have := h.lt; omega) (fun e => by have := hr b e.symm; omega)

set_option maxHeartbeats 4000000 in
theorem l71Chain_ok (R N : Nat) (w : World) (hr : Rd w R N) (hN : N + 31 ≤ 1048576) :
    Calls Try.prog 134 #[.pointer (some ⟨R, 0, none⟩)] w fun r w' => ∃ v l, r = .returned v ∧ OwnL w' w.heap.size v l ∧ l.length ≤ 6 ∧ okB l = true ∧ Rd w' R (N + 31) ∧ Ran R w w' := by
  have hlt := hr.lt
  go_enter Try.func134, Try.ntmps134
  go_wp2_with fail
  refine (pick_any R N 7 _ (hr.grew ((Grew.refl _).alloc _)) (by omega) (by omega)).mono ?_
  rintro r w1 ⟨x, rfl, x0, x1, x2, r1, g1⟩
  have x3 := x1 (by omega)
  clear x1 x2
  have o1 : OwnL w1 w.heap.size (.slice (some ⟨w.heap.size, 0, none⟩) 0 0) [] := (OwnL.empty (Nat.le_refl _)).ran g1 hlt
  have G1 := ((Ran.refl R w).grew ((Grew.refl _).alloc _)).trans g1
  go_wp2_with fail
  obtain ⟨k0, rfl⟩ := Int.eq_ofNat_of_zero_le x0
  go_loopw [3, 4, 5] (fun out at' n wr => ∃ (v : Value) (l : List It) (q : Int) (k : Nat), out = v ∧ at' = .int .i64 q ∧ n = .int .i64 k ∧ l.length + k ≤ 6 ∧ (goB 0 l = true ∧ endE 0 l = q ∧ 0 ≤ q ∧ q ≤ 3 * l.length) ∧ OwnL wr w.heap.size v l ∧ Rd wr R (N + 31 - 5 * k) ∧ Ran R w wr) (fun _ _ n _ => (intOf n).toNat)
  case atStart => exact ⟨_, [], 0, k0, rfl, rfl, rfl, by simp; omega, ⟨rfl, rfl, by omega, by simp⟩, o1, r1.more (by omega), G1⟩
  case round =>
    obtain ⟨v, l, q, k, rfl, rfl, rfl, hk, hok, ho, hrd, hran⟩ := hrel
    have HK := hide hok
    clear hok
    by_cases hk0 : 0 < k
    · go_wp2_with fail
      refine (pick_any R (N + 31 - 5 * k) 6 _ hrd (by omega) (by omega)).mono ?_
      rintro r w2 ⟨x, rfl, x0, x1, x2, r2, g2⟩
      have x3 := x1 (by omega)
      clear x1 x2
      go_wp2_with fail
      refine (pick_any R _ 3 _ r2 (by omega) (by omega)).mono ?_
      rintro r w3 ⟨y, rfl, y0, y1, y2, r3, g3⟩
      have y3 := y1 (by omega)
      clear y1 y2
      go_wp2_with fail
      refine (l71Pay_ok R _ _ r3 (by omega)).mono ?_
      rintro r w4 ⟨f, t, s, rfl, hp, r4, g4⟩
      have HP := hide hp
      clear hp
      have g := (g2.trans g3).trans g4
      have o4 := ho.ran g hlt
      have hsz : w.heap.size ≤ w4.heap.size := Nat.le_trans hran.size g.size
      go_wp2_with (first | (at_builtin; refine wpList_items rfl _ _ rfl w.heap.size _ l rfl (o4.grew ((Grew.refl _).alloc _)) ⟨w4.heap.size, 0, none⟩ 1 [⟨wrap64 (wrap64 (q + 1) + wrap64 (x / 5 * y)), f, t, s⟩] 1 rfl rfl (its_one _ _ _) (by simp; omega) (by simp; omega) ?_))
      intro v' w5 o5 g5
      have hbl : ∀ k, _ = some k → w.heap.size ≤ k := fun k hk => (ho.block k hk).1
      have r5 := (r4.grew ((Grew.refl _).alloc _)).grown g5 (fun k hk => by have := hbl k hk; omega)
      have G5 := ((hran.trans g).grew ((Grew.refl _).alloc _)).grown g5 hbl
      clear o4 ho g5 hbl
      go_wp2
      go_roundw
      case rel =>
        refine ⟨v', l ++ [⟨wrap64 (wrap64 (q + 1) + wrap64 (x / 5 * y)), f, t, s⟩], _, k - 1, rfl, rfl, by go_num, by simp; omega, ?_, o5, r5.more (by omega), G5⟩
        obtain ⟨h1, h2, h3, h4⟩ := unhide HK
        have hx5 : x / 5 = 0 ∨ x / 5 = 1 := by omega
        have hz0 : 0 ≤ x / 5 * y ∧ x / 5 * y ≤ 2 := by rcases hx5 with h | h <;> rw [h] <;> omega
        have e : wrap64 (wrap64 (q + 1) + wrap64 (x / 5 * y)) = q + 1 + x / 5 * y := by
          generalize x / 5 * y = zz at hz0 ⊢
          unfold wrap64; omega
        rw [e]
        refine ⟨?_, endE_snoc _ _ _, by omega, by rw [List.length_append, List.length_singleton]; omega⟩
        rw [goB_snoc, h1, h2]
        simp only [Bool.true_and, stepB, unhide HP, Bool.and_true, Bool.and_eq_true, decide_eq_true_eq]
        omega
      case measure => simp [intOf]; omega
    · have hk1 : k = 0 := by omega
      subst hk1
      go_wp2
      go_ret
      exact ⟨_, l, rfl, ho, by omega, by unfold okB; rw [(unhide HK).1, Bool.and_true]; exact decide_eq_true (by omega), hrd.more (by omega), hran⟩
theorem l71Chain_any (R N : Nat) (w : World) (hr : Rd w R N) (hN : N + 31 ≤ 1048576) :
    Calls Try.prog 134 #[.pointer (some ⟨R, 0, none⟩)] w fun r w' => ∃ v l, r = .returned v ∧ OwnL w' w.heap.size v l ∧ l.length ≤ 6 ∧ Rd w' R (N + 31) ∧ Ran R w w' :=
  (l71Chain_ok R N w hr hN).mono fun _ _ ⟨v, l, h1, h2, h3, _, h4⟩ => ⟨v, l, h1, h2, h3, h4⟩

set_option linter.unusedVariables false
open Go.RowKit
attribute [local simp] far_const

/-- A cell of a row of items that the call owns, stored into: items still. -/
theorem OwnL.set {w : World} {base g cap : Nat} {l : List It} (h : OwnL w base (.slice (some ⟨g, 0, none⟩) l.length cap) l) (j : Nat) (z : Int) :
    ∃ l' : List It, l'.length = l.length ∧ OwnL (w.setCell ⟨g, j, none⟩ (.int .i64 z)) base (.slice (some ⟨g, 0, none⟩) l.length cap) l' := by
  have hs := (World.ownsRow.stored h.2 j (.int .i64 z)).1
  obtain ⟨l', h1, h2⟩ := flat_of l.length ((flat l).set j (.int .i64 z)) (by rw [List.length_set, flat_length]) (fun u hu => by
    rcases List.mem_or_eq_of_mem_set hu with h | h
    · exact flat_ints l u h
    · exact ⟨z, h⟩)
  refine ⟨l', h1, fun e => by simp at e, ?_⟩
  show World.ownsRow _ _ _ _ _ l'.length (flat l')
  rw [h1, ← h2]; exact hs
theorem OwnL.cells {w : World} {base g cap : Nat} {l : List It} (h : OwnL w base (.slice (some ⟨g, 0, none⟩) l.length cap) l) {j : Nat} (hj : j < l.length * 4) : (∃ z : Int, w.cell? ⟨g, j, none⟩ = some (.int .i64 z)) ∧ w.frozen? ⟨g, j, none⟩ = false := by
  refine ⟨?_, World.ownsRow.frozenAt h.2 j⟩
  rw [World.ownsRow.cellAt h.2 j hj]
  have hl : j < (flat l).length := by rw [flat_length]; exact hj
  obtain ⟨z, hz⟩ := flat_ints l (flat l)[j] (List.getElem_mem hl)
  exact ⟨z, by rw [List.getElem?_eq_getElem hl, hz]⟩

set_option maxHeartbeats 4000000 in
theorem l71Off_any (R N : Nat) (w : World) (hr : Rd w R N) (hN : N + 38 ≤ 1048576) :
    Calls Try.prog 100 #[.pointer (some ⟨R, 0, none⟩)] w fun r w' => ∃ v l, r = .returned v ∧ OwnL w' w.heap.size v l ∧ l.length ≤ 7 ∧ Rd w' R (N + 38) ∧ Ran R w w' := by
  have hlt := hr.lt
  go_enter Try.func100, Try.ntmps100
  go_wp2_with fail
  refine (l71Chain_any R N _ hr (by omega)).mono ?_
  rintro r w1 ⟨v, l, rfl, o1, hl, r1, g1⟩
  go_wp2_with fail
  refine (pick_any R (N + 31) 16 _ r1 (by omega) (by omega)).mono ?_
  rintro r w2 ⟨x, rfl, x0, x1, x2, r2, g2⟩
  clear x1 x2
  have o2 := o1.ran g2 hlt
  have G2 := g1.trans g2
  clear o1 g1 g2 r1
  rcases (show x = 0 ∨ x = 1 ∨ x = 2 ∨ 3 ≤ x by omega) with rfl | rfl | rfl | hx
  · go_wp2_with fail
    refine (pick_any R (N + 31 + 1) 4 _ r2 (by omega) (by omega)).mono ?_
    rintro r w3 ⟨y, rfl, y0, y1, y2, r3, g3⟩
    clear y1 y2
    go_wp2_with fail
    refine (l71AnyPay_any R _ _ r3 (by omega)).mono ?_
    rintro r w4 ⟨f, t, s, rfl, r4, g4⟩
    have G4 := (G2.trans g3).trans g4
    have o4 := o2.ran (g3.trans g4) hlt
    have hsz : w.heap.size ≤ w4.heap.size := G4.size
    have hbl : ∀ k, _ = some k → w.heap.size ≤ k := fun k hk => (o4.block k hk).1
    go_wp2_with (first | (at_builtin; refine wpList_items rfl _ _ rfl w.heap.size _ l rfl (o4.grew ((Grew.refl _).alloc _)) ⟨w4.heap.size, 0, none⟩ 1 [⟨y, f, t, s⟩] 1 rfl rfl (its_one _ _ _) (by simp; omega) (by simp; omega) ?_))
    intro v' w5 o5 g5
    have r5 := (r4.grew ((Grew.refl _).alloc _)).grown g5 (fun k hk => by have := hbl k hk; omega)
    have G5 := (G4.grew ((Grew.refl _).alloc _)).grown g5 hbl
    clear o4 o2 g5 hbl
    go_wp2
    go_ret
    exact ⟨v', _, rfl, o5, by simp; omega, r5.more (by omega), G5⟩
  · obtain ⟨b, cap, rfl, hcap, hg1, hg2, hits⟩ := o2.shape
    by_cases hl0 : 0 < l.length
    · clear hits
      have HO := hide o2
      go_wp2_with fail
      refine (pick_any R (N + 31 + 1) l.length _ r2 (by omega) (by omega)).mono ?_
      rintro r w3 ⟨y, rfl, y0, y1, y2, r3, g3⟩
      have y3 := y1 (by omega)
      clear y1 y2
      have o3 := o2.ran g3 hlt
      go_wp2_with fail
      refine (pick_any R _ 3 _ (r3.grew ((Grew.refl _).alloc _)) (by omega) (by omega)).mono ?_
      rintro r w4 ⟨z, rfl, z0, z1, z2, r4, g4⟩
      have z3 := z1 (by omega)
      clear z1 z2
      have hn3 : w3.heap.size ≠ R := by have := r3.lt; omega
      have s0 := g4.cell (p := ⟨w3.heap.size, 0, none⟩) (v := .int .i64 0) hn3 (by simp [go_sem])
      have s1 := g4.cell (p := ⟨w3.heap.size, 1, none⟩) (v := .int .i64 30) hn3 (by simp [go_sem])
      have s2 := g4.cell (p := ⟨w3.heap.size, 2, none⟩) (v := .int .i64 31) hn3 (by simp [go_sem])
      have o4 := (o3.grew ((Grew.refl _).alloc _)).ran g4 hlt
      have G4 := ((G2.trans g3).grew ((Grew.refl _).alloc _)).trans g4
      obtain ⟨k, rfl⟩ := Int.eq_ofNat_of_zero_le y0
      obtain ⟨⟨q, hq⟩, hfz⟩ := o4.cells (j := k * 4) (by omega)
      have HO4 := hide o4
      clear o2 o3 o4 g3 g4 G2
      have hR : R < b := by omega
      rcases (show z = 0 ∨ z = 1 ∨ z = 2 by omega) with rfl | rfl | rfl
      all_goals
        go_wp2
        go_ret
        obtain ⟨l', hl', o'⟩ := OwnL.set (unhide HO4) (k * 4) _
        refine ⟨_, l', rfl, ?_, ?_, ?_, ?_⟩
        · exact o'
        · omega
        · exact (r4.setCell (p := ⟨b, k * 4, none⟩) hR _).more (by omega)
        · exact G4.setCell (.inr hg1) _
    · have h0 : decide (0 < l.length) = false := decide_eq_false hl0
      have HO := hide o2
      have HL := hide hl
      clear hits o2
      go_wp2
      go_ret
      exact ⟨_, l, rfl, unhide HO, Nat.le_succ_of_le (unhide HL), r2.more (by omega), G2⟩
  · obtain ⟨b, cap, rfl, hcap, hg1, hg2, hits⟩ := o2.shape
    by_cases hl0 : 0 < l.length
    · clear hits
      go_wp2_with fail
      refine (pick_any R (N + 31 + 1) l.length _ r2 (by omega) (by omega)).mono ?_
      rintro r w3 ⟨y, rfl, y0, y1, y2, r3, g3⟩
      have y3 := y1 (by omega)
      clear y1 y2
      go_wp2_with fail
      refine (l71AnyPay_any R _ _ r3 (by omega)).mono ?_
      rintro r w4 ⟨f, t, s, rfl, r4, g4⟩
      have o4 := o2.ran (g3.trans g4) hlt
      have G4 := (G2.trans g3).trans g4
      obtain ⟨k, rfl⟩ := Int.eq_ofNat_of_zero_le y0
      obtain ⟨⟨q1, hq1⟩, hf1⟩ := o4.cells (j := k * 4 + 1) (by omega)
      obtain ⟨⟨q2, hq2⟩, hf2⟩ := o4.cells (j := k * 4 + 2) (by omega)
      obtain ⟨⟨q3, hq3⟩, hf3⟩ := o4.cells (j := k * 4 + 3) (by omega)
      have HO4 := hide o4
      clear o2 o4 g3 g4 G2
      have hR : R < b := by omega
      go_wp2
      go_ret
      obtain ⟨l1, hl1, o'⟩ := OwnL.set (unhide HO4) (k * 4 + 1) f
      rw [← hl1] at o'
      obtain ⟨l2, hl2, o2'⟩ := OwnL.set o' (k * 4 + 2) t
      rw [← hl2] at o2'
      obtain ⟨l3, hl3, o3'⟩ := OwnL.set o2' (k * 4 + 3) s
      rw [hl2, hl1] at o3'
      refine ⟨_, l3, rfl, ?_, ?_, ?_, ?_⟩
      · exact o3'
      · omega
      · exact (((r4.setCell (p := ⟨b, k * 4 + 1, none⟩) hR _).setCell (p := ⟨b, k * 4 + 2, none⟩) hR _).setCell (p := ⟨b, k * 4 + 3, none⟩) hR _).more (by omega)
      · exact ((G4.setCell (.inr hg1) _).setCell (.inr hg1) _).setCell (.inr hg1) _
    · have h0 : decide (0 < l.length) = false := decide_eq_false hl0
      have HO := hide o2
      have HL := hide hl
      clear hits o2
      go_wp2
      go_ret
      exact ⟨_, l, rfl, unhide HO, Nat.le_succ_of_le (unhide HL), r2.more (by omega), G2⟩
  · have hx0 : (x == 0) = false := by simp; omega
    have hx1 : (x == 1) = false := by simp; omega
    have hx2 : (x == 2) = false := by simp; omega
    go_wp2
    go_ret
    exact ⟨v, l, rfl, o2, by omega, r2.more (by omega), G2⟩

set_option linter.unusedVariables false
open Go.RowKit
attribute [local simp] far_const

theorem OwnL.grown {w w' : World} {base : Nat} {v : Value} {l : List It} {row : Option Nat} (h : OwnL w base v l) (g : w.grownBy w' row) (hne : ∀ i k, v.ownBlock = some i → row = some k → i ≠ k) : OwnL w' base v l :=
  h.kept fun i _ hi hv => g.block i hi (fun e => hne i i hv e.symm rfl)

set_option maxHeartbeats 8000000 in
theorem l71Two_any (R N : Nat) (w : World) (hr : Rd w R N) (hN : N + 88 ≤ 1048576) :
    Calls Try.prog 136 #[.pointer (some ⟨R, 0, none⟩)] w fun r w' => ∃ va la vb lb, r = .returned (.tuple #[va, vb]) ∧ OwnL w' w.heap.size va la ∧ OwnL w' w.heap.size vb lb ∧ la.length ≤ 16 ∧ lb.length ≤ 16 ∧ Rd w' R (N + 88) ∧ Ran R w w' := by
  have hlt := hr.lt
  go_enter Try.func136, Try.ntmps136
  go_wp2_with fail
  refine (l71Off_any R N _ hr (by omega)).mono ?_
  rintro r w1 ⟨va, la, rfl, o1, hl1, r1, g1⟩
  go_wp2_with fail
  refine (l71Off_any R _ _ r1 (by omega)).mono ?_
  rintro r w2 ⟨vb, lb, rfl, o2, hl2, r2, g2⟩
  have h1 := g1.size
  have hlt1 : R < w1.heap.size := by omega
  have hva : ∀ k, va.ownBlock = some k → k < w1.heap.size := fun k hk => (o1.block k hk).2
  have o12 := o1.ran g2 hlt
  go_wp2_with fail
  refine (pick_any R _ 4 _ r2 (by omega) (by omega)).mono ?_
  rintro r w3 ⟨x, rfl, x0, x1, x2, r3, g3⟩
  clear x1 x2
  have o13 := o12.ran g3 hlt
  have o23 := o2.ran g3 hlt1
  have G3 := (g1.trans g2).trans g3
  have HVA := hide hva
  clear hva o1 o12 o2 r1 r2 hr
  have fin : ∀ (vb : Value) (lb : List It) (wz : World), OwnL wz w1.heap.size vb lb → lb.length ≤ 9 → OwnL wz w.heap.size va la → Rd wz R (N + 87) → Ran R w wz →
      Calls Try.prog 96 #[.pointer (some ⟨R, 0, none⟩), .int .i64 2] wz fun r w' => ∃ x : Int, r = .returned (.int .i64 x) ∧ 0 ≤ x ∧ x < 2 ∧ OwnL w' w.heap.size va la ∧ OwnL w' w.heap.size vb lb ∧ Rd w' R (N + 88) ∧ Ran R w w' := by
    intro vb lb wz ob hlb oa rz gz
    refine (pick_any R _ 2 _ rz (by omega) (by omega)).mono ?_
    rintro r wy ⟨x, rfl, x0, x1, x2, ry, gy⟩
    exact ⟨x, rfl, x0, x1 (by omega), oa.ran gy hlt, (ob.ran gy hlt1).low h1, ry, gz.trans gy⟩
  have FIN := hide fin
  clear fin
  by_cases hx : 0 < x
  · obtain ⟨g, capA, rfl, hca, hg1, hg2, hits⟩ := o13.shape
    clear hits
    go_wp2_with fail
    refine (pick_any R _ (la.length + 1) _ (r3.grew ((Grew.refl _).alloc _)) (by omega) (by omega)).mono ?_
    rintro r w4 ⟨y, rfl, y0, y1, y2, r4, g4⟩
    have y3 := y1 (by omega)
    clear y1 y2
    obtain ⟨k, rfl⟩ := Int.eq_ofNat_of_zero_le y0
    have hb4 : w1.heap.size ≤ w3.heap.size := Nat.le_trans g2.size g3.size
    have oe : OwnL w4 w1.heap.size (.slice (some ⟨w3.heap.size, 0, none⟩) 0 0) [] := (OwnL.empty hb4).ran g4 hlt1
    have oa4 := (o13.grew ((Grew.refl _).alloc _)).ran g4 hlt
    have G4 := (G3.grew ((Grew.refl _).alloc _)).trans g4
    obtain ⟨_, _, hveq, _, _, _, hits4⟩ := oa4.shape
    simp only [Value.slice.injEq, Option.some.injEq, Addr.mk.injEq, and_true, true_and] at hveq
    obtain ⟨rfl, rfl⟩ := hveq
    have hsz4 : w1.heap.size ≤ w4.heap.size := by have := oe.block _ rfl; omega
    have hkc : k ≤ capA := by omega
    go_wp2_with (first | (at_builtin; refine wpList_items rfl _ _ rfl w1.heap.size _ [] rfl oe ⟨g, 0, none⟩ capA (la.take k) k (by rw [List.length_take]; omega) rfl (hits4.take k) (by simp; omega) hsz4 ?_))
    intro v5 w5 o5 g5
    have hva5 := unhide HVA g rfl
    have own5 : ∀ i, Value.ownBlock (.slice (some ⟨w3.heap.size, 0, none⟩) 0 0) = some i → i = w3.heap.size := fun i hi => by simpa [Value.ownBlock] using hi.symm
    have r5 := r4.grown g5 (fun i hi => by have := own5 i hi; omega)
    have G5 := G4.grown g5 (fun i hi => by have := own5 i hi; omega)
    have oa5 := oa4.grown g5 (fun i j hi hj => by have := own5 j hj; have hi' : g = i := by simpa [Value.ownBlock] using hi
                                                  omega)
    have hl5 : ([] ++ la.take k).length ≤ 7 := by simp; omega
    clear oe oa4 o13 o23 g5 hits4 hb4 G4
    go_wp2_with fail
    refine (pick_any R _ 3 _ r5 (by omega) (by omega)).mono ?_
    rintro r w6 ⟨z, rfl, z0, z1, z2, r6, g6⟩
    have z3 := z1 (by omega)
    clear z1 z2
    obtain ⟨k0, rfl⟩ := Int.eq_ofNat_of_zero_le z0
    have o6 := o5.ran g6 hlt1
    have oa6 := oa5.ran g6 hlt
    have G6 := G5.trans g6
    clear o5 oa5 G5 g6 r5
    go_wp2_with fail
    go_loopw [5, 6] (fun b n wr => ∃ (v : Value) (m : List It) (k : Nat), b = v ∧ n = .int .i64 k ∧ m.length + k ≤ 9 ∧ OwnL wr w1.heap.size v m ∧ OwnL wr w.heap.size (.slice (some ⟨g, 0, none⟩) la.length capA) la ∧ Rd wr R (N + 87 - 4 * k) ∧ Ran R w wr) (fun _ n _ => (intOf n).toNat)
    case atStart => exact ⟨_, [] ++ la.take k, k0, rfl, rfl, by have := hl5; simp only [List.nil_append, List.length_take] at this ⊢; omega, o6, oa6, r6.more (by omega), G6⟩
    case round =>
      obtain ⟨v, m, k, rfl, rfl, hk, ho, hoa, hrd, hran⟩ := hrel
      obtain ⟨gb, capB, rfl, hcb, hb1, hb2, hitb⟩ := ho.shape
      by_cases hk0 : 0 < k
      · by_cases hm0 : 0 < m.length
        · obtain ⟨c0, _⟩ := ho.cells (j := (m.length - 1) * 4) (by omega)
          obtain ⟨q, c0⟩ := c0
          clear hitb
          go_wp2_with fail
          refine (pick_any R _ 2 _ hrd (by omega) (by omega)).mono ?_
          rintro r w7 ⟨u, rfl, u0, u1, u2, r7, g7⟩
          have u3 := u1 (by omega)
          clear u1 u2
          go_wp2_with fail
          refine (l71Pay_any R _ _ r7 (by omega)).mono ?_
          rintro r w8 ⟨f, t, s, rfl, r8, g8⟩
          have g78 := g7.trans g8
          have o8 := ho.ran g78 hlt1
          have oa8 := hoa.ran g78 hlt
          have hsz : w1.heap.size ≤ w8.heap.size := by have := (o8.block _ rfl); omega
          go_wp2_with (first | (at_builtin; refine wpList_items rfl _ _ rfl w1.heap.size _ m rfl (o8.grew ((Grew.refl _).alloc _)) ⟨w8.heap.size, 0, none⟩ 1 [⟨wrap64 (wrap64 (q + 1) + u), f, t, s⟩] 1 rfl rfl (its_one _ _ _) (by simp; omega) (by simp; omega) ?_))
          intro v' w9 o9 g9
          have hbl : ∀ i, _ = some i → w1.heap.size ≤ i := fun i hi => (o8.block i hi).1
          have r9 := (r8.grew ((Grew.refl _).alloc _)).grown g9 (fun i hi => by have := hbl i hi; omega)
          have G9 := ((hran.trans g78).grew ((Grew.refl _).alloc _)).grown g9 (fun i hi => by have := hbl i hi; omega)
          have oa9 := (oa8.grew ((Grew.refl _).alloc _)).grown g9 (fun i j hi hj => by have := unhide HVA i hi; have := hbl j hj; omega)
          clear o8 oa8 ho hoa g9 hbl
          go_wp2
          go_roundw
          case rel => exact ⟨v', _, k - 1, rfl, by go_num, by simp; omega, o9, oa9, r9.more (by omega), G9⟩
          case measure => simp [intOf]; omega
        · have hm1 : decide (0 < m.length) = false := decide_eq_false hm0
          have HK := hide hk
          clear hitb
          go_wp2_with fail
          have hk := unhide HK
          refine (pick_any R _ 2 _ hrd (by omega) (by omega)).mono ?_
          rintro r w7 ⟨u, rfl, u0, u1, u2, r7, g7⟩
          have u3 := u1 (by omega)
          clear u1 u2
          go_wp2_with fail
          refine (l71Pay_any R _ _ r7 (by omega)).mono ?_
          rintro r w8 ⟨f, t, s, rfl, r8, g8⟩
          have g78 := g7.trans g8
          have o8 := ho.ran g78 hlt1
          have oa8 := hoa.ran g78 hlt
          have hsz : w1.heap.size ≤ w8.heap.size := by have := (o8.block _ rfl); omega
          go_wp2_with (first | (at_builtin; refine wpList_items rfl _ _ rfl w1.heap.size _ m rfl (o8.grew ((Grew.refl _).alloc _)) ⟨w8.heap.size, 0, none⟩ 1 [⟨1 + u, f, t, s⟩] 1 rfl rfl (its_one _ _ _) (by simp; omega) (by simp; omega) ?_))
          intro v' w9 o9 g9
          have hbl : ∀ i, _ = some i → w1.heap.size ≤ i := fun i hi => (o8.block i hi).1
          have r9 := (r8.grew ((Grew.refl _).alloc _)).grown g9 (fun i hi => by have := hbl i hi; omega)
          have G9 := ((hran.trans g78).grew ((Grew.refl _).alloc _)).grown g9 (fun i hi => by have := hbl i hi; omega)
          have oa9 := (oa8.grew ((Grew.refl _).alloc _)).grown g9 (fun i j hi hj => by have := unhide HVA i hi; have := hbl j hj; omega)
          clear o8 oa8 ho hoa g9 hbl
          go_wp2
          go_roundw
          case rel => exact ⟨v', _, k - 1, rfl, by go_num, by simp; omega, o9, oa9, r9.more (by omega), G9⟩
          case measure => simp [intOf]; omega
      · have hk1 : k = 0 := by omega
        subst hk1
        clear hitb
        go_wp2_with fail
        refine (unhide FIN _ m _ ho (by omega) hoa (hrd.more (by omega)) hran).mono ?_
        rintro r w7 ⟨y, rfl, y0, y1, oa, ob, r7, G7⟩
        rcases (show y = 0 ∨ y = 1 by omega) with rfl | rfl
        · go_wp2
          go_ret2
          exact ⟨_, m, _, la, rfl, ob, oa, by omega, by omega, r7, G7⟩
        · go_wp2
          go_ret2
          exact ⟨_, la, _, m, rfl, oa, ob, by omega, by omega, r7, G7⟩
  · have hx' : decide (0 < x) = false := by simp; omega
    go_wp2_with fail
    refine (unhide FIN vb lb _ o23 (by omega) o13 (r3.more (by omega)) G3).mono ?_
    rintro r w4 ⟨y, rfl, y0, y1, oa, ob, r4, G4⟩
    rcases (show y = 0 ∨ y = 1 by omega) with rfl | rfl
    · go_wp2
      go_ret2
      exact ⟨vb, lb, va, la, rfl, ob, oa, by omega, by omega, r4, G4⟩
    · go_wp2
      go_ret2
      exact ⟨va, la, vb, lb, rfl, oa, ob, by omega, by omega, r4, G4⟩

set_option linter.unusedVariables false
open Go.RowKit
attribute [local simp] far_const

end Go.Proofs.Ytjbnohepbmejkaa
