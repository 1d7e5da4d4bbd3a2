/-
  The reader of a drawn code: what a draw leaves, and what 'pick' answers: a number in its range.
-/
import Derived.Test.YtjbnohepbmejkaaConv
namespace Go.Proofs.Ytjbnohepbmejkaa
set_option linter.unusedVariables false
open Go.RowKit
attribute [local simp] far_const

/-- All that was there but block R is as it was. -/
structure Ran (R : Nat) (w w' : World) : Prop where
  os : w'.os = w.os
  tape : w'.tape = w.tape
  output : w'.output = w.output
  size : w.heap.size ≤ w'.heap.size
  keep : ∀ b, b < w.heap.size → b ≠ R → w'.heap[b]? = w.heap[b]?
theorem Ran.refl (R : Nat) (w : World) : Ran R w w := ⟨rfl, rfl, rfl, Nat.le_refl _, fun _ _ _ => rfl⟩
theorem Ran.trans {R : Nat} {a b c : World} (h : Ran R a b) (k : Ran R b c) : Ran R a c :=
  ⟨k.os.trans h.os, k.tape.trans h.tape, k.output.trans h.output, Nat.le_trans h.size k.size, fun i hi hn => (k.keep i (Nat.lt_of_lt_of_le hi h.size) hn).trans (h.keep i hi hn)⟩
theorem Ran.grew {R : Nat} {a b c : World} (h : Ran R a b) (k : Grew b c) : Ran R a c :=
  h.trans ⟨k.below.os, k.below.tape, k.below.output, k.size, fun i hi _ => k.below.block i hi⟩
theorem Ran.setCell {R : Nat} {a b : World} (h : Ran R a b) {p : Addr} (hp : p.block = R ∨ a.heap.size ≤ p.block) (v : Value) : Ran R a (b.setCell p v) :=
  ⟨h.os, h.tape, h.output, by simpa [World.setCell] using h.size, fun i hi hn => by rw [Below.heap_setCell _ _ _ _ (by omega)]; exact h.keep i hi hn⟩
theorem Ran.grown {R : Nat} {a b c : World} {row : Option Nat} (h : Ran R a b) (hg : b.grownBy c row) (hr : ∀ k, row = some k → a.heap.size ≤ k) : Ran R a c :=
  ⟨hg.os.trans h.os, hg.tape.trans h.tape, hg.output.trans h.output, Nat.le_trans h.size hg.size, fun i hi hn => (hg.block i (Nat.lt_of_lt_of_le hi h.size) (fun e => by have := hr i e.symm; omega)).trans (h.keep i hi hn)⟩
/-- Seen from a world that had not block R yet, nothing has turned. -/
theorem Ran.from {R : Nat} {a b c : World} (h : Ran R b c) (g : Grew a b) (hR : a.heap.size ≤ R) : Grew a c :=
  .of_below ⟨h.os.trans g.below.os, h.tape.trans g.below.tape, h.output.trans g.below.output, Nat.le_trans g.size h.size, fun i hi => (h.keep i (Nat.lt_of_lt_of_le hi g.size) (by omega)).trans (g.below.block i hi)⟩
theorem Ran.cell {R : Nat} {a b : World} (h : Ran R a b) {p : Addr} {v : Value} (hn : p.block ≠ R) (hv : a.cell? p = some v) : b.cell? p = some v := by
  rw [World.cell?_of_block (w := a) (h.keep p.block (World.block_lt_of_cell? a p hv) hn)]; exact hv
theorem Ran.its {R : Nat} {w w' : World} {a : Option Addr} {l : List It} (h : Its w a l) (g : Ran R w w') (hR : ∀ x, a = some x → x.block ≠ R) : Its w' a l := by
  rcases h with h | ⟨b, off, ha, h⟩
  · exact .inl h
  · have hb := hR _ ha
    exact .inr ⟨b, off, ha, fun i hi => ⟨g.cell hb (h i hi).1, g.cell hb (h i hi).2.1, g.cell hb (h i hi).2.2.1, g.cell hb (h i hi).2.2.2⟩⟩

/-- The code's bytes. -/
def Byt (w : World) (a : Option Addr) (R n : Nat) : Prop := n = 0 ∨ ∃ b off, a = some ⟨b, off, none⟩ ∧ b < R ∧ ∀ i, i < n → ∃ z : Int, 0 ≤ z ∧ z ≤ 255 ∧ w.cell? ⟨b, off + i, none⟩ = some (.int .u8 z)
/-- A reader in block R that has read at most N times. -/
def Rd (w : World) (R N : Nat) : Prop := ∃ (a : Option Addr) (n cap : Nat) (p : Int), w.cell? ⟨R, 0, none⟩ = some (.slice a n cap) ∧ w.cell? ⟨R, 1, none⟩ = some (.int .i64 p) ∧ w.frozen? ⟨R, 1, none⟩ = false ∧ 0 ≤ p ∧ p ≤ N ∧ n ≤ 2000 ∧ Byt w a R n
theorem Byt.ran {w w' : World} {a : Option Addr} {R n : Nat} (h : Byt w a R n) (g : Ran R w w') : Byt w' a R n := by
  rcases h with h | ⟨b, off, ha, hb, h⟩
  · exact .inl h
  · exact .inr ⟨b, off, ha, hb, fun i hi => by obtain ⟨z, h1, h2, h3⟩ := h i hi; exact ⟨z, h1, h2, g.cell (by show b ≠ R; omega) h3⟩⟩
theorem Rd.lt {w : World} {R N : Nat} (h : Rd w R N) : R < w.heap.size := by
  obtain ⟨a, n, cap, p, h0, _⟩ := h; exact World.block_lt_of_cell? w _ h0
/-- A reader that nobody has touched. -/
theorem Rd.kept {w w' : World} {R N : Nat} (h : Rd w R N) (g : Ran R w w') (e : w'.heap[R]? = w.heap[R]?) : Rd w' R N := by
  obtain ⟨a, n, cap, p, h0, h1, h2, h3, h4, h5, h6⟩ := h
  refine ⟨a, n, cap, p, ?_, ?_, ?_, h3, h4, h5, h6.ran g⟩
  · rw [World.cell?_of_block (w := w) e]; exact h0
  · rw [World.cell?_of_block (w := w) e]; exact h1
  · rw [World.frozen?_of_block (w := w) e]; exact h2
theorem Rd.grew {w w' : World} {R N : Nat} (h : Rd w R N) (g : Grew w w') : Rd w' R N := h.kept ((Ran.refl R w).grew g) (g.below.block R h.lt)
theorem Rd.setCell {w : World} {R N : Nat} (h : Rd w R N) {p : Addr} (hp : R < p.block) (v : Value) : Rd (w.setCell p v) R N := by
  obtain ⟨a, n, cap, q, h0, h1, h2, h3, h4, h5, h6⟩ := h
  have e : ∀ b, b ≤ R → (w.setCell p v).heap[b]? = w.heap[b]? := fun b hb => Below.heap_setCell _ _ _ _ (by omega)
  refine ⟨a, n, cap, q, ?_, ?_, ?_, h3, h4, h5, ?_⟩
  · rw [World.cell?_of_block (w := w) (e R (Nat.le_refl _))]; exact h0
  · rw [World.cell?_of_block (w := w) (e R (Nat.le_refl _))]; exact h1
  · rw [World.frozen?_of_block (w := w) (e R (Nat.le_refl _))]; exact h2
  · rcases h6 with h | ⟨b, off, ha, hb, h⟩
    · exact .inl h
    · exact .inr ⟨b, off, ha, hb, fun i hi => by obtain ⟨z, h1, h2, h3⟩ := h i hi; exact ⟨z, h1, h2, by rw [World.cell?_of_block (w := w) (e b (by omega))]; exact h3⟩⟩
theorem Rd.more {w : World} {R N M : Nat} (h : Rd w R N) (hm : N ≤ M) : Rd w R M := by
  obtain ⟨a, n, cap, q, h0, h1, h2, h3, h4, h5⟩ := h
  exact ⟨a, n, cap, q, h0, h1, h2, h3, by omega, h5⟩

theorem Rd.step {w : World} {R N : Nat} {a : Option Addr} {n cap : Nat} {p : Int} (h0 : w.cell? ⟨R, 0, none⟩ = some (.slice a n cap)) (h1 : w.cell? ⟨R, 1, none⟩ = some (.int .i64 p)) (h2 : w.frozen? ⟨R, 1, none⟩ = false)
    (h3 : 0 ≤ p) (h4 : p ≤ N) (h5 : n ≤ 2000) (h6 : Byt w a R n) : Rd (w.setCell ⟨R, 1, none⟩ (.int .i64 (p + 1))) R (N + 1) ∧ Ran R w (w.setCell ⟨R, 1, none⟩ (.int .i64 (p + 1))) := by
  have g : Ran R w (w.setCell ⟨R, 1, none⟩ (.int .i64 (p + 1))) := (Ran.refl R w).setCell (.inl rfl) _
  refine ⟨⟨a, n, cap, p + 1, ?_, World.cell?_setCell_same _ _ _ h1, ?_, by omega, by omega, h5, h6.ran g⟩, g⟩
  · rw [World.cell?_setCell_other _ _ _ _ (by intro c; injection c with _ c _; cases c)]; exact h0
  · rw [World.frozen?_setCell]; exact h2

theorem xor_low (a b : Int) (h1 : 0 ≤ a) (h2 : a < 4611686018427387904) (h3 : 0 ≤ b) (h4 : b < 4611686018427387904) : 0 ≤ bits .xor .i64 a b := by
  obtain ⟨A, rfl⟩ := Int.eq_ofNat_of_zero_le h1
  obtain ⟨B, rfl⟩ := Int.eq_ofNat_of_zero_le h3
  have hx : A ^^^ B < 2 ^ 62 := Nat.xor_lt_two_pow (by omega) (by omega)
  show 0 ≤ IntKind.i64.wrap ((BitVec.ofInt 64 (A : Int) ^^^ BitVec.ofInt 64 (B : Int)).toNat : Int)
  rw [BitVec.toNat_xor, ofInt_u64 A (by omega), ofInt_u64 B (by omega), IntKind.wrap_i64]
  omega

set_option maxHeartbeats 1000000 in
theorem pick_any (R N : Nat) (n : Int) (w : World) (hr : Rd w R N) (hN : N ≤ 1048576) (hn : n ≤ 1048576) :
    Calls Try.prog 96 #[.pointer (some ⟨R, 0, none⟩), .int .i64 n] w fun r w' => ∃ x : Int, r = .returned (.int .i64 x) ∧ 0 ≤ x ∧ (1 ≤ n → x < n) ∧ (x = 0 ∨ x < n) ∧ Rd w' R (N + 1) ∧ Ran R w w' := by
  obtain ⟨a, len, cap, p, h0, h1, h2, h3, h4, h5, h6⟩ := hr
  obtain ⟨hrd, hran⟩ := Rd.step h0 h1 h2 h3 h4 h5 h6
  have HD := hide (And.intro hrd hran)
  clear hrd hran
  by_cases hn1 : n < 1
  · go_enter Try.func96, Try.ntmps96
    go_wp2
    go_ret
    exact ⟨0, rfl, by omega, by omega, .inl rfl, (unhide HD).1, (unhide HD).2⟩
  · have hn2 : decide (n < 1) = false := by simpa using hn1
    by_cases hl0 : len = 0
    · subst hl0
      go_enter Try.func96, Try.ntmps96
      go_wp2
      go_ret
      exact ⟨0, rfl, by omega, by omega, .inl rfl, (unhide HD).1, (unhide HD).2⟩
    · have hl1 : ((len : Int) == 0) = false := by simpa using hl0
      rcases h6 with h6 | ⟨b, off, rfl, hb, hz⟩
      · exact absurd h6 hl0
      · by_cases hpl : p < len
        · obtain ⟨z, z0, z1, hc⟩ := hz p.toNat (by omega)
          have hc2 : (w.setCell ⟨R, 1, none⟩ (.int .i64 (p + 1))).cell? ⟨b, off + p.toNat, none⟩ = some (.int .u8 z) := by
            rw [World.cell?_setCell_other _ _ _ _ (by intro c; injection c with c _ _; omega)]; exact hc
          have HZ := hide hz
          clear hz
          go_enter Try.func96, Try.ntmps96
          go_wp2
          have hx0 := Int.emod_nonneg z (show n ≠ 0 by omega)
          have hx1 := Int.emod_lt_of_pos z (show 0 < n by omega)
          go_ret
          exact ⟨z % n, rfl, hx0, hx1, .inr hx1, (unhide HD).1, (unhide HD).2⟩
        · have hpl' : (len : Int) ≤ p := by omega
          obtain ⟨y, y0, y1, hcy⟩ := hz (p % len).toNat (by have := Int.emod_lt_of_pos p (show (0 : Int) < len by omega); have := Int.emod_nonneg p (show (len : Int) ≠ 0 by omega); omega)
          obtain ⟨z, z0, z1, hcz⟩ := hz ((p * 7 + 3) % len).toNat (by have := Int.emod_lt_of_pos (p * 7 + 3) (show (0 : Int) < len by omega); have := Int.emod_nonneg (p * 7 + 3) (show (len : Int) ≠ 0 by omega); omega)
          have hq0 := Int.emod_nonneg p (show (len : Int) ≠ 0 by omega)
          have hq1 := Int.emod_lt_of_pos p (show (0 : Int) < len by omega)
          have hs0 := Int.emod_nonneg (p * 7 + 3) (show (len : Int) ≠ 0 by omega)
          have hs1 := Int.emod_lt_of_pos (p * 7 + 3) (show (0 : Int) < len by omega)
          have hcy2 := Grew.gcell (show (w.setCell ⟨R, 1, none⟩ (.int .i64 (p + 1))).cell? ⟨b, off + (p % len).toNat, none⟩ = some (.int .u8 y) by
            rw [World.cell?_setCell_other _ _ _ _ (by intro c; injection c with c _ _; omega)]; exact hcy)
          have hcz2 := Grew.gcell (show (w.setCell ⟨R, 1, none⟩ (.int .i64 (p + 1))).cell? ⟨b, off + ((p * 7 + 3) % len).toNat, none⟩ = some (.int .u8 z) by
            rw [World.cell?_setCell_other _ _ _ _ (by intro c; injection c with c _ _; omega)]; exact hcz)
          have hr0 := Grew.gcell (show (w.setCell ⟨R, 1, none⟩ (.int .i64 (p + 1))).cell? ⟨R, 0, none⟩ = some (.slice (some ⟨b, off, none⟩) len cap) by
            rw [World.cell?_setCell_other _ _ _ _ (by intro c; injection c with _ c _; cases c)]; exact h0)
          have hd0 : 0 ≤ p / (len : Int) := Int.ediv_nonneg h3 (by omega)
          have hd1 : p / (len : Int) ≤ 1048576 := Int.le_trans (Int.ediv_le_self _ h3) (by omega)
          have HZ := hide hz
          clear hz
          go_enter Try.func96, Try.ntmps96
          go_wp2_with fail
          refine quietly (by kernel_rfl) (by kernel_rfl) ?_
          repeat (go_big_quiet_step (first | fail))
          refine wpQuiet_nil ?_
          intro _ hw'
          obtain ⟨⟨nq, osq⟩, hw''⟩ := hw'
          subst hw''
          obtain ⟨X, hX⟩ : ∃ X, X = y * 131 + z * 1117 + p * 29 + p / (len : Int) * 53 := ⟨_, rfl⟩
          rw [← hX]
          have hX0 : 0 ≤ X := by omega
          have hX1 : X ≤ 100000000 := by omega
          clear hX
          have hY := hide (xor_low X (X / 64) hX0 (by omega) (by omega) (by omega))
          go_wp2
          have hx0 := Int.tmod_nonneg n (unhide hY)
          have hx1 := Int.tmod_lt_of_pos (bits .xor .i64 X (X / 64)) (show 0 < n by omega)
          go_ret
          exact ⟨_, rfl, hx0, fun _ => hx1, .inr hx1, (unhide HD).1.grew ⟨_, _, rfl⟩, (unhide HD).2.grew ⟨_, _, rfl⟩⟩
end Go.Proofs.Ytjbnohepbmejkaa
