/-
  The draws of a vote, and of votes and one more.
-/
import Derived.Test.YtibhfiamibccnaaVDraw3
namespace Go.Proofs.Ytibhfiamibccnaa
set_option linter.unusedVariables false
open Go.RowKit
attribute [local simp] far_const

theorem Byt.alloc {w : World} {a : Option Addr} {n : Nat} (hb : Byt w a w.heap.size n) (o : Obj) : Byt (w.alloc o) a (w.alloc o).heap.size n := by
  rcases hb with h | ⟨b, off, ha, hb, h⟩
  · exact .inl h
  · exact .inr ⟨b, off, ha, by simp; omega, fun i hi => by obtain ⟨z, h1, h2, h3⟩ := h i hi; exact ⟨z, h1, h2, ((Grew.refl w).alloc _).keep h3⟩⟩

set_option maxHeartbeats 4000000 in
theorem drawVoteOk_any (a : Option Addr) (n cap : Nat) (w : World) (hb : Byt w a w.heap.size n) (hc : n ≤ cap) (hn : n ≤ 1048576) :
    Calls Try.prog 14 #[.slice a n cap] w fun r w' => ∃ (x : Vt) (ax : Option Addr) (cx : Nat), r = .returned (.agg #[.int .i64 x.n, .slice ax x.c.length cx]) ∧ Its w' ax x.c ∧ x.c.length ≤ 7 ∧ Grew w w' := by
  have HB := hide (hb.alloc (.cells #[.int .i64 0, .slice none 0 0] 32))
  clear hb
  go_enter Try.func14, Try.ntmps14
  go_wp2_with fail
  refine (open_any a n cap _ (unhide HB) hc hn).mono ?_
  rintro r w1 ⟨rfl, r1, g1⟩
  have A := (Two.made w (.int .i64 0) (.slice none 0 0) 32 rfl rfl).grew g1
  simp only [World.size_alloc] at r1 ⊢
  have G1 := hide (((Grew.refl w).alloc _).trans g1)
  have s1 := r1.lt
  clear g1
  have hne : w.heap.size ≠ w.heap.size + 1 := by omega
  go_wp2_with fail
  refine (l71Vote_any (w.heap.size + 1) 0 _ r1 (by omega)).mono ?_
  rintro r w3 ⟨x, ax, cx, rfl, ix, hx, fx, r3, g3⟩
  have A := A.ran g3 hne
  have G3 := hide (g3.from (unhide G1) (by omega))
  have IX := hide (And.intro ix fx)
  obtain ⟨a0, a1, z0, z1⟩ := A
  clear g3 ix fx
  go_wp2
  refine bodyPost_ret (by simp [results, Try.results14, go_sem, a0, a1]; try rfl) rfl ?_
  refine ⟨x, ax, cx, rfl, ?_, hx, ((unhide G3).setCell (p := ⟨w.heap.size, 0, none⟩) (Nat.le_refl _) _).setCell (p := ⟨w.heap.size, 1, none⟩) (Nat.le_refl _) _⟩
  exact (unhide IX).1.block' (fun y hy => by have := (unhide IX).2 y hy; rw [Below.heap_setCell _ _ _ _ (by show y.block ≠ w.heap.size; omega), Below.heap_setCell _ _ _ _ (by show y.block ≠ w.heap.size; omega)])

end Go.Proofs.Ytibhfiamibccnaa
