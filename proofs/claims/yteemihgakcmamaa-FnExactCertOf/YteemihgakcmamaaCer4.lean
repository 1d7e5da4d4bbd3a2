/-
  The three of a cert, as an array.
-/
import Derived.Test.YteemihgakcmamaaCer3
namespace Go.Proofs.Yteemihgakcmamaa
set_option linter.unusedVariables false
open Go.RowKit
attribute [local simp] far_const
/-- Six cells, the first 2 * k of which are set. -/
def Tri (w : World) (T k : Nat) (x0 x1 x2 x3 x4 x5 : Value) : Prop := w.cell? ⟨T, 0, none⟩ = some (if 0 < k then x0 else .slice none 0 0) ∧ w.cell? ⟨T, 1, none⟩ = some (if 0 < k then x1 else .slice none 0 0) ∧ w.cell? ⟨T, 2, none⟩ = some (if 1 < k then x2 else .slice none 0 0) ∧ w.cell? ⟨T, 3, none⟩ = some (if 1 < k then x3 else .slice none 0 0) ∧ w.cell? ⟨T, 4, none⟩ = some (if 2 < k then x4 else .slice none 0 0) ∧ w.cell? ⟨T, 5, none⟩ = some (if 2 < k then x5 else .slice none 0 0)
theorem Tri.block {w w' : World} {T k : Nat} {x0 x1 x2 x3 x4 x5 : Value} (h : Tri w T k x0 x1 x2 x3 x4 x5) (e : w'.heap[T]? = w.heap[T]?) : Tri w' T k x0 x1 x2 x3 x4 x5 := by
  obtain ⟨h0, h1, h2, h3, h4, h5⟩ := h
  refine ⟨?_, ?_, ?_, ?_, ?_, ?_⟩
  · rw [World.cell?_of_block (w := w) e]; exact h0
  · rw [World.cell?_of_block (w := w) e]; exact h1
  · rw [World.cell?_of_block (w := w) e]; exact h2
  · rw [World.cell?_of_block (w := w) e]; exact h3
  · rw [World.cell?_of_block (w := w) e]; exact h4
  · rw [World.cell?_of_block (w := w) e]; exact h5

set_option maxRecDepth 20000 in
set_option maxHeartbeats 800000 in
theorem ballotsOf_any (a : Option Addr) (m cap : Nat) (b : Nat) (off capb : Nat) (s0 s1 s2 : Option Addr) (n0 n1 n2 k0 k1 k2 : Nat) (w : World) (hm : m + 3 ≤ cap) (hn : m + 3 ≤ 1048576)
    (h0 : w.cell? ⟨b, off, none⟩ = some (.slice s0 n0 k0)) (h1 : w.cell? ⟨b, off + 1, none⟩ = some (.slice s1 n1 k1)) (h2 : w.cell? ⟨b, off + 2, none⟩ = some (.slice s2 n2 k2)) :
    Calls Try.prog 73 #[.agg #[.slice a (m + 3) cap, .slice (some ⟨b, off, none⟩) 3 capb]] w fun r w' => r = .returned (.agg #[.slice a (m + 1) cap, .slice s0 n0 k0, .slice a (m + 2) cap, .slice s1 n1 k1, .slice a (m + 3) cap, .slice s2 n2 k2]) ∧ Grew w w' := by
  have i0 : ∀ W : World, (Instr.index 112 (.agg #[.slice a (m + 1) cap, .slice a (m + 2) cap, .slice a (m + 3) cap]) (.int .i64 0)).run Try.prog W = .ok (.slice a (m + 1) cap) W := fun _ => by kernel_rfl
  have i1 : ∀ W : World, (Instr.index 112 (.agg #[.slice a (m + 1) cap, .slice a (m + 2) cap, .slice a (m + 3) cap]) (.int .i64 1)).run Try.prog W = .ok (.slice a (m + 2) cap) W := fun _ => by kernel_rfl
  have i2 : ∀ W : World, (Instr.index 112 (.agg #[.slice a (m + 1) cap, .slice a (m + 2) cap, .slice a (m + 3) cap]) (.int .i64 2)).run Try.prog W = .ok (.slice a (m + 3) cap) W := fun _ => by kernel_rfl
  go_enter Try.func73, Try.ntmps73
  go_wp2_with fail
  refine (lastChains_any a m cap _ hm hn).mono ?_
  rintro r w1 ⟨rfl, g1⟩
  have G1 := ((((Grew.refl w).alloc (.cells #[.slice a (m + 3) cap, .slice (some ⟨b, off, none⟩) 3 capb] 31)).alloc (.cells #[.slice none 0 0, .slice none 0 0, .slice none 0 0, .slice none 0 0, .slice none 0 0, .slice none 0 0] 91)).alloc (.cells #[.slice none 0 0, .slice none 0 0, .slice none 0 0, .slice none 0 0, .slice none 0 0, .slice none 0 0] 91)).trans g1
  have p1 := g1.keep (p := ⟨w.heap.size, 1, none⟩) (v := .slice (some ⟨b, off, none⟩) 3 capb) (by simp [go_sem])
  have hbl : b < w.heap.size := World.block_lt_of_cell? _ _ h0
  have t0 := g1.keep (p := ⟨w.heap.size + 1 + 1, 0, none⟩) (v := .slice none 0 0) (by simp [go_sem])
  have t1 := g1.keep (p := ⟨w.heap.size + 1 + 1, 1, none⟩) (v := .slice none 0 0) (by simp [go_sem])
  have t2 := g1.keep (p := ⟨w.heap.size + 1 + 1, 2, none⟩) (v := .slice none 0 0) (by simp [go_sem])
  have t3 := g1.keep (p := ⟨w.heap.size + 1 + 1, 3, none⟩) (v := .slice none 0 0) (by simp [go_sem])
  have t4 := g1.keep (p := ⟨w.heap.size + 1 + 1, 4, none⟩) (v := .slice none 0 0) (by simp [go_sem])
  have t5 := g1.keep (p := ⟨w.heap.size + 1 + 1, 5, none⟩) (v := .slice none 0 0) (by simp [go_sem])
  have zt : Hid (∀ i, w1.frozen? ⟨w.heap.size + 1 + 1, i, none⟩ = false) := hide (fun i => by
    rw [World.frozen?_of_block (g1.below.block (w.heap.size + 1 + 1) (by simp))]
    simp [go_sem])
  have r0 := g1.keep (p := ⟨w.heap.size + 1, 0, none⟩) (v := .slice none 0 0) (by simp [go_sem])
  have r1 := g1.keep (p := ⟨w.heap.size + 1, 1, none⟩) (v := .slice none 0 0) (by simp [go_sem])
  have r2 := g1.keep (p := ⟨w.heap.size + 1, 2, none⟩) (v := .slice none 0 0) (by simp [go_sem])
  have r3 := g1.keep (p := ⟨w.heap.size + 1, 3, none⟩) (v := .slice none 0 0) (by simp [go_sem])
  have r4 := g1.keep (p := ⟨w.heap.size + 1, 4, none⟩) (v := .slice none 0 0) (by simp [go_sem])
  have r5 := g1.keep (p := ⟨w.heap.size + 1, 5, none⟩) (v := .slice none 0 0) (by simp [go_sem])
  have zr : Hid (∀ i, w1.frozen? ⟨w.heap.size + 1, i, none⟩ = false) := hide (fun i => by
    rw [World.frozen?_of_block (g1.below.block (w.heap.size + 1) (by simp))]
    simp [go_sem])
  have HT : Hid (Tri w1 (w.heap.size + 1 + 1) 0 (.slice a (m + 1) cap) (.slice s0 n0 k0) (.slice a (m + 2) cap) (.slice s1 n1 k1) (.slice a (m + 3) cap) (.slice s2 n2 k2)) := hide ⟨t0, t1, t2, t3, t4, t5⟩
  have HR : Hid (Tri w1 (w.heap.size + 1) 0 (.slice a (m + 1) cap) (.slice s0 n0 k0) (.slice a (m + 2) cap) (.slice s1 n1 k1) (.slice a (m + 3) cap) (.slice s2 n2 k2)) := hide ⟨r0, r1, r2, r3, r4, r5⟩
  have GG := hide G1
  clear g1 G1 t0 t1 t2 t3 t4 t5 r0 r1 r2 r3 r4 r5
  go_wp2_with fail
  go_loopw [9] (fun i wr => ∃ k : Nat, k ≤ 3 ∧ i = .int .i64 k ∧ Hid (Tri wr (w.heap.size + 1 + 1) k (.slice a (m + 1) cap) (.slice s0 n0 k0) (.slice a (m + 2) cap) (.slice s1 n1 k1) (.slice a (m + 3) cap) (.slice s2 n2 k2)) ∧ Hid (Tri wr (w.heap.size + 1) 0 (.slice a (m + 1) cap) (.slice s0 n0 k0) (.slice a (m + 2) cap) (.slice s1 n1 k1) (.slice a (m + 3) cap) (.slice s2 n2 k2)) ∧ Hid (∀ i, wr.frozen? ⟨w.heap.size + 1 + 1, i, none⟩ = false) ∧ Hid (∀ i, wr.frozen? ⟨w.heap.size + 1, i, none⟩ = false) ∧ wr.cell? ⟨w.heap.size, 1, none⟩ = some (.slice (some ⟨b, off, none⟩) 3 capb) ∧ Hid (Grew w wr)) (fun i _ => 3 - (intOf i).toNat)
  case atStart => exact ⟨0, by omega, rfl, HT, HR, zt, zr, p1, GG⟩
  case round =>
    clear HT HR zt zr p1 GG
    obtain ⟨k, hk, rfl, ht, hr, ft, fr, p1, gg⟩ := hrel
    have e0 := (unhide gg).keep h0
    have e1 := (unhide gg).keep h1
    have e2 := (unhide gg).keep h2
    match k, hk with
    | 0, _ =>
      obtain ⟨t0, t1, t2, t3, t4, t5⟩ := unhide ht
      rw [if_neg (by decide)] at t0
      rw [if_neg (by decide)] at t1
      rw [if_neg (by decide)] at t2
      rw [if_neg (by decide)] at t3
      rw [if_neg (by decide)] at t4
      rw [if_neg (by decide)] at t5
      have f0 := unhide ft 0
      have f1 := unhide ft 1
      have oth : ∀ j, j ≠ w.heap.size + 1 + 1 → ((wr.setCell ⟨w.heap.size + 1 + 1, 0, none⟩ (.slice a (m + 1) cap)).setCell ⟨w.heap.size + 1 + 1, 1, none⟩ (.slice s0 n0 k0)).heap[j]? = wr.heap[j]? := fun j hj => by rw [Below.heap_setCell _ _ _ _ hj, Below.heap_setCell _ _ _ _ hj]
      have ht2 : Hid (Tri ((wr.setCell ⟨w.heap.size + 1 + 1, 0, none⟩ (.slice a (m + 1) cap)).setCell ⟨w.heap.size + 1 + 1, 1, none⟩ (.slice s0 n0 k0)) (w.heap.size + 1 + 1) 1 (.slice a (m + 1) cap) (.slice s0 n0 k0) (.slice a (m + 2) cap) (.slice s1 n1 k1) (.slice a (m + 3) cap) (.slice s2 n2 k2)) := hide (by
        refine ⟨?_, ?_, ?_, ?_, ?_, ?_⟩ <;> simp [go_sem, t0, t1, t2, t3, t4, t5])
      have hr2 : Hid (Tri ((wr.setCell ⟨w.heap.size + 1 + 1, 0, none⟩ (.slice a (m + 1) cap)).setCell ⟨w.heap.size + 1 + 1, 1, none⟩ (.slice s0 n0 k0)) (w.heap.size + 1) 0 (.slice a (m + 1) cap) (.slice s0 n0 k0) (.slice a (m + 2) cap) (.slice s1 n1 k1) (.slice a (m + 3) cap) (.slice s2 n2 k2)) := hide (by
        exact (unhide hr).block (oth (w.heap.size + 1) (by omega)))
      have ft2 : Hid (∀ i, ((wr.setCell ⟨w.heap.size + 1 + 1, 0, none⟩ (.slice a (m + 1) cap)).setCell ⟨w.heap.size + 1 + 1, 1, none⟩ (.slice s0 n0 k0)).frozen? ⟨w.heap.size + 1 + 1, i, none⟩ = false) := hide (fun i => by simp [go_sem, unhide ft i])
      have fr2 : Hid (∀ i, ((wr.setCell ⟨w.heap.size + 1 + 1, 0, none⟩ (.slice a (m + 1) cap)).setCell ⟨w.heap.size + 1 + 1, 1, none⟩ (.slice s0 n0 k0)).frozen? ⟨w.heap.size + 1, i, none⟩ = false) := hide (fun i => by rw [World.frozen?_of_block (w := wr) (oth (w.heap.size + 1) (by omega))]; exact unhide fr i)
      have p2 : ((wr.setCell ⟨w.heap.size + 1 + 1, 0, none⟩ (.slice a (m + 1) cap)).setCell ⟨w.heap.size + 1 + 1, 1, none⟩ (.slice s0 n0 k0)).cell? ⟨w.heap.size, 1, none⟩ = some (.slice (some ⟨b, off, none⟩) 3 capb) := by rw [World.cell?_of_block (w := wr) (oth w.heap.size (by omega))]; exact p1
      have gg2 : Hid (Grew w ((wr.setCell ⟨w.heap.size + 1 + 1, 0, none⟩ (.slice a (m + 1) cap)).setCell ⟨w.heap.size + 1 + 1, 1, none⟩ (.slice s0 n0 k0))) := hide (((unhide gg).setCell (p := ⟨w.heap.size + 1 + 1, 0, none⟩) (by dsimp only; omega) _).setCell (p := ⟨w.heap.size + 1 + 1, 1, none⟩) (by dsimp only; omega) _)
      clear oth ht hr ft fr gg
      go_wp2
      go_roundw
      case rel => exact ⟨1, by omega, by go_num, ht2, hr2, ft2, fr2, p2, gg2⟩
      case measure => simp [intOf]
    | 1, _ =>
      obtain ⟨t0, t1, t2, t3, t4, t5⟩ := unhide ht
      rw [if_pos (by decide)] at t0
      rw [if_pos (by decide)] at t1
      rw [if_neg (by decide)] at t2
      rw [if_neg (by decide)] at t3
      rw [if_neg (by decide)] at t4
      rw [if_neg (by decide)] at t5
      have f2 := unhide ft 2
      have f3 := unhide ft 3
      have oth : ∀ j, j ≠ w.heap.size + 1 + 1 → ((wr.setCell ⟨w.heap.size + 1 + 1, 2, none⟩ (.slice a (m + 2) cap)).setCell ⟨w.heap.size + 1 + 1, 3, none⟩ (.slice s1 n1 k1)).heap[j]? = wr.heap[j]? := fun j hj => by rw [Below.heap_setCell _ _ _ _ hj, Below.heap_setCell _ _ _ _ hj]
      have ht2 : Hid (Tri ((wr.setCell ⟨w.heap.size + 1 + 1, 2, none⟩ (.slice a (m + 2) cap)).setCell ⟨w.heap.size + 1 + 1, 3, none⟩ (.slice s1 n1 k1)) (w.heap.size + 1 + 1) 2 (.slice a (m + 1) cap) (.slice s0 n0 k0) (.slice a (m + 2) cap) (.slice s1 n1 k1) (.slice a (m + 3) cap) (.slice s2 n2 k2)) := hide (by
        refine ⟨?_, ?_, ?_, ?_, ?_, ?_⟩ <;> simp [go_sem, t0, t1, t2, t3, t4, t5])
      have hr2 : Hid (Tri ((wr.setCell ⟨w.heap.size + 1 + 1, 2, none⟩ (.slice a (m + 2) cap)).setCell ⟨w.heap.size + 1 + 1, 3, none⟩ (.slice s1 n1 k1)) (w.heap.size + 1) 0 (.slice a (m + 1) cap) (.slice s0 n0 k0) (.slice a (m + 2) cap) (.slice s1 n1 k1) (.slice a (m + 3) cap) (.slice s2 n2 k2)) := hide (by
        exact (unhide hr).block (oth (w.heap.size + 1) (by omega)))
      have ft2 : Hid (∀ i, ((wr.setCell ⟨w.heap.size + 1 + 1, 2, none⟩ (.slice a (m + 2) cap)).setCell ⟨w.heap.size + 1 + 1, 3, none⟩ (.slice s1 n1 k1)).frozen? ⟨w.heap.size + 1 + 1, i, none⟩ = false) := hide (fun i => by simp [go_sem, unhide ft i])
      have fr2 : Hid (∀ i, ((wr.setCell ⟨w.heap.size + 1 + 1, 2, none⟩ (.slice a (m + 2) cap)).setCell ⟨w.heap.size + 1 + 1, 3, none⟩ (.slice s1 n1 k1)).frozen? ⟨w.heap.size + 1, i, none⟩ = false) := hide (fun i => by rw [World.frozen?_of_block (w := wr) (oth (w.heap.size + 1) (by omega))]; exact unhide fr i)
      have p2 : ((wr.setCell ⟨w.heap.size + 1 + 1, 2, none⟩ (.slice a (m + 2) cap)).setCell ⟨w.heap.size + 1 + 1, 3, none⟩ (.slice s1 n1 k1)).cell? ⟨w.heap.size, 1, none⟩ = some (.slice (some ⟨b, off, none⟩) 3 capb) := by rw [World.cell?_of_block (w := wr) (oth w.heap.size (by omega))]; exact p1
      have gg2 : Hid (Grew w ((wr.setCell ⟨w.heap.size + 1 + 1, 2, none⟩ (.slice a (m + 2) cap)).setCell ⟨w.heap.size + 1 + 1, 3, none⟩ (.slice s1 n1 k1))) := hide (((unhide gg).setCell (p := ⟨w.heap.size + 1 + 1, 2, none⟩) (by dsimp only; omega) _).setCell (p := ⟨w.heap.size + 1 + 1, 3, none⟩) (by dsimp only; omega) _)
      clear oth ht hr ft fr gg
      go_wp2
      go_roundw
      case rel => exact ⟨2, by omega, by go_num, ht2, hr2, ft2, fr2, p2, gg2⟩
      case measure => simp [intOf]
    | 2, _ =>
      obtain ⟨t0, t1, t2, t3, t4, t5⟩ := unhide ht
      rw [if_pos (by decide)] at t0
      rw [if_pos (by decide)] at t1
      rw [if_pos (by decide)] at t2
      rw [if_pos (by decide)] at t3
      rw [if_neg (by decide)] at t4
      rw [if_neg (by decide)] at t5
      have f4 := unhide ft 4
      have f5 := unhide ft 5
      have oth : ∀ j, j ≠ w.heap.size + 1 + 1 → ((wr.setCell ⟨w.heap.size + 1 + 1, 4, none⟩ (.slice a (m + 3) cap)).setCell ⟨w.heap.size + 1 + 1, 5, none⟩ (.slice s2 n2 k2)).heap[j]? = wr.heap[j]? := fun j hj => by rw [Below.heap_setCell _ _ _ _ hj, Below.heap_setCell _ _ _ _ hj]
      have ht2 : Hid (Tri ((wr.setCell ⟨w.heap.size + 1 + 1, 4, none⟩ (.slice a (m + 3) cap)).setCell ⟨w.heap.size + 1 + 1, 5, none⟩ (.slice s2 n2 k2)) (w.heap.size + 1 + 1) 3 (.slice a (m + 1) cap) (.slice s0 n0 k0) (.slice a (m + 2) cap) (.slice s1 n1 k1) (.slice a (m + 3) cap) (.slice s2 n2 k2)) := hide (by
        refine ⟨?_, ?_, ?_, ?_, ?_, ?_⟩ <;> simp [go_sem, t0, t1, t2, t3, t4, t5])
      have hr2 : Hid (Tri ((wr.setCell ⟨w.heap.size + 1 + 1, 4, none⟩ (.slice a (m + 3) cap)).setCell ⟨w.heap.size + 1 + 1, 5, none⟩ (.slice s2 n2 k2)) (w.heap.size + 1) 0 (.slice a (m + 1) cap) (.slice s0 n0 k0) (.slice a (m + 2) cap) (.slice s1 n1 k1) (.slice a (m + 3) cap) (.slice s2 n2 k2)) := hide (by
        exact (unhide hr).block (oth (w.heap.size + 1) (by omega)))
      have ft2 : Hid (∀ i, ((wr.setCell ⟨w.heap.size + 1 + 1, 4, none⟩ (.slice a (m + 3) cap)).setCell ⟨w.heap.size + 1 + 1, 5, none⟩ (.slice s2 n2 k2)).frozen? ⟨w.heap.size + 1 + 1, i, none⟩ = false) := hide (fun i => by simp [go_sem, unhide ft i])
      have fr2 : Hid (∀ i, ((wr.setCell ⟨w.heap.size + 1 + 1, 4, none⟩ (.slice a (m + 3) cap)).setCell ⟨w.heap.size + 1 + 1, 5, none⟩ (.slice s2 n2 k2)).frozen? ⟨w.heap.size + 1, i, none⟩ = false) := hide (fun i => by rw [World.frozen?_of_block (w := wr) (oth (w.heap.size + 1) (by omega))]; exact unhide fr i)
      have p2 : ((wr.setCell ⟨w.heap.size + 1 + 1, 4, none⟩ (.slice a (m + 3) cap)).setCell ⟨w.heap.size + 1 + 1, 5, none⟩ (.slice s2 n2 k2)).cell? ⟨w.heap.size, 1, none⟩ = some (.slice (some ⟨b, off, none⟩) 3 capb) := by rw [World.cell?_of_block (w := wr) (oth w.heap.size (by omega))]; exact p1
      have gg2 : Hid (Grew w ((wr.setCell ⟨w.heap.size + 1 + 1, 4, none⟩ (.slice a (m + 3) cap)).setCell ⟨w.heap.size + 1 + 1, 5, none⟩ (.slice s2 n2 k2))) := hide (((unhide gg).setCell (p := ⟨w.heap.size + 1 + 1, 4, none⟩) (by dsimp only; omega) _).setCell (p := ⟨w.heap.size + 1 + 1, 5, none⟩) (by dsimp only; omega) _)
      clear oth ht hr ft fr gg
      go_wp2
      go_roundw
      case rel => exact ⟨3, by omega, by go_num, ht2, hr2, ft2, fr2, p2, gg2⟩
      case measure => simp [intOf]
    | 3, _ =>
      obtain ⟨t0, t1, t2, t3, t4, t5⟩ := unhide ht
      obtain ⟨r0, r1, r2, r3, r4, r5⟩ := unhide hr
      rw [if_pos (by decide)] at t0
      rw [if_neg (by decide)] at r0
      rw [if_pos (by decide)] at t1
      rw [if_neg (by decide)] at r1
      rw [if_pos (by decide)] at t2
      rw [if_neg (by decide)] at r2
      rw [if_pos (by decide)] at t3
      rw [if_neg (by decide)] at r3
      rw [if_pos (by decide)] at t4
      rw [if_neg (by decide)] at r4
      rw [if_pos (by decide)] at t5
      rw [if_neg (by decide)] at r5
      have f0 := unhide fr 0
      have f1 := unhide fr 1
      have f2 := unhide fr 2
      have f3 := unhide fr 3
      have f4 := unhide fr 4
      have f5 := unhide fr 5
      clear e0 e1 e2 p1 ht hr ft fr h0 h1 h2 i0 i1 i2
      go_wp2
      refine bodyPost_ret (by simp [results, Try.results73, go_sem, r0, r1, r2, r3, r4, r5]; try rfl) rfl ?_
      exact ⟨rfl, (((((((unhide gg).setCell (p := ⟨w.heap.size + 1, 0, none⟩) (by dsimp only; omega) _).setCell (p := ⟨w.heap.size + 1, 1, none⟩) (by dsimp only; omega) _).setCell (p := ⟨w.heap.size + 1, 2, none⟩) (by dsimp only; omega) _).setCell (p := ⟨w.heap.size + 1, 3, none⟩) (by dsimp only; omega) _).setCell (p := ⟨w.heap.size + 1, 4, none⟩) (by dsimp only; omega) _).setCell (p := ⟨w.heap.size + 1, 5, none⟩) (by dsimp only; omega) _)⟩
end Go.Proofs.Yteemihgakcmamaa
