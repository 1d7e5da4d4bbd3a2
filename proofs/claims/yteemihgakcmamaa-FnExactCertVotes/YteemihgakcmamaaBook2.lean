/-
  A payment made: the program's function value, and the specification's l2Pay.
-/
import Derived.Test.YteemihgakcmamaaBook1
namespace Go.Proofs.Yteemihgakcmamaa
set_option linter.unusedVariables false
open Go.RowKit
attribute [local simp] far_const

/-- What all have behind a payment; as it was, if it cannot be made. -/
def payL (l : List Int) (f t s : Int) : List Int :=
  if s ≤ l.getD (f - 1).toNat 0 then (l.set (f - 1).toNat (l.getD (f - 1).toNat 0 - s)).set (t - 1).toNat (l.getD (t - 1).toNat 0 + s) else l
theorem payB_cases {f t s : Int} (h : payB f t s = true) : 1 ≤ s ∧ s ≤ 9 ∧ (f = 1 ∧ t = 2 ∨ f = 1 ∧ t = 3 ∨ f = 2 ∧ t = 1 ∨ f = 2 ∧ t = 3 ∨ f = 3 ∧ t = 1 ∨ f = 3 ∧ t = 2) := by
  simp only [payB, inB, Bool.and_eq_true, decide_eq_true_eq, Bool.not_eq_true', beq_eq_false_iff_ne] at h
  omega
theorem bokB_three {l : List Int} (h : bokB l = true) : ∃ x y z, l = [x, y, z] ∧ 0 ≤ x ∧ x ≤ 27 ∧ 0 ≤ y ∧ y ≤ 27 ∧ 0 ≤ z ∧ z ≤ 27 ∧ x + y + z = 27 := by
  match l, h with
  | [x, y, z], h =>
    simp [bokB, inB] at h
    exact ⟨x, y, z, rfl, by omega⟩
  | [], h => simp [bokB] at h
  | [_], h => simp [bokB] at h
  | [_, _], h => simp [bokB] at h
  | _ :: _ :: _ :: _ :: _, h => simp [bokB] at h
theorem bokB_of {x y z : Int} (h : 0 ≤ x ∧ 0 ≤ y ∧ 0 ≤ z ∧ x + y + z = 27) : bokB [x, y, z] = true := by
  simp [bokB, inB]; omega
theorem payL_ok {l : List Int} {f t s : Int} (h : bokB l = true) (hp : payB f t s = true) : bokB (payL l f t s) = true := by
  obtain ⟨x, y, z, rfl, h⟩ := bokB_three h
  obtain ⟨h1, h2, hc⟩ := payB_cases hp
  unfold payL
  rcases hc with ⟨rfl, rfl⟩ | ⟨rfl, rfl⟩ | ⟨rfl, rfl⟩ | ⟨rfl, rfl⟩ | ⟨rfl, rfl⟩ | ⟨rfl, rfl⟩ <;> simp <;> split <;> apply bokB_of <;> omega

/-- 'copy' of three numbers into a row of three that the call has just made. -/
theorem copy_three (w : World) (b off cap : Nat) (x y z : Int) (hl : Ints w (some ⟨b, off, none⟩) [x, y, z]) :
    ∃ w1, (Builtin.copy_ #[47, 47] 3 #[.slice (some ⟨w.heap.size, 0, none⟩) 3 3, .slice (some ⟨b, off, none⟩) 3 cap]).run Try.prog (w.alloc (.cells (nums [0, 0, 0]).toArray 3)) = .ok (.int .i64 3) w1 ∧
      Grew w w1 ∧ OwnN w1 w.heap.size (.slice (some ⟨w.heap.size, 0, none⟩) 3 3) [x, y, z] := by
  have hg : (w.alloc (.cells (nums [0, 0, 0]).toArray 3)).heap[w.heap.size]? = some (.cells (nums [0, 0, 0]).toArray 3 (0, 0)) := heap_alloc_new w _
  have hr := run_copy_row Try.prog (w.alloc (.cells (nums [0, 0, 0]).toArray 3)) 47 47 3 3 w.heap.size 0 3 3 ⟨b, off, none⟩ 3 cap (nums [0, 0, 0]).toArray 3 (nums [x, y, z]) Try.underlying47 (by kernel_rfl) hg rfl (hl.grew ((Grew.refl w).alloc _)).nums (by simp [nums]) (nums_one _)
  refine ⟨_, hr, .of_below (below_setRow (Grew.below ((Grew.refl w).alloc _)) (Nat.le_refl _) _), ?_⟩
  refine OwnN.of_heap (Nat.le_refl _) ?_ 3 rfl (by omega)
  have := setRow_heap (w.alloc (.cells (nums [0, 0, 0]).toArray 3)) w.heap.size _ ((nums [0, 0, 0]).toArray.toList.take 0 ++ nums [x, y, z] ++ (nums [0, 0, 0]).toArray.toList.drop (0 + (nums [x, y, z]).length)).toArray 3 (0, 0) hg
  rw [this]
  rfl

set_option maxHeartbeats 2000000 in
theorem clo_any (a : Option Addr) (cap P : Nat) (x y z f t s : Int) (w : World) (hl : Ints w a [x, y, z]) (hx : 0 ≤ x ∧ x ≤ 27 ∧ 0 ≤ y ∧ y ≤ 27 ∧ 0 ≤ z ∧ z ≤ 27) (hp : payB f t s = true)
    (p0 : w.cell? ⟨P, 0, none⟩ = some (.int .i64 f)) (p1 : w.cell? ⟨P, 1, none⟩ = some (.int .i64 t)) (p2 : w.cell? ⟨P, 2, none⟩ = some (.int .i64 s)) :
    Calls Try.prog 142 #[.slice a 3 cap, .pointer (some ⟨P, 0, none⟩)] w fun r w' => ∃ v, r = .returned v ∧ OwnN w' w.heap.size v (payL [x, y, z] f t s) ∧ Grew w w' := by
  obtain ⟨b, off, rfl, _⟩ := hl.three
  have hmk : ∀ w : World, (Instr.makeSlice 47 (.int .i64 3) (.int .i64 3)).run Try.prog w = .ok (.slice (some ⟨w.heap.size, 0, none⟩) 3 3) (w.alloc (.cells (nums [0, 0, 0]).toArray 3)) := fun w => by
    have := make_nums 3 (by omega) w
    rw [nums_zeros] at this
    exact this
  obtain ⟨w1, hcp, g1, o1⟩ := copy_three w b off cap x y z hl
  obtain ⟨C, hC⟩ : ∃ C, C = (nums [0, 0, 0]).toArray := ⟨_, rfl⟩
  rw [← hC] at hmk hcp
  clear hC
  obtain ⟨g, _, hv, _, _, _, hi1, hf1⟩ := o1.shape
  simp only [Value.slice.injEq, Option.some.injEq, Addr.mk.injEq, and_true] at hv
  obtain ⟨rfl, _, _⟩ := hv
  obtain ⟨_, _, hv, c0, c1, c2⟩ := hi1.three
  simp only [Option.some.injEq, Addr.mk.injEq, and_true] at hv
  obtain ⟨rfl, rfl⟩ := hv
  have z0 := hf1 0
  have z1 := hf1 1
  have z2 := hf1 2
  have hPg : P ≠ w.heap.size := by have := World.block_lt_of_cell? w _ p0; simp at this; omega
  have p0 := g1.keep p0
  have p1 := g1.keep p1
  have p2 := g1.keep p2
  have O1 := hide o1
  have G1 := hide g1
  simp only [Nat.zero_add] at c1 c2
  clear hi1 hf1 o1 g1 hl
  obtain ⟨h1, h2, hc⟩ := payB_cases hp
  clear hp
  obtain ⟨hx0, hx1, hy0, hy1, hz0, hz1⟩ := hx
  rcases hc with ⟨rfl, rfl⟩ | ⟨rfl, rfl⟩ | ⟨rfl, rfl⟩ | ⟨rfl, rfl⟩ | ⟨rfl, rfl⟩ | ⟨rfl, rfl⟩
  · by_cases hs : s ≤ x
    · have E := hide (show payL [x, y, z] 1 2 s = ([x, y, z].set 0 (x - s)).set 1 (y + s) by unfold payL; rw [if_pos (by simpa using hs)]; rfl)
      go_enter Try.func142, Try.ntmps142
      go_wp2_with fail
      go_region
      go_wp2_with fail
      go_region
      go_wp2_with fail
      go_region
      go_wp2
      go_ret
      refine ⟨_, rfl, ?_, ?_⟩
      · rw [unhide E]
        exact ((unhide O1).set 0 (x - s)).set 1 (y + s)
      · exact (((((unhide G1).drew.setCell (p := ⟨w.heap.size, 0, none⟩) (Nat.le_refl _) _).drew).setCell (p := ⟨w.heap.size, 1, none⟩) (Nat.le_refl _) _).drew)
    · have E := hide (show payL [x, y, z] 1 2 s = [x, y, z] by unfold payL; rw [if_neg (by simpa using hs)])
      have hs' : decide (s ≤ x) = false := by simpa using hs
      clear hs
      go_enter Try.func142, Try.ntmps142
      go_wp2_with fail
      go_region
      go_wp2
      go_ret
      refine ⟨_, rfl, ?_, (unhide G1).drew⟩
      rw [unhide E]
      exact unhide O1
  · by_cases hs : s ≤ x
    · have E := hide (show payL [x, y, z] 1 3 s = ([x, y, z].set 0 (x - s)).set 2 (z + s) by unfold payL; rw [if_pos (by simpa using hs)]; rfl)
      go_enter Try.func142, Try.ntmps142
      go_wp2_with fail
      go_region
      go_wp2_with fail
      go_region
      go_wp2_with fail
      go_region
      go_wp2
      go_ret
      refine ⟨_, rfl, ?_, ?_⟩
      · rw [unhide E]
        exact ((unhide O1).set 0 (x - s)).set 2 (z + s)
      · exact (((((unhide G1).drew.setCell (p := ⟨w.heap.size, 0, none⟩) (Nat.le_refl _) _).drew).setCell (p := ⟨w.heap.size, 2, none⟩) (Nat.le_refl _) _).drew)
    · have E := hide (show payL [x, y, z] 1 3 s = [x, y, z] by unfold payL; rw [if_neg (by simpa using hs)])
      have hs' : decide (s ≤ x) = false := by simpa using hs
      clear hs
      go_enter Try.func142, Try.ntmps142
      go_wp2_with fail
      go_region
      go_wp2
      go_ret
      refine ⟨_, rfl, ?_, (unhide G1).drew⟩
      rw [unhide E]
      exact unhide O1
  · by_cases hs : s ≤ y
    · have E := hide (show payL [x, y, z] 2 1 s = ([x, y, z].set 1 (y - s)).set 0 (x + s) by unfold payL; rw [if_pos (by simpa using hs)]; rfl)
      go_enter Try.func142, Try.ntmps142
      go_wp2_with fail
      go_region
      go_wp2_with fail
      go_region
      go_wp2_with fail
      go_region
      go_wp2
      go_ret
      refine ⟨_, rfl, ?_, ?_⟩
      · rw [unhide E]
        exact ((unhide O1).set 1 (y - s)).set 0 (x + s)
      · exact (((((unhide G1).drew.setCell (p := ⟨w.heap.size, 1, none⟩) (Nat.le_refl _) _).drew).setCell (p := ⟨w.heap.size, 0, none⟩) (Nat.le_refl _) _).drew)
    · have E := hide (show payL [x, y, z] 2 1 s = [x, y, z] by unfold payL; rw [if_neg (by simpa using hs)])
      have hs' : decide (s ≤ y) = false := by simpa using hs
      clear hs
      go_enter Try.func142, Try.ntmps142
      go_wp2_with fail
      go_region
      go_wp2
      go_ret
      refine ⟨_, rfl, ?_, (unhide G1).drew⟩
      rw [unhide E]
      exact unhide O1
  · by_cases hs : s ≤ y
    · have E := hide (show payL [x, y, z] 2 3 s = ([x, y, z].set 1 (y - s)).set 2 (z + s) by unfold payL; rw [if_pos (by simpa using hs)]; rfl)
      go_enter Try.func142, Try.ntmps142
      go_wp2_with fail
      go_region
      go_wp2_with fail
      go_region
      go_wp2_with fail
      go_region
      go_wp2
      go_ret
      refine ⟨_, rfl, ?_, ?_⟩
      · rw [unhide E]
        exact ((unhide O1).set 1 (y - s)).set 2 (z + s)
      · exact (((((unhide G1).drew.setCell (p := ⟨w.heap.size, 1, none⟩) (Nat.le_refl _) _).drew).setCell (p := ⟨w.heap.size, 2, none⟩) (Nat.le_refl _) _).drew)
    · have E := hide (show payL [x, y, z] 2 3 s = [x, y, z] by unfold payL; rw [if_neg (by simpa using hs)])
      have hs' : decide (s ≤ y) = false := by simpa using hs
      clear hs
      go_enter Try.func142, Try.ntmps142
      go_wp2_with fail
      go_region
      go_wp2
      go_ret
      refine ⟨_, rfl, ?_, (unhide G1).drew⟩
      rw [unhide E]
      exact unhide O1
  · by_cases hs : s ≤ z
    · have E := hide (show payL [x, y, z] 3 1 s = ([x, y, z].set 2 (z - s)).set 0 (x + s) by unfold payL; rw [if_pos (by simpa using hs)]; rfl)
      go_enter Try.func142, Try.ntmps142
      go_wp2_with fail
      go_region
      go_wp2_with fail
      go_region
      go_wp2_with fail
      go_region
      go_wp2
      go_ret
      refine ⟨_, rfl, ?_, ?_⟩
      · rw [unhide E]
        exact ((unhide O1).set 2 (z - s)).set 0 (x + s)
      · exact (((((unhide G1).drew.setCell (p := ⟨w.heap.size, 2, none⟩) (Nat.le_refl _) _).drew).setCell (p := ⟨w.heap.size, 0, none⟩) (Nat.le_refl _) _).drew)
    · have E := hide (show payL [x, y, z] 3 1 s = [x, y, z] by unfold payL; rw [if_neg (by simpa using hs)])
      have hs' : decide (s ≤ z) = false := by simpa using hs
      clear hs
      go_enter Try.func142, Try.ntmps142
      go_wp2_with fail
      go_region
      go_wp2
      go_ret
      refine ⟨_, rfl, ?_, (unhide G1).drew⟩
      rw [unhide E]
      exact unhide O1
  · by_cases hs : s ≤ z
    · have E := hide (show payL [x, y, z] 3 2 s = ([x, y, z].set 2 (z - s)).set 1 (y + s) by unfold payL; rw [if_pos (by simpa using hs)]; rfl)
      go_enter Try.func142, Try.ntmps142
      go_wp2_with fail
      go_region
      go_wp2_with fail
      go_region
      go_wp2_with fail
      go_region
      go_wp2
      go_ret
      refine ⟨_, rfl, ?_, ?_⟩
      · rw [unhide E]
        exact ((unhide O1).set 2 (z - s)).set 1 (y + s)
      · exact (((((unhide G1).drew.setCell (p := ⟨w.heap.size, 2, none⟩) (Nat.le_refl _) _).drew).setCell (p := ⟨w.heap.size, 1, none⟩) (Nat.le_refl _) _).drew)
    · have E := hide (show payL [x, y, z] 3 2 s = [x, y, z] by unfold payL; rw [if_neg (by simpa using hs)])
      have hs' : decide (s ≤ z) = false := by simpa using hs
      clear hs
      go_enter Try.func142, Try.ntmps142
      go_wp2_with fail
      go_region
      go_wp2
      go_ret
      refine ⟨_, rfl, ?_, (unhide G1).drew⟩
      rw [unhide E]
      exact unhide O1
end Go.Proofs.Yteemihgakcmamaa
