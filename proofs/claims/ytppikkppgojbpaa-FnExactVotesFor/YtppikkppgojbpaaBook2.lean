/-
  A payment made: the program's function value, and the specification's l2Pay.
-/
import Derived.Test.YtppikkppgojbpaaBook1
namespace Go.Proofs.Ytppikkppgojbpaa
set_option linter.unusedVariables false
open Go.RowKit
attribute [local simp] far_const

/-- What all have behind a payment; as it was, if it cannot be made. -/
def payL (l : List Int) (f t s : Int) : List Int :=
  if s ≤ l.getD (f - 1).toNat 0 then (l.set (f - 1).toNat (l.getD (f - 1).toNat 0 - s)).set (t - 1).toNat (l.getD (t - 1).toNat 0 + s) else l
theorem payB_cases {f t s : Int} (h : payB f t s = true) : 1 ≤ s ∧ s ≤ 9 ∧ (f = 1 ∧ t = 2 ∨ f = 1 ∧ t = 3 ∨ f = 2 ∧ t = 1 ∨ f = 2 ∧ t = 3 ∨ f = 3 ∧ t = 1 ∨ f = 3 ∧ t = 2) := by
  simp only [payB, inB, Bool.and_eq_true, decide_eq_true_eq, Bool.not_eq_true', beq_eq_false_iff_ne] at h
  omega
theorem bokB_three {l : List Int} (h : bokB l = true) : ∃ x y z, l = [x, y, z] ∧ 0 ≤ x ∧ x ≤ 27 ∧ 0 ≤ y ∧ y ≤ 27 ∧ 0 ≤ z ∧ z ≤ 27 ∧ x + y + z = 27 := by
  match l, h with
  | [x, y, z], h =>
    simp [bokB, inB] at h
    exact ⟨x, y, z, rfl, by omega⟩
  | [], h => simp [bokB] at h
  | [_], h => simp [bokB] at h
  | [_, _], h => simp [bokB] at h
  | _ :: _ :: _ :: _ :: _, h => simp [bokB] at h
theorem bokB_of {x y z : Int} (h : 0 ≤ x ∧ 0 ≤ y ∧ 0 ≤ z ∧ x + y + z = 27) : bokB [x, y, z] = true := by
  simp [bokB, inB]; omega
theorem payL_ok {l : List Int} {f t s : Int} (h : bokB l = true) (hp : payB f t s = true) : bokB (payL l f t s) = true := by
  obtain ⟨x, y, z, rfl, h⟩ := bokB_three h
  obtain ⟨h1, h2, hc⟩ := payB_cases hp
  unfold payL
  rcases hc with ⟨rfl, rfl⟩ | ⟨rfl, rfl⟩ | ⟨rfl, rfl⟩ | ⟨rfl, rfl⟩ | ⟨rfl, rfl⟩ | ⟨rfl, rfl⟩ <;> simp <;> split <;> apply bokB_of <;> omega

/-- 'copy' of three numbers into a row of three that the call has just made. -/
theorem copy_three (w : World) (b off cap : Nat) (x y z : Int) (hl : Ints w (some ⟨b, off, none⟩) [x, y, z]) :
    ∃ w1, (Builtin.copy_ #[44, 44] 3 #[.slice (some ⟨w.heap.size, 0, none⟩) 3 3, .slice (some ⟨b, off, none⟩) 3 cap]).run Try.prog (w.alloc (.cells (nums [0, 0, 0]).toArray 3)) = .ok (.int .i64 3) w1 ∧
      Grew w w1 ∧ OwnN w1 w.heap.size (.slice (some ⟨w.heap.size, 0, none⟩) 3 3) [x, y, z] := by
  have hg : (w.alloc (.cells (nums [0, 0, 0]).toArray 3)).heap[w.heap.size]? = some (.cells (nums [0, 0, 0]).toArray 3 (0, 0)) := heap_alloc_new w _
  have hr := run_copy_row Try.prog (w.alloc (.cells (nums [0, 0, 0]).toArray 3)) 44 44 3 3 w.heap.size 0 3 3 ⟨b, off, none⟩ 3 cap (nums [0, 0, 0]).toArray 3 (nums [x, y, z]) Try.underlying44 (by kernel_rfl) hg rfl (hl.grew ((Grew.refl w).alloc _)).nums (by simp [nums]) (nums_one _)
  refine ⟨_, hr, .of_below (below_setRow (Grew.below ((Grew.refl w).alloc _)) (Nat.le_refl _) _), ?_⟩
  refine OwnN.of_heap (Nat.le_refl _) ?_ 3 rfl (by omega)
  have := setRow_heap (w.alloc (.cells (nums [0, 0, 0]).toArray 3)) w.heap.size _ ((nums [0, 0, 0]).toArray.toList.take 0 ++ nums [x, y, z] ++ (nums [0, 0, 0]).toArray.toList.drop (0 + (nums [x, y, z]).length)).toArray 3 (0, 0) hg
  rw [this]
  rfl

end Go.Proofs.Ytppikkppgojbpaa
