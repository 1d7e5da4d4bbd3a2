/-
  Texts together: Both1, Both2.
-/
import Derived.Test.YtjbnohepbmejkaaSame
import Derived.Test.YtjbnohepbmejkaaRows2
namespace Go.Proofs.Ytjbnohepbmejkaa
set_option linter.unusedVariables false
open Go.RowKit
attribute [local simp] far_const

/-- How both begin. -/
def bothC (l m : List It) : List It := if okB l = true ∧ okB m = true then l.take (shareN l m) else []
theorem bothC_len (l m : List It) : (bothC l m).length ≤ l.length ∧ (bothC l m).length ≤ m.length := by
  unfold bothC
  split
  · have := shareN_le l m
    rw [List.length_take]; omega
  · simp
/-- A row of items, as an object. -/
def rowObj (l : List It) : Obj := .cells (flat l).toArray 33
theorem alloc_setRow (w : World) (c d : Array Value) (t : TypeId) : (w.alloc (.cells c t)).setRow w.heap.size d = w.alloc (.cells d t) := by
  unfold World.setRow World.alloc
  simp only
  congr 1
  apply Array.ext_getElem?
  intro k
  rw [Array.getElem?_modify, Array.getElem?_push, Array.getElem?_push]
  by_cases hk : k = w.heap.size
  · subst hk; simp
  · have h2 : ¬ w.heap.size = k := fun e => hk e.symm
    simp [hk, h2]
theorem its_row (w : World) (l : List It) : Its (w.alloc (rowObj l)) (some ⟨w.heap.size, 0, none⟩) l := by
  refine .inr ⟨_, _, rfl, fun i hi => ?_⟩
  have c : ∀ j, j < 4 → (w.alloc (rowObj l)).cell? ⟨w.heap.size, 0 + i * 4 + j, none⟩ = (l[i]).row[j]? := fun j hj => by
    unfold rowObj
    rw [← flat_get l i hi j hj, cell_of_row _ w.heap.size _ _ _ (0, 0) (heap_alloc_new w _), Nat.zero_add]
    simp
  exact ⟨by simpa [It.row] using c 0 (by omega), by simpa [It.row] using c 1 (by omega), by simpa [It.row] using c 2 (by omega), by simpa [It.row] using c 3 (by omega)⟩
theorem own_row (w : World) (l : List It) : Own (w.alloc (rowObj l)) w.heap.size l.length := by
  refine ⟨fun i => (flat l).toArray.getD i undef, ?_⟩
  have := World.rowIs_alloc w (flat l).toArray 33 (fun i => (flat l).toArray.getD i undef) (fun i hi => by simp [Array.getD] at hi ⊢; simp [hi])
  have e : (flat l).toArray.size = l.length * 4 := by rw [List.size_toArray, flat_length]
  rwa [e] at this

theorem copy_items (w : World) (n : Nat) (a : Option Addr) (ca : Nat) (l : List It) (ty : TypeId) (hl : Its w a l) (hn : n ≤ l.length) :
    (Builtin.copy_ #[23, 23] ty #[.slice (some ⟨w.heap.size, 0, none⟩) n n, .slice a l.length ca]).run Try.prog (w.alloc (zeros n)) = .ok (.int .i64 n) (w.alloc (rowObj (l.take n))) := by
  obtain ⟨i, hi, _, hz1, _⟩ := item_info
  have hmin : Nat.min l.length n = n := Nat.min_eq_right hn
  have hlen : (flat (l.take n)).length = n * 4 := by rw [flat_length, List.length_take]; omega
  have hst := run_storeCells_at Try.prog w.heap.size 0 33 (flat (l.take n)) 0 (madeCells #[.int .i64 0, .int .i64 0, .int .i64 0, .int .i64 0] (n * 4)) (w.alloc (zeros n)) (heap_alloc_new w _) (by rw [size_madeCells]; omega) (flat_one _)
  have hrow : ((madeCells #[.int .i64 0, .int .i64 0, .int .i64 0, .int .i64 0] (n * 4)).toList.take (0 + 0) ++ flat (l.take n) ++ (madeCells #[.int .i64 0, .int .i64 0, .int .i64 0, .int .i64 0] (n * 4)).toList.drop (0 + 0 + (flat (l.take n)).length)).toArray = (flat (l.take n)).toArray := by
    rw [List.drop_of_length_le (by rw [Array.length_toList, size_madeCells]; omega)]; simp
  rw [hrow, show (w.alloc (zeros n)).setRow w.heap.size (flat (l.take n)).toArray = w.alloc (rowObj (l.take n)) from alloc_setRow w _ _ _] at hst
  have hfc : (Builtin.firstCells 4 n (.slice a l.length ca)).run Try.prog (w.alloc (zeros n)) = .ok (flat (l.take n)).toArray (w.alloc (zeros n)) := by
    rcases a with _ | ad
    · have h0 : l = [] := by
        rcases hl with h | ⟨_, _, h, _⟩
        · exact h
        · cases h
      subst h0
      have : n = 0 := by simpa using hn
      subst this
      rw [run_firstCells_none]; rfl
    · exact run_firstCells_some (P := Try.prog) _ 4 n ad l.length ca (flat (l.take n)) hlen ((hl.take n).grew ((Grew.refl w).alloc _)).flat
  simp only [Builtin.copy_]
  simp [run_underlying Try.underlying23, Builtin.lenOf, sizeOf, typeInfo, hi, hz1, hmin, hfc, hst]
  rfl

set_option linter.unusedVariables false
open Go.RowKit
attribute [local simp] far_const

theorem ownBlock_sl {g n c k : Nat} (h : Value.ownBlock (.slice (some ⟨g, 0, none⟩) n c) = some k) : k = g := by simpa [Value.ownBlock] using h.symm

set_option maxHeartbeats 2000000 in
theorem l1Copy_any (a : Option Addr) (ca : Nat) (l : List It) (n : Nat) (hln : l.length = n) (w : World) (hl : Its w a l) (hn : n ≤ 1048576) :
    Calls Try.prog 70 #[.slice a n ca] w fun r w' => ∃ g c, r = .returned (.slice (some ⟨g, 0, none⟩) n c) ∧ Its w' (some ⟨g, 0, none⟩) l ∧ Grew w w' ∧ w.heap.size ≤ g := by
  have oe : OwnL (w.alloc (.cells #[] 33)) w.heap.size (.slice (some ⟨w.heap.size, 0, none⟩) 0 0) [] := OwnL.empty (Nat.le_refl _)
  rcases a with _ | ad
  · have h0 : l = [] := by
      rcases hl with h | ⟨_, _, h, _⟩
      · exact h
      · cases h
    subst h0
    simp only [List.length_nil] at hln
    subst hln
    go_enter Try.func70, Try.ntmps70
    go_wp2
    go_ret
    exact ⟨_, _, rfl, .inl rfl, (Grew.refl _).alloc _, Nat.le_refl _⟩
  · have ia := hl.grew ((Grew.refl w).alloc (.cells #[] 33))
    have HO := hide oe
    have HI := hide ia
    have HL := hide hln
    clear oe ia hln hl
    go_enter Try.func70, Try.ntmps70
    go_wp2_with (first | (at_builtin; refine wpList_items rfl _ _ rfl w.heap.size _ [] rfl (unhide HO) ad ca l n (unhide HL) rfl (unhide HI) (by have := unhide HL; simp; omega) (by simp) ?_))
    intro v' w5 o5 g5
    obtain ⟨g, cap, rfl, hcap, hg1, hg2, hits⟩ := o5.shape
    have GG := ((Grew.refl w).alloc (.cells #[] 33)).grown g5 (fun k hk => Nat.le_of_eq (ownBlock_sl hk).symm)
    have HI5 := hide hits
    clear hits o5
    go_wp2
    go_ret
    exact ⟨g, cap, by have := unhide HL; simp [this], unhide HI5, GG, hg1⟩

end Go.Proofs.Ytjbnohepbmejkaa
