/-
  Texts together: Both1, Both2.
-/
import Derived.Test.YtjcnbacbnfmkjabSame
import Derived.Test.YtjcnbacbnfmkjabRows2
namespace Go.Proofs.Ytjcnbacbnfmkjab
set_option linter.unusedVariables false
open Go.RowKit
attribute [local simp] far_const

/-- How both begin. -/
def bothC (l m : List It) : List It := if okB l = true ∧ okB m = true then l.take (shareN l m) else []
theorem bothC_len (l m : List It) : (bothC l m).length ≤ l.length ∧ (bothC l m).length ≤ m.length := by
  unfold bothC
  split
  · have := shareN_le l m
    rw [List.length_take]; omega
  · simp
/-- A row of items, as an object. -/
def rowObj (l : List It) : Obj := .cells (flat l).toArray 42
theorem alloc_setRow (w : World) (c d : Array Value) (t : TypeId) : (w.alloc (.cells c t)).setRow w.heap.size d = w.alloc (.cells d t) := by
  unfold World.setRow World.alloc
  simp only
  congr 1
  apply Array.ext_getElem?
  intro k
  rw [Array.getElem?_modify, Array.getElem?_push, Array.getElem?_push]
  by_cases hk : k = w.heap.size
  · subst hk; simp
  · have h2 : ¬ w.heap.size = k := fun e => hk e.symm
    simp [hk, h2]
theorem its_row (w : World) (l : List It) : Its (w.alloc (rowObj l)) (some ⟨w.heap.size, 0, none⟩) l := by
  refine .inr ⟨_, _, rfl, fun i hi => ?_⟩
  have c : ∀ j, j < 4 → (w.alloc (rowObj l)).cell? ⟨w.heap.size, 0 + i * 4 + j, none⟩ = (l[i]).row[j]? := fun j hj => by
    unfold rowObj
    rw [← flat_get l i hi j hj, cell_of_row _ w.heap.size _ _ _ (0, 0) (heap_alloc_new w _), Nat.zero_add]
    simp
  exact ⟨by simpa [It.row] using c 0 (by omega), by simpa [It.row] using c 1 (by omega), by simpa [It.row] using c 2 (by omega), by simpa [It.row] using c 3 (by omega)⟩
theorem own_row (w : World) (l : List It) : Own (w.alloc (rowObj l)) w.heap.size l.length := by
  refine ⟨fun i => (flat l).toArray.getD i undef, ?_⟩
  have := World.rowIs_alloc w (flat l).toArray 42 (fun i => (flat l).toArray.getD i undef) (fun i hi => by simp [Array.getD] at hi ⊢; simp [hi])
  have e : (flat l).toArray.size = l.length * 4 := by rw [List.size_toArray, flat_length]
  rwa [e] at this

theorem copy_items (w : World) (n : Nat) (a : Option Addr) (ca : Nat) (l : List It) (ty : TypeId) (hl : Its w a l) (hn : n ≤ l.length) :
    (Builtin.copy_ #[29, 29] ty #[.slice (some ⟨w.heap.size, 0, none⟩) n n, .slice a l.length ca]).run Try.prog (w.alloc (zeros n)) = .ok (.int .i64 n) (w.alloc (rowObj (l.take n))) := by
  obtain ⟨i, hi, _, hz1, _⟩ := item_info
  have hmin : Nat.min l.length n = n := Nat.min_eq_right hn
  have hlen : (flat (l.take n)).length = n * 4 := by rw [flat_length, List.length_take]; omega
  have hst := run_storeCells_at Try.prog w.heap.size 0 42 (flat (l.take n)) 0 (madeCells #[.int .i64 0, .int .i64 0, .int .i64 0, .int .i64 0] (n * 4)) (w.alloc (zeros n)) (heap_alloc_new w _) (by rw [size_madeCells]; omega) (flat_one _)
  have hrow : ((madeCells #[.int .i64 0, .int .i64 0, .int .i64 0, .int .i64 0] (n * 4)).toList.take (0 + 0) ++ flat (l.take n) ++ (madeCells #[.int .i64 0, .int .i64 0, .int .i64 0, .int .i64 0] (n * 4)).toList.drop (0 + 0 + (flat (l.take n)).length)).toArray = (flat (l.take n)).toArray := by
    rw [List.drop_of_length_le (by rw [Array.length_toList, size_madeCells]; omega)]; simp
  rw [hrow, show (w.alloc (zeros n)).setRow w.heap.size (flat (l.take n)).toArray = w.alloc (rowObj (l.take n)) from alloc_setRow w _ _ _] at hst
  have hfc : (Builtin.firstCells 4 n (.slice a l.length ca)).run Try.prog (w.alloc (zeros n)) = .ok (flat (l.take n)).toArray (w.alloc (zeros n)) := by
    rcases a with _ | ad
    · have h0 : l = [] := by
        rcases hl with h | ⟨_, _, h, _⟩
        · exact h
        · cases h
      subst h0
      have : n = 0 := by simpa using hn
      subst this
      rw [run_firstCells_none]; rfl
    · exact run_firstCells_some (P := Try.prog) _ 4 n ad l.length ca (flat (l.take n)) hlen ((hl.take n).grew ((Grew.refl w).alloc _)).flat
  simp only [Builtin.copy_]
  simp [run_underlying Try.underlying29, Builtin.lenOf, sizeOf, typeInfo, hi, hz1, hmin, hfc, hst]
  rfl

set_option maxHeartbeats 2000000 in
theorem implBoth (a b : Option Addr) (ca cb : Nat) (l m : List It) (w : World) (hl : Its w a l) (hm : Its w b m) (hn : l.length ≤ 1048576) (hn' : m.length ≤ 1048576) :
    Calls Try.prog 32 #[.slice a l.length ca, .slice b m.length cb] w fun r w' => ∃ x c, r = .returned (.slice x (bothC l m).length c) ∧ Its w' x (bothC l m) ∧ Grew w w' ∧ ((bothC l m).length = 0 ∧ x = none ∨ ∃ g, x = some ⟨g, 0, none⟩ ∧ w.heap.size ≤ g ∧ Own w' g (bothC l m).length) := by
  cases h1 : okB l with
  | false =>
    have hend : Hid (bothC l m = []) := by show bothC l m = []; unfold bothC; rw [h1]; simp
    go_enter Try.func32, Try.ntmps32
    go_wp2_with fail
    refine (implChainOk _ _ l _ hl hn).mono ?_
    rintro r w1 ⟨rfl, g1⟩
    rw [h1]
    go_wp2
    go_ret
    exact ⟨none, 0, by rw [hend.out]; rfl, .inl hend.out, g1, .inl ⟨by rw [hend.out]; rfl, rfl⟩⟩
  | true =>
    cases h2 : okB m with
    | false =>
      have hend : Hid (bothC l m = []) := by show bothC l m = []; unfold bothC; rw [h2]; simp
      go_enter Try.func32, Try.ntmps32
      go_wp2_with fail
      refine (implChainOk _ _ l _ hl hn).mono ?_
      rintro r w1 ⟨rfl, g1⟩
      rw [h1]
      go_wp2_with fail
      refine (implChainOk _ _ m _ (hm.grew g1) hn').mono ?_
      rintro r w2 ⟨rfl, g2⟩
      rw [h2]
      go_wp2
      go_ret
      exact ⟨none, 0, by rw [hend.out]; rfl, .inl hend.out, g1.trans g2, .inl ⟨by rw [hend.out]; rfl, rfl⟩⟩
    | true =>
      have hend : Hid (bothC l m = l.take (shareN l m)) := by show bothC l m = _; unfold bothC; rw [h1, h2]; simp
      have hle := shareN_le l m
      go_enter Try.func32, Try.ntmps32
      go_wp2_with fail
      refine (implChainOk _ _ l _ hl hn).mono ?_
      rintro r w1 ⟨rfl, g1⟩
      rw [h1]
      go_wp2_with fail
      refine (implChainOk _ _ m _ (hm.grew g1) hn').mono ?_
      rintro r w2 ⟨rfl, g2⟩
      rw [h2]
      go_wp2_with fail
      refine (shared_any _ _ _ _ l m _ (hl.grew (g1.trans g2)) (hm.grew (g1.trans g2)) hn hn').mono ?_
      rintro r w3 ⟨rfl, g3⟩
      have G3 := (g1.trans g2).trans g3
      obtain ⟨k, hk⟩ : ∃ k, k = shareN l m := ⟨_, rfl⟩
      rw [← hk] at hle ⊢
      have HK := hide hk
      clear hk
      have hmk := make_items k (by omega)
      have hcp := fun ty => copy_items w3 k a ca l ty (hl.grew G3) hle.1
      go_wp2
      go_ret
      have hb : bothC l m = l.take k := by rw [hend.out, ← unhide HK]
      have hbl : (bothC l m).length = k := by rw [hb, List.length_take]; omega
      rw [hb] at hbl
      rw [hb]
      refine ⟨_, k, by rw [hbl]; rfl, its_row w3 (l.take k), G3.alloc _, .inr ⟨_, rfl, G3.size, ?_⟩⟩
      exact own_row w3 (l.take k)

set_option linter.unusedVariables false
open Go.RowKit
attribute [local simp] far_const

theorem ownBlock_sl {g n c k : Nat} (h : Value.ownBlock (.slice (some ⟨g, 0, none⟩) n c) = some k) : k = g := by simpa [Value.ownBlock] using h.symm

set_option maxHeartbeats 2000000 in
theorem l1Copy_any (a : Option Addr) (ca : Nat) (l : List It) (n : Nat) (hln : l.length = n) (w : World) (hl : Its w a l) (hn : n ≤ 1048576) :
    Calls Try.prog 67 #[.slice a n ca] w fun r w' => ∃ g c, r = .returned (.slice (some ⟨g, 0, none⟩) n c) ∧ Its w' (some ⟨g, 0, none⟩) l ∧ Grew w w' ∧ w.heap.size ≤ g := by
  have oe : OwnL (w.alloc (.cells #[] 42)) w.heap.size (.slice (some ⟨w.heap.size, 0, none⟩) 0 0) [] := OwnL.empty (Nat.le_refl _)
  rcases a with _ | ad
  · have h0 : l = [] := by
      rcases hl with h | ⟨_, _, h, _⟩
      · exact h
      · cases h
    subst h0
    simp only [List.length_nil] at hln
    subst hln
    go_enter Try.func67, Try.ntmps67
    go_wp2
    go_ret
    exact ⟨_, _, rfl, .inl rfl, (Grew.refl _).alloc _, Nat.le_refl _⟩
  · have ia := hl.grew ((Grew.refl w).alloc (.cells #[] 42))
    have HO := hide oe
    have HI := hide ia
    have HL := hide hln
    clear oe ia hln hl
    go_enter Try.func67, Try.ntmps67
    go_wp2_with (first | (at_builtin; refine wpList_items rfl _ _ rfl w.heap.size _ [] rfl (unhide HO) ad ca l n (unhide HL) rfl (unhide HI) (by have := unhide HL; simp; omega) (by simp) ?_))
    intro v' w5 o5 g5
    obtain ⟨g, cap, rfl, hcap, hg1, hg2, hits⟩ := o5.shape
    have GG := ((Grew.refl w).alloc (.cells #[] 42)).grown g5 (fun k hk => Nat.le_of_eq (ownBlock_sl hk).symm)
    have HI5 := hide hits
    clear hits o5
    go_wp2
    go_ret
    exact ⟨g, cap, by have := unhide HL; simp [this], unhide HI5, GG, hg1⟩

end Go.Proofs.Ytjcnbacbnfmkjab
