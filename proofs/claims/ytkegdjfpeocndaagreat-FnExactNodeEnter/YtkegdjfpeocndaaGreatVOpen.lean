/-
  A vote, and a row of votes, that came in: read as votes.
-/
import Derived.Test.YtkegdjfpeocndaaGreatOpen
import Derived.Test.YtkegdjfpeocndaaGreatVRows
namespace Go.Proofs.YtkegdjfpeocndaaGreat
set_option linter.unusedVariables false
open Go.ChangeShapes Go.WideShapes Go.ChangeAt Go.RowKit Go.Deep

theorem cellsItemS : Tryz.prog.cellsOf 46 = 1 := by kernel_rfl
theorem cellsVote : Tryz.prog.cellsOf 48 = 2 := by kernel_rfl
theorem open_vote {H : Type} {enc : TypeId × Value → H} {w : World} {base : Nat} {spare : Nat → Bool} {held : Bool} {fuel : Nat} {cs : List Value} {x : DataW H × List MemPlace}
    (h : DataW.trod enc Tryz.prog w base spare held fuel 48 cs = some x) : ∃ (y : Vt) (a : Option Addr) (cap : Nat), cs = [.int .i64 y.n, .slice a y.c.length cap] ∧ Its w a y.c ∧ y.c.length ≤ maxLen := by
  obtain ⟨y0, y1, n, _, hl, h0, h1⟩ := trod_struct2 Tryz.underlying48 h
  rw [cellsVote] at hl
  simp only [cellsI, cellsItemS] at h0 h1
  obtain ⟨e, he, _, _⟩ := DataW.trod_int Tryz.underlying3 h0
  obtain ⟨a, cap, c, hc, hi, hm⟩ := open_items h1
  match cs, hl with
  | [c0, c1], _ =>
    simp at he hc
    exact ⟨⟨e, c⟩, a, cap, by rw [he, hc], hi, hm⟩

theorem open_votes {H : Type} {enc : TypeId × Value → H} {w : World} {base : Nat} {spare : Nat → Bool} {held : Bool} {fuel : Nat} {cs : List Value} {x : DataW H × List MemPlace}
    (h : DataW.trod enc Tryz.prog w base spare held fuel 22 cs = some x) : ∃ (a : Option Addr) (cap : Nat) (l : List Vt), cs = [.slice a l.length cap] ∧ Vts w a l ∧ l.length ≤ maxLen ∧ ∀ x ∈ l, x.c.length ≤ maxLen := by
  rcases open_slice Tryz.underlying22 h with ⟨hcs, _⟩ | ⟨a, len, cap, m, n, D, Pl, hcs, _, hl, hm, hmm, _, hel⟩
  · exact ⟨none, 0, [], hcs, .inl rfl, Nat.zero_le _, (fun x hx => by cases hx)⟩
  · have hlm : len ≤ m := by rw [hmm]; split <;> omega
    rw [cellsVote] at hel
    have hit : ∀ i, i < len → ∃ y : Vt × Option Addr × Nat, w.cells? base (a.add (i * 2)) 2 = some [.int .i64 y.1.n, .slice y.2.1 y.1.c.length y.2.2] ∧ Its w y.2.1 y.1.c ∧ y.1.c.length ≤ maxLen := fun i hi => by
      obtain ⟨cs', hc, ht⟩ := hel i (by omega)
      obtain ⟨y, a', cap', rfl, h1, h2⟩ := open_vote ht
      exact ⟨(y, a', cap'), hc, h1, h2⟩
    obtain ⟨g, hg⟩ := @choose_lt (Vt × Option Addr × Nat) ⟨(⟨0, []⟩, none, 0)⟩ _ _ hit
    refine ⟨some a, cap, (List.range len).map (fun i => (g i).1), by simpa using hcs, ?_, by simp; omega, ?_⟩
    · by_cases h0 : len = 0
      · exact .inl (by simp [h0])
      · right
        have hcell : ∀ i, i < len → ∀ j, j < 2 → w.cell? (a.add (i * 2 + j)) = ([.int .i64 (g i).1.n, .slice (g i).2.1 (g i).1.c.length (g i).2.2] : List Value)[j]? := fun i hi j hj => by
          rw [← add_add]; exact (World.cells?_some (hg i hi).1).2.2 j hj
        obtain ⟨b, off, spot⟩ := a
        have hspot : spot = none := by
          have := World.cell?_spot (hcell 0 (by omega) 0 (by omega))
          simpa [Addr.add] using this
        subst hspot
        refine ⟨b, off, rfl, fun i hi => ?_⟩
        have hi' : i < len := by simpa using hi
        have ha : ∀ j, (⟨b, off, none⟩ : Addr).add (i * 2 + j) = ⟨b, off + i * 2 + j, none⟩ := fun j => by
          unfold Addr.add; split <;> simp <;> omega
        have c := hcell i hi'
        simp only [ha] at c
        simp only [List.getElem_map, List.getElem_range]
        refine ⟨?_, (g i).2.1, (g i).2.2, ?_, (hg i hi').2.1⟩
        · simpa using c 0 (by omega)
        · simpa using c 1 (by omega)
    · intro x hx
      obtain ⟨i, hi, rfl⟩ := List.mem_map.1 hx
      exact (hg i (List.mem_range.1 hi)).2.2
end Go.Proofs.YtkegdjfpeocndaaGreat
