/-
  A row of items that came in, read as a list of items.
-/
import Derived.Test.YtjbnohepbmejkaaConv
import Derived.ProofKit
import Derived.OpenShut
import Derived.Deep.Slices
import Derived.Deep.Strs
import Derived.ChangeSame
import Derived.ChangeOld
namespace Go.Proofs.Ytjbnohepbmejkaa
set_option linter.unusedVariables false
open Go.ChangeShapes Go.WideShapes Go.ChangeAt Go.RowKit Go.Deep

theorem own : ownKnob Try.prog.godebug = none := by kernel_rfl
theorem laidOut : laidOutB Try.prog = true := by kernel_rfl
theorem cellsI : Try.prog.cellsOf 3 = 1 := by kernel_rfl
theorem cellsPay : Try.prog.cellsOf 171 = 3 := by kernel_rfl
theorem cellsItem : Try.prog.cellsOf 173 = 4 := by kernel_rfl

theorem open_item {H : Type} {enc : TypeId × Value → H} {w : World} {base : Nat} {spare : Nat → Bool} {held : Bool} {fuel : Nat} {cs : List Value} {x : DataW H × List MemPlace}
    (h : DataW.trod enc Try.prog w base spare held fuel 173 cs = some x) : ∃ y : It, cs = [.int .i64 y.e, .int .i64 y.f, .int .i64 y.t, .int .i64 y.s] := by
  obtain ⟨y0, y1, n, _, hl, h0, h1⟩ := trod_struct2 Try.underlying173 h
  rw [cellsItem] at hl
  simp only [cellsI, cellsPay] at h0 h1
  obtain ⟨z0, z1, z2, n', _, hl', k0, k1, k2⟩ := trod_struct3 Try.underlying171 h1
  simp only [cellsI] at k0 k1 k2
  obtain ⟨e, he, _, _⟩ := DataW.trod_int Try.underlying3 h0
  obtain ⟨f, hf, _, _⟩ := DataW.trod_int Try.underlying3 k0
  obtain ⟨t, ht, _, _⟩ := DataW.trod_int Try.underlying3 k1
  obtain ⟨s, hs, _, _⟩ := DataW.trod_int Try.underlying3 k2
  match cs, hl with
  | [c0, c1, c2, c3], _ =>
    simp at he hf ht hs
    exact ⟨⟨e, f, t, s⟩, by rw [he, hf, ht, hs]⟩

theorem open_items {H : Type} {enc : TypeId × Value → H} {w : World} {base : Nat} {spare : Nat → Bool} {held : Bool} {fuel : Nat} {cs : List Value} {x : DataW H × List MemPlace}
    (h : DataW.trod enc Try.prog w base spare held fuel 66 cs = some x) : ∃ (a : Option Addr) (cap : Nat) (l : List It), cs = [.slice a l.length cap] ∧ Its w a l ∧ l.length ≤ maxLen := by
  rcases open_slice Try.underlying66 h with ⟨hcs, _⟩ | ⟨a, len, cap, m, n, D, Pl, hcs, _, hl, hm, hmm, _, hel⟩
  · exact ⟨none, 0, [], hcs, .inl rfl, Nat.zero_le _⟩
  · have hlm : len ≤ m := by rw [hmm]; split <;> omega
    rw [cellsItem] at hel
    have hit : ∀ i, i < len → ∃ y : It, w.cells? base (a.add (i * 4)) 4 = some [.int .i64 y.e, .int .i64 y.f, .int .i64 y.t, .int .i64 y.s] := fun i hi => by
      obtain ⟨cs', hc, ht⟩ := hel i (by omega)
      obtain ⟨y, rfl⟩ := open_item ht
      exact ⟨y, hc⟩
    obtain ⟨g, hg⟩ := @choose_lt It ⟨⟨0, 0, 0, 0⟩⟩ _ _ hit
    refine ⟨some a, cap, (List.range len).map g, by simpa using hcs, ?_, by simp; omega⟩
    by_cases h0 : len = 0
    · exact .inl (by simp [h0])
    · right
      have hcell : ∀ i, i < len → ∀ j, j < 4 → w.cell? (a.add (i * 4 + j)) = ([.int .i64 (g i).e, .int .i64 (g i).f, .int .i64 (g i).t, .int .i64 (g i).s] : List Value)[j]? := fun i hi j hj => by
        rw [← add_add]; exact (World.cells?_some (hg i hi)).2.2 j hj
      obtain ⟨b, off, spot⟩ := a
      have hspot : spot = none := by
        have := World.cell?_spot (hcell 0 (by omega) 0 (by omega))
        simpa [Addr.add] using this
      subst hspot
      refine ⟨b, off, rfl, fun i hi => ?_⟩
      have hi' : i < len := by simpa using hi
      have ha : ∀ j, (⟨b, off, none⟩ : Addr).add (i * 4 + j) = ⟨b, off + i * 4 + j, none⟩ := fun j => by
        unfold Addr.add; split <;> simp <;> omega
      have c := hcell i hi'
      simp only [ha] at c
      refine ⟨?_, ?_, ?_, ?_⟩
      · simpa using c 0 (by omega)
      · simpa using c 1 (by omega)
      · simpa using c 2 (by omega)
      · simpa using c 3 (by omega)
end Go.Proofs.Ytjbnohepbmejkaa
