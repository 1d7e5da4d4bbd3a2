/-
  A cert that came in: read as a cert.
-/
import Derived.Test.YteemihgakcmamaaCer2
import Derived.Test.YteemihgakcmamaaOpenN
namespace Go.Proofs.Yteemihgakcmamaa
set_option linter.unusedVariables false
open Go.ChangeShapes Go.WideShapes Go.ChangeAt Go.RowKit Go.Deep

theorem cellsInts : Try.prog.cellsOf 47 = 1 := by kernel_rfl
theorem cellsIntsS : Try.prog.cellsOf 23 = 1 := by kernel_rfl
theorem cellsItemS' : Try.prog.cellsOf 22 = 1 := by kernel_rfl
theorem cellsCert : Try.prog.cellsOf 25 = 2 := by kernel_rfl
theorem open_numss {H : Type} {enc : TypeId × Value → H} {w : World} {base : Nat} {held : Bool} {fuel : Nat} {cs : List Value} {x : DataW H × List MemPlace}
    (h : DataW.trod enc Try.prog w base (fun _ => true) held fuel 23 cs = some x) : ∃ (a : Option Addr) (cap : Nat) (l : List (List Int)), cs = [.slice a l.length cap] ∧ IntsS w a l ∧ l.length ≤ maxLen ∧ ∀ x ∈ l, x.length ≤ maxLen := by
  rcases open_slice Try.underlying23 h with ⟨hcs, _⟩ | ⟨a, len, cap, m, n, D, Pl, hcs, _, hl, hm, hmm, _, hel⟩
  · exact ⟨none, 0, [], hcs, .inl rfl, Nat.zero_le _, (fun x hx => by cases hx)⟩
  · have hlm : len ≤ m := by rw [hmm]; split <;> omega
    rw [cellsInts] at hel
    have hit : ∀ i, i < len → ∃ y : List Int × Option Addr × Nat, w.cells? base (a.add (i * 1)) 1 = some [.slice y.2.1 y.1.length y.2.2] ∧ Ints w y.2.1 y.1 ∧ y.1.length ≤ maxLen := fun i hi => by
      obtain ⟨cs', hc, ht⟩ := hel i (by omega)
      have hlen : cs'.length = 1 := (World.cells?_some hc).2.1
      obtain ⟨c0, rfl⟩ : ∃ c0, cs' = [c0] := by match cs', hlen with | [c0], _ => exact ⟨c0, rfl⟩
      rcases open_slice Try.underlying47 ht with ⟨hcs2, _⟩ | ⟨a2, len2, cap2, _, _, _, _, hcs2, _⟩
      · simp at hcs2
        subst hcs2
        exact ⟨([], none, 0), hc, .inl rfl, Nat.zero_le _⟩
      · simp at hcs2
        subst hcs2
        obtain ⟨l2, e2, h1, h2⟩ := open_nums (a := some a2) (len := len2) (cap := cap2) (by simpa [Value.cells] using ht)
        subst e2
        exact ⟨(l2, some a2, cap2), hc, h1, h2⟩
    obtain ⟨g, hg⟩ := @choose_lt (List Int × Option Addr × Nat) ⟨([], none, 0)⟩ _ _ hit
    refine ⟨some a, cap, (List.range len).map (fun i => (g i).1), by simpa using hcs, ?_, by simp; omega, ?_⟩
    · by_cases h0 : len = 0
      · exact .inl (by simp [h0])
      · right
        have hcell : ∀ i, i < len → w.cell? (a.add i) = some (.slice (g i).2.1 (g i).1.length (g i).2.2) := fun i hi => by
          have := (World.cells?_some (hg i hi).1).2.2 0 (by omega)
          rw [add_add] at this
          simpa using this
        obtain ⟨b, off, spot⟩ := a
        have hspot : spot = none := by
          have := World.cell?_spot (hcell 0 (by omega))
          simpa [Addr.add] using this
        subst hspot
        refine ⟨b, off, rfl, fun i hi => ?_⟩
        have hi' : i < len := by simpa using hi
        have ha : (⟨b, off, none⟩ : Addr).add i = ⟨b, off + i, none⟩ := by
          unfold Addr.add; split <;> simp_all
        have c := hcell i hi'
        rw [ha] at c
        simp only [List.getElem_map, List.getElem_range]
        exact ⟨(g i).2.1, (g i).2.2, c, (hg i hi').2.1⟩
    · intro x hx
      obtain ⟨i, hi, rfl⟩ := List.mem_map.1 hx
      exact (hg i (List.mem_range.1 hi)).2.2
theorem open_cert {H : Type} {enc : TypeId × Value → H} {w : World} {base : Nat} {held : Bool} {fuel : Nat} {cs : List Value} {x : DataW H × List MemPlace}
    (h : DataW.trod enc Try.prog w base (fun _ => true) held fuel 25 cs = some x) : ∃ (y : Ct) (a : Option Addr) (cap : Nat) (b : Option Addr) (capb : Nat), cs = [.slice a y.c.length cap, .slice b y.b.length capb] ∧ Its w a y.c ∧ y.c.length ≤ maxLen ∧ IntsS w b y.b ∧ y.b.length ≤ maxLen ∧ ∀ x ∈ y.b, x.length ≤ maxLen := by
  obtain ⟨y0, y1, n, _, hl, h0, h1⟩ := trod_struct2 Try.underlying25 h
  rw [cellsCert] at hl
  simp only [cellsItemS', cellsIntsS] at h0 h1
  obtain ⟨a, cap, c, hc, hi, hm⟩ := open_items h0
  obtain ⟨b, capb, l, hc2, hi2, hm2, hx2⟩ := open_numss h1
  match cs, hl with
  | [c0, c1], _ =>
    simp at hc hc2
    exact ⟨⟨c, l⟩, a, cap, b, capb, by rw [hc, hc2], hi, hm, hi2, hm2, hx2⟩
end Go.Proofs.Yteemihgakcmamaa
