/-
  Rows of items that stay when other blocks are written; an answer's form.
-/
import Derived.Test.YtjcnbacbnfmkjaaTForms
namespace Go.Proofs.Ytjcnbacbnfmkjaa
set_option linter.unusedVariables false
open Go.RowKit

theorem Its.lt {w : World} {a : Option Addr} {l : List It} (h : Its w a l) (hp : 0 < l.length) : ∀ x, a = some x → x.block < w.heap.size := by
  intro x hx
  obtain ⟨b, off, ha, hat⟩ := h.at hp
  rw [ha] at hx
  cases hx
  exact World.block_lt_of_cell? w _ hat.1
theorem WroteS.its {bs : List Nat} {w w' : World} {a : Option Addr} {l : List It} (h : WroteS bs w w') (i : Its w a l) (hne : 0 < l.length → ∀ x, a = some x → x.block ∉ bs) : Its w' a l := by
  rcases i with i | ⟨b, off, ha, hh⟩
  · exact .inl i
  · by_cases hl : 0 < l.length
    · exact Its.block' (.inr ⟨b, off, ha, hh⟩) (fun x hx => h.keep _ (hne hl x hx))
    · exact .inl (List.eq_nil_of_length_eq_zero (by omega))
/-- Where an answer of items lies: nowhere, or in a block of its own. -/
def OwnX (w : World) (base : Nat) (x : Option Addr) (n : Nat) : Prop := n = 0 ∧ x = none ∨ ∃ g, x = some ⟨g, 0, none⟩ ∧ base ≤ g ∧ Own w g n
theorem OwnX.grew {w w' : World} {base : Nat} {x : Option Addr} {n : Nat} (h : OwnX w base x n) (g : Grew w w') : OwnX w' base x n := by
  rcases h with h | ⟨b, h1, h2, h3⟩
  · exact .inl h
  · exact .inr ⟨b, h1, h2, h3.grew g⟩
theorem OwnX.low {w : World} {base : Nat} {x : Option Addr} {n : Nat} (h : OwnX w base x n) : ∀ y, x = some y → base ≤ y.block := by
  intro y hy
  rcases h with ⟨_, h⟩ | ⟨b, h1, h2, h3⟩
  · rw [h] at hy; cases hy
  · rw [h1] at hy; cases hy; exact h2
theorem OwnX.wrote {bs : List Nat} {w w' : World} {base : Nat} {x : Option Addr} {n : Nat} (h : OwnX w base x n) (hw : WroteS bs w w') (hne : ∀ b ∈ bs, b < base) : OwnX w' base x n := by
  rcases h with h | ⟨b, h1, h2, h3⟩
  · exact .inl h
  · exact .inr ⟨b, h1, h2, h3.block (hw.keep _ (fun hm => by have := hne b hm; omega))⟩
theorem OwnX.plain {w : World} {base : Nat} {x : Option Addr} {n : Nat} (h : OwnX w base x n) : n = 0 ∧ x = none ∨ ∃ g, x = some ⟨g, 0, none⟩ ∧ Own w g n := by
  rcases h with h | ⟨b, h1, h2, h3⟩
  · exact .inl h
  · exact .inr ⟨b, h1, h3⟩
theorem AnsI.form {w : World} {base : Nat} {v : Value} {l : List It} (h : AnsI w base v l) : ∃ x cap, v = .slice x l.length cap ∧ Its w x l ∧ OwnX w base x l.length := by
  rcases h with ⟨rfl, rfl⟩ | ⟨g, rfl, hb, hi, ho⟩
  · exact ⟨none, 0, rfl, .inl rfl, .inl ⟨rfl, rfl⟩⟩
  · exact ⟨_, _, rfl, hi, .inr ⟨g, rfl, hb, ho⟩⟩
theorem cntV_le_of {l : List Vt} (h : totV l ≤ 1048576) : cntV l ≤ 4194305 := by have := cntV_tot l; omega
theorem tipL_short {l : List Vt} (h : Short l) : (tipL l).length ≤ 1048576 := by
  unfold tipL; split
  · exact h.firsts _ (longest_firsts l)
  · simp
theorem finalL_short {l : List Vt} (h : Short l) : (finalL l).length ≤ 1048576 := by
  unfold finalL; split
  · have := h.firsts _ (mostF_firsts l); simp; omega
  · simp
theorem VOwn.room {w : World} {base g cap : Nat} {hs : List Nat} {l : List Vt} (h : VOwn w base (.slice (some ⟨g, 0, none⟩) l.length cap) hs l) : ∀ b off, (some ⟨g, 0, none⟩ : Option Addr) = some ⟨b, off, none⟩ → ∀ i, i < l.length → ∀ u n cp, w.cell? ⟨b, off + i * 2 + 1, none⟩ = some (.slice u n cp) → n ≤ cp := by
  intro b off e i hi u n cp hc
  simp only [Option.some.injEq, Addr.mk.injEq, and_true] at e
  obtain ⟨rfl, rfl⟩ := e
  rw [Nat.zero_add] at hc
  exact h.cap hi hc
end Go.Proofs.Ytjcnbacbnfmkjaa
