/-
  Texts together: Mark, Held.
-/
import Derived.Test.YtjcnbacbnfmkjabRows2
namespace Go.Proofs.Ytjcnbacbnfmkjab
set_option linter.unusedVariables false
open Go.RowKit
attribute [local simp] far_const

/-- The marks from k on. -/
def marks : Int → Nat → List It
  | _, 0 => []
  | k, n + 1 => ⟨k, k + 1, k + 2, k + 3⟩ :: marks (k + 4) n
theorem marks_len : ∀ (n : Nat) (k : Int), (marks k n).length = n
  | 0, _ => rfl
  | n + 1, k => by simp [marks, marks_len n]
theorem marks_get : ∀ (n : Nat) (k : Int) (i : Nat) (h : i < (marks k n).length), (marks k n)[i] = ⟨k + 4 * i, k + 4 * i + 1, k + 4 * i + 2, k + 4 * i + 3⟩
  | 0, k, i, h => by simp [marks] at h
  | n + 1, k, 0, h => by simp [marks]
  | n + 1, k, i + 1, h => by
    have := marks_get n (k + 4) i (by simpa [marks] using h)
    simp only [marks, List.getElem_cons_succ, this]
    congr 1 <;> omega

/-- Only the row at a has been written. -/
structure Wrote (a : Option Addr) (w w' : World) : Prop where
  os : w'.os = w.os
  tape : w'.tape = w.tape
  output : w'.output = w.output
  size : w'.heap.size = w.heap.size
  keep : ∀ b, (∀ x, a = some x → x.block ≠ b) → w'.heap[b]? = w.heap[b]?
theorem Wrote.refl (a : Option Addr) (w : World) : Wrote a w w := ⟨rfl, rfl, rfl, rfl, fun _ _ => rfl⟩
theorem Wrote.set {a : Option Addr} {w w' : World} (h : Wrote a w w') {p : Addr} (hp : ∃ x, a = some x ∧ x.block = p.block) (v : Value) : Wrote a w (w'.setCell p v) := by
  obtain ⟨x, hx, hb⟩ := hp
  exact ⟨h.os, h.tape, h.output, by simpa [World.setCell] using h.size, fun b hn => by
    have := hn x hx
    rw [Below.heap_setCell _ _ _ _ (by omega)]; exact h.keep b hn⟩
theorem Wrote.put {g : Nat} {w w' : World} (h : Wrote (some ⟨g, 0, none⟩) w w') (o : Nat) (x : It) : Wrote (some ⟨g, 0, none⟩) w (put4 w' g o x) :=
  (((h.set (p := ⟨g, o, none⟩) ⟨⟨g, 0, none⟩, rfl, rfl⟩ _).set (p := ⟨g, o + 1, none⟩) ⟨⟨g, 0, none⟩, rfl, rfl⟩ _).set (p := ⟨g, o + 2, none⟩) ⟨⟨g, 0, none⟩, rfl, rfl⟩ _).set (p := ⟨g, o + 3, none⟩) ⟨⟨g, 0, none⟩, rfl, rfl⟩ _
theorem Wrote.from {a : Option Addr} {w0 w w' : World} (h : Wrote a w w') (g : Grew w0 w) (ha : ∀ x, a = some x → w0.heap.size ≤ x.block) : Grew w0 w' :=
  .of_below ⟨h.os.trans g.below.os, h.tape.trans g.below.tape, h.output.trans g.below.output, by rw [h.size]; exact g.size, fun i hi => (h.keep i (fun x hx => by have := ha x hx; omega)).trans (g.below.block i hi)⟩
theorem Wrote.its {a b : Option Addr} {w w' : World} {l : List It} (h : Wrote a w w') (i : Its w b l) (hne : 0 < l.length → ∀ x y, a = some x → b = some y → x.block ≠ y.block) : Its w' b l := by
  by_cases h0 : l = []
  · exact .inl h0
  · have hp : 0 < l.length := List.length_pos_iff.2 h0
    rcases i with i | ⟨g, off, hb, i⟩
    · exact .inl i
    · have e : w'.heap[g]? = w.heap[g]? := h.keep g (fun x hx => hne hp x _ hx hb)
      refine .inr ⟨g, off, hb, fun j hj => ?_⟩
      obtain ⟨c0, c1, c2, c3⟩ := i j hj
      exact ⟨by rw [World.cell?_of_block (w := w) e]; exact c0, by rw [World.cell?_of_block (w := w) e]; exact c1, by rw [World.cell?_of_block (w := w) e]; exact c2, by rw [World.cell?_of_block (w := w) e]; exact c3⟩
theorem Wrote.own {a : Option Addr} {w w' : World} {g n : Nat} (h : Wrote a w w') (o : Own w g n) (hne : ∀ x, a = some x → x.block ≠ g) : Own w' g n := by
  obtain ⟨f, hf⟩ := o
  exact ⟨f, hf.of_block (h.keep g hne)⟩

set_option linter.unusedVariables false
open Go.RowKit
attribute [local simp] far_const

end Go.Proofs.Ytjcnbacbnfmkjab
