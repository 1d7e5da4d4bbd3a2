/-
  The laws' own helpers over rows of numbers: held against each other, copied, marked.
-/
import Derived.Test.YtibhfiamibccnabNums1
import Derived.Test.YtibhfiamibccnabMark
namespace Go.Proofs.Ytibhfiamibccnab
set_option linter.unusedVariables false
open Go.RowKit
attribute [local simp] far_const

/-- The marks from k on. -/
def marksN : Int → Nat → List Int
  | _, 0 => []
  | k, n + 1 => k :: marksN (k + 1) n
theorem marksN_len : ∀ (n : Nat) (k : Int), (marksN k n).length = n
  | 0, _ => rfl
  | n + 1, k => by simp [marksN, marksN_len n]
theorem marksN_get : ∀ (n : Nat) (k : Int) (i : Nat) (h : i < (marksN k n).length), (marksN k n)[i] = k + i
  | 0, k, i, h => by simp [marksN] at h
  | n + 1, k, 0, h => by simp [marksN]
  | n + 1, k, i + 1, h => by
    have := marksN_get n (k + 1) i (by simpa [marksN] using h)
    simp only [marksN, List.getElem_cons_succ, this]
    omega
theorem Wrote.ints {a b : Option Addr} {w w' : World} {l : List Int} (h : Wrote a w w') (i : Ints w b l) (hne : 0 < l.length → ∀ x y, a = some x → b = some y → x.block ≠ y.block) : Ints w' b l := by
  by_cases h0 : l = []
  · exact .inl h0
  · have hp : 0 < l.length := List.length_pos_iff.2 h0
    rcases i with i | ⟨g, off, hb, i⟩
    · exact .inl i
    · have e : w'.heap[g]? = w.heap[g]? := h.keep g (fun x hx => hne hp x _ hx hb)
      refine .inr ⟨g, off, hb, fun j hj => ?_⟩
      rw [World.cell?_of_block (w := w) e]; exact i j hj
theorem Wrote.ownN {a : Option Addr} {w w' : World} {base : Nat} {v : Value} {l : List Int} (h : Wrote a w w') (o : OwnN w base v l) (hne : ∀ x g, a = some x → v.ownBlock = some g → x.block ≠ g) : OwnN w' base v l :=
  o.kept fun g _ _ hv => h.keep g fun x hx => hne x g hx hv

end Go.Proofs.Ytibhfiamibccnab
