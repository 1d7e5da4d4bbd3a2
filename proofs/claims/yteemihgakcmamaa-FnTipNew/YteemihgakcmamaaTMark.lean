/-
  Rows of chains that are marked, and held against their marks.
-/
import Derived.Test.YteemihgakcmamaaTAllA
import Derived.Test.YteemihgakcmamaaTFormsA
import Derived.Test.YteemihgakcmamaaTAll2
namespace Go.Proofs.Yteemihgakcmamaa
set_option linter.unusedVariables false
open Go.RowKit
attribute [local simp] far_const

/-- How many items chains have together. -/
def sumK (cs : List (List It)) : Nat := (cs.map List.length).sum
theorem sumK_app (l m : List (List It)) : sumK (l ++ m) = sumK l + sumK m := by unfold sumK; rw [List.map_append, List.sum_append]
theorem sumK_one (c : List It) : sumK [c] = c.length := by simp [sumK]
theorem sumK_take {l : List (List It)} {k : Nat} (hk : k < l.length) : sumK (l.take (k + 1)) = sumK (l.take k) + l[k].length := by
  rw [List.take_succ_eq_append_getElem hk, sumK_app, sumK_one]
theorem sumK_le (l : List (List It)) (k : Nat) : sumK (l.take k) ≤ sumK l := by
  conv => rhs; rw [← List.take_append_drop k l, sumK_app]
  exact Nat.le_add_right _ _
theorem sumK_filter (p : List It → Bool) : ∀ l : List (List It), sumK (l.filter p) ≤ sumK l
  | [] => by simp [sumK]
  | c :: l => by
    have ih := sumK_filter p l
    rw [List.filter_cons]
    have e : ∀ m : List (List It), sumK (c :: m) = c.length + sumK m := fun m => by simp [sumK]
    split
    · rw [e, e]; omega
    · rw [e]; omega
theorem sumK_firsts (l : List Vt) : sumK (firstsL l) ≤ sumC l := by
  obtain ⟨n, hn⟩ : ∃ n, l.length = n := ⟨_, rfl⟩
  induction n generalizing l with
  | zero => have := List.eq_nil_of_length_eq_zero hn; subst this; simp [firstsL, sumK, sumC]
  | succ n ih =>
    rcases List.eq_nil_or_concat l with rfl | ⟨m, x, rfl⟩
    · simp at hn
    rw [List.concat_eq_append] at hn ⊢
    have := ih m (by simp at hn; exact hn)
    rw [firstsL_snoc, sumC_app, sumC_one]
    split
    · omega
    · rw [sumK_app, sumK_one]; omega
theorem sumK_all (l : List Vt) : sumK (allS l) ≤ sumC l := Nat.le_trans (sumK_filter _ _) (sumK_firsts l)
/-- Chains that bear the marks from k on. -/
def marksC : Int → List (List It) → List (List It)
  | _, [] => []
  | k, c :: r => marks k c.length :: marksC (k + 4 * c.length) r
theorem marksC_len : ∀ (l : List (List It)) (k : Int), (marksC k l).length = l.length
  | [], k => rfl
  | x :: r, k => by simp [marksC, marksC_len r]
theorem marksC_get : ∀ (l : List (List It)) (k : Int) (i : Nat) (h : i < l.length) (h' : i < (marksC k l).length), (marksC k l)[i] = marks (k + 4 * sumK (l.take i)) l[i].length
  | [], k, i, h, _ => absurd h (Nat.not_lt_zero _)
  | x :: r, k, 0, h, _ => by simp [marksC, sumK]
  | x :: r, k, i + 1, h, h' => by
    have hi : i < r.length := by simpa using h
    have := marksC_get r (k + 4 * x.length) i hi (by rw [marksC_len]; exact hi)
    simp only [marksC, List.getElem_cons_succ, this, List.take_succ_cons]
    have e : sumK (x :: r.take i) = x.length + sumK (r.take i) := by simp [sumK]
    rw [e]
    congr 1
    omega
theorem KRow.setAt {w w' : World} {base : Nat} {v : Value} {hs : List Nat} {cs : List (List It)} {k : Nat} {x : List It} (h : KRow w base v hs cs) (hk : k < cs.length) (hk' : k < hs.length) (hx : x.length = cs[k].length)
    (hw : Wrote (some ⟨hs[k], 0, none⟩) w w') (hi : Its w' (some ⟨hs[k], 0, none⟩) x) (ho : Own w' hs[k] x.length) : KRow w' base v hs (cs.set k x) := by
  obtain ⟨⟨vs, row, hc⟩, len, apart, off, low, its⟩ := h
  refine ⟨⟨vs, ?_, fun i hi1 hi2 => ?_⟩, by simp [len], apart, off, fun b hb => by rw [hw.size]; exact low b hb, fun i hi1 hi2 => ?_⟩
  · rw [List.length_set]
    exact ownsRow_block row (fun b hb => hw.keep b (fun y hy => by cases hy; exact fun e => off hs[k] (List.getElem_mem hk') (by rw [hb]; exact congrArg some e.symm)))
  · rw [List.length_set] at hi1
    rw [hc i hi1 hi2, List.getElem_set]
    by_cases e : k = i
    · subst e; rw [if_pos rfl, hx]
    · rw [if_neg e]
  · rw [List.length_set] at hi1
    by_cases e : k = i
    · subst e
      rw [List.getElem_set, if_pos rfl]
      exact ⟨hi, ho⟩
    · rw [List.getElem_set, if_neg e]
      have hne : hs[i] ≠ hs[k] := nodup_ne apart hi2 hk' (fun h => e h.symm)
      have hb : w'.heap[hs[i]]? = w.heap[hs[i]]? := hw.keep hs[i] (fun y hy => by cases hy; exact fun h => hne h.symm)
      exact ⟨(its i hi1 hi2).1.block hb, (its i hi1 hi2).2.block hb⟩
theorem KRow.cell {w : World} {base : Nat} {v : Value} {hs : List Nat} {cs : List (List It)} (h : KRow w base v hs cs) {k : Nat} (hk : k < cs.length) (hk' : k < hs.length) :
    ∃ g cap, v = .slice (some ⟨g, 0, none⟩) cs.length cap ∧ w.cell? ⟨g, k, none⟩ = some (.slice (some ⟨hs[k], 0, none⟩) cs[k].length cs[k].length) := by
  obtain ⟨⟨vs, row, hc⟩, len, apart, off, low, its⟩ := h
  have hz : v ≠ .slice none 0 0 := by
    rintro rfl
    rcases row.2 with ⟨_, h0⟩ | ⟨g, cap, cur, hv, _⟩
    · omega
    · cases hv
  have HO : OwnC w base v cs := by
    rcases (⟨⟨vs, row, hc⟩, len, apart, off, low, its⟩ : KRow w base v hs cs).chs with ⟨h1, _⟩ | h1
    · exact absurd h1 hz
    · exact h1
  obtain ⟨g, cap, hv, _⟩ := HO.at
  subst hv
  refine ⟨g, cap, rfl, ?_⟩
  have hvl := row.1
  rw [row.cellAt k (by omega)]
  exact hc k hk hk'
theorem KRow.val {w : World} {base : Nat} {v : Value} {hs : List Nat} {cs : List (List It)} (h : KRow w base v hs cs) : ∃ a cap, v = .slice a cs.length cap := by
  obtain ⟨a, cap, hv, _⟩ := h.chsV; exact ⟨a, cap, hv⟩

end Go.Proofs.Yteemihgakcmamaa
