/-
  The laws' own helpers at votes: counted, copied field by field, held against each other.
-/
import Derived.Test.YtjcnbacbnfmkjabVRows
import Derived.Test.YtjcnbacbnfmkjabConv
namespace Go.Proofs.Ytjcnbacbnfmkjab
set_option linter.unusedVariables false
open Go.RowKit
attribute [local simp] far_const

/-- What is left of a size. -/
def szR (left : Int) (t : Nat) : Int := if left < t then -1 else left - t
theorem szR_neg {left : Int} {t : Nat} (h : left < t) : szR left t = -1 := if_pos h
theorem szR_pos {left : Int} {t : Nat} (h : ¬ left < t) : szR left t = left - t := if_neg h
def sumC (l : List Vt) : Nat := (l.map (fun x => x.c.length)).sum
theorem sumC_app (l m : List Vt) : sumC (l ++ m) = sumC l + sumC m := by unfold sumC; rw [List.map_append, List.sum_append]
theorem sumC_one (x : Vt) : sumC [x] = x.c.length := by simp [sumC]
theorem sumC_take {l : List Vt} {k : Nat} (hk : k < l.length) : sumC (l.take (k + 1)) = sumC (l.take k) + l[k].c.length := by
  rw [List.take_succ_eq_append_getElem hk, sumC_app, sumC_one]
theorem sumC_le (l : List Vt) (k : Nat) : sumC (l.take k) ≤ sumC l := by
  conv => rhs; rw [← List.take_append_drop k l, sumC_app]
  exact Nat.le_add_right _ _
theorem sumC_at {l : List Vt} {x : Vt} (h : x ∈ l) : x.c.length ≤ sumC l := by
  unfold sumC
  induction l with
  | nil => cases h
  | cons y r ih =>
    rcases List.mem_cons.1 h with e | e
    · subst e; simp
    · have := ih e; simp at this ⊢; omega
/-- How great votes are. -/
def totV (l : List Vt) : Nat := l.length + sumC l
theorem totV_short {l : List Vt} (h : totV l ≤ 1048576) : Short l := fun x hx => by have := sumC_at hx; unfold totV at h; omega
theorem totV_len {l : List Vt} (h : totV l ≤ 1048576) : l.length ≤ 1048576 := by unfold totV at h; omega

/-- Whether two rows of votes are the same. -/
def sameVs (l m : List Vt) : Bool := decide (l.length = m.length) && (List.range l.length).all (fun i => match l[i]?, m[i]? with | some x, some y => sameV x y | _, _ => false)
theorem sameVs_iff (l m : List Vt) : sameVs l m = true ↔ l = m := by
  unfold sameVs
  simp only [Bool.and_eq_true, decide_eq_true_eq, List.all_eq_true, List.mem_range]
  constructor
  · rintro ⟨h1, h2⟩
    apply List.ext_getElem h1
    intro i hi hj
    have := h2 i hi
    rw [List.getElem?_eq_getElem hi, List.getElem?_eq_getElem hj] at this
    exact (sameV_iff _ _).1 this
  · rintro rfl
    refine ⟨rfl, fun i hi => ?_⟩
    rw [List.getElem?_eq_getElem hi]
    exact (sameV_iff _ _).2 rfl
theorem sameVs_part {l m : List Vt} {k : Nat} (h1 : k < l.length) (h2 : k < m.length) (h : sameV l[k] m[k] = false) : sameVs l m = false := by
  cases e : sameVs l m with
  | false => rfl
  | true =>
    have := (sameVs_iff l m).1 e
    subst this
    rw [(sameV_iff _ _).2 rfl] at h; cases h
theorem sameVs_all {l m : List Vt} (h : l.length = m.length) (hk : ∀ k (h1 : k < l.length) (h2 : k < m.length), sameV l[k] m[k] = true) : sameVs l m = true :=
  (sameVs_iff l m).2 (List.ext_getElem h fun i h1 h2 => (sameV_iff _ _).1 (hk i h1 h2))
theorem sameVs_len {l m : List Vt} (h : l.length ≠ m.length) : sameVs l m = false := by unfold sameVs; simp [h]

end Go.Proofs.Ytjcnbacbnfmkjab
