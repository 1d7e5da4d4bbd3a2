/-
  Texts together: Book1, Book2, Book3, Book4, Book5.
-/
import Derived.Test.YtkegdjfpeocndaaGreatNumsA
namespace Go.Proofs.YtkegdjfpeocndaaGreat
set_option linter.unusedVariables false
open Go.RowKit
attribute [local simp] far_const

/-- What all have is ok. -/
def bokB (l : List Int) : Bool := decide (l.length = 3) && (l.all (fun x => inB x 0 27) && decide (l.sum = 27))
theorem all_takeN (l : List Int) (p : Int → Bool) (k : Nat) (h : k < l.length) : (l.take (k + 1)).all p = ((l.take k).all p && p l[k]) := by
  rw [List.take_succ_eq_append_getElem h, List.all_append, List.all_cons, List.all_nil, Bool.and_true]
theorem sum_take (l : List Int) (k : Nat) (h : k < l.length) : (l.take (k + 1)).sum = (l.take k).sum + l[k] := by
  rw [List.take_succ_eq_append_getElem h, List.sum_append, List.sum_cons, List.sum_nil, Int.add_zero]
theorem all_ends (l : List Int) (p : Int → Bool) (k : Nat) (hk : k < l.length) (h : p l[k] = false) : l.all p = false := by
  cases e : l.all p with
  | false => rfl
  | true =>
    rw [List.all_eq_true] at e
    rw [e _ (List.getElem_mem hk)] at h
    cases h

set_option linter.unusedVariables false
open Go.RowKit
attribute [local simp] far_const

/-- What all have behind a payment; as it was, if it cannot be made. -/
def payL (l : List Int) (f t s : Int) : List Int :=
  if s ≤ l.getD (f - 1).toNat 0 then (l.set (f - 1).toNat (l.getD (f - 1).toNat 0 - s)).set (t - 1).toNat (l.getD (t - 1).toNat 0 + s) else l
theorem payB_cases {f t s : Int} (h : payB f t s = true) : 1 ≤ s ∧ s ≤ 9 ∧ (f = 1 ∧ t = 2 ∨ f = 1 ∧ t = 3 ∨ f = 2 ∧ t = 1 ∨ f = 2 ∧ t = 3 ∨ f = 3 ∧ t = 1 ∨ f = 3 ∧ t = 2) := by
  simp only [payB, inB, Bool.and_eq_true, decide_eq_true_eq, Bool.not_eq_true', beq_eq_false_iff_ne] at h
  omega
theorem bokB_three {l : List Int} (h : bokB l = true) : ∃ x y z, l = [x, y, z] ∧ 0 ≤ x ∧ x ≤ 27 ∧ 0 ≤ y ∧ y ≤ 27 ∧ 0 ≤ z ∧ z ≤ 27 ∧ x + y + z = 27 := by
  match l, h with
  | [x, y, z], h =>
    simp [bokB, inB] at h
    exact ⟨x, y, z, rfl, by omega⟩
  | [], h => simp [bokB] at h
  | [_], h => simp [bokB] at h
  | [_, _], h => simp [bokB] at h
  | _ :: _ :: _ :: _ :: _, h => simp [bokB] at h
theorem bokB_of {x y z : Int} (h : 0 ≤ x ∧ 0 ≤ y ∧ 0 ≤ z ∧ x + y + z = 27) : bokB [x, y, z] = true := by
  simp [bokB, inB]; omega
theorem payL_ok {l : List Int} {f t s : Int} (h : bokB l = true) (hp : payB f t s = true) : bokB (payL l f t s) = true := by
  obtain ⟨x, y, z, rfl, h⟩ := bokB_three h
  obtain ⟨h1, h2, hc⟩ := payB_cases hp
  unfold payL
  rcases hc with ⟨rfl, rfl⟩ | ⟨rfl, rfl⟩ | ⟨rfl, rfl⟩ | ⟨rfl, rfl⟩ | ⟨rfl, rfl⟩ | ⟨rfl, rfl⟩ <;> simp <;> split <;> apply bokB_of <;> omega

set_option linter.unusedVariables false
open Go.RowKit
attribute [local simp] far_const

set_option linter.unusedVariables false
open Go.RowKit
attribute [local simp] far_const

/-- BookPay. -/
def bpay (l : List Int) (f t s : Int) : List Int := if bokB l = true ∧ payB f t s = true then payL l f t s else []
def payAll (c : List It) : List Int := c.foldl (fun b x => payL b x.f x.t x.s) [9, 9, 9]
/-- BookOf. -/
def bof (c : List It) : List Int := if okB c = true then payAll c else []

set_option linter.unusedVariables false
open Go.RowKit
attribute [local simp] far_const

theorem goB_pays (l : List It) : ∀ last, goB last l = true → ∀ x ∈ l, payB x.f x.t x.s = true := by
  induction l with
  | nil => intro last _ x hx; cases hx
  | cons y r ih =>
    intro last h x hx
    simp only [goB, stepB, Bool.and_eq_true] at h
    rcases List.mem_cons.1 hx with rfl | hx
    · exact h.1.2
    · exact ih _ h.2 x hx
theorem okB_pay {l : List It} (h : okB l = true) (k : Nat) (hk : k < l.length) : payB l[k].f l[k].t l[k].s = true := by
  simp only [okB, Bool.and_eq_true] at h
  exact goB_pays l 0 h.2 _ (List.getElem_mem hk)
theorem payAll_take (l : List It) (k : Nat) (h : k < l.length) : payAll (l.take (k + 1)) = payL (payAll (l.take k)) l[k].f l[k].t l[k].s := by
  unfold payAll
  rw [List.take_succ_eq_append_getElem h, List.foldl_append]
  rfl
theorem payAll_ok (l : List It) (h : ∀ x ∈ l, payB x.f x.t x.s = true) : bokB (payAll l) = true := by
  have : ∀ (l : List It) (b : List Int), (∀ x ∈ l, payB x.f x.t x.s = true) → bokB b = true → bokB (l.foldl (fun b x => payL b x.f x.t x.s) b) = true := by
    intro l
    induction l with
    | nil => intro b _ hb; exact hb
    | cons y r ih => intro b hl hb; exact ih _ (fun x hx => hl x (List.mem_cons_of_mem _ hx)) (payL_ok hb (hl y (List.mem_cons_self ..)))
  exact this l _ h (bokB_of (by omega))
theorem okB_len {l : List It} (h : okB l = true) : l.length ≤ 16 := by
  simp only [okB, Bool.and_eq_true, decide_eq_true_eq] at h; exact h.1
theorem payAll_take_ok {l : List It} (h : okB l = true) (k : Nat) : bokB (payAll (l.take k)) = true :=
  payAll_ok _ fun x hx => by
    simp only [okB, Bool.and_eq_true] at h
    exact goB_pays l 0 h.2 x (List.mem_of_mem_take hx)
theorem bof_ok {l : List It} (h : okB l = true) : bokB (bof l) = true := by
  unfold bof
  rw [if_pos h]
  have := payAll_take_ok h l.length
  rwa [List.take_length] at this
theorem bof_three (l : List It) : bof l = [] ∨ bokB (bof l) = true := by
  by_cases h : okB l = true
  · exact .inr (bof_ok h)
  · exact .inl (by unfold bof; rw [if_neg h])

end Go.Proofs.YtkegdjfpeocndaaGreat
