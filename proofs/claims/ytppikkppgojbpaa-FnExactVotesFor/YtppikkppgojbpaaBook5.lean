/-
  What BookOf answers, in the program and in the specification.
-/
import Derived.Test.YtppikkppgojbpaaBook4
namespace Go.Proofs.Ytppikkppgojbpaa
set_option linter.unusedVariables false
open Go.RowKit
attribute [local simp] far_const

theorem goB_pays (l : List It) : ∀ last, goB last l = true → ∀ x ∈ l, payB x.f x.t x.s = true := by
  induction l with
  | nil => intro last _ x hx; cases hx
  | cons y r ih =>
    intro last h x hx
    simp only [goB, stepB, Bool.and_eq_true] at h
    rcases List.mem_cons.1 hx with rfl | hx
    · exact h.1.2
    · exact ih _ h.2 x hx
theorem okB_pay {l : List It} (h : okB l = true) (k : Nat) (hk : k < l.length) : payB l[k].f l[k].t l[k].s = true := by
  simp only [okB, Bool.and_eq_true] at h
  exact goB_pays l 0 h.2 _ (List.getElem_mem hk)
theorem payAll_take (l : List It) (k : Nat) (h : k < l.length) : payAll (l.take (k + 1)) = payL (payAll (l.take k)) l[k].f l[k].t l[k].s := by
  unfold payAll
  rw [List.take_succ_eq_append_getElem h, List.foldl_append]
  rfl
theorem payAll_ok (l : List It) (h : ∀ x ∈ l, payB x.f x.t x.s = true) : bokB (payAll l) = true := by
  have : ∀ (l : List It) (b : List Int), (∀ x ∈ l, payB x.f x.t x.s = true) → bokB b = true → bokB (l.foldl (fun b x => payL b x.f x.t x.s) b) = true := by
    intro l
    induction l with
    | nil => intro b _ hb; exact hb
    | cons y r ih => intro b hl hb; exact ih _ (fun x hx => hl x (List.mem_cons_of_mem _ hx)) (payL_ok hb (hl y (List.mem_cons_self ..)))
  exact this l _ h (bokB_of (by omega))
theorem okB_len {l : List It} (h : okB l = true) : l.length ≤ 16 := by
  simp only [okB, Bool.and_eq_true, decide_eq_true_eq] at h; exact h.1
theorem payAll_take_ok {l : List It} (h : okB l = true) (k : Nat) : bokB (payAll (l.take k)) = true :=
  payAll_ok _ fun x hx => by
    simp only [okB, Bool.and_eq_true] at h
    exact goB_pays l 0 h.2 x (List.mem_of_mem_take hx)
theorem bof_ok {l : List It} (h : okB l = true) : bokB (bof l) = true := by
  unfold bof
  rw [if_pos h]
  have := payAll_take_ok h l.length
  rwa [List.take_length] at this
theorem bof_three (l : List It) : bof l = [] ∨ bokB (bof l) = true := by
  by_cases h : okB l = true
  · exact .inr (bof_ok h)
  · exact .inl (by unfold bof; rw [if_neg h])

end Go.Proofs.Ytppikkppgojbpaa
