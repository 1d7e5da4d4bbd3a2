/-
  Whether two chains are the same; how chains begin each other, plainly.
-/
import Derived.Test.YtkegdjfpeocndaaGreatIn
namespace Go.Proofs.YtkegdjfpeocndaaGreat
set_option linter.unusedVariables false
open Go.RowKit
attribute [local simp] far_const

theorem specChainOk_n (a : Option Addr) (ca : Nat) (l : List It) (w : World) (hl : Its w a l) (na : Nat) (ha : l.length = na) (hn : na ≤ 1048576) :
    Calls Tryz.prog 51 #[.slice a na ca] w fun r w' => r = .returned (.bool (okB l)) ∧ Grew w w' := by
  subst ha; exact specChainOk a ca l w hl hn
theorem inC_iff (a b : List It) : inC a b = true ↔ okB a = true ∧ okB b = true ∧ ∃ r, b = a ++ r := by
  unfold inC
  simp only [Bool.and_eq_true, decide_eq_true_eq, shareN_all, and_assoc]
theorem okB_app {a r : List It} (h : okB (a ++ r) = true) : okB a = true := by
  unfold okB at h ⊢
  simp only [Bool.and_eq_true, decide_eq_true_eq, List.length_append, goB_app] at h ⊢
  exact ⟨by omega, h.2.1⟩
theorem okB_take {a : List It} (h : okB a = true) (k : Nat) : okB (a.take k) = true := by
  apply okB_app (r := a.drop k)
  rwa [List.take_append_drop]
theorem inC_self {a : List It} (h : okB a = true) : inC a a = true := (inC_iff _ _).2 ⟨h, h, [], by simp⟩
theorem inC_nil {a : List It} (h : okB a = true) : inC [] a = true := (inC_iff _ _).2 ⟨rfl, h, a, rfl⟩
theorem inC_anti {a b : List It} (h : inC a b = true) (k : inC b a = true) : sameB a b = true := by
  obtain ⟨_, _, r, rfl⟩ := (inC_iff _ _).1 h
  obtain ⟨_, _, s, hs⟩ := (inC_iff _ _).1 k
  have hl := congrArg List.length hs
  simp only [List.length_append] at hl
  have : r = [] := List.eq_nil_of_length_eq_zero (by omega)
  subst this
  rw [sameB_iff]; simp
theorem inC_cut {a b : List It} (h : inC a b = true) (k : Nat) : (inC a (b.take k) || inC (b.take k) a) = true := by
  obtain ⟨h1, h2, r, rfl⟩ := (inC_iff _ _).1 h
  rw [Bool.or_eq_true]
  by_cases hk : a.length ≤ k
  · left
    refine (inC_iff _ _).2 ⟨h1, okB_take h2 k, r.take (k - a.length), ?_⟩
    rw [List.take_append, List.take_of_length_le hk]
  · right
    refine (inC_iff _ _).2 ⟨okB_take h2 k, h1, a.drop k, ?_⟩
    rw [List.take_append_of_le_length (by omega), List.take_append_drop]
end Go.Proofs.YtkegdjfpeocndaaGreat
