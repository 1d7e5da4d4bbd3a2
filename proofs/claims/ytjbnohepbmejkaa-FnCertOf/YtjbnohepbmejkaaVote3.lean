/-
  Votes as lists: all that are for some chain together are as many as votes are. Plain mathematics, no Go text.
-/
import Derived.Test.YtjbnohepbmejkaaVoteA
namespace Go.Proofs.Ytjbnohepbmejkaa
set_option linter.unusedVariables false

theorem votesB_init {l : List Vt} {v : Vt} (h : votesB (l ++ [v]) = true) : votesB l = true ∧ vokB v = true ∧ hasB l v = false := by
  refine ⟨votesB_sub h (List.sublist_append_left _ _), ?_, ?_⟩
  · rw [votesB_iff] at h; exact h.1 v (by simp)
  · cases e : hasB l v with
    | false => rfl
    | true => rw [votesB_twice ((hasB_iff l v).1 e)] at h; cases h
/-- How many are for a chain. -/
theorem forN_count : ∀ (n : Nat) (l : List Vt) (c : List It), l.length = n → votesB l = true → (forN l c).length = (l.filter (fun x => sameB x.c c)).length
  | 0, l, c, hl, _ => by
    have : l = [] := List.eq_nil_of_length_eq_zero hl
    subst this
    rfl
  | n + 1, l, c, hl, h => by
    rcases List.eq_nil_or_concat l with rfl | ⟨r, v, rfl⟩
    · simp at hl
    · rw [List.concat_eq_append] at hl h ⊢
      obtain ⟨h1, h2, h3⟩ := votesB_init h
      have ih := forN_count n r c (by simpa using hl) h1
      rw [List.filter_append, List.length_append]
      by_cases e : c = v.c
      · subst e
        rw [(forN_add h2 h3).1, ih]
        have : sameB v.c v.c = true := (sameB_iff _ _).2 rfl
        simp [this]
      · rw [forN_other e, ih]
        have : sameB v.c c = false := by
          cases e' : sameB v.c c with
          | false => rfl
          | true => exact absurd ((sameB_iff _ _).1 e').symm e
        simp [this]
theorem filter_or {α : Type} (l : List α) (p q : α → Bool) (h : ∀ x ∈ l, p x = true → q x = false) : (l.filter (fun x => p x || q x)).length = (l.filter p).length + (l.filter q).length := by
  induction l with
  | nil => rfl
  | cons y r ih =>
    have ih := ih (fun x hx => h x (List.mem_cons_of_mem _ hx))
    have hy := h y (List.mem_cons_self ..)
    cases e1 : p y with
    | true =>
      have e2 := hy e1
      simp [e1, e2, ih]; omega
    | false =>
      cases e2 : q y with
      | true => simp [e1, e2, ih]; omega
      | false => simp [e1, e2, ih]
/-- How many votes are for one of the first k chains. -/
def upTo (l : List Vt) (k : Nat) : Nat := (l.filter (fun x => (l.take k).any (fun y => sameB x.c y.c))).length
theorem upTo_zero (l : List Vt) : upTo l 0 = 0 := by simp [upTo]
theorem upTo_all (l : List Vt) : upTo l l.length = l.length := by
  unfold upTo
  rw [List.take_length, List.filter_eq_self.2]
  intro x hx
  rw [List.any_eq_true]
  exact ⟨x, hx, (sameB_iff _ _).2 rfl⟩
theorem any_take {α : Type} (l : List α) (p : α → Bool) (k : Nat) (h : k < l.length) : (l.take (k + 1)).any p = ((l.take k).any p || p l[k]) := by
  rw [List.take_succ_eq_append_getElem h, List.any_append, List.any_cons, List.any_nil, Bool.or_false]
theorem upTo_first {l : List Vt} (h : votesB l = true) (k : Nat) (hk : k < l.length) (hf : (l.take k).any (fun y => sameB l[k].c y.c) = false) : upTo l (k + 1) = upTo l k + (forN l l[k].c).length := by
  unfold upTo
  rw [forN_count l.length l _ rfl h, ← filter_or]
  · congr 2
    funext x
    exact any_take l _ k hk
  · intro x hx hp
    cases e : sameB x.c l[k].c with
    | false => rfl
    | true =>
      rw [(sameB_iff _ _).1 e] at hp
      rw [hf] at hp
      cases hp
theorem upTo_more {l : List Vt} (k : Nat) (hk : k < l.length) (hf : (l.take k).any (fun y => sameB l[k].c y.c) = true) : upTo l (k + 1) = upTo l k := by
  unfold upTo
  congr 2
  funext x
  rw [any_take l _ k hk]
  cases e : sameB x.c l[k].c with
  | false => rw [Bool.or_false]
  | true =>
    rw [(sameB_iff _ _).1 e, hf]; rfl
end Go.Proofs.Ytjbnohepbmejkaa
