/-
  Votes as lists: what VotesAdd and VotesFor answer, and what the laws say of them. Plain mathematics, no Go text.
-/
import Derived.Test.YtjcnbacbnfmkjaaVote1
namespace Go.Proofs.Ytjcnbacbnfmkjaa
set_option linter.unusedVariables false

theorem hasB_app (l m : List Vt) (v : Vt) : hasB (l ++ m) v = (hasB l v || hasB m v) := by simp [hasB]
theorem hasB_of_iff {l m : List Vt} (h : ∀ x, x ∈ l ↔ x ∈ m) (v : Vt) : hasB l v = hasB m v := by
  rw [Bool.eq_iff_iff, hasB_iff, hasB_iff, h v]
theorem votesB_of_iff {l m : List Vt} (h : (∀ x ∈ l, vokB x = true) ∧ l.Nodup ↔ (∀ x ∈ m, vokB x = true) ∧ m.Nodup) : votesB l = votesB m := by
  rw [Bool.eq_iff_iff, votesB_iff, votesB_iff]; exact h
theorem votesB_perm {l m : List Vt} (h : l.Perm m) : votesB l = votesB m :=
  votesB_of_iff ⟨fun ⟨h1, h2⟩ => ⟨fun x hx => h1 x (h.mem_iff.2 hx), h.nodup_iff.1 h2⟩, fun ⟨h1, h2⟩ => ⟨fun x hx => h1 x (h.mem_iff.1 hx), h.nodup_iff.2 h2⟩⟩
theorem votesB_snoc {l : List Vt} {v : Vt} (h : votesB l = true) (hv : vokB v = true) (hn : hasB l v = false) : votesB (l ++ [v]) = true := by
  rw [votesB_iff] at h ⊢
  have hm : v ∉ l := fun e => by rw [(hasB_iff l v).2 e] at hn; cases hn
  refine ⟨fun x hx => ?_, ?_⟩
  · rcases List.mem_append.1 hx with hx | hx
    · exact h.1 x hx
    · simp at hx; rw [hx]; exact hv
  · rw [List.nodup_append]
    refine ⟨h.2, by simp, fun a ha b hb e => ?_⟩
    simp at hb
    exact hm (by rw [← hb, ← e]; exact ha)
theorem votesB_twice {l : List Vt} {v : Vt} (h : v ∈ l) : votesB (l ++ [v]) = false := by
  cases e : votesB (l ++ [v]) with
  | false => rfl
  | true =>
    rw [votesB_iff, List.nodup_append] at e
    exact absurd rfl (e.2.2.2 v h v (by simp))
theorem votesB_sub {l m : List Vt} (h : votesB l = true) (hs : m.Sublist l) : votesB m = true := by
  rw [votesB_iff] at h ⊢
  exact ⟨fun x hx => h.1 x (hs.subset hx), hs.nodup h.2⟩
theorem votesB_less {l : List Vt} (h : votesB l = true) (k : Nat) : votesB (l.take k ++ l.drop (k + 1)) = true := by
  apply votesB_sub h
  conv => rhs; rw [← List.take_append_drop k l]
  exact List.Sublist.append_left (by rw [← List.drop_drop]; exact List.drop_sublist _ _) _

/-- VotesAdd. -/
def addV (l : List Vt) (v : Vt) : List Vt × Bool := if votesB l = true ∧ vokB v = true then (if hasB l v = true then (l, false) else (l ++ [v], true)) else ([], false)
theorem addV_true {l : List Vt} {v : Vt} (h : (addV l v).2 = true) : votesB l = true ∧ vokB v = true ∧ hasB l v = false ∧ (addV l v).1 = l ++ [v] := by
  unfold addV at h ⊢
  by_cases h1 : votesB l = true ∧ vokB v = true
  · rw [if_pos h1] at h ⊢
    by_cases h2 : hasB l v = true
    · rw [if_pos h2] at h; cases h
    · rw [if_neg h2]; exact ⟨h1.1, h1.2, by simpa using h2, rfl⟩
  · rw [if_neg h1] at h; cases h

/-- Who is for a chain: ascending. -/
def forN (l : List Vt) (c : List It) : List Int := [1, 2, 3, 4].filter (fun n => hasB l ⟨n, c⟩)
/-- VotesFor. -/
def forL (l : List Vt) (c : List It) : List Int := if votesB l = true then forN l c else []
theorem forN_of_iff {l m : List Vt} (h : ∀ x, x ∈ l ↔ x ∈ m) (c : List It) : forN l c = forN m c := by
  unfold forN
  congr 1
  funext n
  exact hasB_of_iff h _
theorem forL_perm {l m : List Vt} (h : l.Perm m) (c : List It) : forL l c = forL m c := by
  unfold forL
  rw [votesB_perm h, forN_of_iff (fun x => h.mem_iff) c]
theorem forN_other {l : List Vt} {v : Vt} {c : List It} (h : c ≠ v.c) : forN (l ++ [v]) c = forN l c := by
  unfold forN
  congr 1
  funext n
  rw [hasB_app]
  have : hasB [v] ⟨n, c⟩ = false := by
    cases e : hasB [v] ⟨n, c⟩ with
    | false => rfl
    | true =>
      rw [hasB_iff] at e
      simp at e
      exact absurd (by rw [← e]) h
  rw [this, Bool.or_false]
theorem hasB_one (v : Vt) (n : Int) : hasB [v] ⟨n, v.c⟩ = (v.n == n) := by
  rw [Bool.eq_iff_iff, hasB_iff, beq_iff_eq]
  constructor
  · intro h; simp at h; rw [← h]
  · intro h; subst h; simp
theorem forN_add {l : List Vt} {v : Vt} (hv : vokB v = true) (hn : hasB l v = false) : (forN (l ++ [v]) v.c).length = (forN l v.c).length + 1 ∧ v.n ∈ forN (l ++ [v]) v.c := by
  have hr : 1 ≤ v.n ∧ v.n ≤ 4 := by
    simp only [vokB, inB, Bool.and_eq_true, decide_eq_true_eq] at hv
    exact hv.1.1
  have hq : ∀ n, hasB (l ++ [v]) ⟨n, v.c⟩ = (hasB l ⟨n, v.c⟩ || (v.n == n)) := fun n => by rw [hasB_app, hasB_one]
  have hl : hasB l ⟨v.n, v.c⟩ = false := hn
  refine ⟨?_, ?_⟩
  · unfold forN
    simp only [hq]
    rcases (show v.n = 1 ∨ v.n = 2 ∨ v.n = 3 ∨ v.n = 4 by omega) with h | h | h | h <;> rw [h] at hl ⊢ <;>
      cases e1 : hasB l ⟨1, v.c⟩ <;> cases e2 : hasB l ⟨2, v.c⟩ <;> cases e3 : hasB l ⟨3, v.c⟩ <;> cases e4 : hasB l ⟨4, v.c⟩ <;> simp_all
  · unfold forN
    rw [List.mem_filter]
    refine ⟨by simp; omega, ?_⟩
    rw [hq]; simp
theorem forN_len (l : List Vt) (c : List It) : (forN l c).length ≤ 4 := by
  unfold forN; exact List.length_filter_le _ _
theorem forN_pos {l : List Vt} (h : votesB l = true) {x : Vt} (hx : x ∈ l) : 1 ≤ (forN l x.c).length := by
  rw [votesB_iff] at h
  have hv := h.1 x hx
  simp only [vokB, inB, Bool.and_eq_true, decide_eq_true_eq] at hv
  apply List.length_pos_of_mem (a := x.n)
  unfold forN
  rw [List.mem_filter]
  exact ⟨by simp; omega, (hasB_iff _ _).2 hx⟩
end Go.Proofs.Ytjcnbacbnfmkjaa
