/-
  Texts together: Vote1, Vote2.
-/
import Derived.Test.YtjbnohepbmejkaaIn
import Derived.Test.YtjbnohepbmejkaaRows2
namespace Go.Proofs.Ytjbnohepbmejkaa
set_option linter.unusedVariables false
open Go.RowKit
attribute [local simp] far_const

/-- A vote: who, and for which chain. -/
structure Vt where
  n : Int
  c : List It

/-- A vote is in form. -/
def vokB (x : Vt) : Bool := inB x.n 1 4 && okB x.c && decide (0 < x.c.length)
def sameV (x y : Vt) : Bool := x.n == y.n && sameB x.c y.c
theorem sameV_iff (x y : Vt) : sameV x y = true ↔ x = y := by
  cases x; cases y
  simp only [sameV, Bool.and_eq_true, beq_iff_eq, sameB_iff, Vt.mk.injEq]
theorem sameB_shares (a b : List It) : sameB a b = (decide (a.length = b.length) && decide (shareN a b = a.length)) := rfl
def hasB (l : List Vt) (v : Vt) : Bool := l.any (fun x => sameV x v)
theorem hasB_iff (l : List Vt) (v : Vt) : hasB l v = true ↔ v ∈ l := by
  unfold hasB
  rw [List.any_eq_true]
  constructor
  · rintro ⟨x, hx, h⟩; rw [sameV_iff] at h; exact h ▸ hx
  · intro h; exact ⟨v, h, (sameV_iff v v).2 rfl⟩
/-- All are in form, each once. -/
def votesB (l : List Vt) : Bool := (List.range l.length).all (fun i => match l[i]? with | some x => vokB x && !hasB (l.take i) x | none => true)
theorem votesB_iff (l : List Vt) : votesB l = true ↔ (∀ x ∈ l, vokB x = true) ∧ l.Nodup := by
  unfold votesB
  simp only [List.all_eq_true, List.mem_range]
  constructor
  · intro h
    have h' : ∀ i (hi : i < l.length), vokB l[i] = true ∧ l[i] ∉ l.take i := fun i hi => by
      have := h i hi
      rw [List.getElem?_eq_getElem hi] at this
      simp only [Bool.and_eq_true, Bool.not_eq_true'] at this
      refine ⟨this.1, fun hm => ?_⟩
      rw [(hasB_iff _ _).2 hm] at this
      exact absurd this.2 (by decide)
    refine ⟨fun x hx => ?_, ?_⟩
    · obtain ⟨i, hi, rfl⟩ := List.getElem_of_mem hx; exact (h' i hi).1
    · rw [List.nodup_iff_pairwise_ne, List.pairwise_iff_getElem]
      intro i j hi hj hij e
      apply (h' j hj).2
      rw [← e, List.mem_iff_getElem]
      exact ⟨i, by simp; omega, by simp⟩
  · rintro ⟨h1, h2⟩ i hi
    rw [List.getElem?_eq_getElem hi]
    simp only [Bool.and_eq_true, Bool.not_eq_true']
    refine ⟨h1 _ (List.getElem_mem hi), ?_⟩
    cases e : hasB (l.take i) l[i] with
    | false => rfl
    | true =>
      rw [hasB_iff, List.mem_iff_getElem] at e
      obtain ⟨j, hj, e⟩ := e
      rw [List.nodup_iff_pairwise_ne, List.pairwise_iff_getElem] at h2
      simp only [List.length_take] at hj
      have := h2 j i (by omega) hi (by omega)
      rw [List.getElem_take] at e
      exact absurd e this
theorem votesB_at {l : List Vt} (k : Nat) (hk : k < l.length) (h : (vokB l[k] && !hasB (l.take k) l[k]) = false) : votesB l = false := by
  cases e : votesB l with
  | false => rfl
  | true =>
    unfold votesB at e
    rw [List.all_eq_true] at e
    have := e k (List.mem_range.2 hk)
    rw [List.getElem?_eq_getElem hk] at this
    simp only at this
    rw [h] at this
    exact absurd this (by decide)
theorem votesB_all {l : List Vt} (h : ∀ k (hk : k < l.length), (vokB l[k] && !hasB (l.take k) l[k]) = true) : votesB l = true := by
  unfold votesB
  rw [List.all_eq_true]
  intro k hk
  rw [List.mem_range] at hk
  rw [List.getElem?_eq_getElem hk]
  exact h k hk

/-- The two cells of a vote, and the items behind. -/
def VtAt (w : World) (b o : Nat) (x : Vt) : Prop :=
  w.cell? ⟨b, o, none⟩ = some (.int .i64 x.n) ∧ ∃ a cap, w.cell? ⟨b, o + 1, none⟩ = some (.slice a x.c.length cap) ∧ Its w a x.c
theorem VtAt.grew {w w' : World} {b o : Nat} {x : Vt} (h : VtAt w b o x) (g : Grew w w') : VtAt w' b o x := by
  obtain ⟨h0, a, cap, h1, h3⟩ := h
  exact ⟨g.keep h0, a, cap, g.keep h1, h3.grew g⟩
/-- The votes of a slice, one behind the other. -/
def Vts (w : World) (a : Option Addr) (l : List Vt) : Prop := l = [] ∨ ∃ b off, a = some ⟨b, off, none⟩ ∧ ∀ i (h : i < l.length), VtAt w b (off + i * 2) l[i]
theorem Vts.grew {w w' : World} {a : Option Addr} {l : List Vt} (h : Vts w a l) (g : Grew w w') : Vts w' a l := by
  rcases h with h | ⟨b, off, ha, h⟩
  · exact .inl h
  · exact .inr ⟨b, off, ha, fun i hi => (h i hi).grew g⟩
theorem Vts.at {w : World} {a : Option Addr} {l : List Vt} (h : Vts w a l) {i : Nat} (hi : i < l.length) : ∃ b off, a = some ⟨b, off, none⟩ ∧ VtAt w b (off + i * 2) l[i] := by
  rcases h with h | ⟨b, off, ha, h⟩
  · subst h; exact absurd hi (Nat.not_lt_zero _)
  · exact ⟨b, off, ha, h i hi⟩
theorem Vts.take {w : World} {a : Option Addr} {l : List Vt} (h : Vts w a l) (k : Nat) : Vts w a (l.take k) := by
  rcases h with h | ⟨b, off, ha, h⟩
  · exact .inl (by rw [h]; simp)
  · refine .inr ⟨b, off, ha, fun i hi => ?_⟩
    have hi' : i < l.length := by simp at hi; omega
    have := h i hi'
    simpa using this
/-- The chains of the votes are not too long. -/
def Short (l : List Vt) : Prop := ∀ x ∈ l, x.c.length ≤ 1048576
theorem Short.at {l : List Vt} (h : Short l) {i : Nat} (hi : i < l.length) : l[i].c.length ≤ 1048576 := h _ (List.getElem_mem hi)
theorem Short.take {l : List Vt} (h : Short l) (k : Nat) : Short (l.take k) := fun x hx => h x (List.mem_of_mem_take hx)
/-- A vote as a value. -/
def VtV (w : World) (v : Value) (x : Vt) : Prop := ∃ a cap, v = .agg #[.int .i64 x.n, .slice a x.c.length cap] ∧ Its w a x.c
theorem VtV.grew {w w' : World} {v : Value} {x : Vt} (h : VtV w v x) (g : Grew w w') : VtV w' v x := by
  obtain ⟨a, cap, h1, h3⟩ := h
  exact ⟨a, cap, h1, h3.grew g⟩

set_option linter.unusedVariables false

theorem hasB_app (l m : List Vt) (v : Vt) : hasB (l ++ m) v = (hasB l v || hasB m v) := by simp [hasB]
theorem hasB_of_iff {l m : List Vt} (h : ∀ x, x ∈ l ↔ x ∈ m) (v : Vt) : hasB l v = hasB m v := by
  rw [Bool.eq_iff_iff, hasB_iff, hasB_iff, h v]
theorem votesB_of_iff {l m : List Vt} (h : (∀ x ∈ l, vokB x = true) ∧ l.Nodup ↔ (∀ x ∈ m, vokB x = true) ∧ m.Nodup) : votesB l = votesB m := by
  rw [Bool.eq_iff_iff, votesB_iff, votesB_iff]; exact h
theorem votesB_perm {l m : List Vt} (h : l.Perm m) : votesB l = votesB m :=
  votesB_of_iff ⟨fun ⟨h1, h2⟩ => ⟨fun x hx => h1 x (h.mem_iff.2 hx), h.nodup_iff.1 h2⟩, fun ⟨h1, h2⟩ => ⟨fun x hx => h1 x (h.mem_iff.1 hx), h.nodup_iff.2 h2⟩⟩
theorem votesB_snoc {l : List Vt} {v : Vt} (h : votesB l = true) (hv : vokB v = true) (hn : hasB l v = false) : votesB (l ++ [v]) = true := by
  rw [votesB_iff] at h ⊢
  have hm : v ∉ l := fun e => by rw [(hasB_iff l v).2 e] at hn; cases hn
  refine ⟨fun x hx => ?_, ?_⟩
  · rcases List.mem_append.1 hx with hx | hx
    · exact h.1 x hx
    · simp at hx; rw [hx]; exact hv
  · rw [List.nodup_append]
    refine ⟨h.2, by simp, fun a ha b hb e => ?_⟩
    simp at hb
    exact hm (by rw [← hb, ← e]; exact ha)
theorem votesB_twice {l : List Vt} {v : Vt} (h : v ∈ l) : votesB (l ++ [v]) = false := by
  cases e : votesB (l ++ [v]) with
  | false => rfl
  | true =>
    rw [votesB_iff, List.nodup_append] at e
    exact absurd rfl (e.2.2.2 v h v (by simp))
theorem votesB_sub {l m : List Vt} (h : votesB l = true) (hs : m.Sublist l) : votesB m = true := by
  rw [votesB_iff] at h ⊢
  exact ⟨fun x hx => h.1 x (hs.subset hx), hs.nodup h.2⟩
theorem votesB_less {l : List Vt} (h : votesB l = true) (k : Nat) : votesB (l.take k ++ l.drop (k + 1)) = true := by
  apply votesB_sub h
  conv => rhs; rw [← List.take_append_drop k l]
  exact List.Sublist.append_left (by rw [← List.drop_drop]; exact List.drop_sublist _ _) _

/-- VotesAdd. -/
def addV (l : List Vt) (v : Vt) : List Vt × Bool := if votesB l = true ∧ vokB v = true then (if hasB l v = true then (l, false) else (l ++ [v], true)) else ([], false)
theorem addV_true {l : List Vt} {v : Vt} (h : (addV l v).2 = true) : votesB l = true ∧ vokB v = true ∧ hasB l v = false ∧ (addV l v).1 = l ++ [v] := by
  unfold addV at h ⊢
  by_cases h1 : votesB l = true ∧ vokB v = true
  · rw [if_pos h1] at h ⊢
    by_cases h2 : hasB l v = true
    · rw [if_pos h2] at h; cases h
    · rw [if_neg h2]; exact ⟨h1.1, h1.2, by simpa using h2, rfl⟩
  · rw [if_neg h1] at h; cases h

/-- Who is for a chain: ascending. -/
def forN (l : List Vt) (c : List It) : List Int := [1, 2, 3, 4].filter (fun n => hasB l ⟨n, c⟩)
/-- VotesFor. -/
def forL (l : List Vt) (c : List It) : List Int := if votesB l = true then forN l c else []
theorem forN_of_iff {l m : List Vt} (h : ∀ x, x ∈ l ↔ x ∈ m) (c : List It) : forN l c = forN m c := by
  unfold forN
  congr 1
  funext n
  exact hasB_of_iff h _
theorem forL_perm {l m : List Vt} (h : l.Perm m) (c : List It) : forL l c = forL m c := by
  unfold forL
  rw [votesB_perm h, forN_of_iff (fun x => h.mem_iff) c]
theorem forN_other {l : List Vt} {v : Vt} {c : List It} (h : c ≠ v.c) : forN (l ++ [v]) c = forN l c := by
  unfold forN
  congr 1
  funext n
  rw [hasB_app]
  have : hasB [v] ⟨n, c⟩ = false := by
    cases e : hasB [v] ⟨n, c⟩ with
    | false => rfl
    | true =>
      rw [hasB_iff] at e
      simp at e
      exact absurd (by rw [← e]) h
  rw [this, Bool.or_false]
theorem hasB_one (v : Vt) (n : Int) : hasB [v] ⟨n, v.c⟩ = (v.n == n) := by
  rw [Bool.eq_iff_iff, hasB_iff, beq_iff_eq]
  constructor
  · intro h; simp at h; rw [← h]
  · intro h; subst h; simp
theorem forN_add {l : List Vt} {v : Vt} (hv : vokB v = true) (hn : hasB l v = false) : (forN (l ++ [v]) v.c).length = (forN l v.c).length + 1 ∧ v.n ∈ forN (l ++ [v]) v.c := by
  have hr : 1 ≤ v.n ∧ v.n ≤ 4 := by
    simp only [vokB, inB, Bool.and_eq_true, decide_eq_true_eq] at hv
    exact hv.1.1
  have hq : ∀ n, hasB (l ++ [v]) ⟨n, v.c⟩ = (hasB l ⟨n, v.c⟩ || (v.n == n)) := fun n => by rw [hasB_app, hasB_one]
  have hl : hasB l ⟨v.n, v.c⟩ = false := hn
  refine ⟨?_, ?_⟩
  · unfold forN
    simp only [hq]
    rcases (show v.n = 1 ∨ v.n = 2 ∨ v.n = 3 ∨ v.n = 4 by omega) with h | h | h | h <;> rw [h] at hl ⊢ <;>
      cases e1 : hasB l ⟨1, v.c⟩ <;> cases e2 : hasB l ⟨2, v.c⟩ <;> cases e3 : hasB l ⟨3, v.c⟩ <;> cases e4 : hasB l ⟨4, v.c⟩ <;> simp_all
  · unfold forN
    rw [List.mem_filter]
    refine ⟨by simp; omega, ?_⟩
    rw [hq]; simp
theorem forN_len (l : List Vt) (c : List It) : (forN l c).length ≤ 4 := by
  unfold forN; exact List.length_filter_le _ _
theorem forN_pos {l : List Vt} (h : votesB l = true) {x : Vt} (hx : x ∈ l) : 1 ≤ (forN l x.c).length := by
  rw [votesB_iff] at h
  have hv := h.1 x hx
  simp only [vokB, inB, Bool.and_eq_true, decide_eq_true_eq] at hv
  apply List.length_pos_of_mem (a := x.n)
  unfold forN
  rw [List.mem_filter]
  exact ⟨by simp; omega, (hasB_iff _ _).2 hx⟩
end Go.Proofs.Ytjbnohepbmejkaa
