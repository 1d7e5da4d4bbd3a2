/-
  Votes: as lists, and as they lie in memory (two cells each: who, and a slice of items).
-/
import Derived.Test.YtjcnbacbnfmkjaaIn
import Derived.Test.YtjcnbacbnfmkjaaRows2
namespace Go.Proofs.Ytjcnbacbnfmkjaa
set_option linter.unusedVariables false
open Go.RowKit
attribute [local simp] far_const

/-- A vote: who, and for which chain. -/
structure Vt where
  n : Int
  c : List It

/-- A vote is in form. -/
def vokB (x : Vt) : Bool := inB x.n 1 4 && okB x.c && decide (0 < x.c.length)
def sameV (x y : Vt) : Bool := x.n == y.n && sameB x.c y.c
theorem sameV_iff (x y : Vt) : sameV x y = true ↔ x = y := by
  cases x; cases y
  simp only [sameV, Bool.and_eq_true, beq_iff_eq, sameB_iff, Vt.mk.injEq]
theorem sameB_shares (a b : List It) : sameB a b = (decide (a.length = b.length) && decide (shareN a b = a.length)) := rfl
def hasB (l : List Vt) (v : Vt) : Bool := l.any (fun x => sameV x v)
theorem hasB_iff (l : List Vt) (v : Vt) : hasB l v = true ↔ v ∈ l := by
  unfold hasB
  rw [List.any_eq_true]
  constructor
  · rintro ⟨x, hx, h⟩; rw [sameV_iff] at h; exact h ▸ hx
  · intro h; exact ⟨v, h, (sameV_iff v v).2 rfl⟩
/-- All are in form, each once. -/
def votesB (l : List Vt) : Bool := (List.range l.length).all (fun i => match l[i]? with | some x => vokB x && !hasB (l.take i) x | none => true)
theorem votesB_iff (l : List Vt) : votesB l = true ↔ (∀ x ∈ l, vokB x = true) ∧ l.Nodup := by
  unfold votesB
  simp only [List.all_eq_true, List.mem_range]
  constructor
  · intro h
    have h' : ∀ i (hi : i < l.length), vokB l[i] = true ∧ l[i] ∉ l.take i := fun i hi => by
      have := h i hi
      rw [List.getElem?_eq_getElem hi] at this
      simp only [Bool.and_eq_true, Bool.not_eq_true'] at this
      refine ⟨this.1, fun hm => ?_⟩
      rw [(hasB_iff _ _).2 hm] at this
      exact absurd this.2 (by decide)
    refine ⟨fun x hx => ?_, ?_⟩
    · obtain ⟨i, hi, rfl⟩ := List.getElem_of_mem hx; exact (h' i hi).1
    · rw [List.nodup_iff_pairwise_ne, List.pairwise_iff_getElem]
      intro i j hi hj hij e
      apply (h' j hj).2
      rw [← e, List.mem_iff_getElem]
      exact ⟨i, by simp; omega, by simp⟩
  · rintro ⟨h1, h2⟩ i hi
    rw [List.getElem?_eq_getElem hi]
    simp only [Bool.and_eq_true, Bool.not_eq_true']
    refine ⟨h1 _ (List.getElem_mem hi), ?_⟩
    cases e : hasB (l.take i) l[i] with
    | false => rfl
    | true =>
      rw [hasB_iff, List.mem_iff_getElem] at e
      obtain ⟨j, hj, e⟩ := e
      rw [List.nodup_iff_pairwise_ne, List.pairwise_iff_getElem] at h2
      simp only [List.length_take] at hj
      have := h2 j i (by omega) hi (by omega)
      rw [List.getElem_take] at e
      exact absurd e this
theorem votesB_at {l : List Vt} (k : Nat) (hk : k < l.length) (h : (vokB l[k] && !hasB (l.take k) l[k]) = false) : votesB l = false := by
  cases e : votesB l with
  | false => rfl
  | true =>
    unfold votesB at e
    rw [List.all_eq_true] at e
    have := e k (List.mem_range.2 hk)
    rw [List.getElem?_eq_getElem hk] at this
    simp only at this
    rw [h] at this
    exact absurd this (by decide)
theorem votesB_all {l : List Vt} (h : ∀ k (hk : k < l.length), (vokB l[k] && !hasB (l.take k) l[k]) = true) : votesB l = true := by
  unfold votesB
  rw [List.all_eq_true]
  intro k hk
  rw [List.mem_range] at hk
  rw [List.getElem?_eq_getElem hk]
  exact h k hk

/-- The two cells of a vote, and the items behind. -/
def VtAt (w : World) (b o : Nat) (x : Vt) : Prop :=
  w.cell? ⟨b, o, none⟩ = some (.int .i64 x.n) ∧ ∃ a cap, w.cell? ⟨b, o + 1, none⟩ = some (.slice a x.c.length cap) ∧ Its w a x.c
theorem VtAt.grew {w w' : World} {b o : Nat} {x : Vt} (h : VtAt w b o x) (g : Grew w w') : VtAt w' b o x := by
  obtain ⟨h0, a, cap, h1, h3⟩ := h
  exact ⟨g.keep h0, a, cap, g.keep h1, h3.grew g⟩
/-- The votes of a slice, one behind the other. -/
def Vts (w : World) (a : Option Addr) (l : List Vt) : Prop := l = [] ∨ ∃ b off, a = some ⟨b, off, none⟩ ∧ ∀ i (h : i < l.length), VtAt w b (off + i * 2) l[i]
theorem Vts.grew {w w' : World} {a : Option Addr} {l : List Vt} (h : Vts w a l) (g : Grew w w') : Vts w' a l := by
  rcases h with h | ⟨b, off, ha, h⟩
  · exact .inl h
  · exact .inr ⟨b, off, ha, fun i hi => (h i hi).grew g⟩
theorem Vts.at {w : World} {a : Option Addr} {l : List Vt} (h : Vts w a l) {i : Nat} (hi : i < l.length) : ∃ b off, a = some ⟨b, off, none⟩ ∧ VtAt w b (off + i * 2) l[i] := by
  rcases h with h | ⟨b, off, ha, h⟩
  · subst h; exact absurd hi (Nat.not_lt_zero _)
  · exact ⟨b, off, ha, h i hi⟩
theorem Vts.take {w : World} {a : Option Addr} {l : List Vt} (h : Vts w a l) (k : Nat) : Vts w a (l.take k) := by
  rcases h with h | ⟨b, off, ha, h⟩
  · exact .inl (by rw [h]; simp)
  · refine .inr ⟨b, off, ha, fun i hi => ?_⟩
    have hi' : i < l.length := by simp at hi; omega
    have := h i hi'
    simpa using this
/-- The chains of the votes are not too long. -/
def Short (l : List Vt) : Prop := ∀ x ∈ l, x.c.length ≤ 1048576
theorem Short.at {l : List Vt} (h : Short l) {i : Nat} (hi : i < l.length) : l[i].c.length ≤ 1048576 := h _ (List.getElem_mem hi)
theorem Short.take {l : List Vt} (h : Short l) (k : Nat) : Short (l.take k) := fun x hx => h x (List.mem_of_mem_take hx)
/-- A vote as a value. -/
def VtV (w : World) (v : Value) (x : Vt) : Prop := ∃ a cap, v = .agg #[.int .i64 x.n, .slice a x.c.length cap] ∧ Its w a x.c
theorem VtV.grew {w w' : World} {v : Value} {x : Vt} (h : VtV w v x) (g : Grew w w') : VtV w' v x := by
  obtain ⟨a, cap, h1, h3⟩ := h
  exact ⟨a, cap, h1, h3.grew g⟩
end Go.Proofs.Ytjcnbacbnfmkjaa
