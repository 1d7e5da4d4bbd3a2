/-
  Rows of votes that are marked, and held against their marks.
-/
import Derived.Test.YtjcnbacbnfmkjabVCopy
import Derived.Test.YtjcnbacbnfmkjabMarkHeld
namespace Go.Proofs.Ytjcnbacbnfmkjab
set_option linter.unusedVariables false
open Go.RowKit
attribute [local simp] far_const

/-- Votes that bear the marks from k on. -/
def marksV : Int → List Vt → List Vt
  | _, [] => []
  | k, x :: r => ⟨k, marks (k + 1) x.c.length⟩ :: marksV (k + 1 + 4 * x.c.length) r
/-- How many marks votes bear. -/
def cntV (l : List Vt) : Nat := l.length + 4 * sumC l
theorem cntV_cons (x : Vt) (l : List Vt) : cntV (x :: l) = 1 + 4 * x.c.length + cntV l := by simp [cntV, sumC]; omega
theorem cntV_take {l : List Vt} {k : Nat} (hk : k < l.length) : cntV (l.take (k + 1)) = cntV (l.take k) + 1 + 4 * l[k].c.length := by
  unfold cntV; rw [sumC_take hk]; simp; omega
theorem cntV_le (l : List Vt) (k : Nat) : cntV (l.take k) ≤ cntV l := by
  unfold cntV; have := sumC_le l k; simp; omega
theorem marksV_len : ∀ (l : List Vt) (k : Int), (marksV k l).length = l.length
  | [], k => rfl
  | x :: r, k => by simp [marksV, marksV_len r]
theorem marksV_get : ∀ (l : List Vt) (k : Int) (i : Nat) (h : i < l.length) (h' : i < (marksV k l).length), (marksV k l)[i] = ⟨k + cntV (l.take i), marks (k + cntV (l.take i) + 1) l[i].c.length⟩
  | [], k, i, h, _ => absurd h (Nat.not_lt_zero _)
  | x :: r, k, 0, h, _ => by simp [marksV, cntV, sumC]
  | x :: r, k, i + 1, h, h' => by
    have hi : i < r.length := by simpa using h
    have := marksV_get r (k + 1 + 4 * x.c.length) i hi (by rw [marksV_len]; exact hi)
    simp only [marksV, List.getElem_cons_succ, this, List.take_succ_cons, cntV_cons]
    have e : k + 1 + 4 * (x.c.length : Int) + (cntV (r.take i) : Int) = k + ((1 + 4 * x.c.length + cntV (r.take i) : Nat) : Int) := by omega
    rw [e]

/-- Only blocks of a list have been written. -/
structure WroteS (bs : List Nat) (w w' : World) : Prop where
  os : w'.os = w.os
  tape : w'.tape = w.tape
  output : w'.output = w.output
  size : w'.heap.size = w.heap.size
  keep : ∀ b, b ∉ bs → w'.heap[b]? = w.heap[b]?
theorem WroteS.refl (bs : List Nat) (w : World) : WroteS bs w w := ⟨rfl, rfl, rfl, rfl, fun _ _ => rfl⟩
theorem WroteS.trans {bs : List Nat} {a b c : World} (h : WroteS bs a b) (k : WroteS bs b c) : WroteS bs a c :=
  ⟨k.os.trans h.os, k.tape.trans h.tape, k.output.trans h.output, k.size.trans h.size, fun x hx => (k.keep x hx).trans (h.keep x hx)⟩
theorem WroteS.of {g : Nat} {bs : List Nat} {w w' : World} (h : Wrote (some ⟨g, 0, none⟩) w w') (hg : g ∈ bs) : WroteS bs w w' :=
  ⟨h.os, h.tape, h.output, h.size, fun b hb => h.keep b (fun x hx => by cases hx; intro e; exact hb (by rw [← e]; exact hg))⟩
theorem WroteS.set {bs : List Nat} {w w' : World} (h : WroteS bs w w') {p : Addr} (hp : p.block ∈ bs) (v : Value) : WroteS bs w (w'.setCell p v) :=
  ⟨h.os, h.tape, h.output, by simpa [World.setCell] using h.size, fun b hb => by rw [Below.heap_setCell _ _ _ _ (fun e => hb (by rw [e]; exact hp))]; exact h.keep b hb⟩
theorem WroteS.mono {bs cs : List Nat} {w w' : World} (h : WroteS bs w w') (hs : ∀ b ∈ bs, b ∈ cs) : WroteS cs w w' := ⟨h.os, h.tape, h.output, h.size, fun b hb => h.keep b (fun hm => hb (hs b hm))⟩
theorem WroteS.from {bs : List Nat} {w0 w w' : World} (h : WroteS bs w w') (g : Grew w0 w) (ha : ∀ b ∈ bs, w0.heap.size ≤ b) : Grew w0 w' :=
  .of_below ⟨h.os.trans g.below.os, h.tape.trans g.below.tape, h.output.trans g.below.output, by rw [h.size]; exact g.size, fun i hi => (h.keep i (fun hm => by have := ha i hm; omega)).trans (g.below.block i hi)⟩

theorem nodup_ne {l : List Nat} (h : l.Nodup) {i k : Nat} (hi : i < l.length) (hk : k < l.length) (e : i ≠ k) : l[i] ≠ l[k] := by
  rw [List.nodup_iff_pairwise_ne, List.pairwise_iff_getElem] at h
  rcases Nat.lt_or_gt_of_ne e with h1 | h1
  · exact h i k hi hk h1
  · exact fun e' => h k i hk hi h1 e'.symm
/-- A vote of a row is marked: its number, then its chain. -/
theorem VPart.setAt {w w' : World} {base g N cap k : Nat} {hs : List Nat} {L : List Vt} {x : Vt} (h : VPart w base (.slice (some ⟨g, 0, none⟩) N cap) hs N L) (hk : k < L.length) (hk' : k < hs.length) (hx : x.c.length = L[k].c.length)
    (hw : Wrote (some ⟨hs[k], 0, none⟩) (w.setCell ⟨g, k * 2, none⟩ (.int .i64 x.n)) w') (hi : Its w' (some ⟨hs[k], 0, none⟩) x.c) (ho : Own w' hs[k] x.c.length) :
    VPart w' base (.slice (some ⟨g, 0, none⟩) N cap) hs N (L.set k x) := by
  obtain ⟨nz, ⟨cs, row, hc⟩, len, le, apart, off, low, its⟩ := h
  have r1 := (row.stored (k * 2) (.int .i64 x.n)).1
  have hgk : hs[k] ≠ g := fun e => off hs[k] (List.getElem_mem hk') (by rw [e]; rfl)
  have hz : w'.heap.size = w.heap.size := by rw [hw.size]; simp [World.setCell]
  have r2 : w'.ownsRow base 32 2 (.slice (some ⟨g, 0, none⟩) N cap) N (cs.set (k * 2) (.int .i64 x.n)) := ownsRow_block r1 (fun b hb => by
    cases hb
    exact hw.keep g (fun y hy => by cases hy; exact hgk))
  have hcl : cs.length = N * 2 := row.1
  refine ⟨nz, ⟨_, r2, fun i hi1 hi2 => ?_⟩, by simp [len], by simpa using le, apart, off, fun b hb => by rw [hz]; exact low b hb, fun i hi1 hi2 => ?_⟩
  · rw [List.length_set] at hi1
    obtain ⟨h1, c, h2, h3⟩ := hc i hi1 hi2
    rw [List.getElem?_set, List.getElem?_set, List.getElem_set, if_neg (show ¬ k * 2 = i * 2 + 1 by omega)]
    by_cases e : k = i
    · subst e
      rw [if_pos rfl, if_pos (by omega), if_pos rfl, hx]
      exact ⟨rfl, c, h2, h3⟩
    · rw [if_neg (by omega), if_neg e]
      exact ⟨h1, c, h2, h3⟩
  · rw [List.length_set] at hi1
    by_cases e : k = i
    · subst e
      rw [List.getElem_set, if_pos rfl]
      exact ⟨hi, ho⟩
    · rw [List.getElem_set, if_neg e]
      have hne : hs[i] ≠ hs[k] := nodup_ne apart hi2 hk' (fun h => e h.symm)
      have hgi : hs[i] ≠ g := fun e => off hs[i] (List.getElem_mem hi2) (by rw [e]; rfl)
      have hb : w'.heap[hs[i]]? = w.heap[hs[i]]? := by
        rw [hw.keep hs[i] (fun y hy => by cases hy; exact fun h => hne h.symm), Below.heap_setCell _ _ _ _ hgi]
      exact ⟨(its i hi1 hi2).1.block hb, (its i hi1 hi2).2.block hb⟩

theorem Vts.at' {w : World} {a : Option Addr} {l : List Vt} (h : Vts w a l) {i : Nat} (hi : i < l.length) {x : Vt} (e : l[i] = x) : ∃ b off, a = some ⟨b, off, none⟩ ∧ VtAt w b (off + i * 2) x := by
  subst e; exact h.at hi

end Go.Proofs.Ytjcnbacbnfmkjab
