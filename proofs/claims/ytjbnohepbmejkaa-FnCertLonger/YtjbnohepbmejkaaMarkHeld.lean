/-
  Texts together: Mark, Held.
-/
import Derived.Test.YtjbnohepbmejkaaRows2
namespace Go.Proofs.Ytjbnohepbmejkaa
set_option linter.unusedVariables false
open Go.RowKit
attribute [local simp] far_const

/-- The marks from k on. -/
def marks : Int → Nat → List It
  | _, 0 => []
  | k, n + 1 => ⟨k, k + 1, k + 2, k + 3⟩ :: marks (k + 4) n
theorem marks_len : ∀ (n : Nat) (k : Int), (marks k n).length = n
  | 0, _ => rfl
  | n + 1, k => by simp [marks, marks_len n]
theorem marks_get : ∀ (n : Nat) (k : Int) (i : Nat) (h : i < (marks k n).length), (marks k n)[i] = ⟨k + 4 * i, k + 4 * i + 1, k + 4 * i + 2, k + 4 * i + 3⟩
  | 0, k, i, h => by simp [marks] at h
  | n + 1, k, 0, h => by simp [marks]
  | n + 1, k, i + 1, h => by
    have := marks_get n (k + 4) i (by simpa [marks] using h)
    simp only [marks, List.getElem_cons_succ, this]
    congr 1 <;> omega

/-- Only the row at a has been written. -/
structure Wrote (a : Option Addr) (w w' : World) : Prop where
  os : w'.os = w.os
  tape : w'.tape = w.tape
  output : w'.output = w.output
  size : w'.heap.size = w.heap.size
  keep : ∀ b, (∀ x, a = some x → x.block ≠ b) → w'.heap[b]? = w.heap[b]?
theorem Wrote.refl (a : Option Addr) (w : World) : Wrote a w w := ⟨rfl, rfl, rfl, rfl, fun _ _ => rfl⟩
theorem Wrote.set {a : Option Addr} {w w' : World} (h : Wrote a w w') {p : Addr} (hp : ∃ x, a = some x ∧ x.block = p.block) (v : Value) : Wrote a w (w'.setCell p v) := by
  obtain ⟨x, hx, hb⟩ := hp
  exact ⟨h.os, h.tape, h.output, by simpa [World.setCell] using h.size, fun b hn => by
    have := hn x hx
    rw [Below.heap_setCell _ _ _ _ (by omega)]; exact h.keep b hn⟩
theorem Wrote.put {g : Nat} {w w' : World} (h : Wrote (some ⟨g, 0, none⟩) w w') (o : Nat) (x : It) : Wrote (some ⟨g, 0, none⟩) w (put4 w' g o x) :=
  (((h.set (p := ⟨g, o, none⟩) ⟨⟨g, 0, none⟩, rfl, rfl⟩ _).set (p := ⟨g, o + 1, none⟩) ⟨⟨g, 0, none⟩, rfl, rfl⟩ _).set (p := ⟨g, o + 2, none⟩) ⟨⟨g, 0, none⟩, rfl, rfl⟩ _).set (p := ⟨g, o + 3, none⟩) ⟨⟨g, 0, none⟩, rfl, rfl⟩ _
theorem Wrote.from {a : Option Addr} {w0 w w' : World} (h : Wrote a w w') (g : Grew w0 w) (ha : ∀ x, a = some x → w0.heap.size ≤ x.block) : Grew w0 w' :=
  .of_below ⟨h.os.trans g.below.os, h.tape.trans g.below.tape, h.output.trans g.below.output, by rw [h.size]; exact g.size, fun i hi => (h.keep i (fun x hx => by have := ha x hx; omega)).trans (g.below.block i hi)⟩
theorem Wrote.its {a b : Option Addr} {w w' : World} {l : List It} (h : Wrote a w w') (i : Its w b l) (hne : 0 < l.length → ∀ x y, a = some x → b = some y → x.block ≠ y.block) : Its w' b l := by
  by_cases h0 : l = []
  · exact .inl h0
  · have hp : 0 < l.length := List.length_pos_iff.2 h0
    rcases i with i | ⟨g, off, hb, i⟩
    · exact .inl i
    · have e : w'.heap[g]? = w.heap[g]? := h.keep g (fun x hx => hne hp x _ hx hb)
      refine .inr ⟨g, off, hb, fun j hj => ?_⟩
      obtain ⟨c0, c1, c2, c3⟩ := i j hj
      exact ⟨by rw [World.cell?_of_block (w := w) e]; exact c0, by rw [World.cell?_of_block (w := w) e]; exact c1, by rw [World.cell?_of_block (w := w) e]; exact c2, by rw [World.cell?_of_block (w := w) e]; exact c3⟩
theorem Wrote.own {a : Option Addr} {w w' : World} {g n : Nat} (h : Wrote a w w') (o : Own w g n) (hne : ∀ x, a = some x → x.block ≠ g) : Own w' g n := by
  obtain ⟨f, hf⟩ := o
  exact ⟨f, hf.of_block (h.keep g hne)⟩

set_option maxHeartbeats 400000 in
theorem mark_any (g n cap : Nat) (k : Int) (w : World) (ho : Own w g n) (hn : n ≤ 1048576) (hk0 : 0 ≤ k) (hk : k ≤ 1000000000) :
    Calls Try.prog 120 #[.slice (some ⟨g, 0, none⟩) n cap, .int .i64 k] w fun r w' => r = .returned (.int .i64 (k + 4 * n)) ∧ Its w' (some ⟨g, 0, none⟩) (marks k n) ∧ Own w' g n ∧ Wrote (some ⟨g, 0, none⟩) w w' := by
  go_enter Try.func120, Try.ntmps120
  go_wp2_with fail
  go_loopw [1, 5] (fun kk i wr => ∃ j : Nat, j ≤ n ∧ i = .int .i64 j ∧ kk = .int .i64 (k + 4 * j) ∧ Own wr g n ∧ Wrote (some ⟨g, 0, none⟩) w wr ∧ (∀ i (h : i < n), i < j → ItAt wr g (i * 4) ⟨k + 4 * i, k + 4 * i + 1, k + 4 * i + 2, k + 4 * i + 3⟩)) (fun _ i _ => n - (intOf i).toNat)
  case atStart => exact ⟨0, Nat.zero_le _, rfl, by simp, ho, Wrote.refl _ _, fun i _ h => absurd h (Nat.not_lt_zero _)⟩
  case round =>
    obtain ⟨j, hj, rfl, rfl, hown, hwr, hits⟩ := hrel
    have HI := hide hits
    clear hits
    by_cases hlt : j < n
    · obtain ⟨v0, d0⟩ := hown.cell (i := j * 4) (by omega)
      obtain ⟨v1, d1⟩ := hown.cell (i := j * 4 + 1) (by omega)
      obtain ⟨v2, d2⟩ := hown.cell (i := j * 4 + 2) (by omega)
      obtain ⟨v3, d3⟩ := hown.cell (i := j * 4 + 3) (by omega)
      have z0 := hown.frozen (j * 4)
      have z1 := hown.frozen (j * 4 + 1)
      have z2 := hown.frozen (j * 4 + 2)
      have z3 := hown.frozen (j * 4 + 3)
      go_wp2
      go_roundw
      case rel =>
        have e2 : k + 4 * (j : Int) + 1 + 1 = k + 4 * (j : Int) + 2 := by omega
        have e3 : k + 4 * (j : Int) + 2 + 1 = k + 4 * (j : Int) + 3 := by omega
        have e4 : k + 4 * (j : Int) + 3 + 1 = k + 4 * ((j + 1 : Nat) : Int) := by omega
        rw [e2, e3, e4]
        refine ⟨j + 1, by omega, by go_num, rfl, hown.put (j * 4) ⟨k + 4 * (j : Int), k + 4 * (j : Int) + 1, k + 4 * (j : Int) + 2, k + 4 * (j : Int) + 3⟩, hwr.put (j * 4) ⟨k + 4 * (j : Int), k + 4 * (j : Int) + 1, k + 4 * (j : Int) + 2, k + 4 * (j : Int) + 3⟩, fun i hi hij => ?_⟩
        by_cases e : i = j
        · subst e; exact ItAt.put (x := ⟨k + 4 * (i : Int), k + 4 * (i : Int) + 1, k + 4 * (i : Int) + 2, k + 4 * (i : Int) + 3⟩) hown hi
        · exact (unhide HI i hi (by omega)).putOther (x := ⟨k + 4 * (j : Int), k + 4 * (j : Int) + 1, k + 4 * (j : Int) + 2, k + 4 * (j : Int) + 3⟩) e
      case measure => simp [intOf]; omega
    · have hle : (n : Int) ≤ (j : Int) := by omega
      have hjn : Hid (j = n) := by show j = n; omega
      go_wp2
      go_ret
      refine ⟨by rw [hjn.out]; rfl, .inr ⟨g, 0, rfl, fun i hi => ?_⟩, hown, hwr⟩
      have hi' : i < n := by rw [marks_len] at hi; exact hi
      rw [Nat.zero_add, marks_get]
      exact unhide HI i hi' (by omega)


set_option linter.unusedVariables false
open Go.RowKit
attribute [local simp] far_const

set_option maxHeartbeats 400000 in
theorem held_any (a : Option Addr) (n cap : Nat) (k : Int) (w : World) (hl : Its w a (marks k n)) (hn : n ≤ 1048576) (hk0 : 0 ≤ k) (hk : k ≤ 1000000000) :
    Calls Try.prog 121 #[.slice a n cap, .int .i64 k] w fun r w' => r = .returned (.int .i64 (k + 4 * n)) ∧ Grew w w' := by
  go_enter Try.func121, Try.ntmps121
  go_wp2_with fail
  go_loopw [1, 5] (fun kk i wr => ∃ j : Nat, j ≤ n ∧ i = .int .i64 j ∧ kk = .int .i64 (k + 4 * j) ∧ Grew w wr) (fun _ i _ => n - (intOf i).toNat)
  case atStart => exact ⟨0, Nat.zero_le _, rfl, by simp, Grew.refl _⟩
  case round =>
    obtain ⟨j, hj, rfl, rfl, hg⟩ := hrel
    by_cases hlt : j < n
    · have hjm : j < (marks k n).length := by rw [marks_len]; exact hlt
      obtain ⟨b, off, rfl, hat⟩ := hl.at hjm
      rw [marks_get] at hat
      obtain ⟨c0, c1, c2, c3⟩ := hat.grew hg
      simp only at c0 c1 c2 c3
      have t2 : (k + 4 * (j : Int) + 2 != k + 4 * (j : Int) + 1 + 1) = false := by simp; omega
      have t3 : (k + 4 * (j : Int) + 3 != k + 4 * (j : Int) + 1 + 1 + 1) = false := by simp; omega
      have e4 : Hid (k + 4 * (j : Int) + 1 + 1 + 1 + 1 = k + 4 * ((j + 1 : Nat) : Int)) := by show k + 4 * (j : Int) + 1 + 1 + 1 + 1 = _; omega
      go_wp2
      go_roundw
      case rel => exact ⟨j + 1, by omega, by go_num, by rw [e4.out], hg⟩
      case measure => simp [intOf]; omega
    · have hle : (n : Int) ≤ (j : Int) := by omega
      have hjn : Hid (j = n) := by show j = n; omega
      go_wp2
      go_ret
      exact ⟨by rw [hjn.out]; rfl, hg⟩

theorem mark_nil (cap : Nat) (k : Int) (w : World) : Calls Try.prog 120 #[.slice none 0 cap, .int .i64 k] w fun r w' => r = .returned (.int .i64 k) ∧ w' = w := by
  go_enter Try.func120, Try.ntmps120
  go_wp2_with fail
  go_rounds 1
  go_ret
  exact ⟨rfl, rfl⟩
theorem mark_x (x : Option Addr) (n cap : Nat) (k : Int) (w : World) (ho : n = 0 ∧ x = none ∨ ∃ g, x = some ⟨g, 0, none⟩ ∧ Own w g n) (hn : n ≤ 1048576) (hk0 : 0 ≤ k) (hk : k ≤ 1000000000) :
    Calls Try.prog 120 #[.slice x n cap, .int .i64 k] w fun r w' => r = .returned (.int .i64 (k + 4 * n)) ∧ Its w' x (marks k n) ∧ Wrote x w w' := by
  rcases ho with ⟨rfl, rfl⟩ | ⟨g, rfl, ho⟩
  · refine (mark_nil cap k w).mono ?_
    rintro r w' ⟨rfl, rfl⟩
    exact ⟨by simp, .inl rfl, Wrote.refl _ _⟩
  · refine (mark_any g n cap k w ho hn hk0 hk).mono ?_
    rintro r w' ⟨rfl, h1, _, h2⟩
    exact ⟨rfl, h1, h2⟩
end Go.Proofs.Ytjbnohepbmejkaa
