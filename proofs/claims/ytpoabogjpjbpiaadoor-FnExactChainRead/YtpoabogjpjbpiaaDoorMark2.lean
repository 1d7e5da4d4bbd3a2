/-
  Marks in a row that a call owns and that has room behind its length.
-/
import Derived.Test.YtpoabogjpjbpiaaDoorHeld
import Derived.Test.YtpoabogjpjbpiaaDoorRows2
namespace Go.Proofs.YtpoabogjpjbpiaaDoor
set_option linter.unusedVariables false
open Go.RowKit
attribute [local simp] far_const

set_option maxHeartbeats 400000 in
theorem mark_wide (g n N cap : Nat) (k : Int) (w : World) (ho : Own w g N) (hN : n ≤ N) (hn : n ≤ 1048576) (hk0 : 0 ≤ k) (hk : k ≤ 1000000000) :
    Calls Tryd.prog 14 #[.slice (some ⟨g, 0, none⟩) n cap, .int .i64 k] w fun r w' => r = .returned (.int .i64 (k + 4 * n)) ∧ Its w' (some ⟨g, 0, none⟩) (marks k n) ∧ Own w' g N ∧ Wrote (some ⟨g, 0, none⟩) w w' := by
  go_enter Tryd.func14, Tryd.ntmps14
  go_wp2_with fail
  go_loopw [1, 5] (fun kk i wr => ∃ j : Nat, j ≤ n ∧ i = .int .i64 j ∧ kk = .int .i64 (k + 4 * j) ∧ Own wr g N ∧ Wrote (some ⟨g, 0, none⟩) w wr ∧ (∀ i (h : i < n), i < j → ItAt wr g (i * 4) ⟨k + 4 * i, k + 4 * i + 1, k + 4 * i + 2, k + 4 * i + 3⟩)) (fun _ i _ => n - (intOf i).toNat)
  case atStart => exact ⟨0, Nat.zero_le _, rfl, by simp, ho, Wrote.refl _ _, fun i _ h => absurd h (Nat.not_lt_zero _)⟩
  case round =>
    obtain ⟨j, hj, rfl, rfl, hown, hwr, hits⟩ := hrel
    have HI := hide hits
    clear hits
    by_cases hlt : j < n
    · obtain ⟨v0, d0⟩ := hown.cell (i := j * 4) (by omega)
      obtain ⟨v1, d1⟩ := hown.cell (i := j * 4 + 1) (by omega)
      obtain ⟨v2, d2⟩ := hown.cell (i := j * 4 + 2) (by omega)
      obtain ⟨v3, d3⟩ := hown.cell (i := j * 4 + 3) (by omega)
      have z0 := hown.frozen (j * 4)
      have z1 := hown.frozen (j * 4 + 1)
      have z2 := hown.frozen (j * 4 + 2)
      have z3 := hown.frozen (j * 4 + 3)
      go_wp2
      go_roundw
      case rel =>
        have e2 : k + 4 * (j : Int) + 1 + 1 = k + 4 * (j : Int) + 2 := by omega
        have e3 : k + 4 * (j : Int) + 2 + 1 = k + 4 * (j : Int) + 3 := by omega
        have e4 : k + 4 * (j : Int) + 3 + 1 = k + 4 * ((j + 1 : Nat) : Int) := by omega
        rw [e2, e3, e4]
        refine ⟨j + 1, by omega, by go_num, rfl, hown.put (j * 4) ⟨k + 4 * (j : Int), k + 4 * (j : Int) + 1, k + 4 * (j : Int) + 2, k + 4 * (j : Int) + 3⟩, hwr.put (j * 4) ⟨k + 4 * (j : Int), k + 4 * (j : Int) + 1, k + 4 * (j : Int) + 2, k + 4 * (j : Int) + 3⟩, fun i hi hij => ?_⟩
        by_cases e : i = j
        · subst e; exact ItAt.put (x := ⟨k + 4 * (i : Int), k + 4 * (i : Int) + 1, k + 4 * (i : Int) + 2, k + 4 * (i : Int) + 3⟩) hown (by omega)
        · exact (unhide HI i hi (by omega)).putOther (x := ⟨k + 4 * (j : Int), k + 4 * (j : Int) + 1, k + 4 * (j : Int) + 2, k + 4 * (j : Int) + 3⟩) e
      case measure => simp [intOf]; omega
    · have hle : (n : Int) ≤ (j : Int) := by omega
      have hjn : Hid (j = n) := by show j = n; omega
      go_wp2
      go_ret
      refine ⟨by rw [hjn.out]; rfl, .inr ⟨g, 0, rfl, fun i hi => ?_⟩, hown, hwr⟩
      have hi' : i < n := by rw [marks_len] at hi; exact hi
      rw [Nat.zero_add, marks_get]
      exact unhide HI i hi' (by omega)

theorem mark_wx (x : Option Addr) (n cap : Nat) (k : Int) (w : World) (ho : n = 0 ∧ x = none ∨ ∃ g N, x = some ⟨g, 0, none⟩ ∧ n ≤ N ∧ Own w g N) (hn : n ≤ 1048576) (hk0 : 0 ≤ k) (hk : k ≤ 1000000000) :
    Calls Tryd.prog 14 #[.slice x n cap, .int .i64 k] w fun r w' => r = .returned (.int .i64 (k + 4 * n)) ∧ Its w' x (marks k n) ∧ Wrote x w w' := by
  rcases ho with ⟨rfl, rfl⟩ | ⟨g, N, rfl, hN, ho⟩
  · refine (mark_nil cap k w).mono ?_
    rintro r w' ⟨rfl, rfl⟩
    exact ⟨by simp, .inl rfl, Wrote.refl _ _⟩
  · refine (mark_wide g n N cap k w ho hN hn hk0 hk).mono ?_
    rintro r w' ⟨rfl, h1, _, h2⟩
    exact ⟨rfl, h1, h2⟩
theorem OwnL.own {w : World} {base : Nat} {v : Value} {l : List It} (h : OwnL w base v l) : ∃ g cap, v = .slice (some ⟨g, 0, none⟩) l.length cap ∧ l.length ≤ cap ∧ base ≤ g ∧ g < w.heap.size ∧ Its w (some ⟨g, 0, none⟩) l ∧ Own w g cap := by
  obtain ⟨g, cap, rfl, h1, h2, h3, h4⟩ := h.shape
  refine ⟨g, cap, rfl, h1, h2, h3, h4, ?_⟩
  rcases h.2.2 with ⟨hv, hn⟩ | ⟨g', cap', cur, hv, hb, hg, hnc, hcm, hcs, htake⟩
  · exact absurd hv h.1
  · simp only [Value.slice.injEq, Option.some.injEq, Addr.mk.injEq, and_true] at hv
    obtain ⟨rfl, _, rfl⟩ := hv
    refine ⟨fun i => cur.getD i undef, cur, hg, hcs, fun i hi => ?_⟩
    have : i < cur.size := by omega
    simp [this]
end Go.Proofs.YtpoabogjpjbpiaaDoor
