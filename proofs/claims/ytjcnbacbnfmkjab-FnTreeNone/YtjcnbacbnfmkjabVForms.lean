/-
  The contracts on votes, told of values.
-/
import Derived.Test.YtjcnbacbnfmkjabVSpec2
import Derived.Test.YtjcnbacbnfmkjabVSpec3
import Derived.Test.YtjcnbacbnfmkjabVMark
namespace Go.Proofs.Ytjcnbacbnfmkjab
set_option linter.unusedVariables false
open Go.RowKit

theorem specVotesOk_v {v : Value} {l : List Vt} (w : World) (h : VtsV w v l) (hs : Short l) (hn : l.length ≤ 1048576) : Calls Try.prog 17 #[v] w fun r w' => r = .returned (.bool (votesB l)) ∧ Grew w w' := by
  obtain ⟨a, cap, rfl, hc, hv⟩ := h; exact specVotesOk a cap l w hv hc hs hn
theorem implVotesOk_v {v : Value} {l : List Vt} (w : World) (h : VtsV w v l) (hs : Short l) (hn : l.length ≤ 1048576) : Calls Try.prog 61 #[v] w fun r w' => r = .returned (.bool (votesB l)) ∧ Grew w w' := by
  obtain ⟨a, cap, rfl, hc, hv⟩ := h; exact implVotesOk a cap l w hv hs hn
theorem implVotesFor_v {v : Value} {l : List Vt} (b : Option Addr) (cb : Nat) (c : List It) (w : World) (h : VtsV w v l) (hs : Short l) (hn : l.length ≤ 1048576) (hc : Its w b c) (hnc : c.length ≤ 1048576) :
    Calls Try.prog 34 #[v, .slice b c.length cb] w fun r w' => ∃ u, r = .returned u ∧ AnsN w' w.heap.size u (forL l c) ∧ Grew w w' := by
  obtain ⟨a, cap, rfl, _, hv⟩ := h; exact implVotesFor a cap l b cb c w hv hs hn hc hnc
theorem implVotesAdd_v {v : Value} {l : List Vt} (x : Vt) (vx : Value) (w : World) (h : VtsV w v l) (hs : Short l) (hn : l.length ≤ 1048576) (hv : VtV w vx x) (hx : x.c.length ≤ 1048576) :
    Calls Try.prog 35 #[v, vx] w fun r w' => ∃ u hs, r = .returned (.tuple #[u, .bool (addV l x).2]) ∧ VAns w' w.heap.size u hs (addV l x).1 ∧ Grew w w' := by
  obtain ⟨a, cap, rfl, hcap, hvs⟩ := h; exact implVotesAdd a cap l x vx w hvs hs hn hv hx
/-- The blocks of an answer. -/
def ansB (v : Value) (hs : List Nat) : List Nat := v.ownBlock.toList ++ hs
theorem VAns.low {w : World} {base : Nat} {v : Value} {hs : List Nat} {l : List Vt} (h : VAns w base v hs l) : ∀ b ∈ ansB v hs, base ≤ b ∧ b < w.heap.size := by
  intro b hb
  rcases h with ⟨rfl, _, rfl⟩ | h
  · simp [ansB, Value.ownBlock] at hb
  · rcases List.mem_append.1 hb with hb | hb
    · exact h.block b (by simpa using hb)
    · exact h.low b hb
theorem cntV_tot (l : List Vt) : cntV l ≤ 4 * totV l := by unfold cntV totV; omega
theorem addV_len (l : List Vt) (x : Vt) : (addV l x).1.length ≤ l.length + 1 := by
  unfold addV; split
  · split
    · exact Nat.le_succ _
    · simp
  · simp
theorem addV_short {l : List Vt} {x : Vt} (h : Short l) (hx : x.c.length ≤ 1048576) : Short (addV l x).1 := by
  unfold addV; split
  · split
    · exact h
    · intro y hy
      rcases List.mem_append.1 hy with hy | hy
      · exact h y hy
      · simp at hy; rw [hy]; exact hx
  · intro y hy; simp at hy
theorem addV_cnt {l : List Vt} {x : Vt} (h : totV l + x.c.length ≤ 1048576) : cntV (addV l x).1 ≤ 4194305 := by
  have := cntV_tot l
  unfold addV; split
  · split
    · show cntV l ≤ _; omega
    · show cntV (l ++ [x]) ≤ _
      unfold cntV totV at *; rw [sumC_app, sumC_one]; simp; omega
  · show cntV [] ≤ _; simp [cntV, sumC]
end Go.Proofs.Ytjcnbacbnfmkjab
