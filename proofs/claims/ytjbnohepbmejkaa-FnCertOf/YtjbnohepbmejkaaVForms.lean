/-
  The contracts on votes, told of values.
-/
import Derived.Test.YtjbnohepbmejkaaVSpec2
import Derived.Test.YtjbnohepbmejkaaVSpec3
import Derived.Test.YtjbnohepbmejkaaVMark
namespace Go.Proofs.Ytjbnohepbmejkaa
set_option linter.unusedVariables false
open Go.RowKit

theorem specVotesOk_v {v : Value} {l : List Vt} (w : World) (h : VtsV w v l) (hs : Short l) (hn : l.length ≤ 1048576) : Calls Try.prog 20 #[v] w fun r w' => r = .returned (.bool (votesB l)) ∧ Grew w w' := by
  obtain ⟨a, cap, rfl, hc, hv⟩ := h; exact specVotesOk a cap l w hv hc hs hn
theorem implVotesOk_v {v : Value} {l : List Vt} (w : World) (h : VtsV w v l) (hs : Short l) (hn : l.length ≤ 1048576) : Calls Try.prog 109 #[v] w fun r w' => r = .returned (.bool (votesB l)) ∧ Grew w w' := by
  obtain ⟨a, cap, rfl, hc, hv⟩ := h; exact implVotesOk a cap l w hv hs hn
theorem eqVoteS_v {v u : Value} {l m : List Vt} (w : World) (h : VtsV w v l) (k : VtsV w u m) (hs : Short l) (hs' : Short m) (hn : l.length ≤ 1048577) (hn' : m.length ≤ 1048577) : Calls Try.prog 76 #[v, u] w fun r w' => r = .returned (.bool (sameVs l m)) ∧ Grew w w' := by
  obtain ⟨a, cap, rfl, hc, hv⟩ := h
  obtain ⟨b, capb, rfl, hcb, hvb⟩ := k
  exact eqVoteS_any a b cap capb l m w hv hvb hs hs' hn hn'
theorem implVotesFor_v {v : Value} {l : List Vt} (b : Option Addr) (cb : Nat) (c : List It) (w : World) (h : VtsV w v l) (hs : Short l) (hn : l.length ≤ 1048576) (hc : Its w b c) (hnc : c.length ≤ 1048576) :
    Calls Try.prog 64 #[v, .slice b c.length cb] w fun r w' => ∃ u, r = .returned u ∧ AnsN w' w.heap.size u (forL l c) ∧ Grew w w' := by
  obtain ⟨a, cap, rfl, _, hv⟩ := h; exact implVotesFor a cap l b cb c w hv hs hn hc hnc
theorem specVotesFor_v {v : Value} {l : List Vt} (b : Option Addr) (cb : Nat) (c : List It) (w : World) (h : VtsV w v l) (hs : Short l) (hn : l.length ≤ 1048576) (hc : Its w b c) (hnc : c.length ≤ 1048576) :
    Calls Try.prog 108 #[v, .slice b c.length cb] w fun r w' => ∃ u, r = .returned u ∧ OwnN w' w.heap.size u (forL l c) ∧ Grew w w' := by
  obtain ⟨a, cap, rfl, hcap, hv⟩ := h; exact specVotesFor a cap l b cb c w hv hcap hs hn hc hnc
/-- The blocks of an answer. -/
def ansB (v : Value) (hs : List Nat) : List Nat := v.ownBlock.toList ++ hs
theorem VAns.low {w : World} {base : Nat} {v : Value} {hs : List Nat} {l : List Vt} (h : VAns w base v hs l) : ∀ b ∈ ansB v hs, base ≤ b ∧ b < w.heap.size := by
  intro b hb
  rcases h with ⟨rfl, _, rfl⟩ | h
  · simp [ansB, Value.ownBlock] at hb
  · rcases List.mem_append.1 hb with hb | hb
    · exact h.block b (by simpa using hb)
    · exact h.low b hb
theorem markV_nil (cap : Nat) (k : Int) (w : World) : Calls Try.prog 78 #[.slice none 0 cap, .int .i64 k] w fun r w' => r = .returned (.int .i64 k) ∧ w' = w := by
  go_enter Try.func78, Try.ntmps78
  go_wp2_with fail
  go_rounds 1
  go_ret
  exact ⟨rfl, rfl⟩
theorem markV_v {base : Nat} {v : Value} {hs : List Nat} {l : List Vt} (k : Int) (w : World) (h : VAns w base v hs l) (hn : cntV l ≤ 4194305) (hk0 : 0 ≤ k) (hk : k ≤ 100000000) :
    Calls Try.prog 78 #[v, .int .i64 k] w fun r w' => r = .returned (.int .i64 (k + cntV l)) ∧ VAns w' base v hs (marksV k l) ∧ WroteS (ansB v hs) w w' := by
  rcases h with ⟨rfl, rfl, rfl⟩ | h
  · refine (markV_nil 0 k w).mono ?_
    rintro r w' ⟨rfl, rfl⟩
    exact ⟨by simp [cntV, sumC], .inl ⟨rfl, rfl, rfl⟩, WroteS.refl _ _⟩
  · obtain ⟨g, cap, rfl, _, _, _⟩ := h.shape
    refine (markV_own base g cap hs l k w h hn hk0 hk).mono ?_
    rintro r w' ⟨rfl, h1, h2⟩
    exact ⟨rfl, .inr h1, h2⟩
theorem heldV_v {v : Value} {l : List Vt} (k : Int) (w : World) (h : VtsV w v (marksV k l)) (hn : cntV l ≤ 4194305) (hk0 : 0 ≤ k) (hk : k ≤ 100000000) :
    Calls Try.prog 80 #[v, .int .i64 k] w fun r w' => r = .returned (.int .i64 (k + cntV l)) ∧ Grew w w' := by
  obtain ⟨a, cap, rfl, _, hv⟩ := h
  rw [marksV_len]
  exact heldV_any a cap l k w hv hn hk0 hk
theorem cntV_tot (l : List Vt) : cntV l ≤ 4 * totV l := by unfold cntV totV; omega
theorem addV_len (l : List Vt) (x : Vt) : (addV l x).1.length ≤ l.length + 1 := by
  unfold addV; split
  · split
    · exact Nat.le_succ _
    · simp
  · simp
theorem addV_short {l : List Vt} {x : Vt} (h : Short l) (hx : x.c.length ≤ 1048576) : Short (addV l x).1 := by
  unfold addV; split
  · split
    · exact h
    · intro y hy
      rcases List.mem_append.1 hy with hy | hy
      · exact h y hy
      · simp at hy; rw [hy]; exact hx
  · intro y hy; simp at hy
theorem addV_cnt {l : List Vt} {x : Vt} (h : totV l + x.c.length ≤ 1048576) : cntV (addV l x).1 ≤ 4194305 := by
  have := cntV_tot l
  unfold addV; split
  · split
    · show cntV l ≤ _; omega
    · show cntV (l ++ [x]) ≤ _
      unfold cntV totV at *; rw [sumC_app, sumC_one]; simp; omega
  · show cntV [] ≤ _; simp [cntV, sumC]
end Go.Proofs.Ytjbnohepbmejkaa
