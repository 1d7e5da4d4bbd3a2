/-
  What all have, drawn: a row of at most three numbers, with a payment, of whatever content; a chain that is drawn for BookOf.
-/
import Derived.Test.YtpflkbmmkcaocaaBytes
import Derived.Test.YtpflkbmmkcaocaaNums3
namespace Go.Proofs.Ytpflkbmmkcaocaa
set_option linter.unusedVariables false
open Go.RowKit
attribute [local simp] far_const

theorem Ints.set {w : World} {b off : Nat} {l : List Int} (h : Ints w (some ⟨b, off, none⟩) l) (k : Nat) (hk : k < l.length) (z : Int) : Ints (w.setCell ⟨b, off + k, none⟩ (.int .i64 z)) (some ⟨b, off, none⟩) (l.set k z) := by
  rcases h with h | ⟨b', off', hv, h⟩
  · subst h; exact absurd hk (Nat.not_lt_zero _)
  · simp only [Option.some.injEq, Addr.mk.injEq, and_true] at hv
    obtain ⟨rfl, rfl⟩ := hv
    refine .inr ⟨b, off, rfl, fun i hi => ?_⟩
    have hi' : i < l.length := by simpa using hi
    rw [cell_set (h i hi'), List.getElem_set]
    by_cases e : k = i
    · subst e; simp
    · rw [if_neg (by omega), if_neg e]

set_option maxHeartbeats 1000000 in
theorem drawBookOf_any (a : Option Addr) (n cap : Nat) (w : World) (hb : Byt w a w.heap.size n) (hc : n ≤ cap) (hn : n ≤ 1048576) :
    Calls Try.prog 4 #[.slice a n cap] w fun r w' => ∃ b cp l, r = .returned (.slice (some ⟨b, 0, none⟩) l.length cp) ∧ l.length ≤ cp ∧ Its w' (some ⟨b, 0, none⟩) l ∧ l.length ≤ 7 ∧ Grew w w' := by
  go_enter Try.func4, Try.ntmps4
  go_wp2_with fail
  refine (open_any a n cap _ hb hc hn).mono ?_
  rintro r w1 ⟨rfl, r1, g1⟩
  go_wp2_with fail
  refine (l71Off_any w.heap.size 0 _ r1 (by omega)).mono ?_
  rintro r w2 ⟨v, l, rfl, o2, hl2, r2, g2⟩
  obtain ⟨g, cp, rfl, hcp, hg1, hg2, hi⟩ := o2.shape
  have HI := hide hi
  have G2 := hide (g2.from g1 (Nat.le_refl _))
  clear hi o2 g1 g2
  go_wp2
  go_ret
  exact ⟨g, cp, l, rfl, hcp, unhide HI, hl2, unhide G2⟩
end Go.Proofs.Ytpflkbmmkcaocaa
