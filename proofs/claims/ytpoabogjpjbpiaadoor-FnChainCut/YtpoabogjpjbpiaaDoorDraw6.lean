/-
  The draws of the laws on chains: two chains, or one, of whatever content.
-/
import Derived.Test.YtpoabogjpjbpiaaDoorDraw5
namespace Go.Proofs.YtpoabogjpjbpiaaDoor
set_option linter.unusedVariables false
open Go.RowKit
attribute [local simp] far_const

set_option maxHeartbeats 4000000 in
theorem drawChainText_any (a : Option Addr) (n cap : Nat) (w : World) (hb : Byt w a w.heap.size n) (hc : n ≤ cap) (hn : n ≤ 1048576) :
    Calls Tryd.prog 6 #[.slice a n cap] w fun r w' => ∃ ga ca la, r = .returned (.slice (some ⟨ga, 0, none⟩) la.length ca) ∧ Its w' (some ⟨ga, 0, none⟩) la ∧ la.length ≤ 16 ∧ la.length ≤ ca ∧ Grew w w' := by
  go_enter Tryd.func6, Tryd.ntmps6
  go_wp2_with fail
  refine (open_any a n cap _ hb hc hn).mono ?_
  rintro r w1 ⟨rfl, r1, g1⟩
  go_wp2_with fail
  refine (l71Off_any w.heap.size 0 _ r1 (by omega)).mono ?_
  rintro r w2 ⟨va, la, rfl, oa, ha, r2, g2⟩
  obtain ⟨ga, ca, rfl, hca, hga, _, ia⟩ := oa.shape
  have G2 := g2.from g1 (Nat.le_refl _)
  have HA := hide ia
  clear oa g2 ia
  go_wp2
  go_ret
  exact ⟨ga, ca, la, rfl, unhide HA, by omega, hca, G2⟩
end Go.Proofs.YtpoabogjpjbpiaaDoor
