/-
  What DrawTreeSure draws.
-/
import Derived.Test.YtibhfiamibccnabVDraw3
namespace Go.Proofs.Ytibhfiamibccnab
set_option linter.unusedVariables false
open Go.RowKit
attribute [local simp] far_const

set_option maxHeartbeats 1000000 in
theorem drawTreeSure_any (a : Option Addr) (n cap : Nat) (w : World) (hb : Byt w a w.heap.size n) (hc : n ≤ cap) (hn : n ≤ 1048576) :
    Calls Try.prog 17 #[.slice a n cap] w fun r w' => ∃ v l b cb c, r = .returned (.tuple #[v, .slice (some ⟨b, 0, none⟩) c.length cb]) ∧ VtsV w' v l ∧ l.length ≤ 193 ∧ Low 16 l ∧ Its w' (some ⟨b, 0, none⟩) c ∧ c.length ≤ 16 ∧ c.length ≤ cb ∧ Grew w w' := by
  go_enter Try.func17, Try.ntmps17
  go_wp2_with fail
  refine (open_any a n cap _ hb hc hn).mono ?_
  rintro r w1 ⟨rfl, r1, g1⟩
  go_wp2_with fail
  refine (l71Some_any w.heap.size 0 _ r1 (by omega)).mono ?_
  rintro r w2 ⟨v, l, u, c, rfl, o2, hl, hlw, ou, hcc, r2, g2⟩
  obtain ⟨b, cb, rfl, hcb, _, _, iu⟩ := ou.shape
  have HV := hide o2.vtsV
  have HU := hide iu
  have HLW := hide hlw
  have G2 := g2.from g1 (Nat.le_refl _)
  clear o2 iu ou hlw
  go_wp2
  go_ret2
  exact ⟨_, l, b, cb, c, rfl, unhide HV, hl, unhide HLW, unhide HU, hcc, hcb, G2⟩
end Go.Proofs.Ytibhfiamibccnab
