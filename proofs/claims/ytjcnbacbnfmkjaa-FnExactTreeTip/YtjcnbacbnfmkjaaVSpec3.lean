/-
  Votes copied and with one more, by the specification.
-/
import Derived.Test.YtjcnbacbnfmkjaaVCopy
namespace Go.Proofs.Ytjcnbacbnfmkjaa
set_option linter.unusedVariables false
open Go.RowKit
attribute [local simp] far_const

set_option maxHeartbeats 1000000 in
theorem l1Copy_own (a : Option Addr) (ca : Nat) (l : List It) (n : Nat) (hln : l.length = n) (w : World) (hl : Its w a l) (hn : n ≤ 1048576) :
    Calls Try.prog 80 #[.slice a n ca] w fun r w' => ∃ v, r = .returned v ∧ OwnL w' w.heap.size v l ∧ Grew w w' := by
  have oe : OwnL (w.alloc (.cells #[] 77)) w.heap.size (.slice (some ⟨w.heap.size, 0, none⟩) 0 0) [] := OwnL.empty (Nat.le_refl _)
  rcases a with _ | ad
  · have h0 : l = [] := by
      rcases hl with h | ⟨_, _, h, _⟩
      · exact h
      · cases h
    subst h0
    simp only [List.length_nil] at hln
    subst hln
    have HO := hide oe
    clear oe
    go_enter Try.func80, Try.ntmps80
    go_wp2
    go_ret
    exact ⟨_, rfl, unhide HO, (Grew.refl _).alloc _⟩
  · have ia := hl.grew ((Grew.refl w).alloc (.cells #[] 77))
    have HO := hide oe
    have HI := hide ia
    have HL := hide hln
    clear oe ia hln hl
    go_enter Try.func80, Try.ntmps80
    go_wp2_with (first | (at_builtin; refine wpList_items rfl _ _ rfl w.heap.size _ [] rfl (unhide HO) ad ca l n (unhide HL) rfl (unhide HI) (by have := unhide HL; simp; omega) (by simp) ?_))
    intro v' w5 o5 g5
    have GG := ((Grew.refl w).alloc (.cells #[] 77)).grown g5 (fun k hk => Nat.le_of_eq (ownBlock_sl hk).symm)
    have HI5 := hide o5
    clear o5
    go_wp2
    go_ret
    exact ⟨_, rfl, unhide HI5, GG⟩

end Go.Proofs.Ytjcnbacbnfmkjaa
