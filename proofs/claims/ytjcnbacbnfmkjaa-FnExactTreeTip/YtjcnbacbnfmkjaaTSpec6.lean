/-
  What the specification's TreeAll, TreeTip and TreeLong answer, of votes whose chains have room.
-/
import Derived.Test.YtjcnbacbnfmkjaaTSpec5
namespace Go.Proofs.Ytjcnbacbnfmkjaa
set_option linter.unusedVariables false
open Go.RowKit
attribute [local simp] far_const

set_option maxHeartbeats 2000000 in
theorem specTreeTip (a : Option Addr) (cap : Nat) (l : List Vt) (w : World) (hl : Vts w a l) (hcap : l.length ≤ cap) (hroom : Room w a l) (hs : Short l) (hn : l.length ≤ 1048576) :
    Calls Try.prog 11 #[.slice a l.length cap] w fun r w' => ∃ v, r = .returned v ∧ ChV w' v (tipL l) ∧ Grew w w' := by
  have h1 := hide (specVotesOk a cap l w hl hcap hs hn)
  go_enter Try.func11, Try.ntmps11
  go_wp2_with fail
  refine h1.out.mono ?_
  clear h1
  rintro r w1 ⟨rfl, g1⟩
  cases hv : votesB l with
  | false =>
    have HE : Hid (tipL l = []) := hide (by simp [tipL, hv])
    clear hv
    go_wp2
    go_ret
    exact ⟨_, rfl, by rw [HE.out]; exact ⟨_, _, rfl, Nat.le_refl _, .inl rfl⟩, g1.alloc _⟩
  | true =>
    have HE : Hid (tipL l = longest (allS l)) := hide (by simp [tipL, hv])
    clear hv
    have hX := hide (l11Tip_any a cap l w1 (hl.grew g1) (hroom.grew hl g1) hs hn)
    go_wp2_with fail
    refine hX.out.mono ?_
    clear hX
    rintro r w2 ⟨v, rfl, hv2, g2⟩
    have HV := hide hv2
    clear hv2
    go_wp2
    go_ret
    exact ⟨_, rfl, by rw [HE.out]; exact unhide HV, g1.trans g2⟩

/-- What TreeAll answers. -/
def allL (l : List Vt) : List (List It) := if votesB l = true then allS l else []
set_option maxHeartbeats 2000000 in
theorem specTreeAll (a : Option Addr) (cap : Nat) (l : List Vt) (w : World) (hl : Vts w a l) (hcap : l.length ≤ cap) (hroom : Room w a l) (hs : Short l) (hn : l.length ≤ 1048576) :
    Calls Try.prog 19 #[.slice a l.length cap] w fun r w' => ∃ v, r = .returned v ∧ ChsV w' v (allL l) ∧ Grew w w' := by
  have h1 := hide (specVotesOk a cap l w hl hcap hs hn)
  go_enter Try.func19, Try.ntmps19
  go_wp2_with fail
  refine h1.out.mono ?_
  clear h1
  rintro r w1 ⟨rfl, g1⟩
  cases hv : votesB l with
  | false =>
    have HE : Hid (allL l = []) := hide (by simp [allL, hv])
    clear hv
    go_wp2
    go_ret
    exact ⟨_, rfl, by rw [HE.out]; exact ⟨_, _, rfl, Nat.le_refl _, fun i hi => absurd hi (Nat.not_lt_zero _)⟩, g1.alloc _⟩
  | true =>
    have HE : Hid (allL l = allS l) := hide (by simp [allL, hv])
    clear hv
    have hX := hide (l11All_any a cap l w1 (hl.grew g1) (hroom.grew hl g1) hs hn)
    rw [allK_all] at hX
    go_wp2_with fail
    refine hX.out.mono ?_
    clear hX
    rintro r w2 ⟨v, rfl, hv2, g2⟩
    have HV := hide hv2.chsV
    clear hv2
    go_wp2
    go_ret
    exact ⟨_, rfl, by rw [HE.out]; exact unhide HV, g1.trans g2⟩
end Go.Proofs.Ytjcnbacbnfmkjaa
