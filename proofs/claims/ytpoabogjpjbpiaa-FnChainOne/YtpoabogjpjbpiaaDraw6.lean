/-
  The draws of the laws on chains: two chains, or one, of whatever content.
-/
import Derived.Test.YtpoabogjpjbpiaaDraw5
namespace Go.Proofs.Ytpoabogjpjbpiaa
set_option linter.unusedVariables false
open Go.RowKit
attribute [local simp] far_const

set_option maxHeartbeats 4000000 in
theorem drawChainIn_any (a : Option Addr) (n cap : Nat) (w : World) (hb : Byt w a w.heap.size n) (hc : n ≤ cap) (hn : n ≤ 1048576) :
    Calls Try.prog 12 #[.slice a n cap] w fun r w' => ∃ ga ca na la gb cb lb, r = .returned (.tuple #[.slice (some ⟨ga, 0, none⟩) na ca, .slice (some ⟨gb, 0, none⟩) lb.length cb]) ∧ la.length = na ∧ Its w' (some ⟨ga, 0, none⟩) la ∧ Its w' (some ⟨gb, 0, none⟩) lb ∧ na ≤ 16 ∧ lb.length ≤ 16 ∧ na ≤ ca ∧ lb.length ≤ cb ∧ Grew w w' := by
  go_enter Try.func12, Try.ntmps12
  go_wp2_with fail
  refine (open_any a n cap _ hb hc hn).mono ?_
  rintro r w1 ⟨rfl, r1, g1⟩
  go_wp2_with fail
  refine (l71Two_any w.heap.size 0 _ r1 (by omega)).mono ?_
  rintro r w2 ⟨va, la, vb, lb, rfl, oa, ob, ha, hb', r2, g2⟩
  obtain ⟨ga, ca, rfl, hca, hga, _, ia⟩ := oa.shape
  obtain ⟨gb, cb, rfl, hcb, hgb, _, ib⟩ := ob.shape
  have hlt := r1.lt
  have G2 := g2.from g1 (Nat.le_refl _)
  clear oa ob g2
  go_wp2_with fail
  refine (pick_any w.heap.size _ 2 _ r2 (by omega) (by omega)).mono ?_
  rintro r w3 ⟨x, rfl, x0, x1, x2, r3, g3⟩
  have x3 := x1 (by omega)
  clear x1 x2
  have ia3 := Ran.its ia g3 (fun x hx => by cases hx; show ga ≠ _; omega)
  have ib3 := Ran.its ib g3 (fun x hx => by cases hx; show gb ≠ _; omega)
  have G3 := g3.from G2 (Nat.le_refl _)
  clear ia ib g3 G2 r2
  rcases (show x = 0 ∨ x = 1 by omega) with rfl | rfl
  · go_wp2_with fail
    refine (pick_any w.heap.size _ (la.length + 1) _ r3 (by omega) (by omega)).mono ?_
    rintro r w4 ⟨y, rfl, y0, y1, y2, r4, g4⟩
    have y3 := y1 (by omega)
    clear y1 y2
    obtain ⟨k, rfl⟩ := Int.eq_ofNat_of_zero_le y0
    have ia4 := Ran.its ia3 g4 (fun x hx => by cases hx; show ga ≠ _; omega)
    have G4 := g4.from G3 (Nat.le_refl _)
    have hkc : k ≤ ca := by omega
    have HI := hide ia4
    clear ia3 ib3 ia4 g4
    go_wp2
    go_ret2
    exact ⟨ga, ca, k, la.take k, ga, ca, la, rfl, by rw [List.length_take]; omega, (unhide HI).take k, unhide HI, by omega, ha, hkc, hca, G4⟩
  · have HA := hide ia3
    have HB := hide ib3
    clear ia3 ib3
    go_wp2
    go_ret2
    exact ⟨ga, ca, la.length, la, gb, cb, lb, rfl, rfl, unhide HA, unhide HB, ha, hb', hca, hcb, G3⟩

set_option maxHeartbeats 4000000 in
theorem drawChainBoth_any (a : Option Addr) (n cap : Nat) (w : World) (hb : Byt w a w.heap.size n) (hc : n ≤ cap) (hn : n ≤ 1048576) :
    Calls Try.prog 17 #[.slice a n cap] w fun r w' => ∃ ga ca la gb cb lb, r = .returned (.tuple #[.slice (some ⟨ga, 0, none⟩) la.length ca, .slice (some ⟨gb, 0, none⟩) lb.length cb]) ∧ Its w' (some ⟨ga, 0, none⟩) la ∧ Its w' (some ⟨gb, 0, none⟩) lb ∧ la.length ≤ 16 ∧ lb.length ≤ 16 ∧ la.length ≤ ca ∧ lb.length ≤ cb ∧ Grew w w' := by
  go_enter Try.func17, Try.ntmps17
  go_wp2_with fail
  refine (open_any a n cap _ hb hc hn).mono ?_
  rintro r w1 ⟨rfl, r1, g1⟩
  go_wp2_with fail
  refine (l71Two_any w.heap.size 0 _ r1 (by omega)).mono ?_
  rintro r w2 ⟨va, la, vb, lb, rfl, oa, ob, ha, hb', r2, g2⟩
  obtain ⟨ga, ca, rfl, hca, hga, _, ia⟩ := oa.shape
  obtain ⟨gb, cb, rfl, hcb, hgb, _, ib⟩ := ob.shape
  have G2 := g2.from g1 (Nat.le_refl _)
  have HA := hide ia
  have HB := hide ib
  clear oa ob g2 ia ib
  go_wp2
  go_ret2
  exact ⟨ga, ca, la, gb, cb, lb, rfl, unhide HA, unhide HB, ha, hb', hca, hcb, G2⟩

set_option maxHeartbeats 4000000 in
theorem drawChainText_any (a : Option Addr) (n cap : Nat) (w : World) (hb : Byt w a w.heap.size n) (hc : n ≤ cap) (hn : n ≤ 1048576) :
    Calls Try.prog 20 #[.slice a n cap] w fun r w' => ∃ ga ca la, r = .returned (.slice (some ⟨ga, 0, none⟩) la.length ca) ∧ Its w' (some ⟨ga, 0, none⟩) la ∧ la.length ≤ 16 ∧ la.length ≤ ca ∧ Grew w w' := by
  go_enter Try.func20, Try.ntmps20
  go_wp2_with fail
  refine (open_any a n cap _ hb hc hn).mono ?_
  rintro r w1 ⟨rfl, r1, g1⟩
  go_wp2_with fail
  refine (l71Off_any w.heap.size 0 _ r1 (by omega)).mono ?_
  rintro r w2 ⟨va, la, rfl, oa, ha, r2, g2⟩
  obtain ⟨ga, ca, rfl, hca, hga, _, ia⟩ := oa.shape
  have G2 := g2.from g1 (Nat.le_refl _)
  have HA := hide ia
  clear oa g2 ia
  go_wp2
  go_ret
  exact ⟨ga, ca, la, rfl, unhide HA, by omega, hca, G2⟩
end Go.Proofs.Ytpoabogjpjbpiaa
