/-
  A text that is drawn: of whatever content, short.
-/
import Derived.Test.YtfonpbglnkggfaaDoorBytes
import Derived.Test.YtfonpbglnkggfaaDoorText3
import Derived.Test.YtfonpbglnkggfaaDoorRead1
import Derived.Deep.RegionHeldLaw
import Derived.Deep.DeepFit
namespace Go.Proofs.YtfonpbglnkggfaaDoor
set_option linter.unusedVariables false
open Go.RowKit
attribute [local simp] far_const

theorem of_any (R N g : Nat) (w : World) (hr : Rd w R N) (hN : N ≤ 1048000) (hg : g ≠ R) (hc : ∀ i, i < 5 → ∃ X : ByteArray, X.size ≤ 6 ∧ w.cell? ⟨g, i, none⟩ = some (.string X)) :
    Calls Tryd.prog 14 #[.pointer (some ⟨R, 0, none⟩), .slice (some ⟨g, 0, none⟩) 5 5] w fun r w' => ∃ X : ByteArray, r = .returned (.string X) ∧ X.size ≤ 6 ∧ Ran R w w' := by
  have HC := hide hc
  clear hc
  go_enter Tryd.func14, Tryd.ntmps14
  go_wp2_with fail
  refine (pick_any R N 5 _ hr (by omega) (by omega)).mono ?_
  rintro r w1 ⟨y, rfl, y0, y1, y2, r1, g1⟩
  have y3 := y1 (by omega)
  clear y1 y2
  obtain ⟨k, rfl⟩ := Int.eq_ofNat_of_zero_le y0
  obtain ⟨X, hX, hcell⟩ := unhide HC k (by omega)
  have c0 := g1.cell (p := ⟨g, k, none⟩) hg hcell
  have HX := hide hX
  have G := hide g1
  clear hX g1 hcell HC
  go_wp2
  go_ret
  exact ⟨X, rfl, unhide HX, unhide G⟩

set_option maxHeartbeats 2000000 in
theorem drawChainRead_any (a : Option Addr) (n cap : Nat) (w : World) (hb : Byt w a w.heap.size n) (hc : n ≤ cap) (hn : n ≤ 1048576) :
    Calls Tryd.prog 4 #[.slice a n cap] w fun r w' => ∃ X : ByteArray, r = .returned (.string X) ∧ X.size ≤ 200 ∧ Grew w w' := by
  go_enter Tryd.func4, Tryd.ntmps4
  go_wp2_with fail
  refine (open_any a n cap _ hb hc hn).mono ?_
  rintro r w1 ⟨rfl, r1, g1⟩
  go_wp2_with fail
  refine (l71Off_any w.heap.size 0 _ r1 (by omega)).mono ?_
  rintro r w2 ⟨v, l, rfl, o2, hl2, r2, g2⟩
  obtain ⟨gb, cp, rfl, hcp, _, _, hi⟩ := o2.shape
  have HI := hide hi
  clear o2 hi
  go_wp2_with fail
  refine (specChainText _ _ l _ (unhide HI) (by omega)).mono ?_
  rintro r w3 ⟨rfl, g3⟩
  obtain ⟨S, hS, hSz⟩ : ∃ S : ByteArray, (if okB l = true then textB l else ⟨#[]⟩) = S ∧ S.size ≤ 70 := by
    refine ⟨_, rfl, ?_⟩
    split
    · have := textB_size l; omega
    · exact Nat.zero_le _
  rw [hS]
  have r3 := r2.grew g3
  have HG3 := hide ((g2.grew g3).from g1 (Nat.le_refl _))
  have hlt : w.heap.size < w3.heap.size := r3.lt
  clear hS r2 g2 g3 g1 HI
  go_wp2_with fail
  refine (pick_any w.heap.size (0 + 38) ((S.size : Int) + 1) _ r3 (by omega) (by omega)).mono ?_
  rintro r w4 ⟨x, rfl, x0, x1, x2, r4, g4⟩
  have x3 := x1 (by omega)
  clear x1 x2
  obtain ⟨k, rfl⟩ := Int.eq_ofNat_of_zero_le x0
  have hk : k ≤ S.size := by omega
  have HG4 := hide (g4.from (unhide HG3) (Nat.le_refl _))
  clear g4 HG3
  go_wp2_with fail
  refine (pick_any w.heap.size (0 + 38 + 1) 8 _ r4 (by omega) (by omega)).mono ?_
  rintro r w5 ⟨q, rfl, q0, q1, q2, r5, g5⟩
  clear q1 q2
  have HG5 := hide (g5.from (unhide HG4) (Nat.le_refl _))
  have hlt5 : w.heap.size < w5.heap.size := r5.lt
  clear g5 HG4
  have hA : (S.extract 0 k).size ≤ 70 := by rw [ByteArray.size_extract]; omega
  have hB : (S.extract k S.size).size ≤ 70 := by rw [ByteArray.size_extract]; omega
  rcases (show q = 0 ∨ q = 1 ∨ 2 ≤ q by omega) with rfl | rfl | hq
  · have HA := hide hA
    clear hA hB
    go_wp2
    go_ret
    exact ⟨_, rfl, by have := unhide HA; omega, unhide HG5⟩
  · have hcs : ∀ i, i < 5 → ∃ X : ByteArray, X.size ≤ 6 ∧ (w5.alloc (.cells #[.string ⟨#[48]⟩, .string ⟨#[58]⟩, .string ⟨#[10]⟩, .string ⟨#[49]⟩, .string ⟨#[57, 58, 49, 50, 51, 10]⟩] 9)).drew.cell? ⟨w5.heap.size, i, none⟩ = some (.string X) := by
      intro i hi
      rcases (show i = 0 ∨ i = 1 ∨ i = 2 ∨ i = 3 ∨ i = 4 by omega) with rfl | rfl | rfl | rfl | rfl
      · exact ⟨⟨#[48]⟩, by decide, by simp [go_sem]⟩
      · exact ⟨⟨#[58]⟩, by decide, by simp [go_sem]⟩
      · exact ⟨⟨#[10]⟩, by decide, by simp [go_sem]⟩
      · exact ⟨⟨#[49]⟩, by decide, by simp [go_sem]⟩
      · exact ⟨⟨#[57, 58, 49, 50, 51, 10]⟩, by decide, by simp [go_sem]⟩
    have HCS := hide hcs
    have HAB := hide (And.intro hA hB)
    have r5' := hide (r5.grew ((Grew.refl w5).alloc (.cells #[.string ⟨#[48]⟩, .string ⟨#[58]⟩, .string ⟨#[10]⟩, .string ⟨#[49]⟩, .string ⟨#[57, 58, 49, 50, 51, 10]⟩] 9)).drew)
    have HG6 := hide (((unhide HG5).alloc (.cells #[.string ⟨#[48]⟩, .string ⟨#[58]⟩, .string ⟨#[10]⟩, .string ⟨#[49]⟩, .string ⟨#[57, 58, 49, 50, 51, 10]⟩] 9)).drew)
    clear hcs hA hB
    go_wp2_with fail
    go_region_held_law (fun _ => True) (exact trivial)
      (first
        | (go_at_call 14; go_fit (of_any w.heap.size (0 + 38 + 1 + 1) w5.heap.size _ (unhide r5') (by omega) (by omega) (unhide HCS)); rintro r w6 ⟨X, rfl, hX, g6⟩; have s0 := unhide HAB; have s1 : ¬ 9223372036854775807 < (S.extract 0 k).size + X.size := (by omega); have s2 : ¬ 9223372036854775807 < ((S.extract 0 k) ++ X).size + (S.extract k S.size).size := (by rw [ByteArray.size_append]; omega)))
    have HZ := hide (show ((S.extract 0 k) ++ X ++ S.extract k S.size).size ≤ 200 by rw [ByteArray.size_append, ByteArray.size_append]; omega)
    have HG7 := hide (g6.from (unhide HG6) (Nat.le_refl _))
    clear s0 s1 s2 g6
    go_wp2
    go_ret
    exact ⟨_, rfl, unhide HZ, unhide HG7⟩
  · have hx0 : (q == 0) = false := by simp; omega
    have hx1 : (q == 1) = false := by simp; omega
    clear hA hB
    have HS := hide hSz
    go_wp2
    go_ret
    exact ⟨S, rfl, by have := unhide HS; omega, unhide HG5⟩
end Go.Proofs.YtfonpbglnkggfaaDoor
