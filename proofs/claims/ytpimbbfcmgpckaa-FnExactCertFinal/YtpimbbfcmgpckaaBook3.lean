/-
  A payment made, in the specification: l2Pay.
-/
import Derived.Test.YtpimbbfcmgpckaaBook2
namespace Go.Proofs.Ytpimbbfcmgpckaa
set_option linter.unusedVariables false
open Go.RowKit
attribute [local simp] far_const

set_option maxHeartbeats 2000000 in
theorem l2Pay_any (a : Option Addr) (cap : Nat) (x y z f t s : Int) (w : World) (hl : Ints w a [x, y, z]) (hx : 0 ≤ x ∧ x ≤ 27 ∧ 0 ≤ y ∧ y ≤ 27 ∧ 0 ≤ z ∧ z ≤ 27) (hp : payB f t s = true) :
    Calls Try.prog 141 #[.slice a 3 cap, .agg #[.int .i64 f, .int .i64 t, .int .i64 s]] w fun r w' => ∃ v, r = .returned v ∧ OwnN w' w.heap.size v (payL [x, y, z] f t s) ∧ Grew w w' := by
  obtain ⟨b, off, rfl, _⟩ := hl.three
  obtain ⟨h1, h2, hc⟩ := payB_cases hp
  clear hp
  obtain ⟨hx0, hx1, hy0, hy1, hz0, hz1⟩ := hx
  have HL := hide hl
  clear hl
  have O0 := hide (show OwnN ((w.alloc (.cells #[.int .i64 f, .int .i64 t, .int .i64 s] 30)).alloc (.cells #[] 3)) (w.heap.size + 1) (.slice (some ⟨w.heap.size + 1, 0, none⟩) 0 0) [] by
    have := OwnN.lit (w := w.alloc (.cells #[.int .i64 f, .int .i64 t, .int .i64 s] 30)) (base := w.heap.size + 1) (by simp) [] 0 rfl (by omega)
    rw [World.size_alloc] at this
    exact this)
  go_enter Try.func141, Try.ntmps141
  go_wp2_with (first | (at_builtin; refine wpList_nums rfl _ _ rfl (w.heap.size + 1) _ [] rfl (unhide O0) ⟨b, off, none⟩ cap [x, y, z] 3 rfl rfl (((unhide HL).grew ((Grew.refl _).alloc _)).grew ((Grew.refl _).alloc _)) (by simp) (by simp) ?_))
  intro v1 w1 o1 g1
  replace o1 : OwnN w1 (w.heap.size + 1) v1 [x, y, z] := o1
  have p0 := g1.cell (a := ⟨w.heap.size, 0, none⟩) (v := .int .i64 f) (by simp [go_sem]) (by simp [Value.ownBlock])
  have p1 := g1.cell (a := ⟨w.heap.size, 1, none⟩) (v := .int .i64 t) (by simp [go_sem]) (by simp [Value.ownBlock])
  have p2 := g1.cell (a := ⟨w.heap.size, 2, none⟩) (v := .int .i64 s) (by simp [go_sem]) (by simp [Value.ownBlock])
  have G1 := hide (((((Grew.refl w).alloc _).alloc _).grown g1 (fun k hk => by simp [Value.ownBlock] at hk; omega)))
  obtain ⟨g, c, rfl, hcap, hbg, hgs, hi1, hf1⟩ := o1.shape
  obtain ⟨_, _, hv, c0, c1, c2⟩ := hi1.three
  simp only [Option.some.injEq, Addr.mk.injEq, and_true] at hv
  obtain ⟨rfl, rfl⟩ := hv
  simp only [Nat.zero_add] at c1 c2
  have z0 := hf1 0
  have z1 := hf1 1
  have z2 := hf1 2
  have hPg : w.heap.size ≠ g := by omega
  have hbg' : w.heap.size ≤ g := by omega
  have O1 := hide (o1.low (Nat.le_succ _))
  clear hi1 hf1 o1 g1
  rcases hc with ⟨rfl, rfl⟩ | ⟨rfl, rfl⟩ | ⟨rfl, rfl⟩ | ⟨rfl, rfl⟩ | ⟨rfl, rfl⟩ | ⟨rfl, rfl⟩
  · by_cases hs : s ≤ x
    · have E := hide (show payL [x, y, z] 1 2 s = ([x, y, z].set 0 (x - s)).set 1 (y + s) by unfold payL; rw [if_pos (by simpa using hs)]; rfl)
      go_wp2_with fail
      go_region
      go_wp2_with fail
      go_region
      go_wp2_with fail
      go_region
      go_wp2
      go_ret
      refine ⟨_, rfl, ?_, ?_⟩
      · rw [unhide E]
        exact ((unhide O1).set 0 (x - s)).set 1 (y + s)
      · exact (((((unhide G1).drew.setCell (p := ⟨g, 0, none⟩) hbg' _).drew).setCell (p := ⟨g, 1, none⟩) hbg' _).drew)
    · have E := hide (show payL [x, y, z] 1 2 s = [x, y, z] by unfold payL; rw [if_neg (by simpa using hs)])
      have hs' : decide (s ≤ x) = false := by simpa using hs
      clear hs
      go_wp2_with fail
      go_region
      go_wp2
      go_ret
      refine ⟨_, rfl, ?_, (unhide G1).drew⟩
      rw [unhide E]
      exact unhide O1
  · by_cases hs : s ≤ x
    · have E := hide (show payL [x, y, z] 1 3 s = ([x, y, z].set 0 (x - s)).set 2 (z + s) by unfold payL; rw [if_pos (by simpa using hs)]; rfl)
      go_wp2_with fail
      go_region
      go_wp2_with fail
      go_region
      go_wp2_with fail
      go_region
      go_wp2
      go_ret
      refine ⟨_, rfl, ?_, ?_⟩
      · rw [unhide E]
        exact ((unhide O1).set 0 (x - s)).set 2 (z + s)
      · exact (((((unhide G1).drew.setCell (p := ⟨g, 0, none⟩) hbg' _).drew).setCell (p := ⟨g, 2, none⟩) hbg' _).drew)
    · have E := hide (show payL [x, y, z] 1 3 s = [x, y, z] by unfold payL; rw [if_neg (by simpa using hs)])
      have hs' : decide (s ≤ x) = false := by simpa using hs
      clear hs
      go_wp2_with fail
      go_region
      go_wp2
      go_ret
      refine ⟨_, rfl, ?_, (unhide G1).drew⟩
      rw [unhide E]
      exact unhide O1
  · by_cases hs : s ≤ y
    · have E := hide (show payL [x, y, z] 2 1 s = ([x, y, z].set 1 (y - s)).set 0 (x + s) by unfold payL; rw [if_pos (by simpa using hs)]; rfl)
      go_wp2_with fail
      go_region
      go_wp2_with fail
      go_region
      go_wp2_with fail
      go_region
      go_wp2
      go_ret
      refine ⟨_, rfl, ?_, ?_⟩
      · rw [unhide E]
        exact ((unhide O1).set 1 (y - s)).set 0 (x + s)
      · exact (((((unhide G1).drew.setCell (p := ⟨g, 1, none⟩) hbg' _).drew).setCell (p := ⟨g, 0, none⟩) hbg' _).drew)
    · have E := hide (show payL [x, y, z] 2 1 s = [x, y, z] by unfold payL; rw [if_neg (by simpa using hs)])
      have hs' : decide (s ≤ y) = false := by simpa using hs
      clear hs
      go_wp2_with fail
      go_region
      go_wp2
      go_ret
      refine ⟨_, rfl, ?_, (unhide G1).drew⟩
      rw [unhide E]
      exact unhide O1
  · by_cases hs : s ≤ y
    · have E := hide (show payL [x, y, z] 2 3 s = ([x, y, z].set 1 (y - s)).set 2 (z + s) by unfold payL; rw [if_pos (by simpa using hs)]; rfl)
      go_wp2_with fail
      go_region
      go_wp2_with fail
      go_region
      go_wp2_with fail
      go_region
      go_wp2
      go_ret
      refine ⟨_, rfl, ?_, ?_⟩
      · rw [unhide E]
        exact ((unhide O1).set 1 (y - s)).set 2 (z + s)
      · exact (((((unhide G1).drew.setCell (p := ⟨g, 1, none⟩) hbg' _).drew).setCell (p := ⟨g, 2, none⟩) hbg' _).drew)
    · have E := hide (show payL [x, y, z] 2 3 s = [x, y, z] by unfold payL; rw [if_neg (by simpa using hs)])
      have hs' : decide (s ≤ y) = false := by simpa using hs
      clear hs
      go_wp2_with fail
      go_region
      go_wp2
      go_ret
      refine ⟨_, rfl, ?_, (unhide G1).drew⟩
      rw [unhide E]
      exact unhide O1
  · by_cases hs : s ≤ z
    · have E := hide (show payL [x, y, z] 3 1 s = ([x, y, z].set 2 (z - s)).set 0 (x + s) by unfold payL; rw [if_pos (by simpa using hs)]; rfl)
      go_wp2_with fail
      go_region
      go_wp2_with fail
      go_region
      go_wp2_with fail
      go_region
      go_wp2
      go_ret
      refine ⟨_, rfl, ?_, ?_⟩
      · rw [unhide E]
        exact ((unhide O1).set 2 (z - s)).set 0 (x + s)
      · exact (((((unhide G1).drew.setCell (p := ⟨g, 2, none⟩) hbg' _).drew).setCell (p := ⟨g, 0, none⟩) hbg' _).drew)
    · have E := hide (show payL [x, y, z] 3 1 s = [x, y, z] by unfold payL; rw [if_neg (by simpa using hs)])
      have hs' : decide (s ≤ z) = false := by simpa using hs
      clear hs
      go_wp2_with fail
      go_region
      go_wp2
      go_ret
      refine ⟨_, rfl, ?_, (unhide G1).drew⟩
      rw [unhide E]
      exact unhide O1
  · by_cases hs : s ≤ z
    · have E := hide (show payL [x, y, z] 3 2 s = ([x, y, z].set 2 (z - s)).set 1 (y + s) by unfold payL; rw [if_pos (by simpa using hs)]; rfl)
      go_wp2_with fail
      go_region
      go_wp2_with fail
      go_region
      go_wp2_with fail
      go_region
      go_wp2
      go_ret
      refine ⟨_, rfl, ?_, ?_⟩
      · rw [unhide E]
        exact ((unhide O1).set 2 (z - s)).set 1 (y + s)
      · exact (((((unhide G1).drew.setCell (p := ⟨g, 2, none⟩) hbg' _).drew).setCell (p := ⟨g, 1, none⟩) hbg' _).drew)
    · have E := hide (show payL [x, y, z] 3 2 s = [x, y, z] by unfold payL; rw [if_neg (by simpa using hs)])
      have hs' : decide (s ≤ z) = false := by simpa using hs
      clear hs
      go_wp2_with fail
      go_region
      go_wp2
      go_ret
      refine ⟨_, rfl, ?_, (unhide G1).drew⟩
      rw [unhide E]
      exact unhide O1
end Go.Proofs.Ytpimbbfcmgpckaa
