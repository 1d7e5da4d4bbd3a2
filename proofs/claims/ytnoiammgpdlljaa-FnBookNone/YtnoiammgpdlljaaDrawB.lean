/-
  What all have, drawn: a row of at most three numbers, with a payment, of whatever content; a chain that is drawn for BookOf.
-/
import Derived.Test.YtnoiammgpdlljaaBytes
import Derived.Test.YtnoiammgpdlljaaNums3
namespace Go.Proofs.Ytnoiammgpdlljaa
set_option linter.unusedVariables false
open Go.RowKit
attribute [local simp] far_const

set_option maxHeartbeats 4000000 in
theorem l71Book_any (R N : Nat) (w : World) (hr : Rd w R N) (hN : N + 34 ≤ 1048576) :
    Calls Try.prog 35 #[.pointer (some ⟨R, 0, none⟩)] w fun r w' => ∃ b off cap l, r = .returned (.slice (some ⟨b, off, none⟩) l.length cap) ∧ w.heap.size ≤ b ∧ Ints w' (some ⟨b, off, none⟩) l ∧ l.length ≤ 3 ∧ Rd w' R (N + 34) ∧ Ran R w w' := by
  have hlt := hr.lt
  go_enter Try.func35, Try.ntmps35
  go_wp2_with fail
  refine (l71Chain_ok R N _ hr (by omega)).mono ?_
  rintro r w1 ⟨v1, c, rfl, o1, hc, hok, r1, g1⟩
  obtain ⟨gc, cc, rfl, hcc, hg1, hg2, hits⟩ := o1.shape
  have HI := hide hits
  clear o1 hits
  obtain ⟨x, y, z, hxyz, hx⟩ := bokB_three (bof_ok hok)
  clear hok
  go_wp2_with fail
  refine (specBookOf _ _ c _ (unhide HI) (by omega)).mono ?_
  rintro r w2 ⟨v2, rfl, o2, g2⟩
  rw [hxyz] at o2
  have o2 := o2.low g1.size
  have r2 := r1.grew g2
  have G2 := g1.grew g2
  clear hxyz r1 g1 g2 HI
  have O2 := hide o2
  have HG2 := hide G2
  clear o2 G2
  go_wp2_with fail
  refine (pick_any R (N + 31) 16 _ r2 (by omega) (by omega)).mono ?_
  rintro r w3 ⟨q, rfl, q0, q1, q2, r3, g3⟩
  clear q1 q2
  have o3 := (unhide O2).ran g3 hlt
  have HG3 := hide ((unhide HG2).trans g3)
  clear O2 HG2 g3 r2
  rcases (show q = 0 ∨ q = 1 ∨ 2 ≤ q by omega) with rfl | rfl | hq
  · have O3 := hide o3
    clear o3
    go_wp2_with fail
    refine (pick_any R (N + 31 + 1) 3 _ r3 (by omega) (by omega)).mono ?_
    rintro r w4 ⟨p, rfl, p0, p1, p2, r4, g4⟩
    have p3 := p1 (by omega)
    clear p1 p2
    have O4 := hide ((unhide O3).ran g4 hlt)
    have HG4 := hide ((unhide HG3).trans g4)
    clear O3 HG3 g4 r3
    go_wp2_with fail
    refine (pick_any R (N + 31 + 1 + 1) 40 _ r4 (by omega) (by omega)).mono ?_
    rintro r w5 ⟨m, rfl, m0, m1, m2, r5, g5⟩
    have m3 := m1 (by omega)
    clear m1 m2
    have o5 := (unhide O4).ran g5 hlt
    have HG5 := hide ((unhide HG4).trans g5)
    clear O4 HG4 g5 r4
    obtain ⟨k, rfl⟩ := Int.eq_ofNat_of_zero_le p0
    obtain ⟨g, cap, rfl, hcap, hbg, hgs, hi5, hf5⟩ := o5.shape
    have hk3 : k < 3 := by omega
    obtain ⟨_, _, hv, d0⟩ := hi5.at (i := k) (by simpa using hk3)
    simp only [Option.some.injEq, Addr.mk.injEq, and_true] at hv
    obtain ⟨rfl, rfl⟩ := hv
    rw [Nat.zero_add] at d0
    obtain ⟨D, hD⟩ : ∃ D, D = ([x, y, z] : List Int)[k]'(by simpa using hk3) := ⟨_, rfl⟩
    rw [← hD] at d0
    have z0 := hf5 k
    have HN := hide (o5.set k (m - 2))
    have hRg : R < g := by omega
    have HB := hide hbg
    clear hi5 hf5 hD o5
    go_wp2
    go_ret
    obtain ⟨_, _, hv, _, _, _, hi6, _⟩ := (unhide HN).shape
    simp only [Value.slice.injEq, Option.some.injEq, Addr.mk.injEq, and_true] at hv
    obtain ⟨rfl, hv2, rfl⟩ := hv
    refine ⟨g, 0, cap, [x, y, z].set k (m - 2), by rw [List.length_set]; rfl, unhide HB, hi6, by rw [List.length_set]; exact Nat.le_refl _, (r5.setCell (p := ⟨g, k, none⟩) hRg _).more (by omega), (unhide HG5).setCell (.inr (unhide HB)) _⟩
  · obtain ⟨g, cap, rfl, hcap, hbg, hgs, hi, hf⟩ := o3.shape
    have hcap3 : 3 ≤ cap := hcap
    have hI : Ints w3 (some ⟨g, 1, none⟩) [y, z] := by
      rcases hi with h | ⟨b, off, hv, h⟩
      · cases h
      · simp only [Option.some.injEq, Addr.mk.injEq, and_true] at hv
        obtain ⟨rfl, rfl⟩ := hv
        refine .inr ⟨g, 1, rfl, fun i hi => ?_⟩
        have := h (i + 1) (by simp at hi ⊢; omega)
        rw [show 1 + i = 0 + (i + 1) by omega, this]
        simp
    have HI := hide hI
    have HB := hide hbg
    clear hi hf o3 hI hcap
    go_wp2
    go_ret
    exact ⟨g, 1, cap - 1, [y, z], rfl, unhide HB, unhide HI, by simp, r3.more (by omega), unhide HG3⟩
  · have hx0 : (q == 0) = false := by simp; omega
    have hx1 : (q == 1) = false := by simp; omega
    obtain ⟨g, cap, rfl, hcap, hbg, hgs, hi, hf⟩ := o3.shape
    have HI := hide hi
    have HB := hide hbg
    clear hi hf o3
    go_wp2
    go_ret
    exact ⟨g, 0, cap, [x, y, z], rfl, unhide HB, unhide HI, by simp, r3.more (by omega), unhide HG3⟩

set_option maxHeartbeats 4000000 in
theorem drawBookPay_any (a : Option Addr) (n cap : Nat) (w : World) (hb : Byt w a w.heap.size n) (hc : n ≤ cap) (hn : n ≤ 1048576) :
    Calls Try.prog 14 #[.slice a n cap] w fun r w' => ∃ v l f t s, r = .returned (.tuple #[v, .agg #[.int .i64 f, .int .i64 t, .int .i64 s]]) ∧ NumV w' v l ∧ l.length ≤ 3 ∧ Grew w w' := by
  have hb' : Byt (w.alloc (.cells #[.int .i64 0, .int .i64 0, .int .i64 0] 25)) a (w.alloc (.cells #[.int .i64 0, .int .i64 0, .int .i64 0] 25)).heap.size n := by
    rcases hb with h | ⟨b, off, ha, hb, h⟩
    · exact .inl h
    · exact .inr ⟨b, off, ha, by simp; omega, fun i hi => by obtain ⟨z, h1, h2, h3⟩ := h i hi; exact ⟨z, h1, h2, ((Grew.refl w).alloc _).keep h3⟩⟩
  have HB := hide hb'
  clear hb hb'
  go_enter Try.func14, Try.ntmps14
  go_wp2_with fail
  refine (open_any a n cap _ (unhide HB) hc hn).mono ?_
  rintro r w1 ⟨rfl, r1, g1⟩
  simp only [World.size_alloc] at r1 ⊢
  have c0 := g1.keep (p := ⟨w.heap.size, 0, none⟩) (v := .int .i64 0) (by simp [go_sem])
  have c1 := g1.keep (p := ⟨w.heap.size, 1, none⟩) (v := .int .i64 0) (by simp [go_sem])
  have c2 := g1.keep (p := ⟨w.heap.size, 2, none⟩) (v := .int .i64 0) (by simp [go_sem])
  have zz : ∀ i, w1.frozen? ⟨w.heap.size, i, none⟩ = false := fun i => by
    rw [World.frozen?_of_block (w := w.alloc (.cells #[.int .i64 0, .int .i64 0, .int .i64 0] 25)) (g1.below.block w.heap.size (by simp))]
    simp [go_sem]
  have G1 := hide (((Grew.refl w).alloc _).trans g1)
  have s1 := r1.lt
  clear g1
  go_wp2_with fail
  refine (l71Book_any (w.heap.size + 1) 0 _ r1 (by omega)).mono ?_
  rintro r w2 ⟨b, off, cp, l, rfl, hb2, hi2, hl2, r2, g2⟩
  have hne : w.heap.size ≠ w.heap.size + 1 := by omega
  have HI2 := hide hi2
  clear hi2
  go_wp2_with fail
  refine (l71AnyPay_any (w.heap.size + 1) (0 + 34) _ r2 (by omega)).mono ?_
  rintro r w3 ⟨f, t, s, rfl, r3, g3⟩
  have g13 := g2.trans g3
  have c0 := g13.cell (p := ⟨w.heap.size, 0, none⟩) hne c0
  have c1 := g13.cell (p := ⟨w.heap.size, 1, none⟩) hne c1
  have c2 := g13.cell (p := ⟨w.heap.size, 2, none⟩) hne c2
  have z0 := g13.frozen (p := ⟨w.heap.size, 0, none⟩) (v := false) hne (by show w.heap.size < w1.heap.size; omega) (zz 0)
  have z1 := g13.frozen (p := ⟨w.heap.size, 1, none⟩) (v := false) hne (by show w.heap.size < w1.heap.size; omega) (zz 1)
  have z2 := g13.frozen (p := ⟨w.heap.size, 2, none⟩) (v := false) hne (by show w.heap.size < w1.heap.size; omega) (zz 2)
  have HI3 := hide (Ran.ints (unhide HI2) g3 (fun x hx => by cases hx; show b ≠ w.heap.size + 1; omega))
  have G3 := hide (g13.from (unhide G1) (by omega))
  have hbb : w.heap.size ≠ b := by omega
  clear g2 g3 g13 HI2 zz
  go_wp2
  refine bodyPost_ret (by simp [results, Try.results14, go_sem, c0, c1, c2]; try rfl) rfl ?_
  refine ⟨_, l, f, t, s, rfl, NumV.of rfl ?_, hl2, (((unhide G3).setCell (p := ⟨w.heap.size, 0, none⟩) (Nat.le_refl _) _).setCell (p := ⟨w.heap.size, 1, none⟩) (Nat.le_refl _) _).setCell (p := ⟨w.heap.size, 2, none⟩) (Nat.le_refl _) _⟩
  exact Ran.ints (R := w.heap.size) (unhide HI3) ((((Ran.refl _ _).setCell (p := ⟨w.heap.size, 0, none⟩) (.inl rfl) _).setCell (p := ⟨w.heap.size, 1, none⟩) (.inl rfl) _).setCell (p := ⟨w.heap.size, 2, none⟩) (.inl rfl) _) (fun x hx => by cases hx; show b ≠ w.heap.size; omega)

set_option maxHeartbeats 1000000 in
theorem drawBookOf_any (a : Option Addr) (n cap : Nat) (w : World) (hb : Byt w a w.heap.size n) (hc : n ≤ cap) (hn : n ≤ 1048576) :
    Calls Try.prog 19 #[.slice a n cap] w fun r w' => ∃ b cp l, r = .returned (.slice (some ⟨b, 0, none⟩) l.length cp) ∧ l.length ≤ cp ∧ Its w' (some ⟨b, 0, none⟩) l ∧ l.length ≤ 7 ∧ Grew w w' := by
  go_enter Try.func19, Try.ntmps19
  go_wp2_with fail
  refine (open_any a n cap _ hb hc hn).mono ?_
  rintro r w1 ⟨rfl, r1, g1⟩
  go_wp2_with fail
  refine (l71Off_any w.heap.size 0 _ r1 (by omega)).mono ?_
  rintro r w2 ⟨v, l, rfl, o2, hl2, r2, g2⟩
  obtain ⟨g, cp, rfl, hcp, hg1, hg2, hi⟩ := o2.shape
  have HI := hide hi
  have G2 := hide (g2.from g1 (Nat.le_refl _))
  clear hi o2 g1 g2
  go_wp2
  go_ret
  exact ⟨g, cp, l, rfl, hcp, unhide HI, hl2, unhide G2⟩
end Go.Proofs.Ytnoiammgpdlljaa
