/-
  What all have, drawn: a row of at most three numbers, with a payment, of whatever content; a chain that is drawn for BookOf.
-/
import Derived.Test.YtfonpbglnkggfaaBytes
import Derived.Test.YtfonpbglnkggfaaNums3
namespace Go.Proofs.Ytfonpbglnkggfaa
set_option linter.unusedVariables false
open Go.RowKit
attribute [local simp] far_const

set_option maxHeartbeats 4000000 in
theorem l71Book_own (R N : Nat) (w : World) (hr : Rd w R N) (hN : N + 34 ≤ 1048576) :
    Calls Try.prog 37 #[.pointer (some ⟨R, 0, none⟩)] w fun r w' => ∃ b off cap l, r = .returned (.slice (some ⟨b, off, none⟩) l.length cap) ∧ w.heap.size ≤ b ∧ Ints w' (some ⟨b, off, none⟩) l ∧ l.length ≤ 3 ∧ (2 ≤ l.length ∧ l.length ≤ cap ∧ ∀ i, w'.frozen? ⟨b, i, none⟩ = false) ∧ Rd w' R (N + 34) ∧ Ran R w w' := by
  have hlt := hr.lt
  go_enter Try.func37, Try.ntmps37
  go_wp2_with fail
  refine (l71Chain_ok R N _ hr (by omega)).mono ?_
  rintro r w1 ⟨v1, c, rfl, o1, hc, hok, r1, g1⟩
  obtain ⟨gc, cc, rfl, hcc, hg1, hg2, hits⟩ := o1.shape
  have HI := hide hits
  clear o1 hits
  obtain ⟨x, y, z, hxyz, hx⟩ := bokB_three (bof_ok hok)
  clear hok
  go_wp2_with fail
  refine (specBookOf _ _ c _ (unhide HI) (by omega)).mono ?_
  rintro r w2 ⟨v2, rfl, o2, g2⟩
  rw [hxyz] at o2
  have o2 := o2.low g1.size
  have r2 := r1.grew g2
  have G2 := g1.grew g2
  clear hxyz r1 g1 g2 HI
  have O2 := hide o2
  have HG2 := hide G2
  clear o2 G2
  go_wp2_with fail
  refine (pick_any R (N + 31) 16 _ r2 (by omega) (by omega)).mono ?_
  rintro r w3 ⟨q, rfl, q0, q1, q2, r3, g3⟩
  clear q1 q2
  have o3 := (unhide O2).ran g3 hlt
  have HG3 := hide ((unhide HG2).trans g3)
  clear O2 HG2 g3 r2
  rcases (show q = 0 ∨ q = 1 ∨ 2 ≤ q by omega) with rfl | rfl | hq
  · have O3 := hide o3
    clear o3
    go_wp2_with fail
    refine (pick_any R (N + 31 + 1) 3 _ r3 (by omega) (by omega)).mono ?_
    rintro r w4 ⟨p, rfl, p0, p1, p2, r4, g4⟩
    have p3 := p1 (by omega)
    clear p1 p2
    have O4 := hide ((unhide O3).ran g4 hlt)
    have HG4 := hide ((unhide HG3).trans g4)
    clear O3 HG3 g4 r3
    go_wp2_with fail
    refine (pick_any R (N + 31 + 1 + 1) 40 _ r4 (by omega) (by omega)).mono ?_
    rintro r w5 ⟨m, rfl, m0, m1, m2, r5, g5⟩
    have m3 := m1 (by omega)
    clear m1 m2
    have o5 := (unhide O4).ran g5 hlt
    have HG5 := hide ((unhide HG4).trans g5)
    clear O4 HG4 g5 r4
    obtain ⟨k, rfl⟩ := Int.eq_ofNat_of_zero_le p0
    obtain ⟨g, cap, rfl, hcap, hbg, hgs, hi5, hf5⟩ := o5.shape
    have hk3 : k < 3 := by omega
    obtain ⟨_, _, hv, d0⟩ := hi5.at (i := k) (by simpa using hk3)
    simp only [Option.some.injEq, Addr.mk.injEq, and_true] at hv
    obtain ⟨rfl, rfl⟩ := hv
    rw [Nat.zero_add] at d0
    obtain ⟨D, hD⟩ : ∃ D, D = ([x, y, z] : List Int)[k]'(by simpa using hk3) := ⟨_, rfl⟩
    rw [← hD] at d0
    have z0 := hf5 k
    have HN := hide (o5.set k (m - 2))
    have HCAP := hide hcap
    have hRg : R < g := by omega
    have HB := hide hbg
    clear hi5 hf5 hD o5
    go_wp2
    go_ret
    obtain ⟨_, _, hv, _, _, _, hi6, hf6⟩ := (unhide HN).shape
    simp only [Value.slice.injEq, Option.some.injEq, Addr.mk.injEq, and_true] at hv
    obtain ⟨rfl, hv2, rfl⟩ := hv
    refine ⟨g, 0, cap, [x, y, z].set k (m - 2), by rw [List.length_set]; rfl, unhide HB, hi6, by rw [List.length_set]; exact Nat.le_refl _, ⟨by rw [List.length_set]; simp, by rw [List.length_set]; exact unhide HCAP, hf6⟩, (r5.setCell (p := ⟨g, k, none⟩) hRg _).more (by omega), (unhide HG5).setCell (.inr (unhide HB)) _⟩
  · obtain ⟨g, cap, rfl, hcap, hbg, hgs, hi, hf⟩ := o3.shape
    have hcap3 : 3 ≤ cap := hcap
    have hI : Ints w3 (some ⟨g, 1, none⟩) [y, z] := by
      rcases hi with h | ⟨b, off, hv, h⟩
      · cases h
      · simp only [Option.some.injEq, Addr.mk.injEq, and_true] at hv
        obtain ⟨rfl, rfl⟩ := hv
        refine .inr ⟨g, 1, rfl, fun i hi => ?_⟩
        have := h (i + 1) (by simp at hi ⊢; omega)
        rw [show 1 + i = 0 + (i + 1) by omega, this]
        simp
    have HI := hide hI
    have HB := hide hbg
    have HF := hide hf
    clear hi hf o3 hI hcap
    go_wp2
    go_ret
    exact ⟨g, 1, cap - 1, [y, z], rfl, unhide HB, unhide HI, by simp, ⟨by simp, by show 2 ≤ cap - 1; omega, unhide HF⟩, r3.more (by omega), unhide HG3⟩
  · have hx0 : (q == 0) = false := by simp; omega
    have hx1 : (q == 1) = false := by simp; omega
    obtain ⟨g, cap, rfl, hcap, hbg, hgs, hi, hf⟩ := o3.shape
    have HI := hide hi
    have HB := hide hbg
    have HF := hide hf
    clear hi hf o3
    go_wp2
    go_ret
    exact ⟨g, 0, cap, [x, y, z], rfl, unhide HB, unhide HI, by simp, ⟨by simp, hcap, unhide HF⟩, r3.more (by omega), unhide HG3⟩
theorem l71Book_any (R N : Nat) (w : World) (hr : Rd w R N) (hN : N + 34 ≤ 1048576) :
    Calls Try.prog 37 #[.pointer (some ⟨R, 0, none⟩)] w fun r w' => ∃ b off cap l, r = .returned (.slice (some ⟨b, off, none⟩) l.length cap) ∧ w.heap.size ≤ b ∧ Ints w' (some ⟨b, off, none⟩) l ∧ l.length ≤ 3 ∧ Rd w' R (N + 34) ∧ Ran R w w' :=
  (l71Book_own R N w hr hN).mono fun _ _ ⟨b, off, cap, l, h1, h2, h3, h4, _, h5⟩ => ⟨b, off, cap, l, h1, h2, h3, h4, h5⟩

theorem Ints.set {w : World} {b off : Nat} {l : List Int} (h : Ints w (some ⟨b, off, none⟩) l) (k : Nat) (hk : k < l.length) (z : Int) : Ints (w.setCell ⟨b, off + k, none⟩ (.int .i64 z)) (some ⟨b, off, none⟩) (l.set k z) := by
  rcases h with h | ⟨b', off', hv, h⟩
  · subst h; exact absurd hk (Nat.not_lt_zero _)
  · simp only [Option.some.injEq, Addr.mk.injEq, and_true] at hv
    obtain ⟨rfl, rfl⟩ := hv
    refine .inr ⟨b, off, rfl, fun i hi => ?_⟩
    have hi' : i < l.length := by simpa using hi
    rw [cell_set (h i hi'), List.getElem_set]
    by_cases e : k = i
    · subst e; simp
    · rw [if_neg (by omega), if_neg e]

set_option maxHeartbeats 4000000 in
theorem drawBookOk_any (a : Option Addr) (n cap : Nat) (w : World) (hb : Byt w a w.heap.size n) (hc : n ≤ cap) (hn : n ≤ 1048576) :
    Calls Try.prog 24 #[.slice a n cap] w fun r w' => ∃ b off cp l, r = .returned (.slice (some ⟨b, off, none⟩) l.length cp) ∧ Ints w' (some ⟨b, off, none⟩) l ∧ l.length ≤ 3 ∧ l.length ≤ cp ∧ Grew w w' := by
  go_enter Try.func24, Try.ntmps24
  go_wp2_with fail
  refine (open_any a n cap _ hb hc hn).mono ?_
  rintro r w1 ⟨rfl, r1, g1⟩
  have hlt := r1.lt
  go_wp2_with fail
  refine (l71Book_own w.heap.size 0 _ r1 (by omega)).mono ?_
  rintro r w2 ⟨b, off, cp, l, rfl, hb2, hi2, hl2, ⟨hl3, hcp, hf2⟩, r2, g2⟩
  have HI2 := hide hi2
  have HF2 := hide hf2
  have HCP := hide hcp
  clear hi2 hf2 hcp
  have hbR : b ≠ w.heap.size := by omega
  go_wp2_with fail
  refine (pick_any w.heap.size (0 + 34) 4 _ r2 (by omega) (by omega)).mono ?_
  rintro r w3 ⟨x, rfl, x0, x1, x2, r3, g3⟩
  clear x1 x2
  have HI3 := hide (Ran.ints (unhide HI2) g3 (fun x hx => by cases hx; exact hbR))
  have hb3 : b < w2.heap.size := by
    obtain ⟨_, _, hv, hc0⟩ := (unhide HI2).at (i := 0) (by omega)
    simp only [Option.some.injEq, Addr.mk.injEq, and_true] at hv
    obtain ⟨rfl, rfl⟩ := hv
    exact World.block_lt_of_cell? w2 _ hc0
  have HF3 := hide (fun i => g3.frozen (p := ⟨b, i, none⟩) (v := false) hbR hb3 (unhide HF2 i))
  have G3 := hide (g2.trans g3)
  have hb3' : b < w3.heap.size := Nat.lt_of_lt_of_le hb3 g3.size
  clear g2 g3 HI2 HF2
  by_cases hx : x = 0
  · subst hx
    go_wp2_with fail
    refine (pick_any w.heap.size (0 + 34 + 1) l.length _ r3 (by omega) (by omega)).mono ?_
    rintro r w4 ⟨y, rfl, y0, y1, y2, r4, g4⟩
    have y3 := y1 (by omega)
    clear y1 y2
    have HI4 := hide (Ran.ints (unhide HI3) g4 (fun x hx => by cases hx; exact hbR))
    have HF4 := hide (fun i => g4.frozen (p := ⟨b, i, none⟩) (v := false) hbR hb3' (unhide HF3 i))
    have G4 := hide ((unhide G3).trans g4)
    have hb4 : b < w4.heap.size := Nat.lt_of_lt_of_le hb3' g4.size
    clear g4 HI3 HF3
    go_wp2_with fail
    refine (pick_any w.heap.size (0 + 34 + 1 + 1) 40 _ r4 (by omega) (by omega)).mono ?_
    rintro r w5 ⟨m, rfl, m0, m1, m2, r5, g5⟩
    have m3 := m1 (by omega)
    clear m1 m2
    have hi5 := Ran.ints (unhide HI4) g5 (fun x hx => by cases hx; exact hbR)
    obtain ⟨k, rfl⟩ := Int.eq_ofNat_of_zero_le y0
    have hk : k < l.length := by omega
    obtain ⟨_, _, hv, d0⟩ := hi5.at hk
    simp only [Option.some.injEq, Addr.mk.injEq, and_true] at hv
    obtain ⟨rfl, rfl⟩ := hv
    have z0 := g5.frozen (p := ⟨b, off + k, none⟩) (v := false) hbR hb4 (unhide HF4 (off + k))
    have HN := hide (hi5.set k hk (m - 2))
    have HG := hide ((((unhide G4).trans g5).setCell (p := ⟨b, off + k, none⟩) (.inr hb2) (.int .i64 (m - 2))).from g1 (Nat.le_refl _))
    clear g5 HI4 HF4 hi5
    go_wp2
    go_ret
    exact ⟨b, off, cp, l.set k (m - 2), by rw [List.length_set]; rfl, unhide HN, by rw [List.length_set]; exact hl2, by rw [List.length_set]; exact unhide HCP, unhide HG⟩
  · have hx0 : (x == 0) = false := by simpa using hx
    clear hx
    have HG := hide ((unhide G3).from g1 (Nat.le_refl _))
    go_wp2
    go_ret
    exact ⟨b, off, cp, l, rfl, unhide HI3, hl2, unhide HCP, unhide HG⟩

set_option maxHeartbeats 1000000 in
theorem drawBookOf_any (a : Option Addr) (n cap : Nat) (w : World) (hb : Byt w a w.heap.size n) (hc : n ≤ cap) (hn : n ≤ 1048576) :
    Calls Try.prog 17 #[.slice a n cap] w fun r w' => ∃ b cp l, r = .returned (.slice (some ⟨b, 0, none⟩) l.length cp) ∧ l.length ≤ cp ∧ Its w' (some ⟨b, 0, none⟩) l ∧ l.length ≤ 7 ∧ Grew w w' := by
  go_enter Try.func17, Try.ntmps17
  go_wp2_with fail
  refine (open_any a n cap _ hb hc hn).mono ?_
  rintro r w1 ⟨rfl, r1, g1⟩
  go_wp2_with fail
  refine (l71Off_any w.heap.size 0 _ r1 (by omega)).mono ?_
  rintro r w2 ⟨v, l, rfl, o2, hl2, r2, g2⟩
  obtain ⟨g, cp, rfl, hcp, hg1, hg2, hi⟩ := o2.shape
  have HI := hide hi
  have G2 := hide (g2.from g1 (Nat.le_refl _))
  clear hi o2 g1 g2
  go_wp2
  go_ret
  exact ⟨g, cp, l, rfl, hcp, unhide HI, hl2, unhide G2⟩
end Go.Proofs.Ytfonpbglnkggfaa
