/-
  The draws of a vote, and of votes and one more.
-/
import Derived.Test.YtppikkppgojbpaaVDraw3
namespace Go.Proofs.Ytppikkppgojbpaa
set_option linter.unusedVariables false
open Go.RowKit
attribute [local simp] far_const

theorem Byt.alloc {w : World} {a : Option Addr} {n : Nat} (hb : Byt w a w.heap.size n) (o : Obj) : Byt (w.alloc o) a (w.alloc o).heap.size n := by
  rcases hb with h | ⟨b, off, ha, hb, h⟩
  · exact .inl h
  · exact .inr ⟨b, off, ha, by simp; omega, fun i hi => by obtain ⟨z, h1, h2, h3⟩ := h i hi; exact ⟨z, h1, h2, ((Grew.refl w).alloc _).keep h3⟩⟩

set_option maxHeartbeats 4000000 in
theorem drawVoteOk_any (a : Option Addr) (n cap : Nat) (w : World) (hb : Byt w a w.heap.size n) (hc : n ≤ cap) (hn : n ≤ 1048576) :
    Calls Try.prog 19 #[.slice a n cap] w fun r w' => ∃ (x : Vt) (ax : Option Addr) (cx : Nat), r = .returned (.agg #[.int .i64 x.n, .slice ax x.c.length cx]) ∧ Its w' ax x.c ∧ x.c.length ≤ 7 ∧ Grew w w' := by
  have HB := hide (hb.alloc (.cells #[.int .i64 0, .slice none 0 0] 28))
  clear hb
  go_enter Try.func19, Try.ntmps19
  go_wp2_with fail
  refine (open_any a n cap _ (unhide HB) hc hn).mono ?_
  rintro r w1 ⟨rfl, r1, g1⟩
  have A := (Two.made w (.int .i64 0) (.slice none 0 0) 28 rfl rfl).grew g1
  simp only [World.size_alloc] at r1 ⊢
  have G1 := hide (((Grew.refl w).alloc _).trans g1)
  have s1 := r1.lt
  clear g1
  have hne : w.heap.size ≠ w.heap.size + 1 := by omega
  go_wp2_with fail
  refine (l71Vote_any (w.heap.size + 1) 0 _ r1 (by omega)).mono ?_
  rintro r w3 ⟨x, ax, cx, rfl, ix, hx, fx, r3, g3⟩
  have A := A.ran g3 hne
  have G3 := hide (g3.from (unhide G1) (by omega))
  have IX := hide (And.intro ix fx)
  obtain ⟨a0, a1, z0, z1⟩ := A
  clear g3 ix fx
  go_wp2
  refine bodyPost_ret (by simp [results, Try.results19, go_sem, a0, a1]; try rfl) rfl ?_
  refine ⟨x, ax, cx, rfl, ?_, hx, ((unhide G3).setCell (p := ⟨w.heap.size, 0, none⟩) (Nat.le_refl _) _).setCell (p := ⟨w.heap.size, 1, none⟩) (Nat.le_refl _) _⟩
  exact (unhide IX).1.block' (fun y hy => by have := (unhide IX).2 y hy; rw [Below.heap_setCell _ _ _ _ (by show y.block ≠ w.heap.size; omega), Below.heap_setCell _ _ _ _ (by show y.block ≠ w.heap.size; omega)])

set_option maxHeartbeats 8000000 in
theorem drawVotesAdd_any (a : Option Addr) (n cap : Nat) (w : World) (hb : Byt w a w.heap.size n) (hc : n ≤ cap) (hn : n ≤ 1048576) :
    Calls Try.prog 23 #[.slice a n cap] w fun r w' => ∃ (v : Value) (l : List Vt) (x : Vt) (ax : Option Addr) (cx : Nat), r = .returned (.tuple #[v, .agg #[.int .i64 x.n, .slice ax x.c.length cx]]) ∧ VtsV w' v l ∧ l.length ≤ 193 ∧ Low 16 l ∧ Its w' ax x.c ∧ x.c.length ≤ 16 ∧ Grew w w' := by
  have HB := hide (hb.alloc (.cells #[.int .i64 0, .slice none 0 0] 28))
  clear hb
  go_enter Try.func23, Try.ntmps23
  go_wp2_with fail
  refine (open_any a n cap _ (unhide HB) hc hn).mono ?_
  rintro r w1 ⟨rfl, r1, g1⟩
  have A := (Two.made w (.int .i64 0) (.slice none 0 0) 28 rfl rfl).grew g1
  simp only [World.size_alloc] at r1 ⊢
  have G1 := hide (((Grew.refl w).alloc _).trans g1)
  have s1 := r1.lt
  clear g1
  have hAR : w.heap.size ≠ w.heap.size + 1 := by omega
  obtain ⟨R, hR⟩ : ∃ R, R = w.heap.size + 1 := ⟨_, rfl⟩
  rw [← hR] at r1 s1 hAR ⊢
  have hRw : w.heap.size < R := by omega
  clear hR
  go_wp2_with fail
  refine (l71Spoilt_any R 0 _ r1 (by omega)).mono ?_
  rintro r w2 ⟨v, l, rfl, o2, hl, hlw, r2, g2⟩
  obtain ⟨g, cp, rfl, hcp, hg1, hg2, _⟩ := o2.shape
  have A := A.ran g2 hAR
  have O2 := hide o2
  have OF := hide (fun k (hk : k < l.length) => o2.get hk)
  have HLW := hide hlw
  have G2 := hide (g2.from (unhide G1) (by omega))
  have hz2 := g2.size
  clear o2 hlw g2 r1 G1
  go_wp2_with fail
  refine (l71Vote_any R _ _ r2 (by omega)).mono ?_
  rintro r w3 ⟨x, ax, cx, rfl, ix, hx, fx, r3, g3⟩
  have A := (A.ran g3 hAR).grew ((Grew.refl _).alloc (.cells #[.int .i64 x.n, .slice ax x.c.length cx] 28))
  have T := Two.made w3 (.int .i64 x.n) (.slice ax x.c.length cx) 28 rfl rfl
  have IX := ix.grew ((Grew.refl _).alloc (.cells #[.int .i64 x.n, .slice ax x.c.length cx] 28))
  have FX : ∀ z, ax = some z → w1.heap.size ≤ z.block ∧ z.block < w3.heap.size := fun z hz => by have := fx z hz; omega
  have RD := r3.grew ((Grew.refl _).alloc (.cells #[.int .i64 x.n, .slice ax x.c.length cx] 28))
  have RW := hide (g3.grew ((Grew.refl _).alloc (.cells #[.int .i64 x.n, .slice ax x.c.length cx] 28)))
  have GG := hide ((g3.from (unhide G2) (by omega)).alloc (.cells #[.int .i64 x.n, .slice ax x.c.length cx] 28))
  have hz3 := g3.size
  have hTR : w3.heap.size ≠ R := by omega
  clear g3 r3 r2 G2 ix fx
  by_cases hl0 : 0 < l.length
  · have hl0' : (0 : Int) < (l.length : Int) := by omega
    go_wp2_with fail
    refine (pick_any R _ 3 _ RD (by omega) (by omega)).mono ?_
    rintro r w4 ⟨z, rfl, z0, z1, z2, r4, g4⟩
    clear z1 z2
    have A := A.ran g4 hAR
    have T := T.ran g4 hTR
    have IX := Ran.its IX g4 (fun y hy => by have := FX y hy; omega)
    have GG := hide (g4.from (unhide GG) (by omega))
    have RW := hide ((unhide RW).trans g4)
    have hz4 := g4.size
    simp only [World.size_alloc] at hz4
    have RD := r4
    clear g4 r4
    by_cases hz : z = 0
    · subst hz
      go_wp2_with fail
      refine (pick_any R _ l.length _ RD (by omega) (by omega)).mono ?_
      rintro r w5 ⟨y, rfl, y0, y1, y2, r5, g5⟩
      have y3 := y1 (by omega)
      clear y1 y2
      obtain ⟨k, rfl⟩ := Int.eq_ofNat_of_zero_le y0
      have hkl : k < l.length := by omega
      have A := A.ran g5 hAR
      have T := T.ran g5 hTR
      have GG := hide (g5.from (unhide GG) (by omega))
      have hz5 := g5.size
      have RW := hide ((unhide RW).trans g5)
      obtain ⟨ay, cy, c0, c1, iy, fy⟩ := unhide OF k hkl
      have hgR : g ≠ R := by omega
      have c0 := (unhide RW).cell (p := ⟨g, k * 2, none⟩) hgR c0
      have c1 := (unhide RW).cell (p := ⟨g, k * 2 + 1, none⟩) hgR c1
      have iy := Ran.its iy (unhide RW) (fun z hz => by have := fy z hz; omega)
      have FY : ∀ z, ay = some z → w1.heap.size ≤ z.block ∧ z.block < w3.heap.size := fun z hz => by have := fy z hz; omega
      have h16 := (unhide HLW).at hkl
      have tt0 := T.c0
      have tt1 := T.c1
      have zz0 := T.z0
      have zz1 := T.z1
      have T := (T.set0 (.int .i64 l[k].n)).set1 (.slice ay l[k].c.length cy)
      have hb2 : ∀ b, b ≠ w3.heap.size → ((w5.setCell ⟨w3.heap.size, 0, none⟩ (.int .i64 l[k].n)).setCell ⟨w3.heap.size, 1, none⟩ (.slice ay l[k].c.length cy)).heap[b]? = w5.heap[b]? := fun b hb => by
        rw [Below.heap_setCell _ _ _ _ hb, Below.heap_setCell _ _ _ _ hb]
      have A := A.block (hb2 w.heap.size (by omega))
      have IY := iy.block' (fun z hz => hb2 z.block (by have := FY z hz; omega))
      have hzz : ((w5.setCell ⟨w3.heap.size, 0, none⟩ (.int .i64 l[k].n)).setCell ⟨w3.heap.size, 1, none⟩ (.slice ay l[k].c.length cy)).heap.size = w5.heap.size := by simp [World.setCell]
      have KB := hide (fun b (h1 : w1.heap.size ≤ b) (h2 : b < w2.heap.size) => (hb2 b (by omega)).trans ((unhide RW).keep b h2 (by omega)))
      have RD := (r5.setCell (p := ⟨w3.heap.size, 0, none⟩) (by show R < w3.heap.size; omega) (.int .i64 l[k].n)).setCell (p := ⟨w3.heap.size, 1, none⟩) (by show R < w3.heap.size; omega) (.slice ay l[k].c.length cy)
      have GG := hide (((unhide GG).setCell (p := ⟨w3.heap.size, 0, none⟩) (by show w.heap.size ≤ w3.heap.size; omega) (.int .i64 l[k].n)).setCell (p := ⟨w3.heap.size, 1, none⟩) (by show w.heap.size ≤ w3.heap.size; omega) (.slice ay l[k].c.length cy))
      clear g5 fy iy hb2 FX IX r5
      have FX := FY
      go_wp2_with fail
      refine (pick_any R _ 4 _ RD (by omega) (by omega)).mono ?_
      rintro r w6 ⟨p, rfl, p0, p1, p2, r6, g6⟩
      have p3 := p1 (by omega)
      clear p1 p2
      have A := A.ran g6 hAR
      have T := T.ran g6 hTR
      have IX := Ran.its IY g6 (fun z hz => by have := FX z hz; omega)
      have hz6 := g6.size
      rw [hzz] at hz6
      have KB := hide (fun b (h1 : w1.heap.size ≤ b) (h2 : b < w2.heap.size) => (Below.heap_setCell w6 ⟨w3.heap.size, 0, none⟩ (.int .i64 (1 + p)) b (by show b ≠ w3.heap.size; omega)).trans ((g6.keep b (by rw [hzz]; omega) (by omega)).trans (unhide KB b h1 h2)))
      have GG := hide ((g6.from (unhide GG) (by omega)).setCell (p := ⟨w3.heap.size, 0, none⟩) (by show w.heap.size ≤ w3.heap.size; omega) (.int .i64 (1 + p)))
      have ss0 := T.c0
      have ss1 := T.c1
      have sz0 := T.z0
      have T := T.set0 (.int .i64 (1 + p))
      have A := A.block (w' := w6.setCell ⟨w3.heap.size, 0, none⟩ (.int .i64 (1 + p))) (Below.heap_setCell _ _ _ _ (by show w.heap.size ≠ w3.heap.size; omega))
      have IX := IX.block' (w' := w6.setCell ⟨w3.heap.size, 0, none⟩ (.int .i64 (1 + p))) (fun z hz => Below.heap_setCell _ _ _ _ (by show z.block ≠ w3.heap.size; have := FX z hz; omega))
      have HZ : Hid (w2.heap.size ≤ (w6.setCell ⟨w3.heap.size, 0, none⟩ (.int .i64 (1 + p))).heap.size) := by
        show w2.heap.size ≤ (w6.setCell ⟨w3.heap.size, 0, none⟩ (.int .i64 (1 + p))).heap.size
        rw [show (w6.setCell ⟨w3.heap.size, 0, none⟩ (.int .i64 (1 + p))).heap.size = w6.heap.size by simp [World.setCell]]
        omega
      have XC : l[k].c.length ≤ 16 := h16
      clear g6 hzz

      obtain ⟨a0, a1, za0, za1⟩ := A
      obtain ⟨t0, t1, _, _⟩ := T
      have HI := hide IX
      clear IX
      go_wp2_with fail
      go_region
      go_wp2
      refine bodyPost_ret (by simp [results, Try.results23, go_sem, a0, a1]; try rfl) rfl ?_
      have hk : ∀ (u v : Value) b, b ≠ w.heap.size → (((w6.setCell ⟨w3.heap.size, 0, none⟩ (.int .i64 (1 + p))).setCell ⟨w.heap.size, 0, none⟩ u).setCell ⟨w.heap.size, 1, none⟩ v).drew.heap[b]? = (w6.setCell ⟨w3.heap.size, 0, none⟩ (.int .i64 (1 + p))).heap[b]? := fun u v b hb => by
        show (((w6.setCell ⟨w3.heap.size, 0, none⟩ (.int .i64 (1 + p))).setCell ⟨w.heap.size, 0, none⟩ u).setCell ⟨w.heap.size, 1, none⟩ v).heap[b]? = (w6.setCell ⟨w3.heap.size, 0, none⟩ (.int .i64 (1 + p))).heap[b]?
        rw [Below.heap_setCell _ _ _ _ hb, Below.heap_setCell _ _ _ _ hb]
      have hzk : ∀ (u v : Value), (w6.setCell ⟨w3.heap.size, 0, none⟩ (.int .i64 (1 + p))).heap.size ≤ (((w6.setCell ⟨w3.heap.size, 0, none⟩ (.int .i64 (1 + p))).setCell ⟨w.heap.size, 0, none⟩ u).setCell ⟨w.heap.size, 1, none⟩ v).drew.heap.size := fun u v => by simp [World.setCell]
      refine ⟨_, l, ⟨1 + p, l[k].c⟩, _, _, rfl, ?_, hl, unhide HLW, ?_, XC, ?_⟩
      · exact VRow.vtsV ((unhide O2).kept (Nat.le_trans (unhide HZ) (hzk _ _)) (fun b h1 h2 => (hk _ _ b (by omega)).trans (unhide KB b h1 h2)))
      · exact (unhide HI).block' (fun y hy => hk _ _ _ (by have := FX y hy; omega))
      · exact (((unhide GG).setCell (p := ⟨w.heap.size, 0, none⟩) (Nat.le_refl _) _).setCell (p := ⟨w.heap.size, 1, none⟩) (Nat.le_refl _) _).drew
    · have hz' : (z == 0) = false := by simpa using hz
      have XC : x.c.length ≤ 16 := by omega
      have KB := hide (fun b (h1 : w1.heap.size ≤ b) (h2 : b < w2.heap.size) => (unhide RW).keep b h2 (by omega))
      have HZ := hide (unhide RW).size

      obtain ⟨a0, a1, za0, za1⟩ := A
      obtain ⟨t0, t1, _, _⟩ := T
      have HI := hide IX
      clear IX
      go_wp2_with fail
      go_region
      go_wp2
      refine bodyPost_ret (by simp [results, Try.results23, go_sem, a0, a1]; try rfl) rfl ?_
      have hk : ∀ (u v : Value) b, b ≠ w.heap.size → ((w4.setCell ⟨w.heap.size, 0, none⟩ u).setCell ⟨w.heap.size, 1, none⟩ v).drew.heap[b]? = w4.heap[b]? := fun u v b hb => by
        show ((w4.setCell ⟨w.heap.size, 0, none⟩ u).setCell ⟨w.heap.size, 1, none⟩ v).heap[b]? = w4.heap[b]?
        rw [Below.heap_setCell _ _ _ _ hb, Below.heap_setCell _ _ _ _ hb]
      have hzk : ∀ (u v : Value), w4.heap.size ≤ ((w4.setCell ⟨w.heap.size, 0, none⟩ u).setCell ⟨w.heap.size, 1, none⟩ v).drew.heap.size := fun u v => by simp [World.setCell]
      refine ⟨_, l, x, _, _, rfl, ?_, hl, unhide HLW, ?_, XC, ?_⟩
      · exact VRow.vtsV ((unhide O2).kept (Nat.le_trans (unhide HZ) (hzk _ _)) (fun b h1 h2 => (hk _ _ b (by omega)).trans (unhide KB b h1 h2)))
      · exact (unhide HI).block' (fun y hy => hk _ _ _ (by have := FX y hy; omega))
      · exact (((unhide GG).setCell (p := ⟨w.heap.size, 0, none⟩) (Nat.le_refl _) _).setCell (p := ⟨w.heap.size, 1, none⟩) (Nat.le_refl _) _).drew
  · have hl0' : decide (0 < l.length) = false := by simpa using hl0
    have XC : x.c.length ≤ 16 := by omega
    have KB := hide (fun b (h1 : w1.heap.size ≤ b) (h2 : b < w2.heap.size) => (unhide RW).keep b h2 (by omega))
    have HZ := hide (unhide RW).size

    obtain ⟨a0, a1, za0, za1⟩ := A
    obtain ⟨t0, t1, _, _⟩ := T
    have HI := hide IX
    clear IX
    go_wp2_with fail
    go_region
    go_wp2
    refine bodyPost_ret (by simp [results, Try.results23, go_sem, a0, a1]; try rfl) rfl ?_
    have hk : ∀ (u v : Value) b, b ≠ w.heap.size → (((w3.alloc (.cells #[.int .i64 x.n, .slice ax x.c.length cx] 28)).setCell ⟨w.heap.size, 0, none⟩ u).setCell ⟨w.heap.size, 1, none⟩ v).drew.heap[b]? = (w3.alloc (.cells #[.int .i64 x.n, .slice ax x.c.length cx] 28)).heap[b]? := fun u v b hb => by
      show (((w3.alloc (.cells #[.int .i64 x.n, .slice ax x.c.length cx] 28)).setCell ⟨w.heap.size, 0, none⟩ u).setCell ⟨w.heap.size, 1, none⟩ v).heap[b]? = (w3.alloc (.cells #[.int .i64 x.n, .slice ax x.c.length cx] 28)).heap[b]?
      rw [Below.heap_setCell _ _ _ _ hb, Below.heap_setCell _ _ _ _ hb]
    have hzk : ∀ (u v : Value), (w3.alloc (.cells #[.int .i64 x.n, .slice ax x.c.length cx] 28)).heap.size ≤ (((w3.alloc (.cells #[.int .i64 x.n, .slice ax x.c.length cx] 28)).setCell ⟨w.heap.size, 0, none⟩ u).setCell ⟨w.heap.size, 1, none⟩ v).drew.heap.size := fun u v => by simp [World.setCell]
    refine ⟨_, l, x, _, _, rfl, ?_, hl, unhide HLW, ?_, XC, ?_⟩
    · exact VRow.vtsV ((unhide O2).kept (Nat.le_trans (unhide HZ) (hzk _ _)) (fun b h1 h2 => (hk _ _ b (by omega)).trans (unhide KB b h1 h2)))
    · exact (unhide HI).block' (fun y hy => hk _ _ _ (by have := FX y hy; omega))
    · exact (((unhide GG).setCell (p := ⟨w.heap.size, 0, none⟩) (Nat.le_refl _) _).setCell (p := ⟨w.heap.size, 1, none⟩) (Nat.le_refl _) _).drew
end Go.Proofs.Ytppikkppgojbpaa
