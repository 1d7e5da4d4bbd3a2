/-
  A payment that is drawn, and a chain that is drawn for ChainOk: of whatever content.
-/
import Derived.Test.YtfonpbglnkggfaaBytes
namespace Go.Proofs.Ytfonpbglnkggfaa
set_option linter.unusedVariables false
open Go.RowKit
attribute [local simp] far_const

set_option maxHeartbeats 4000000 in
theorem drawPayOk_any (a : Option Addr) (n cap : Nat) (w : World) (hb : Byt w a w.heap.size n) (hc : n ≤ cap) (hn : n ≤ 1048576) :
    Calls Try.prog 10 #[.slice a n cap] w fun r w' => ∃ f t s : Int, r = .returned (.agg #[.int .i64 f, .int .i64 t, .int .i64 s]) ∧ Grew w w' := by
  have hb' : Byt (w.alloc (.cells #[.int .i64 0, .int .i64 0, .int .i64 0] 24)) a (w.alloc (.cells #[.int .i64 0, .int .i64 0, .int .i64 0] 24)).heap.size n := by
    rcases hb with h | ⟨b, off, ha, hb, h⟩
    · exact .inl h
    · exact .inr ⟨b, off, ha, by simp; omega, fun i hi => by obtain ⟨z, h1, h2, h3⟩ := h i hi; exact ⟨z, h1, h2, ((Grew.refl w).alloc _).keep h3⟩⟩
  have HB := hide hb'
  clear hb hb'
  go_enter Try.func10, Try.ntmps10
  go_wp2_with fail
  refine (open_any a n cap _ (unhide HB) hc hn).mono ?_
  rintro r w1 ⟨rfl, r1, g1⟩
  simp only [World.size_alloc] at r1 ⊢
  have c0 := g1.keep (p := ⟨w.heap.size, 0, none⟩) (v := .int .i64 0) (by simp [go_sem])
  have c1 := g1.keep (p := ⟨w.heap.size, 1, none⟩) (v := .int .i64 0) (by simp [go_sem])
  have c2 := g1.keep (p := ⟨w.heap.size, 2, none⟩) (v := .int .i64 0) (by simp [go_sem])
  have zz : ∀ i, w1.frozen? ⟨w.heap.size, i, none⟩ = false := fun i => by
    rw [World.frozen?_of_block (w := w.alloc (.cells #[.int .i64 0, .int .i64 0, .int .i64 0] 24)) (g1.below.block w.heap.size (by simp))]
    simp [go_sem]
  have G1 := hide (((Grew.refl w).alloc _).trans g1)
  have s1 := r1.lt
  clear g1
  have hne : w.heap.size ≠ w.heap.size + 1 := by omega
  go_wp2_with fail
  refine (l71AnyPay_any (w.heap.size + 1) 0 _ r1 (by omega)).mono ?_
  rintro r w3 ⟨f, t, s, rfl, r3, g3⟩
  have c0 := g3.cell (p := ⟨w.heap.size, 0, none⟩) hne c0
  have c1 := g3.cell (p := ⟨w.heap.size, 1, none⟩) hne c1
  have c2 := g3.cell (p := ⟨w.heap.size, 2, none⟩) hne c2
  have z0 := g3.frozen (p := ⟨w.heap.size, 0, none⟩) (v := false) hne (by show w.heap.size < w1.heap.size; omega) (zz 0)
  have z1 := g3.frozen (p := ⟨w.heap.size, 1, none⟩) (v := false) hne (by show w.heap.size < w1.heap.size; omega) (zz 1)
  have z2 := g3.frozen (p := ⟨w.heap.size, 2, none⟩) (v := false) hne (by show w.heap.size < w1.heap.size; omega) (zz 2)
  have G3 := hide (g3.from (unhide G1) (by omega))
  clear g3 zz
  go_wp2
  refine bodyPost_ret (by simp [results, Try.results10, go_sem, c0, c1, c2]; try rfl) rfl ?_
  exact ⟨f, t, s, rfl, (((unhide G3).setCell (p := ⟨w.heap.size, 0, none⟩) (Nat.le_refl _) _).setCell (p := ⟨w.heap.size, 1, none⟩) (Nat.le_refl _) _).setCell (p := ⟨w.heap.size, 2, none⟩) (Nat.le_refl _) _⟩

set_option maxHeartbeats 4000000 in
theorem drawChainOk_any (a : Option Addr) (n cap : Nat) (w : World) (hb : Byt w a w.heap.size n) (hc : n ≤ cap) (hn : n ≤ 1048576) :
    Calls Try.prog 13 #[.slice a n cap] w fun r w' => ∃ b cp l, r = .returned (.slice (some ⟨b, 0, none⟩) l.length cp) ∧ l.length ≤ cp ∧ Its w' (some ⟨b, 0, none⟩) l ∧ l.length ≤ 8 ∧ Grew w w' := by
  go_enter Try.func13, Try.ntmps13
  go_wp2_with fail
  refine (open_any a n cap _ hb hc hn).mono ?_
  rintro r w1 ⟨rfl, r1, g1⟩
  go_wp2_with fail
  refine (l71Off_any w.heap.size 0 _ r1 (by omega)).mono ?_
  rintro r w2 ⟨v, l, rfl, o2, hl2, r2, g2⟩
  have hlt := r1.lt
  go_wp2_with fail
  refine (pick_any w.heap.size (0 + 38) 4 _ r2 (by omega) (by omega)).mono ?_
  rintro r w3 ⟨x, rfl, x0, x1, x2, r3, g3⟩
  clear x1 x2
  have o3 := o2.ran g3 hlt
  have G3 := (g2.trans g3)
  clear o2 g2 g3
  by_cases hx : x = 0
  · subst hx
    go_wp2_with fail
    refine (pick_any w.heap.size (0 + 38 + 1) 9 _ r3 (by omega) (by omega)).mono ?_
    rintro r w4 ⟨y, rfl, y0, y1, y2, r4, g4⟩
    clear y1 y2
    go_wp2_with fail
    refine (l71AnyPay_any w.heap.size _ _ r4 (by omega)).mono ?_
    rintro r w5 ⟨f, t, s, rfl, r5, g5⟩
    have G5 := (G3.trans g4).trans g5
    have o5 := o3.ran (g4.trans g5) hlt
    have hsz : w1.heap.size ≤ w5.heap.size := G5.size
    have hbl : ∀ k, _ = some k → w1.heap.size ≤ k := fun k hk => (o5.block k hk).1
    go_wp2_with (first | (at_builtin; refine wpList_items rfl _ _ rfl w1.heap.size _ l rfl (o5.grew ((Grew.refl _).alloc _)) ⟨w5.heap.size, 0, none⟩ 1 [⟨y, f, t, s⟩] 1 rfl rfl (its_one _ _ _) (by simp; omega) (by simp; omega) ?_))
    intro v' w6 o6 g6
    have G6 := (G5.grew ((Grew.refl _).alloc _)).grown g6 hbl
    obtain ⟨gb, cp, rfl, hcp, _, _, hi⟩ := o6.shape
    have HI := hide hi
    have HG := hide (G6.from g1 (Nat.le_refl _))
    clear o5 o3 o6 g6 hbl hi G3 G5 G6
    rw [List.length_append, List.length_singleton]
    go_wp2
    go_ret
    refine ⟨gb, cp, l ++ [⟨y, f, t, s⟩], by simp, hcp, unhide HI, by simp; omega, unhide HG⟩
  · have hx0 : (x == 0) = false := by simpa using hx
    obtain ⟨gb, cp, rfl, hcp, _, _, hi⟩ := o3.shape
    have HI := hide hi
    have HG := hide (G3.from g1 (Nat.le_refl _))
    clear o3 hi G3 hx
    go_wp2
    go_ret
    exact ⟨gb, cp, l, rfl, hcp, unhide HI, by omega, unhide HG⟩
end Go.Proofs.Ytfonpbglnkggfaa
