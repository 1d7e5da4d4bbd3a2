/-
  The first items of a branch's chain, in new memory: beginning.
-/
import Derived.RangeFuncNested
import Derived.RangeFuncBound
import Derived.RangeFuncCalls
import Derived.RangeFuncLeaves
import Derived.Shelf.Abstract
import Derived.Shelf.RegionOpen
import Derived.WalkKit
import Derived.OwnWalkIn
import Derived.TacticsInMore
import Derived.LoopNIn
import Derived.LoopIn
import Derived.Deep.RegionHeld
import Derived.Test.YtjbnohepbmejkaaTreeB
import Derived.Test.YtjbnohepbmejkaaRound
namespace Go.Proofs.Ytjbnohepbmejkaa
set_option linter.unusedVariables false
open Go.RowKit Go.Shelf
attribute [local go_sem] Oper.semAt_some
attribute [local simp] far_const

theorem Own.turn {A B : World} {row : Option Nat} {b n : Nat} (h : Own A b n) (hg : A.grownBy B row) (hr : ∀ r, row = some r → ∃ o : Obj, A.heap[r]? = some o ∧ o.isCells = false) : Own B b n := by
  obtain ⟨f, hf⟩ := h
  refine ⟨f, hf.of_block (hg.block b hf.lt (fun e => ?_))⟩
  obtain ⟨o, ho, hc⟩ := hr b e.symm
  obtain ⟨cs, hb, _⟩ := hf
  rw [hb] at ho
  cases ho
  cases hc
theorem ItAt.turn {A B : World} {row : Option Nat} {b o : Nat} {x : It} (h : ItAt A b o x) (hg : A.grownBy B row) (hr : ∀ r, row = some r → ∃ o : Obj, A.heap[r]? = some o ∧ o.isCells = false) : ItAt B b o x :=
  ⟨cell_kept h.1 hg hr, cell_kept h.2.1 hg hr, cell_kept h.2.2.1 hg hr, cell_kept h.2.2.2 hg hr⟩
/-- A row of items that is new since 'base'. -/
def FreshI (w : World) (base : Nat) (v : Value) (l : List It) : Prop := ∃ g, v = .slice (some ⟨g, 0, none⟩) l.length l.length ∧ base ≤ g ∧ Its w (some ⟨g, 0, none⟩) l ∧ Own w g l.length
theorem FreshI.grew {w w' : World} {base : Nat} {v : Value} {l : List It} (h : FreshI w base v l) (g : Grew w w') : FreshI w' base v l := by
  obtain ⟨b, h1, h2, h3, h4⟩ := h
  exact ⟨b, h1, h2, h3.grew g, h4.grew g⟩

set_option maxRecDepth 100000 in
set_option maxHeartbeats 4000000 in
theorem beginning_any {w : World} {base n : Nat} {M : List It → Prop} {vt pos : List It → Nat} {kv : List It → Value} {kd : List It → List It} {tb : Nat} {cv : Value} {L : List (List It)}
    (h : TreeF w base n M vt pos kv kd tb cv L) (c : List It) (hc : M c) (hl : c.length ≤ 1048576) (N : Nat) (hN : N ≤ c.length) :
    Calls Try.prog 62 #[ptr (pos c), .int .i64 (N : Int)] w fun r w' => ∃ v, r = .returned v ∧ FreshI w' w.heap.size v (c.take N) ∧ Grew w w' := by
  have hP := h.path hc
  clear h hc
  have hmk := make_items N (by omega)
  refine (callsIn_wide (n := 3)).1 ?_
  unfold ptr
  refine callsIn_of_wp_marks Try.func62 rfl trivial ?_ rfl
  simp only [Try.ntmps62, List.size_toArray, List.length_cons, List.length_nil, Nat.reduceAdd, Nat.reduceSub, Array.replicate_succ, Array.replicate_zero, List.push_toArray, List.append_toArray, List.nil_append, List.cons_append]
  gi_wp2_with (refine ⟨trivial, ?_⟩; gi_at_call 114; refine (callsIn_wide.2 (upward_any _ _)).mono ?_; rintro e w' ⟨rfl, rfl⟩)
  obtain ⟨S, hS⟩ : ∃ S, S = w.heap.size := ⟨_, rfl⟩
  obtain ⟨W1, hW1⟩ : ∃ W1, Hid (W1 = (((w.alloc (.cells #[.int .i64 (N : Int)] 3)).alloc (zeros N)).alloc (.cells #[.slice (some ⟨w.heap.size + 1, 0, none⟩) N N] 23)).alloc (.cells #[ptr (pos c)] 95)) := ⟨_, hide rfl⟩
  rw [← hW1.out]
  have a0 := (cellNew w (.int .i64 (N : Int)) 3).1
  have a1 := own_zeros (w.alloc (.cells #[.int .i64 (N : Int)] 3)) N
  have a2 := (cellNew ((w.alloc (.cells #[.int .i64 (N : Int)] 3)).alloc (zeros N)) (.slice (some ⟨w.heap.size + 1, 0, none⟩) N N) 23).1
  have a3 := (cellNew (((w.alloc (.cells #[.int .i64 (N : Int)] 3)).alloc (zeros N)).alloc (.cells #[.slice (some ⟨w.heap.size + 1, 0, none⟩) N N] 23)) (ptr (pos c)) 95).1
  simp only [World.size_alloc] at a1 a2 a3
  have b0 := cellOld (.cells #[ptr (pos c)] 95) (cellOld (.cells #[.slice (some ⟨w.heap.size + 1, 0, none⟩) N N] 23) (cellOld (zeros N) a0))
  have b1 := a1.grew (((Grew.refl _).alloc (.cells #[.slice (some ⟨w.heap.size + 1, 0, none⟩) N N] 23)).alloc (.cells #[ptr (pos c)] 95))
  have b2 := cellOld (.cells #[ptr (pos c)] 95) a2
  have hsz : W1.heap.size = w.heap.size + 1 + 1 + 1 + 1 := by rw [hW1.out]; simp
  have hB0 : Below w.heap.size w W1 := by rw [hW1.out]; exact (((((Grew.refl w).alloc _).alloc _).alloc _).alloc _).below
  rw [← hW1.out] at b0 b1 b2 a3
  clear a0 a1 a2 hmk
  refine wpIn_rangeFunc_ownF rfl (by omega) (gf := 146) (lb := #[ptr (w.heap.size + 1 + 1 + 1)]) rfl trivial (enters_of Try.func146 (by kernel_rfl) rfl)
    (up_stops 2 (by omega) (w.heap.size + 1 + 1 + 1) w.heap.size c hl W1 (by omega) (by omega) a3 (hP.below hB0)) belowK_t (belowK_b (by omega)) (Below.refl _ _) (fun _ => rfl)
    (fun pre W => (W.cell? ⟨w.heap.size, 0, none⟩ = some (.int .i64 (N : Int)) ∧ W.cell? ⟨w.heap.size + 1 + 1, 0, none⟩ = some (.slice (some ⟨w.heap.size + 1, 0, none⟩) N N) ∧ Own W (w.heap.size + 1) N ∧ ∀ j ∈ pre, (c.take (j + 1)).length ≤ N → ItAt W (w.heap.size + 1) (((c.take (j + 1)).length - 1) * 4) (lastI (c.take (j + 1)))) ∧ Below w.heap.size w W)
    (fun _ _ _ => False)
    (OwnFrom.and (Own.from (fun s A B row hs hg hr => ⟨cell_kept hs.1 hg hr, cell_kept hs.2.1 hg hr, hs.2.2.1.turn hg hr, fun j hj hk => (hs.2.2.2 j hj hk).turn hg hr⟩) _) (ownFrom_below (Nat.le_refl _) (by omega)))
    (fun cd => (fun _ _ _ _ hs _ _ => hs))
    ⟨⟨b0, b2, b1, by simp⟩, hB0⟩
    (fun x => { tmps := #[.pointer (some ⟨pos c, 0, none⟩), .int .i64 (N : Int), undef, .pointer (some ⟨w.heap.size, 0, none⟩), .slice none 0 0, .pointer (some ⟨w.heap.size + 1 + 1, 0, none⟩), ptr (pos (c.take (x + 1))), .int .i64 (N : Int), .slice (some ⟨w.heap.size + 1, 0, none⟩) N N, .pointer (some ⟨pos c, 0, none⟩), .func (.func 146) #[] #[ptr (w.heap.size + 1 + 1 + 1)], ptr (pos (c.take (x + 1))), undef, undef, undef, undef, undef, undef, undef, undef, undef, undef, undef, undef, undef, undef, undef, undef, undef, undef], defers := [] }) ?assign ?body ?done ?stop
  case assign =>
    intro l x W K hK
    gi_wp2
    exact hK
  case body =>
    rintro l pre x W ⟨⟨hc0, hc2, hO, hI⟩, hB⟩ hlen
    obtain ⟨_, ⟨i0, i1, i2, i3⟩, c5, _⟩ := brO_cells ((hP.below hB).blk (x + 1))
    have hm1 : 1 ≤ (c.take (x + 1)).length := by simp; omega
    unfold ptr
    obtain ⟨m, hm⟩ : ∃ m, Hid (m = (c.take (x + 1)).length) := ⟨_, hide rfl⟩
    rw [← hm.out] at c5 hm1
    obtain ⟨P, hPP⟩ : ∃ P, Hid (P = pos (c.take (x + 1))) := ⟨_, hide rfl⟩
    rw [← hPP.out] at c5 i0 i1 i2 i3 ⊢
    obtain ⟨y, hy⟩ : ∃ y, Hid (y = lastI (c.take (x + 1))) := ⟨_, hide rfl⟩
    rw [← hy.out] at i0 i1 i2 i3
    simp only [Nat.reduceAdd] at i1 i2 i3
    have e0 := Grew.gcell hc0
    have e5 := Grew.gcell c5
    have HI := hide hI
    clear hI
    by_cases hle : m ≤ N
    · have hd : decide ((m : Int) ≤ (N : Int)) = true := by simp; omega
      gi_wp2
      refine region_roundQ (by kernel_rfl) (by kernel_rfl) (fun _ _ h => h) (by kernel_rfl) ?_
      repeat (go_big_quiet_step (first | fail))
      refine wpQuiet_nil ?_
      intro _ hw'
      obtain ⟨⟨nq, osq⟩, hw''⟩ := hw'
      subst hw''
      have g0 : Grew W (far W nq osq) := ⟨_, _, rfl⟩
      have d2 := g0.keep hc2
      have d5 := g0.keep c5
      have j0 := g0.keep i0
      have j1 := g0.keep i1
      have j2 := g0.keep i2
      have j3 := g0.keep i3
      have hO2 := hO.grew g0
      have hB2 : Below w.heap.size w (far W nq osq) := hB.trans (g0.below.mono hB.size)
      have HI2 : Hid (∀ j ∈ pre, (c.take (j + 1)).length ≤ N → ItAt (far W nq osq) (w.heap.size + 1) (((c.take (j + 1)).length - 1) * 4) (lastI (c.take (j + 1)))) := fun j hj hk => (HI.out j hj hk).grew g0
      have hk2 := g0.others
      have hc02 := g0.keep hc0
      clear hc0 hc2 c5 i0 i1 i2 i3 e0 e5 HI
      have hKp : Below w.heap.size W (far W nq osq) := g0.below.mono hB.size
      obtain ⟨W2, hW2⟩ : ∃ W2, Hid (W2 = far W nq osq) := ⟨_, hide rfl⟩
      rw [← hW2.out] at d2 d5 j0 j1 j2 j3 hO2 hB2 HI2 hk2 hc02 hKp ⊢
      gi_wp2
      have hidx : wrap64 ((m : Int) - 1) = ((m - 1 : Nat) : Int) := by
        rw [show ((m : Int) - 1) = ((m - 1 : Nat) : Int) by omega]
        unfold wrap64
        omega
      obtain ⟨k, hk⟩ : ∃ k, Hid (k = m - 1) := ⟨_, hide rfl⟩
      rw [← hk.out] at hidx
      have hkN : k < N := by rw [hk.out]; omega
      have hidy : IntKind.i64.wrap ((m : Int) - 1) = (k : Int) := by rw [IntKind.wrap_i64]; have h := hidx; unfold wrap64 at h; exact h
      obtain ⟨v0, r0⟩ := hO2.cell (i := k * 4) (by omega)
      obtain ⟨v1, r1⟩ := hO2.cell (i := k * 4 + 1) (by omega)
      obtain ⟨v2, r2⟩ := hO2.cell (i := k * 4 + 2) (by omega)
      obtain ⟨v3, r3⟩ := hO2.cell (i := k * 4 + 3) (by omega)
      have fz := hO2.frozen
      have HO := hide hO2
      clear hO2
      refine region_roundH (S := fun w' => w'.cell? ⟨w.heap.size + 1 + 1, 0, none⟩ = some (.slice (some ⟨w.heap.size + 1, 0, none⟩) N N) ∧ w'.cell? ⟨P, 5, none⟩ = some (.int .i64 (m : Int)) ∧ w'.cell? ⟨P, 1, none⟩ = some (.int .i64 y.e) ∧ w'.cell? ⟨P, 2, none⟩ = some (.int .i64 y.f) ∧ w'.cell? ⟨P, 3, none⟩ = some (.int .i64 y.t) ∧ w'.cell? ⟨P, 4, none⟩ = some (.int .i64 y.s)) (by kernel_rfl) (by kernel_rfl) (fun _ _ h => h) ⟨d2, d5, j0, j1, j2, j3⟩ (fun hHeld => ?_)
      refine' takeH (i := 0) (oi := _) (v := _) ?hi0 ?hs0 ?hf0 ?hr0 ?hQ0 ?hw0 ?hy0 hHeld.out ?h0
      case hi0 => (simp only [List.getElem?_toArray, List.getElem?_cons_zero]; try rfl)
      case hs0 => kernel_rfl
      case hf0 => kernel_rfl
      case hr0 => kernel_rfl
      case hw0 => rfl
      case hy0 => (intro wz hSw; obtain ⟨q1, q2, q3, q4, q5, q6⟩ := hSw; go_simp; try (with_reducible rfl))
      case hQ0 => exact fun _ _ _ h => h
      try simp only [Act.put, List.setIfInBounds_toArray, List.set_cons_zero, List.set_cons_succ]
      refine' takeH (i := 1) (oi := _) (v := _) ?hi1 ?hs1 ?hf1 ?hr1 ?hQ1 ?hw1 ?hy1 hHeld.out ?h1
      case hi1 => (simp only [List.getElem?_toArray, List.getElem?_cons_succ, List.getElem?_cons_zero]; try rfl)
      case hs1 => kernel_rfl
      case hf1 => kernel_rfl
      case hr1 => kernel_rfl
      case hw1 => rfl
      case hy1 => (intro wz hSw; obtain ⟨q1, q2, q3, q4, q5, q6⟩ := hSw; go_simp; try (with_reducible rfl))
      case hQ1 => exact fun _ _ _ h => h
      try simp only [Act.put, List.setIfInBounds_toArray, List.set_cons_zero, List.set_cons_succ]
      refine' takeH (i := 2) (oi := _) (v := _) ?hi2 ?hs2 ?hf2 ?hr2 ?hQ2 ?hw2 ?hy2 hHeld.out ?h2
      case hi2 => (simp only [List.getElem?_toArray, List.getElem?_cons_succ, List.getElem?_cons_zero]; try rfl)
      case hs2 => kernel_rfl
      case hf2 => kernel_rfl
      case hr2 => kernel_rfl
      case hw2 => rfl
      case hy2 => (intro wz hSw; obtain ⟨q1, q2, q3, q4, q5, q6⟩ := hSw; go_simp; try (with_reducible rfl))
      case hQ2 => exact fun _ _ _ h => h
      try simp only [Act.put, List.setIfInBounds_toArray, List.set_cons_zero, List.set_cons_succ]
      refine' takeH (i := 3) (oi := _) (v := _) ?hi3 ?hs3 ?hf3 ?hr3 ?hQ3 ?hw3 ?hy3 hHeld.out ?h3
      case hi3 => (simp only [List.getElem?_toArray, List.getElem?_cons_succ, List.getElem?_cons_zero]; try rfl)
      case hs3 => kernel_rfl
      case hf3 => kernel_rfl
      case hr3 => kernel_rfl
      case hw3 => rfl
      case hy3 => (intro wz hSw; obtain ⟨q1, q2, q3, q4, q5, q6⟩ := hSw; go_simp; try (with_reducible rfl))
      case hQ3 => exact fun _ _ _ h => h
      try simp only [Act.put, List.setIfInBounds_toArray, List.set_cons_zero, List.set_cons_succ]
      refine' takeH (i := 4) (oi := _) (v := _) ?hi4 ?hs4 ?hf4 ?hr4 ?hQ4 ?hw4 ?hy4 hHeld.out ?h4
      case hi4 => (simp only [List.getElem?_toArray, List.getElem?_cons_succ, List.getElem?_cons_zero]; try rfl)
      case hs4 => kernel_rfl
      case hf4 => kernel_rfl
      case hr4 => kernel_rfl
      case hw4 => rfl
      case hy4 => (intro wz hSw; obtain ⟨q1, q2, q3, q4, q5, q6⟩ := hSw; go_simp; try (with_reducible rfl))
      case hQ4 => exact fun _ _ _ h => h
      try simp only [Act.put, List.setIfInBounds_toArray, List.set_cons_zero, List.set_cons_succ]
      refine' takeH (i := 5) (oi := _) (v := _) ?hi5 ?hs5 ?hf5 ?hr5 ?hQ5 ?hw5 ?hy5 hHeld.out ?h5
      case hi5 => (simp only [List.getElem?_toArray, List.getElem?_cons_succ, List.getElem?_cons_zero]; try rfl)
      case hs5 => kernel_rfl
      case hf5 => kernel_rfl
      case hr5 => kernel_rfl
      case hw5 => rfl
      case hy5 => (intro wz hSw; obtain ⟨q1, q2, q3, q4, q5, q6⟩ := hSw; go_simp; try (with_reducible rfl))
      case hQ5 => exact fun _ _ _ h => h
      try simp only [Act.put, List.setIfInBounds_toArray, List.set_cons_zero, List.set_cons_succ]
      refine' takeH (i := 6) (oi := _) (v := _) ?hi6 ?hs6 ?hf6 ?hr6 ?hQ6 ?hw6 ?hy6 hHeld.out ?h6
      case hi6 => (simp only [List.getElem?_toArray, List.getElem?_cons_succ, List.getElem?_cons_zero]; try rfl)
      case hs6 => kernel_rfl
      case hf6 => kernel_rfl
      case hr6 => kernel_rfl
      case hw6 => rfl
      case hy6 => (intro wz hSw; obtain ⟨q1, q2, q3, q4, q5, q6⟩ := hSw; go_simp; try (with_reducible rfl))
      case hQ6 => exact fun _ _ _ h => h
      try simp only [Act.put, List.setIfInBounds_toArray, List.set_cons_zero, List.set_cons_succ]
      refine' takeH (i := 7) (oi := _) (v := _) ?hi7 ?hs7 ?hf7 ?hr7 ?hQ7 ?hw7 ?hy7 hHeld.out ?h7
      case hi7 => (simp only [List.getElem?_toArray, List.getElem?_cons_succ, List.getElem?_cons_zero]; try rfl)
      case hs7 => kernel_rfl
      case hf7 => kernel_rfl
      case hr7 => kernel_rfl
      case hw7 => rfl
      case hy7 => (intro wz hSw; obtain ⟨q1, q2, q3, q4, q5, q6⟩ := hSw; go_simp; try (with_reducible rfl))
      case hQ7 => exact fun _ _ _ h => h
      try simp only [Act.put, List.setIfInBounds_toArray, List.set_cons_zero, List.set_cons_succ]
      refine' takeH (i := 8) (oi := _) (v := _) ?hi8 ?hs8 ?hf8 ?hr8 ?hQ8 ?hw8 ?hy8 hHeld.out ?h8
      case hi8 => (simp only [List.getElem?_toArray, List.getElem?_cons_succ, List.getElem?_cons_zero]; try rfl)
      case hs8 => kernel_rfl
      case hf8 => kernel_rfl
      case hr8 => kernel_rfl
      case hw8 => rfl
      case hy8 => (intro wz hSw; obtain ⟨q1, q2, q3, q4, q5, q6⟩ := hSw; go_simp; try (with_reducible rfl))
      case hQ8 => exact fun _ _ _ h => h
      try simp only [Act.put, List.setIfInBounds_toArray, List.set_cons_zero, List.set_cons_succ]
      refine' takeH (i := 9) (oi := _) (v := _) ?hi9 ?hs9 ?hf9 ?hr9 ?hQ9 ?hw9 ?hy9 hHeld.out ?h9
      case hi9 => (simp only [List.getElem?_toArray, List.getElem?_cons_succ, List.getElem?_cons_zero]; try rfl)
      case hs9 => kernel_rfl
      case hf9 => kernel_rfl
      case hr9 => kernel_rfl
      case hw9 => rfl
      case hy9 => (intro wz hSw; obtain ⟨q1, q2, q3, q4, q5, q6⟩ := hSw; go_simp; try (with_reducible rfl))
      case hQ9 => exact fun _ _ _ h => h
      try simp only [Act.put, List.setIfInBounds_toArray, List.set_cons_zero, List.set_cons_succ]
      refine' takeH (i := 10) (oi := _) (v := .pointer (some ⟨w.heap.size + 1, k * 4, none⟩)) ?hi10 ?hs10 ?hf10 ?hr10 ?hQ10 ?hw10 ?hy10 hHeld.out ?h10
      case hi10 => (simp only [List.getElem?_toArray, List.getElem?_cons_succ, List.getElem?_cons_zero]; try rfl)
      case hs10 => kernel_rfl
      case hf10 => kernel_rfl
      case hr10 => kernel_rfl
      case hw10 => rfl
      case hy10 => (intro wz hSw; go_simp)
      case hQ10 => exact fun _ _ _ h => h
      try simp only [Act.put, List.setIfInBounds_toArray, List.set_cons_zero, List.set_cons_succ]
      refine wpAnyH_ready (rs := [11]) (by kernel_rfl) (by simp) ?_
      refine AllReadyH.cons rfl (fun K hK => ?_) AllReadyH.nil
      go_simp
      have hP' : P < w.heap.size := by rw [hPP.out]; exact hP.lt (x + 1)
      have keep : ∀ (b o : Nat) (u : Value), b ≠ w.heap.size + 1 → W2.cell? ⟨b, o, none⟩ = some u → (put4 W2 (w.heap.size + 1) (k * 4) y).cell? ⟨b, o, none⟩ = some u := fun b o u hb hu => by
        unfold put4
        rw [World.cell?_setCell_other _ _ _ _ (by intro e; injection e; omega), World.cell?_setCell_other _ _ _ _ (by intro e; injection e; omega), World.cell?_setCell_other _ _ _ _ (by intro e; injection e; omega), World.cell?_setCell_other _ _ _ _ (by intro e; injection e; omega)]
        exact hu
      have kO : KeepsOthers W (put4 W2 (w.heap.size + 1) (k * 4) y).drew := (hk2.trans ((((KeepsOthers.setCell _ _ _).trans (KeepsOthers.setCell _ _ _)).trans (KeepsOthers.setCell _ _ _)).trans (KeepsOthers.setCell _ _ _))).trans (KeepsOthers.drew _)
      have kB : ∀ {w0 : World}, Below w.heap.size w0 W2 → Below w.heap.size w0 (put4 W2 (w.heap.size + 1) (k * 4) y).drew := fun hb => ((((hb.setCell (p := ⟨w.heap.size + 1, _, none⟩) (by simp) _).setCell (p := ⟨w.heap.size + 1, _, none⟩) (by simp) _).setCell (p := ⟨w.heap.size + 1, _, none⟩) (by simp) _).setCell (p := ⟨w.heap.size + 1, _, none⟩) (by simp) _).drew
      refine hK.out _ _ ⟨keep _ _ _ (by omega) d2, keep _ _ _ (by omega) d5, keep _ _ _ (by omega) j0, keep _ _ _ (by omega) j1, keep _ _ _ (by omega) j2, keep _ _ _ (by omega) j3⟩ (fun _ => ?_)
      clear hK K
      refine wpAnyH_done (by kernel_rfl) ?_ _
      have hItm : ItAt (put4 W2 (w.heap.size + 1) (k * 4) y) (w.heap.size + 1) (k * 4) y := ItAt.put (unhide HO) hkN
      have HIput : Hid (∀ j ∈ pre ++ [x], (c.take (j + 1)).length ≤ N → ItAt (put4 W2 (w.heap.size + 1) (k * 4) y).drew (w.heap.size + 1) (((c.take (j + 1)).length - 1) * 4) (lastI (c.take (j + 1)))) := fun j hj hjk => by
        have hcase : j = x ∨ j ∈ pre := by rcases List.mem_append.1 hj with h | h; exact .inr h; exact .inl (by simpa using h)
        have here : ∀ q, q = x → ItAt (put4 W2 (w.heap.size + 1) (k * 4) y).drew (w.heap.size + 1) (((c.take (q + 1)).length - 1) * 4) (lastI (c.take (q + 1))) := fun q hq => by
          subst hq
          rw [← hm.out, ← hy.out, ← hk.out]
          exact hItm
        rcases hcase with h | h
        · exact here j h
        · by_cases hjx : (c.take (j + 1)).length - 1 = k
          · have e : c.take (j + 1) = c.take (x + 1) := by
              have l1 : (c.take (j + 1)).length = (c.take (x + 1)).length := by
                have hj1 : 1 ≤ (c.take (j + 1)).length := by rw [List.length_take]; omega
                rw [← hm.out]; have := hk.out; omega
              have t1 : ∀ q, c.take (q + 1) = c.take (c.take (q + 1)).length := fun q => by
                rw [List.length_take]
                by_cases hq : q + 1 ≤ c.length
                · rw [Nat.min_eq_left hq]
                · rw [Nat.min_eq_right (by omega), List.take_length, List.take_of_length_le (by omega)]
              rw [t1 j, l1, ← t1 x]
            rw [e, ← hm.out, ← hy.out, ← hk.out]
            exact hItm
          · exact (HI2.out j h hjk).putOther hjx
      have hfin : Hid (W.cell? ⟨0, 0, none⟩ = W.cell? ⟨0, 0, none⟩) := rfl
      gi_wp2
      exact ⟨kO, kB hKp, ⟨keep _ _ _ (by omega) hc02, keep _ _ _ (by omega) d2, (unhide HO).put _ _, fun j hj hjk => by rw [← List.length_take] at hjk ⊢; exact HIput.out j hj hjk⟩, kB hB2⟩
    · have hd : decide ((m : Int) ≤ (N : Int)) = false := by simp; omega
      gi_wp2
      refine region_roundQ (by kernel_rfl) (by kernel_rfl) (fun _ _ h => h) (by kernel_rfl) ?_
      repeat (go_big_quiet_step (first | fail))
      refine wpQuiet_nil ?_
      intro _ hw'
      obtain ⟨⟨nq, osq⟩, hw''⟩ := hw'
      subst hw''
      have g0 : Grew W (far W nq osq) := ⟨_, _, rfl⟩
      gi_wp2
      refine ⟨g0.others, g0.below.mono hB.size, ⟨g0.keep hc0, g0.keep hc2, hO.grew g0, fun j hj hk => ?_⟩, hB.trans (g0.below.mono hB.size)⟩
      rcases List.mem_append.1 hj with hj | hj
      · exact (HI.out j hj hk).grew g0
      · simp only [List.mem_singleton] at hj
        subst hj
        rw [← hm.out] at hk
        omega
  case done =>
    rintro D ys W hD rfl ⟨⟨hc0, hc2, hO, hI⟩, hB⟩ hK
    gi_wp2
    refine ⟨by simp, .inl ⟨_, _, rfl, run_takeDeferred hK, ?_⟩⟩
    refine ⟨_, results_tmp rfl _ _ _, _, rfl, ⟨w.heap.size + 1, ?_, by omega, ?_, ?_⟩, .of_below (hB.trans (belowK_b (w := w) (Nat.le_refl _) W D _ _ (by omega) hK rfl rfl))⟩
    · rw [List.length_take, Nat.min_eq_left hN]; rfl
    · refine .inr ⟨_, _, rfl, fun i hi => ?_⟩
      rw [List.length_take, Nat.min_eq_left hN] at hi
      have := (hI i (by simp; omega) (by simp; omega)).turn (grownBy_putObj' W D (.deferred none)) (fun r e => by cases e; exact ⟨_, hK, rfl⟩)
      have e1 : (c.take (i + 1)).length - 1 = i := by simp; omega
      have e2 : lastI (c.take (i + 1)) = (c.take N)[i]'(by simp; omega) := by
        rw [List.take_succ_eq_append_getElem (by omega), lastI_snoc]
        simp
      rw [e1, e2] at this
      simpa using this
    · rw [List.length_take, Nat.min_eq_left hN]
      exact hO.turn (grownBy_putObj' W D (.deferred none)) (fun r e => by cases e; exact ⟨_, hK, rfl⟩)
  case stop =>
    rintro D cd pre W hD hpre h hK
    exact h.elim
end Go.Proofs.Ytjbnohepbmejkaa
