/-
  How much of a branch's chain is final: finalSize.
-/
import Derived.RangeFuncNested
import Derived.RangeFuncBound
import Derived.RangeFuncCalls
import Derived.RangeFuncLeaves
import Derived.Shelf.Abstract
import Derived.Shelf.RegionOpen
import Derived.WalkKit
import Derived.OwnWalkIn
import Derived.TacticsInMore
import Derived.LoopNIn
import Derived.LoopIn
import Derived.Test.YtibhfiamibccnacTree4
namespace Go.Proofs.Ytibhfiamibccnac
set_option linter.unusedVariables false
open Go.RowKit Go.Shelf
attribute [local go_sem] Oper.semAt_some

theorem Grew.grownBy {w w' : World} (g : Grew w w') : w.grownBy w' none := by
  obtain ⟨h1, h2, h3, h4, h5⟩ := g.below
  exact ⟨h1, h2, h3, h4, fun k hk _ => h5 k hk⟩
theorem Grew.others {w w' : World} (g : Grew w w') : KeepsOthers w w' := KeepsOthers.of_grownBy g.grownBy (fun _ _ e => by cases e)
theorem Grew.frozen {w w' : World} (g : Grew w w') {a : Addr} {v : Value} (h : w.cell? a = some v) (hf : w.frozen? a = false) : w'.frozen? a = false := (frozen_kept h g.grownBy (fun r e => by cases e)).trans hf

/-- How much of a chain is final, if it is sure. -/
def finN (c : List It) : Nat := ((List.range c.length).reverse.find? (fun j => endsB (c.take (j + 1)))).getD 0
theorem find_first {α : Type} {p : α → Bool} {xs pre : List α} {x : α} (h : pre ++ [x] <+: xs) (h1 : ∀ j ∈ pre, p j = false) (h2 : p x = true) : xs.find? p = some x := by
  obtain ⟨t, rfl⟩ := h
  have h3 : pre.find? p = none := by rw [List.find?_eq_none]; intro j hj; rw [h1 j hj]; decide
  simp [List.find?_append, h3, h2]

set_option maxRecDepth 100000 in
set_option maxHeartbeats 2000000 in
theorem finalSize_any {w : World} {base n : Nat} {M : List It → Prop} {vt pos : List It → Nat} {kv : List It → Value} {kd : List It → List It} {tb : Nat} {cv : Value} {L : List (List It)}
    (h : TreeF w base n M vt pos kv kd tb cv L) (c : List It) (hc : M c) (hl : c.length ≤ 1048576) :
    Calls Try.prog 66 #[ptr (pos c)] w fun r w' => r = .returned (.int .i64 (finN c)) ∧ Grew w w' := by
  have hP := h.path hc
  have hE : ∀ W x, Below w.heap.size w W → Hid (Calls Try.prog 83 #[ptr (pos (c.take (x + 1)))] W fun r w' => r = .returned (.bool (endsB (c.take (x + 1)))) ∧ Grew W w') :=
    fun W x g => endsRow_any (h.grew (.of_below g)) _ (h.take hc (x + 1)) (by simp; omega)
  clear h hc
  refine (callsIn_wide (n := 3)).1 ?_
  unfold ptr
  refine callsIn_of_wp_marks Try.func66 rfl trivial ?_ rfl
  simp only [Try.ntmps66, List.size_toArray, List.length_cons, List.length_nil, Nat.reduceAdd, Nat.reduceSub, Array.replicate_succ, Array.replicate_zero, List.push_toArray, List.append_toArray, List.nil_append, List.cons_append]
  gi_wp2_with (refine ⟨trivial, ?_⟩; gi_at_call 61; refine (callsIn_wide.2 (upward_any _ _)).mono ?_; rintro e w' ⟨rfl, rfl⟩)
  obtain ⟨W1, hW1⟩ : ∃ W1, Hid (W1 = (w.alloc (.cells #[.int .i64 0] 3)).alloc (.cells #[ptr (pos c)] 58)) := ⟨_, hide rfl⟩
  rw [← hW1.out]
  have c0 := cellNew w (.int .i64 0) 3
  have c1 := cellNew (w.alloc (.cells #[.int .i64 0] 3)) (ptr (pos c)) 58
  simp only [World.size_alloc] at c1
  have k0 := cellOld (.cells #[ptr (pos c)] 58) c0.1
  have k0f := frozenOld (.cells #[ptr (pos c)] 58) c0.1 c0.2
  have hsz : W1.heap.size = w.heap.size + 1 + 1 := by rw [hW1.out]; simp
  have hB0 : Below w.heap.size w W1 := by rw [hW1.out]; exact ((Below.refl _ w).alloc (Nat.le_refl _) _).alloc (by simp) _
  rw [← hW1.out] at c1 k0 k0f
  clear c0
  refine wpIn_rangeFunc_ownF rfl (by omega) (gf := 81) (lb := #[ptr (w.heap.size + 1)]) rfl trivial (enters_of Try.func81 (by kernel_rfl) rfl)
    (up_stops 2 (by omega) (w.heap.size + 1) w.heap.size c hl W1 (by omega) (by omega) c1.1 (hP.below hB0)) belowK_t (belowK_b (by omega)) (Below.refl _ _) (fun _ => rfl)
    (fun pre W => ((∀ j ∈ pre, endsB (c.take (j + 1)) = false) ∧ W.cell? ⟨w.heap.size, 0, none⟩ = some (.int .i64 0) ∧ W.frozen? ⟨w.heap.size, 0, none⟩ = false) ∧ Below w.heap.size w W)
    (fun cd pre W => (cd = .ret ∧ (∃ pre' x, pre = pre' ++ [x] ∧ (∀ j ∈ pre', endsB (c.take (j + 1)) = false) ∧ endsB (c.take (x + 1)) = true ∧ W.cell? ⟨w.heap.size, 0, none⟩ = some (.int .i64 (wrap64 (((c.take (x + 1)).length : Int) - 1))))) ∧ Below w.heap.size w W)
    (OwnFrom.and (Own.from (fun s A B row hs hg hr => ⟨hs.1, cell_kept hs.2.1 hg hr, (frozen_kept hs.2.1 hg hr).trans hs.2.2⟩) _) (ownFrom_below (Nat.le_refl _) (by omega)))
    (fun cd => OwnFrom.and (Own.from (fun s A B row hs hg hr => by
      obtain ⟨h1, p', x, h2, h3, h4, h5⟩ := hs
      exact ⟨h1, p', x, h2, h3, h4, cell_kept h5 hg hr⟩) _) (ownFrom_below (Nat.le_refl _) (by omega)))
    ⟨⟨by simp, k0, k0f⟩, hB0⟩
    (fun x => { tmps := #[.pointer (some ⟨pos c, 0, none⟩), undef, .pointer (some ⟨w.heap.size, 0, none⟩), ptr (pos (c.take (x + 1))), .pointer (some ⟨pos c, 0, none⟩), .func (.func 81) #[] #[ptr (w.heap.size + 1)], ptr (pos (c.take (x + 1))), undef, undef, undef, undef, undef, undef, undef], defers := [] }) ?assign ?body ?done ?stop
  case assign =>
    intro l x W K hK
    gi_wp2
    exact hK
  case body =>
    rintro l pre x W ⟨⟨hp, hcr, hfr⟩, hB⟩ _
    have hE' := hE W x hB
    obtain ⟨_, _, c5, _⟩ := brO_cells ((hP.below hB).blk (x + 1))
    have hlt := (hP.below hB).lt (x + 1)
    unfold ptr at hE' ⊢
    obtain ⟨f1, hf1⟩ : ∃ f1, Hid (f1 = endsB (c.take (x + 1))) := ⟨_, hide rfl⟩
    rw [← hf1.out] at hE'
    obtain ⟨N, hN⟩ : ∃ N, Hid (N = (c.take (x + 1)).length) := ⟨_, hide rfl⟩
    rw [← hN.out] at c5
    obtain ⟨P, hPP⟩ : ∃ P, Hid (P = pos (c.take (x + 1))) := ⟨_, hide rfl⟩
    rw [← hPP.out] at c5 hE' hlt ⊢
    cases f1 with
    | true =>
      gi_wp2_with (refine ⟨trivial, ?_⟩; gi_at_call 83; refine (CallsIn.inRound l (callsIn_wide.2 hE'.out)).mono ?_; rintro r w2 ⟨rfl, g2⟩; have hcr2 := g2.keep hcr; have hfr2 := g2.frozen hcr hfr; have c52 := g2.keep c5)
      have hB2 : Below w.heap.size w w2 := hB.trans (g2.below.mono hB.size)
      refine ⟨g2.others.trans (KeepsOthers.setCell _ _ _), ⟨rfl, pre, x, rfl, hp, hf1.out.symm, ?_⟩, hB2.setCell (p := ⟨w.heap.size, 0, none⟩) (Nat.le_refl _) _⟩
      rw [← hN.out]
      exact World.cell?_setCell_same' _ _ _ (by rw [hcr2]; rfl)
    | false =>
      gi_wp2_with (refine ⟨trivial, ?_⟩; gi_at_call 83; refine (CallsIn.inRound l (callsIn_wide.2 hE'.out)).mono ?_; rintro r w2 ⟨rfl, g2⟩; have hcr2 := g2.keep hcr; have hfr2 := g2.frozen hcr hfr; have c52 := g2.keep c5)
      have hB2 : Below w.heap.size w w2 := hB.trans (g2.below.mono hB.size)
      exact ⟨g2.others, g2.below.mono hB.size, ⟨fun y hy => (List.mem_append.1 hy).elim (hp y) (fun e => by simp at e; subst e; exact hf1.out.symm), hcr2, hfr2⟩, hB2⟩
  case done =>
    rintro D ys W hD rfl ⟨⟨hne, hcr, hfr⟩, hB⟩ hK
    gi_wp2
    have hK' := (KeepsOthers.setCell W ⟨w.heap.size, 0, none⟩ (.int .i64 0)).same D _ hK rfl
    refine ⟨by simp, .inl ⟨_, _, rfl, run_takeDeferred hK', ?_⟩⟩
    have hc5 := cell_kept (World.cell?_setCell_same' W ⟨w.heap.size, 0, none⟩ (.int .i64 0) (by rw [hcr]; rfl)) (grownBy_putObj' _ D (.deferred none)) (fun r e => by cases e; exact ⟨_, hK', rfl⟩)
    have hs : finN c = 0 := by
      unfold finN
      have : (List.range c.length).reverse.find? (fun j => endsB (c.take (j + 1))) = none := by
        rw [List.find?_eq_none]; intro j hj; rw [hne j hj]; decide
      rw [this]; rfl
    refine ⟨.int .i64 0, ?_, by rw [hs]; rfl, .of_below ((hB.setCell (p := ⟨w.heap.size, 0, none⟩) (Nat.le_refl _) _).trans (belowK_b (w := w) (Nat.le_refl _) _ D _ _ (by omega) hK' rfl rfl))⟩
    simp [results, Try.f66, go_sem, hc5]
  case stop =>
    rintro D cd pre W hD hpre ⟨⟨rfl, p', x, rfl, hp, hx, hcr⟩, hB⟩ hK
    gi_wp2
    refine ⟨by simp, .inl ⟨_, _, rfl, run_takeDeferred hK, ?_⟩⟩
    have hc5 := cell_kept hcr (grownBy_putObj' _ D (.deferred none)) (fun r e => by cases e; exact ⟨_, hK, rfl⟩)
    have hxl : x < c.length := by have := hpre.subset (List.mem_append.2 (.inr (List.mem_singleton.2 rfl))); simpa using this
    have hs : finN c = x := by
      unfold finN
      rw [find_first (p := fun j => endsB (c.take (j + 1))) hpre hp hx]; rfl
    have hv : wrap64 (((c.take (x + 1)).length : Int) - 1) = (x : Int) := by
      rw [List.length_take, Nat.min_eq_left (by omega), show ((x + 1 : Nat) : Int) - 1 = (x : Int) by omega]
      unfold wrap64; omega
    rw [hv] at hc5
    refine ⟨.int .i64 x, ?_, by rw [hs], .of_below (hB.trans (belowK_b (w := w) (Nat.le_refl _) W D _ _ (by omega) hK rfl rfl))⟩
    simp [results, Try.f66, go_sem, hc5]
end Go.Proofs.Ytibhfiamibccnac
