/-
  Who goes up from a branch: sure, finalSize.
-/
import Derived.RangeFuncNested
import Derived.RangeFuncBound
import Derived.RangeFuncCalls
import Derived.RangeFuncLeaves
import Derived.Shelf.Abstract
import Derived.Shelf.RegionOpen
import Derived.WalkKit
import Derived.OwnWalkIn
import Derived.TacticsInMore
import Derived.LoopNIn
import Derived.LoopIn
import Derived.Test.YtibhfiamibccnacTree3
namespace Go.Proofs.Ytibhfiamibccnac
set_option linter.unusedVariables false
open Go.RowKit Go.Shelf
attribute [local go_sem] Oper.semAt_some

theorem cellNew (W : World) (v : Value) (t : TypeId) : (W.alloc (.cells #[v] t)).cell? ⟨W.heap.size, 0, none⟩ = some v ∧ (W.alloc (.cells #[v] t)).frozen? ⟨W.heap.size, 0, none⟩ = false := by
  have h : (W.alloc (.cells #[v] t)).heap[W.heap.size]? = some (.cells #[v] t (0, 0)) := World.alloc_heap_new W _
  constructor
  · unfold World.cell?; simp only; rw [h]; rfl
  · unfold World.frozen?; simp only; rw [h]; rfl
theorem cellOld {W : World} {a : Addr} {v : Value} (o : Obj) (h : W.cell? a = some v) : (W.alloc o).cell? a = some v := ((Grew.refl W).alloc o).keep h
theorem frozenOld {W : World} {a : Addr} {v : Value} (o : Obj) (h : W.cell? a = some v) (hf : W.frozen? a = false) : (W.alloc o).frozen? a = false := (frozen_kept h (World.grownBy_alloc W o none) (fun r e => by cases e)).trans hf

def sureF (vt : List It → Nat) (c : List It) : Bool := (List.range c.length).all (fun i => decide (3 ≤ vt (c.take (i + 1))))

set_option maxRecDepth 100000 in
set_option maxHeartbeats 2000000 in
theorem sure_any {w : World} {base n : Nat} {M : List It → Prop} {vt pos : List It → Nat} {kv : List It → Value} {kd : List It → List It} {tb : Nat} {cv : Value} {L : List (List It)}
    (h : TreeF w base n M vt pos kv kd tb cv L) (c : List It) (hc : M c) (hl : c.length ≤ 1048576) :
    Calls Try.prog 50 #[ptr (pos c)] w fun r w' => r = .returned (.bool (sureF vt c)) ∧ Grew w w' := by
  have hP := h.path hc
  clear h hc
  refine (callsIn_wide (n := 3)).1 ?_
  unfold ptr
  refine callsIn_of_wp_marks Try.func50 rfl trivial ?_ rfl
  simp only [Try.ntmps50, List.size_toArray, List.length_cons, List.length_nil, Nat.reduceAdd, Nat.reduceSub, Array.replicate_succ, Array.replicate_zero, List.push_toArray, List.append_toArray, List.nil_append, List.cons_append]
  gi_wp2_with (refine ⟨trivial, ?_⟩; gi_at_call 61; refine (callsIn_wide.2 (upward_any _ _)).mono ?_; rintro e w' ⟨rfl, rfl⟩)
  obtain ⟨W1, hW1⟩ : ∃ W1, Hid (W1 = (w.alloc (.cells #[.bool false] 4)).alloc (.cells #[ptr (pos c)] 58)) := ⟨_, hide rfl⟩
  rw [← hW1.out]
  have c0 := cellNew w (.bool false) 4
  have c1 := cellNew (w.alloc (.cells #[.bool false] 4)) (ptr (pos c)) 58
  simp only [World.size_alloc] at c1
  have k0 := cellOld (.cells #[ptr (pos c)] 58) c0.1
  have k0f := frozenOld (.cells #[ptr (pos c)] 58) c0.1 c0.2
  have hsz : W1.heap.size = w.heap.size + 1 + 1 := by rw [hW1.out]; simp
  have hB0 : Below w.heap.size w W1 := by rw [hW1.out]; exact ((Below.refl _ w).alloc (Nat.le_refl _) _).alloc (by simp) _
  rw [← hW1.out] at c1 k0 k0f
  clear c0
  refine wpIn_rangeFunc_ownF rfl (by omega) (gf := 81) (lb := #[ptr (w.heap.size + 1)]) rfl trivial (enters_of Try.func81 (by kernel_rfl) rfl)
    (up_stops 2 (by omega) (w.heap.size + 1) w.heap.size c hl W1 (by omega) (by omega) c1.1 (hP.below hB0)) belowK_t (belowK_b (by omega)) (Below.refl _ _) (fun _ => rfl)
    (fun pre W => ((∀ j ∈ pre, 3 ≤ vt (c.take (j + 1))) ∧ W.cell? ⟨w.heap.size, 0, none⟩ = some (.bool false) ∧ W.frozen? ⟨w.heap.size, 0, none⟩ = false) ∧ Below w.heap.size w W)
    (fun cd pre W => (cd = .ret ∧ (∃ j ∈ pre, ¬ 3 ≤ vt (c.take (j + 1))) ∧ W.cell? ⟨w.heap.size, 0, none⟩ = some (.bool false)) ∧ Below w.heap.size w W)
    (OwnFrom.and (Own.from (fun s A B row hs hg hr => ⟨hs.1, cell_kept hs.2.1 hg hr, (frozen_kept hs.2.1 hg hr).trans hs.2.2⟩) _) (ownFrom_below (Nat.le_refl _) (by omega)))
    (fun cd => OwnFrom.and (Own.from (fun s A B row hs hg hr => ⟨hs.1, hs.2.1, cell_kept hs.2.2 hg hr⟩) _) (ownFrom_below (Nat.le_refl _) (by omega)))
    ⟨⟨by simp, k0, k0f⟩, hB0⟩
    (fun x => { tmps := #[.pointer (some ⟨pos c, 0, none⟩), undef, .pointer (some ⟨w.heap.size, 0, none⟩), ptr (pos (c.take (x + 1))), .pointer (some ⟨pos c, 0, none⟩), .func (.func 81) #[] #[ptr (w.heap.size + 1)], ptr (pos (c.take (x + 1))), undef, undef, undef, undef, undef], defers := [] }) ?assign ?body ?done ?stop
  case assign =>
    intro l x W K hK
    gi_wp2
    exact hK
  case body =>
    rintro l pre x W ⟨⟨hp, hcr, hfr⟩, hB⟩ _
    obtain ⟨_, _, _, c6, _⟩ := brO_cells ((hP.below hB).blk (x + 1))
    unfold ptr
    by_cases hv : 3 ≤ vt (c.take (x + 1))
    · have hv' : Hid (3 ≤ vt (c.take (x + 1))) := hv
      have hd : decide (((vt (c.take (x + 1)) : Nat) : Int) < 3) = false := by simp; omega
      generalize vt (c.take (x + 1)) = V at c6 hd
      generalize pos (c.take (x + 1)) = P at c6 ⊢
      gi_wp2
      exact ⟨KeepsOthers.refl _, Below.refl _ _, ⟨fun y hy => (List.mem_append.1 hy).elim (hp y) (fun e => by simp at e; subst e; exact hv'.out), hcr, hfr⟩, hB⟩
    · have hv' : Hid (¬ 3 ≤ vt (c.take (x + 1))) := hv
      have hd : decide (((vt (c.take (x + 1)) : Nat) : Int) < 3) = true := by simp; omega
      generalize vt (c.take (x + 1)) = V at c6 hd
      generalize pos (c.take (x + 1)) = P at c6 ⊢
      gi_wp2
      exact ⟨KeepsOthers.setCell _ _ _, ⟨rfl, ⟨x, by simp, hv'.out⟩, World.cell?_setCell_same' _ _ _ (by rw [hcr]; rfl)⟩, hB.setCell (p := ⟨w.heap.size, 0, none⟩) (Nat.le_refl _) _⟩
  case done =>
    rintro D ys W hD rfl ⟨⟨hne, hcr, hfr⟩, hB⟩ hK
    gi_wp2
    have hK' := (KeepsOthers.setCell W ⟨w.heap.size, 0, none⟩ (.bool true)).same D _ hK rfl
    refine ⟨by simp, .inl ⟨_, _, rfl, run_takeDeferred hK', ?_⟩⟩
    have hc5 := cell_kept (World.cell?_setCell_same' W ⟨w.heap.size, 0, none⟩ (.bool true) (by rw [hcr]; rfl)) (grownBy_putObj' _ D (.deferred none)) (fun r e => by cases e; exact ⟨_, hK', rfl⟩)
    have hs : sureF vt c = true := by
      unfold sureF
      rw [List.all_eq_true]
      intro i hi
      exact decide_eq_true (hne i (by simpa using hi))
    refine ⟨.bool true, ?_, by rw [hs], .of_below ((hB.setCell (p := ⟨w.heap.size, 0, none⟩) (Nat.le_refl _) _).trans (belowK_b (w := w) (Nat.le_refl _) _ D _ _ (by omega) hK' rfl rfl))⟩
    simp [results, Try.f50, go_sem, hc5]
  case stop =>
    rintro D cd pre W hD hpre ⟨⟨rfl, ⟨j, hj, hn⟩, hcr⟩, hB⟩ hK
    gi_wp2
    refine ⟨by simp, .inl ⟨_, _, rfl, run_takeDeferred hK, ?_⟩⟩
    have hc5 := cell_kept hcr (grownBy_putObj' _ D (.deferred none)) (fun r e => by cases e; exact ⟨_, hK, rfl⟩)
    have hs : sureF vt c = false := by
      unfold sureF
      rw [List.all_eq_false]
      have := hpre.subset hj
      exact ⟨j, by simpa using this, by simpa using hn⟩
    refine ⟨.bool false, ?_, by rw [hs], .of_below (hB.trans (belowK_b (w := w) (Nat.le_refl _) W D _ _ (by omega) hK rfl rfl))⟩
    simp [results, Try.f50, go_sem, hc5]
end Go.Proofs.Ytibhfiamibccnac
