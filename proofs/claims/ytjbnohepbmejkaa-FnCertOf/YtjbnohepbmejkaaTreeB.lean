/-
  The way up from a branch, and who goes by it: sure, finalSize.
-/
import Derived.RangeFuncNested
import Derived.RangeFuncBound
import Derived.RangeFuncCalls
import Derived.RangeFuncLeaves
import Derived.Shelf.Abstract
import Derived.Shelf.RegionOpen
import Derived.WalkKit
import Derived.OwnWalkIn
import Derived.TacticsInMore
import Derived.LoopNIn
import Derived.LoopIn
import Derived.Test.YtjbnohepbmejkaaTreeA
namespace Go.Proofs.Ytjbnohepbmejkaa
set_option linter.unusedVariables false
open Go.RowKit Go.Shelf
attribute [local go_sem] Oper.semAt_some

/-- What has come when k are still to come. -/
def downTo (n k : Nat) : List Nat := ((List.range n).reverse).take (n - k)
theorem downTo_top (n : Nat) : downTo n n = [] := by simp [downTo]
theorem downTo_all (n : Nat) : downTo n 0 = (List.range n).reverse := by
  unfold downTo; rw [List.take_of_length_le (by simp)]
theorem downTo_step (n k : Nat) (h : k < n) : downTo n k = downTo n (k + 1) ++ [k] := by
  unfold downTo
  have e : n - k = (n - (k + 1)) + 1 := by omega
  rw [e, List.take_succ_eq_append_getElem (by simp; omega)]
  congr 1
  simp
  omega
theorem downTo_prefix (n k : Nat) : downTo n k <+: (List.range n).reverse := List.take_prefix _ _
theorem downTo_length (n k : Nat) (h : k ≤ n) : (downTo n k).length = n - k := by simp [downTo]

/-- A path in the tree: all that is ahead of a branch, in blocks below n₀. -/
structure Path (W : World) (n₀ : Nat) (vt pos : List It → Nat) (kv : List It → Value) (c : List It) : Prop where
  lt : ∀ k, pos (c.take k) < n₀
  blk : ∀ k, W.heap[pos (c.take k)]? = some (brO (aheadP pos (c.take k)) (lastI (c.take k)) (c.take k).length (vt (c.take k)) (kv (c.take k)))
theorem Path.below {W W' : World} {n₀ : Nat} {vt pos : List It → Nat} {kv : List It → Value} {c : List It} (h : Path W n₀ vt pos kv c) (g : Below n₀ W W') : Path W' n₀ vt pos kv c :=
  ⟨h.lt, fun k => by rw [g.block _ (h.lt k)]; exact h.blk k⟩
theorem TreeF.take {w : World} {base n : Nat} {M : List It → Prop} {vt pos : List It → Nat} {kv : List It → Value} {kd : List It → List It} {tb : Nat} {cv : Value} {L : List (List It)}
    (h : TreeF w base n M vt pos kv kd tb cv L) {c : List It} (hc : M c) (k : Nat) : M (c.take k) := by
  by_cases hk : c.length ≤ k
  · rw [List.take_of_length_le hk]; exact hc
  · obtain ⟨m, hm⟩ : ∃ m, m = c.length - k := ⟨_, rfl⟩
    induction m generalizing k with
    | zero => omega
    | succ m ih =>
      have h1 : M (c.take (k + 1)) := by
        by_cases h2 : c.length ≤ k + 1
        · rw [List.take_of_length_le h2]; exact hc
        · exact ih (k + 1) h2 (by omega)
      rw [List.take_succ_eq_append_getElem (by omega)] at h1
      exact (h.up _ _ h1).1
theorem TreeF.path {w : World} {base n : Nat} {M : List It → Prop} {vt pos : List It → Nat} {kv : List It → Value} {kd : List It → List It} {tb : Nat} {cv : Value} {L : List (List It)}
    (h : TreeF w base n M vt pos kv kd tb cv L) {c : List It} (hc : M c) : Path w w.heap.size vt pos kv c :=
  ⟨fun k => (Array.getElem?_eq_some_iff.1 (h.blk _ (h.take hc k))).1, fun k => h.blk _ (h.take hc k)⟩

def sizeAt (p : Value) (w : World) : Nat :=
  match p with
  | .pointer (some a) => (match w.cell? ⟨a.block, 5, none⟩ with | some v => (intOf v).toNat | none => 0)
  | _ => 0

set_option maxRecDepth 100000 in
set_option maxHeartbeats 2000000 in
theorem up1_in (n : Nat) (hn : 1 ≤ n) (l Bn n₀ : Nat) {vt pos : List It → Nat} {kv : List It → Value} (c : List It) (hl : c.length ≤ 1048576) (J Jx : List Nat → World → Prop)
    (hY : ∀ pre (x : Nat) W, J pre W → pre.length < c.length → YieldAt Fence.wide (n - 1) Try.prog l #[ptr (pos (c.take (x + 1)))] W fun e W' =>
      (e = .returned (.bool true) ∧ J (pre ++ [x]) W' ∧ Below n₀ W W') ∨ (e = .returned (.bool false) ∧ Jx (pre ++ [x]) W'))
    (W : World) (hBn : W.cell? ⟨Bn, 0, none⟩ = some (ptr (pos c))) (hP : Path W n₀ vt pos kv c) (h0 : J [] W) :
    CallsIn Fence.wide n Try.prog 146 #[.func (.yield l) #[] #[], ptr Bn] W fun e W' => (∃ v, e = .returned v) ∧
      ((∃ ys, ys = (List.range c.length).reverse ∧ J ys W') ∨ (∃ pre, pre <+: (List.range c.length).reverse ∧ Jx pre W')) := by
  unfold ptr at hBn hY ⊢
  refine callsIn_of_wp Try.func146 rfl trivial ?_ rfl
  simp only [Try.ntmps146, List.size_toArray, List.length_cons, List.length_nil, Nat.reduceAdd, Nat.reduceSub, Array.replicate_succ, Array.replicate_zero, List.push_toArray, List.append_toArray, List.nil_append, List.cons_append]
  gi_wp2
  gi_loopw [3] (fun p wr => ∃ k : Nat, k ≤ c.length ∧ p = .pointer (some ⟨pos (c.take k), 0, none⟩) ∧ Path wr n₀ vt pos kv c ∧ J (downTo c.length k) wr)
    (fun p wr => sizeAt p wr)
  case atStart =>
    exact ⟨c.length, Nat.le_refl _, by rw [List.take_length], hP, by rw [downTo_top]; exact h0⟩
  case round =>
    obtain ⟨k, hk, rfl, hp, hJs⟩ := hrel
    cases k with
    | zero =>
      obtain ⟨c0, _⟩ := brO_cells (hp.blk 0)
      rw [List.take_zero, aheadP_nil] at c0
      rw [List.take_zero]
      have hJs' : Hid (J (List.range c.length).reverse wr) := by rw [← downTo_all]; exact hJs
      clear hJs
      gi_wp2
      go_end0
      exact ⟨⟨_, rfl⟩, .inl ⟨_, rfl, hJs'.out⟩⟩
    | succ k =>
      obtain ⟨c0, _, c5, _⟩ := brO_cells (hp.blk (k + 1))
      obtain ⟨_, _, d5, _⟩ := brO_cells (hp.blk k)
      have hlt := hp.lt (k + 1)
      have hlk := hp.lt k
      have ht : c.take (k + 1) = c.take k ++ [c[k]] := List.take_succ_eq_append_getElem (by omega)
      have hah : aheadP pos (c.take (k + 1)) = some ⟨pos (c.take k), 0, none⟩ := by rw [ht, aheadP_snoc]
      rw [hah] at c0
      obtain ⟨fn, tmps, assign, body, hy, hR⟩ := hY (downTo c.length (k + 1)) k wr hJs (by rw [downTo_length _ _ hk]; omega)
      rw [← downTo_step _ _ (by omega)] at hR
      have hz : Hid (sizeAt (.pointer (some ⟨pos (c.take (k + 1)), 0, none⟩)) wr = k + 1) := by
        show sizeAt _ _ = k + 1
        unfold sizeAt
        simp only [c5]
        simp [intOf]
        omega
      obtain ⟨P1, hP1⟩ : ∃ P1, Hid (P1 = pos (c.take (k + 1))) := ⟨_, hide rfl⟩
      obtain ⟨P0, hP0⟩ : ∃ P0, Hid (P0 = pos (c.take k)) := ⟨_, hide rfl⟩
      rw [← hP1.out] at c0 hy hlt hz ⊢
      rw [← hP0.out] at c0
      clear ht hah c5 hJs
      gi_wp2
      refine hR.mono ?_
      rintro e W3 (⟨rfl, hJ3, hk3⟩ | ⟨rfl, hJx3⟩)
      · have hq3 : W3.cell? ⟨P1, 0, none⟩ = some (.pointer (some ⟨P0, 0, none⟩)) := (hk3.cell (p := ⟨P1, 0, none⟩) hlt).trans c0
        have d53 : W3.cell? ⟨P0, 5, none⟩ = some (.int .i64 ((c.take k).length : Nat)) := by rw [hP0.out]; exact (hk3.cell (p := ⟨pos (c.take k), 5, none⟩) hlk).trans d5
        gi_wp2
        go_roundw
        case rel => exact ⟨k, by omega, by rw [hP0.out], hp.below hk3, hJ3⟩
        case measure =>
          rw [hz.out]
          unfold sizeAt
          simp only [d53]
          simp [intOf]
          omega
      · gi_wp2
        refine bodyPost_ret (results_none rfl _ _ _) rfl ?_
        exact ⟨⟨_, rfl⟩, .inr ⟨_, downTo_prefix _ _, hJx3⟩⟩

set_option maxHeartbeats 1000000 in
theorem upward_any (p : Nat) (w : World) :
    Calls Try.prog 114 #[ptr p] w fun e w' => e = .returned (.func (.func 146) #[] #[ptr w.heap.size]) ∧ w' = w.alloc (.cells #[ptr p] 95) := by
  unfold ptr
  go_enter Try.func114, Try.ntmps114
  go_wp2
  go_ret
  exact ⟨rfl, rfl⟩

theorem up_stops (n : Nat) (hn : 1 ≤ n) (Bn n₀ : Nat) {vt pos : List It → Nat} {kv : List It → Value} (c : List It) (hl : c.length ≤ 1048576) (w : World) (hBn : Bn < w.heap.size) (hn₀ : n₀ ≤ w.heap.size)
    (hc : w.cell? ⟨Bn, 0, none⟩ = some (ptr (pos c))) (hP : Path w n₀ vt pos kv c) :
    SeqStopsK Fence.wide n Try.prog 146 #[ptr Bn] (fun x : Nat => #[ptr (pos (c.take (x + 1)))]) (Below n₀) (fun ys => ys = (List.range c.length).reverse) (fun pre => pre <+: (List.range c.length).reverse) c.length w :=
  fun l J Jx W hW _ _ hY h0 => up1_in n hn l Bn n₀ c hl J Jx hY W ((hW.cell (p := ⟨Bn, 0, none⟩) hBn).trans hc) (hP.below (hW.mono hn₀)) h0

set_option linter.unusedVariables false
open Go.RowKit Go.Shelf
attribute [local go_sem] Oper.semAt_some

theorem cellNew (W : World) (v : Value) (t : TypeId) : (W.alloc (.cells #[v] t)).cell? ⟨W.heap.size, 0, none⟩ = some v ∧ (W.alloc (.cells #[v] t)).frozen? ⟨W.heap.size, 0, none⟩ = false := by
  have h : (W.alloc (.cells #[v] t)).heap[W.heap.size]? = some (.cells #[v] t (0, 0)) := World.alloc_heap_new W _
  constructor
  · unfold World.cell?; simp only; rw [h]; rfl
  · unfold World.frozen?; simp only; rw [h]; rfl
theorem cellOld {W : World} {a : Addr} {v : Value} (o : Obj) (h : W.cell? a = some v) : (W.alloc o).cell? a = some v := ((Grew.refl W).alloc o).keep h
theorem frozenOld {W : World} {a : Addr} {v : Value} (o : Obj) (h : W.cell? a = some v) (hf : W.frozen? a = false) : (W.alloc o).frozen? a = false := (frozen_kept h (World.grownBy_alloc W o none) (fun r e => by cases e)).trans hf

def sureF (vt : List It → Nat) (c : List It) : Bool := (List.range c.length).all (fun i => decide (3 ≤ vt (c.take (i + 1))))

set_option maxRecDepth 100000 in
set_option maxHeartbeats 2000000 in
theorem sure_any {w : World} {base n : Nat} {M : List It → Prop} {vt pos : List It → Nat} {kv : List It → Value} {kd : List It → List It} {tb : Nat} {cv : Value} {L : List (List It)}
    (h : TreeF w base n M vt pos kv kd tb cv L) (c : List It) (hc : M c) (hl : c.length ≤ 1048576) :
    Calls Try.prog 144 #[ptr (pos c)] w fun r w' => r = .returned (.bool (sureF vt c)) ∧ Grew w w' := by
  have hP := h.path hc
  clear h hc
  refine (callsIn_wide (n := 3)).1 ?_
  unfold ptr
  refine callsIn_of_wp_marks Try.func144 rfl trivial ?_ rfl
  simp only [Try.ntmps144, List.size_toArray, List.length_cons, List.length_nil, Nat.reduceAdd, Nat.reduceSub, Array.replicate_succ, Array.replicate_zero, List.push_toArray, List.append_toArray, List.nil_append, List.cons_append]
  gi_wp2_with (refine ⟨trivial, ?_⟩; gi_at_call 114; refine (callsIn_wide.2 (upward_any _ _)).mono ?_; rintro e w' ⟨rfl, rfl⟩)
  obtain ⟨W1, hW1⟩ : ∃ W1, Hid (W1 = (w.alloc (.cells #[.bool false] 4)).alloc (.cells #[ptr (pos c)] 95)) := ⟨_, hide rfl⟩
  rw [← hW1.out]
  have c0 := cellNew w (.bool false) 4
  have c1 := cellNew (w.alloc (.cells #[.bool false] 4)) (ptr (pos c)) 95
  simp only [World.size_alloc] at c1
  have k0 := cellOld (.cells #[ptr (pos c)] 95) c0.1
  have k0f := frozenOld (.cells #[ptr (pos c)] 95) c0.1 c0.2
  have hsz : W1.heap.size = w.heap.size + 1 + 1 := by rw [hW1.out]; simp
  have hB0 : Below w.heap.size w W1 := by rw [hW1.out]; exact ((Below.refl _ w).alloc (Nat.le_refl _) _).alloc (by simp) _
  rw [← hW1.out] at c1 k0 k0f
  clear c0
  refine wpIn_rangeFunc_ownF rfl (by omega) (gf := 146) (lb := #[ptr (w.heap.size + 1)]) rfl trivial (enters_of Try.func146 (by kernel_rfl) rfl)
    (up_stops 2 (by omega) (w.heap.size + 1) w.heap.size c hl W1 (by omega) (by omega) c1.1 (hP.below hB0)) belowK_t (belowK_b (by omega)) (Below.refl _ _) (fun _ => rfl)
    (fun pre W => ((∀ j ∈ pre, 3 ≤ vt (c.take (j + 1))) ∧ W.cell? ⟨w.heap.size, 0, none⟩ = some (.bool false) ∧ W.frozen? ⟨w.heap.size, 0, none⟩ = false) ∧ Below w.heap.size w W)
    (fun cd pre W => (cd = .ret ∧ (∃ j ∈ pre, ¬ 3 ≤ vt (c.take (j + 1))) ∧ W.cell? ⟨w.heap.size, 0, none⟩ = some (.bool false)) ∧ Below w.heap.size w W)
    (OwnFrom.and (Own.from (fun s A B row hs hg hr => ⟨hs.1, cell_kept hs.2.1 hg hr, (frozen_kept hs.2.1 hg hr).trans hs.2.2⟩) _) (ownFrom_below (Nat.le_refl _) (by omega)))
    (fun cd => OwnFrom.and (Own.from (fun s A B row hs hg hr => ⟨hs.1, hs.2.1, cell_kept hs.2.2 hg hr⟩) _) (ownFrom_below (Nat.le_refl _) (by omega)))
    ⟨⟨by simp, k0, k0f⟩, hB0⟩
    (fun x => { tmps := #[.pointer (some ⟨pos c, 0, none⟩), undef, .pointer (some ⟨w.heap.size, 0, none⟩), ptr (pos (c.take (x + 1))), .pointer (some ⟨pos c, 0, none⟩), .func (.func 146) #[] #[ptr (w.heap.size + 1)], ptr (pos (c.take (x + 1))), undef, undef, undef, undef, undef], defers := [] }) ?assign ?body ?done ?stop
  case assign =>
    intro l x W K hK
    gi_wp2
    exact hK
  case body =>
    rintro l pre x W ⟨⟨hp, hcr, hfr⟩, hB⟩ _
    obtain ⟨_, _, _, c6, _⟩ := brO_cells ((hP.below hB).blk (x + 1))
    unfold ptr
    by_cases hv : 3 ≤ vt (c.take (x + 1))
    · have hv' : Hid (3 ≤ vt (c.take (x + 1))) := hv
      have hd : decide (((vt (c.take (x + 1)) : Nat) : Int) < 3) = false := by simp; omega
      generalize vt (c.take (x + 1)) = V at c6 hd
      generalize pos (c.take (x + 1)) = P at c6 ⊢
      gi_wp2
      exact ⟨KeepsOthers.refl _, Below.refl _ _, ⟨fun y hy => (List.mem_append.1 hy).elim (hp y) (fun e => by simp at e; subst e; exact hv'.out), hcr, hfr⟩, hB⟩
    · have hv' : Hid (¬ 3 ≤ vt (c.take (x + 1))) := hv
      have hd : decide (((vt (c.take (x + 1)) : Nat) : Int) < 3) = true := by simp; omega
      generalize vt (c.take (x + 1)) = V at c6 hd
      generalize pos (c.take (x + 1)) = P at c6 ⊢
      gi_wp2
      exact ⟨KeepsOthers.setCell _ _ _, ⟨rfl, ⟨x, by simp, hv'.out⟩, World.cell?_setCell_same' _ _ _ (by rw [hcr]; rfl)⟩, hB.setCell (p := ⟨w.heap.size, 0, none⟩) (Nat.le_refl _) _⟩
  case done =>
    rintro D ys W hD rfl ⟨⟨hne, hcr, hfr⟩, hB⟩ hK
    gi_wp2
    have hK' := (KeepsOthers.setCell W ⟨w.heap.size, 0, none⟩ (.bool true)).same D _ hK rfl
    refine ⟨by simp, .inl ⟨_, _, rfl, run_takeDeferred hK', ?_⟩⟩
    have hc5 := cell_kept (World.cell?_setCell_same' W ⟨w.heap.size, 0, none⟩ (.bool true) (by rw [hcr]; rfl)) (grownBy_putObj' _ D (.deferred none)) (fun r e => by cases e; exact ⟨_, hK', rfl⟩)
    have hs : sureF vt c = true := by
      unfold sureF
      rw [List.all_eq_true]
      intro i hi
      exact decide_eq_true (hne i (by simpa using hi))
    refine ⟨.bool true, ?_, by rw [hs], .of_below ((hB.setCell (p := ⟨w.heap.size, 0, none⟩) (Nat.le_refl _) _).trans (belowK_b (w := w) (Nat.le_refl _) _ D _ _ (by omega) hK' rfl rfl))⟩
    simp [results, Try.f144, go_sem, hc5]
  case stop =>
    rintro D cd pre W hD hpre ⟨⟨rfl, ⟨j, hj, hn⟩, hcr⟩, hB⟩ hK
    gi_wp2
    refine ⟨by simp, .inl ⟨_, _, rfl, run_takeDeferred hK, ?_⟩⟩
    have hc5 := cell_kept hcr (grownBy_putObj' _ D (.deferred none)) (fun r e => by cases e; exact ⟨_, hK, rfl⟩)
    have hs : sureF vt c = false := by
      unfold sureF
      rw [List.all_eq_false]
      have := hpre.subset hj
      exact ⟨j, by simpa using this, by simpa using hn⟩
    refine ⟨.bool false, ?_, by rw [hs], .of_below (hB.trans (belowK_b (w := w) (Nat.le_refl _) W D _ _ (by omega) hK rfl rfl))⟩
    simp [results, Try.f144, go_sem, hc5]

set_option linter.unusedVariables false
open Go.RowKit Go.Shelf
attribute [local go_sem] Oper.semAt_some

theorem Grew.grownBy {w w' : World} (g : Grew w w') : w.grownBy w' none := by
  obtain ⟨h1, h2, h3, h4, h5⟩ := g.below
  exact ⟨h1, h2, h3, h4, fun k hk _ => h5 k hk⟩
theorem Grew.others {w w' : World} (g : Grew w w') : KeepsOthers w w' := KeepsOthers.of_grownBy g.grownBy (fun _ _ e => by cases e)
theorem Grew.frozen {w w' : World} (g : Grew w w') {a : Addr} {v : Value} (h : w.cell? a = some v) (hf : w.frozen? a = false) : w'.frozen? a = false := (frozen_kept h g.grownBy (fun r e => by cases e)).trans hf

/-- How much of a chain is final, if it is sure. -/
def finN (c : List It) : Nat := ((List.range c.length).reverse.find? (fun j => endsB (c.take (j + 1)))).getD 0
theorem find_first {α : Type} {p : α → Bool} {xs pre : List α} {x : α} (h : pre ++ [x] <+: xs) (h1 : ∀ j ∈ pre, p j = false) (h2 : p x = true) : xs.find? p = some x := by
  obtain ⟨t, rfl⟩ := h
  have h3 : pre.find? p = none := by rw [List.find?_eq_none]; intro j hj; rw [h1 j hj]; decide
  simp [List.find?_append, h3, h2]

set_option maxRecDepth 100000 in
set_option maxHeartbeats 2000000 in
theorem finalSize_any {w : World} {base n : Nat} {M : List It → Prop} {vt pos : List It → Nat} {kv : List It → Value} {kd : List It → List It} {tb : Nat} {cv : Value} {L : List (List It)}
    (h : TreeF w base n M vt pos kv kd tb cv L) (c : List It) (hc : M c) (hl : c.length ≤ 1048576) :
    Calls Try.prog 113 #[ptr (pos c)] w fun r w' => r = .returned (.int .i64 (finN c)) ∧ Grew w w' := by
  have hP := h.path hc
  have hE : ∀ W x, Below w.heap.size w W → Hid (Calls Try.prog 145 #[ptr (pos (c.take (x + 1)))] W fun r w' => r = .returned (.bool (endsB (c.take (x + 1)))) ∧ Grew W w') :=
    fun W x g => endsRow_any (h.grew (.of_below g)) _ (h.take hc (x + 1)) (by simp; omega)
  clear h hc
  refine (callsIn_wide (n := 3)).1 ?_
  unfold ptr
  refine callsIn_of_wp_marks Try.func113 rfl trivial ?_ rfl
  simp only [Try.ntmps113, List.size_toArray, List.length_cons, List.length_nil, Nat.reduceAdd, Nat.reduceSub, Array.replicate_succ, Array.replicate_zero, List.push_toArray, List.append_toArray, List.nil_append, List.cons_append]
  gi_wp2_with (refine ⟨trivial, ?_⟩; gi_at_call 114; refine (callsIn_wide.2 (upward_any _ _)).mono ?_; rintro e w' ⟨rfl, rfl⟩)
  obtain ⟨W1, hW1⟩ : ∃ W1, Hid (W1 = (w.alloc (.cells #[.int .i64 0] 3)).alloc (.cells #[ptr (pos c)] 95)) := ⟨_, hide rfl⟩
  rw [← hW1.out]
  have c0 := cellNew w (.int .i64 0) 3
  have c1 := cellNew (w.alloc (.cells #[.int .i64 0] 3)) (ptr (pos c)) 95
  simp only [World.size_alloc] at c1
  have k0 := cellOld (.cells #[ptr (pos c)] 95) c0.1
  have k0f := frozenOld (.cells #[ptr (pos c)] 95) c0.1 c0.2
  have hsz : W1.heap.size = w.heap.size + 1 + 1 := by rw [hW1.out]; simp
  have hB0 : Below w.heap.size w W1 := by rw [hW1.out]; exact ((Below.refl _ w).alloc (Nat.le_refl _) _).alloc (by simp) _
  rw [← hW1.out] at c1 k0 k0f
  clear c0
  refine wpIn_rangeFunc_ownF rfl (by omega) (gf := 146) (lb := #[ptr (w.heap.size + 1)]) rfl trivial (enters_of Try.func146 (by kernel_rfl) rfl)
    (up_stops 2 (by omega) (w.heap.size + 1) w.heap.size c hl W1 (by omega) (by omega) c1.1 (hP.below hB0)) belowK_t (belowK_b (by omega)) (Below.refl _ _) (fun _ => rfl)
    (fun pre W => ((∀ j ∈ pre, endsB (c.take (j + 1)) = false) ∧ W.cell? ⟨w.heap.size, 0, none⟩ = some (.int .i64 0) ∧ W.frozen? ⟨w.heap.size, 0, none⟩ = false) ∧ Below w.heap.size w W)
    (fun cd pre W => (cd = .ret ∧ (∃ pre' x, pre = pre' ++ [x] ∧ (∀ j ∈ pre', endsB (c.take (j + 1)) = false) ∧ endsB (c.take (x + 1)) = true ∧ W.cell? ⟨w.heap.size, 0, none⟩ = some (.int .i64 (wrap64 (((c.take (x + 1)).length : Int) - 1))))) ∧ Below w.heap.size w W)
    (OwnFrom.and (Own.from (fun s A B row hs hg hr => ⟨hs.1, cell_kept hs.2.1 hg hr, (frozen_kept hs.2.1 hg hr).trans hs.2.2⟩) _) (ownFrom_below (Nat.le_refl _) (by omega)))
    (fun cd => OwnFrom.and (Own.from (fun s A B row hs hg hr => by
      obtain ⟨h1, p', x, h2, h3, h4, h5⟩ := hs
      exact ⟨h1, p', x, h2, h3, h4, cell_kept h5 hg hr⟩) _) (ownFrom_below (Nat.le_refl _) (by omega)))
    ⟨⟨by simp, k0, k0f⟩, hB0⟩
    (fun x => { tmps := #[.pointer (some ⟨pos c, 0, none⟩), undef, .pointer (some ⟨w.heap.size, 0, none⟩), ptr (pos (c.take (x + 1))), .pointer (some ⟨pos c, 0, none⟩), .func (.func 146) #[] #[ptr (w.heap.size + 1)], ptr (pos (c.take (x + 1))), undef, undef, undef, undef, undef, undef, undef], defers := [] }) ?assign ?body ?done ?stop
  case assign =>
    intro l x W K hK
    gi_wp2
    exact hK
  case body =>
    rintro l pre x W ⟨⟨hp, hcr, hfr⟩, hB⟩ _
    have hE' := hE W x hB
    obtain ⟨_, _, c5, _⟩ := brO_cells ((hP.below hB).blk (x + 1))
    have hlt := (hP.below hB).lt (x + 1)
    unfold ptr at hE' ⊢
    obtain ⟨f1, hf1⟩ : ∃ f1, Hid (f1 = endsB (c.take (x + 1))) := ⟨_, hide rfl⟩
    rw [← hf1.out] at hE'
    obtain ⟨N, hN⟩ : ∃ N, Hid (N = (c.take (x + 1)).length) := ⟨_, hide rfl⟩
    rw [← hN.out] at c5
    obtain ⟨P, hPP⟩ : ∃ P, Hid (P = pos (c.take (x + 1))) := ⟨_, hide rfl⟩
    rw [← hPP.out] at c5 hE' hlt ⊢
    cases f1 with
    | true =>
      gi_wp2_with (refine ⟨trivial, ?_⟩; gi_at_call 145; refine (CallsIn.inRound l (callsIn_wide.2 hE'.out)).mono ?_; rintro r w2 ⟨rfl, g2⟩; have hcr2 := g2.keep hcr; have hfr2 := g2.frozen hcr hfr; have c52 := g2.keep c5)
      have hB2 : Below w.heap.size w w2 := hB.trans (g2.below.mono hB.size)
      refine ⟨g2.others.trans (KeepsOthers.setCell _ _ _), ⟨rfl, pre, x, rfl, hp, hf1.out.symm, ?_⟩, hB2.setCell (p := ⟨w.heap.size, 0, none⟩) (Nat.le_refl _) _⟩
      rw [← hN.out]
      exact World.cell?_setCell_same' _ _ _ (by rw [hcr2]; rfl)
    | false =>
      gi_wp2_with (refine ⟨trivial, ?_⟩; gi_at_call 145; refine (CallsIn.inRound l (callsIn_wide.2 hE'.out)).mono ?_; rintro r w2 ⟨rfl, g2⟩; have hcr2 := g2.keep hcr; have hfr2 := g2.frozen hcr hfr; have c52 := g2.keep c5)
      have hB2 : Below w.heap.size w w2 := hB.trans (g2.below.mono hB.size)
      exact ⟨g2.others, g2.below.mono hB.size, ⟨fun y hy => (List.mem_append.1 hy).elim (hp y) (fun e => by simp at e; subst e; exact hf1.out.symm), hcr2, hfr2⟩, hB2⟩
  case done =>
    rintro D ys W hD rfl ⟨⟨hne, hcr, hfr⟩, hB⟩ hK
    gi_wp2
    have hK' := (KeepsOthers.setCell W ⟨w.heap.size, 0, none⟩ (.int .i64 0)).same D _ hK rfl
    refine ⟨by simp, .inl ⟨_, _, rfl, run_takeDeferred hK', ?_⟩⟩
    have hc5 := cell_kept (World.cell?_setCell_same' W ⟨w.heap.size, 0, none⟩ (.int .i64 0) (by rw [hcr]; rfl)) (grownBy_putObj' _ D (.deferred none)) (fun r e => by cases e; exact ⟨_, hK', rfl⟩)
    have hs : finN c = 0 := by
      unfold finN
      have : (List.range c.length).reverse.find? (fun j => endsB (c.take (j + 1))) = none := by
        rw [List.find?_eq_none]; intro j hj; rw [hne j hj]; decide
      rw [this]; rfl
    refine ⟨.int .i64 0, ?_, by rw [hs]; rfl, .of_below ((hB.setCell (p := ⟨w.heap.size, 0, none⟩) (Nat.le_refl _) _).trans (belowK_b (w := w) (Nat.le_refl _) _ D _ _ (by omega) hK' rfl rfl))⟩
    simp [results, Try.f113, go_sem, hc5]
  case stop =>
    rintro D cd pre W hD hpre ⟨⟨rfl, p', x, rfl, hp, hx, hcr⟩, hB⟩ hK
    gi_wp2
    refine ⟨by simp, .inl ⟨_, _, rfl, run_takeDeferred hK, ?_⟩⟩
    have hc5 := cell_kept hcr (grownBy_putObj' _ D (.deferred none)) (fun r e => by cases e; exact ⟨_, hK, rfl⟩)
    have hxl : x < c.length := by have := hpre.subset (List.mem_append.2 (.inr (List.mem_singleton.2 rfl))); simpa using this
    have hs : finN c = x := by
      unfold finN
      rw [find_first (p := fun j => endsB (c.take (j + 1))) hpre hp hx]; rfl
    have hv : wrap64 (((c.take (x + 1)).length : Int) - 1) = (x : Int) := by
      rw [List.length_take, Nat.min_eq_left (by omega), show ((x + 1 : Nat) : Int) - 1 = (x : Int) by omega]
      unfold wrap64; omega
    rw [hv] at hc5
    refine ⟨.int .i64 x, ?_, by rw [hs], .of_below (hB.trans (belowK_b (w := w) (Nat.le_refl _) W D _ _ (by omega) hK rfl rfl))⟩
    simp [results, Try.f113, go_sem, hc5]
end Go.Proofs.Ytjbnohepbmejkaa
