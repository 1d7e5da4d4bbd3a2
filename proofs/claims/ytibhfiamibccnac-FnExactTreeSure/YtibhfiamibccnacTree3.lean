/-
  The iterator that goes up from a branch, and who goes by it: sure, finalSize.
-/
import Derived.RangeFuncNested
import Derived.RangeFuncBound
import Derived.RangeFuncCalls
import Derived.RangeFuncLeaves
import Derived.Shelf.Abstract
import Derived.Shelf.RegionOpen
import Derived.WalkKit
import Derived.OwnWalkIn
import Derived.TacticsInMore
import Derived.LoopNIn
import Derived.LoopIn
import Derived.Test.YtibhfiamibccnacTree2
namespace Go.Proofs.Ytibhfiamibccnac
set_option linter.unusedVariables false
open Go.RowKit Go.Shelf
attribute [local go_sem] Oper.semAt_some

/-- What has come when k are still to come. -/
def downTo (n k : Nat) : List Nat := ((List.range n).reverse).take (n - k)
theorem downTo_top (n : Nat) : downTo n n = [] := by simp [downTo]
theorem downTo_all (n : Nat) : downTo n 0 = (List.range n).reverse := by
  unfold downTo; rw [List.take_of_length_le (by simp)]
theorem downTo_step (n k : Nat) (h : k < n) : downTo n k = downTo n (k + 1) ++ [k] := by
  unfold downTo
  have e : n - k = (n - (k + 1)) + 1 := by omega
  rw [e, List.take_succ_eq_append_getElem (by simp; omega)]
  congr 1
  simp
  omega
theorem downTo_prefix (n k : Nat) : downTo n k <+: (List.range n).reverse := List.take_prefix _ _
theorem downTo_length (n k : Nat) (h : k ≤ n) : (downTo n k).length = n - k := by simp [downTo]

/-- A path in the tree: all that is ahead of a branch, in blocks below n₀. -/
structure Path (W : World) (n₀ : Nat) (vt pos : List It → Nat) (kv : List It → Value) (c : List It) : Prop where
  lt : ∀ k, pos (c.take k) < n₀
  blk : ∀ k, W.heap[pos (c.take k)]? = some (brO (aheadP pos (c.take k)) (lastI (c.take k)) (c.take k).length (vt (c.take k)) (kv (c.take k)))
theorem Path.below {W W' : World} {n₀ : Nat} {vt pos : List It → Nat} {kv : List It → Value} {c : List It} (h : Path W n₀ vt pos kv c) (g : Below n₀ W W') : Path W' n₀ vt pos kv c :=
  ⟨h.lt, fun k => by rw [g.block _ (h.lt k)]; exact h.blk k⟩
theorem TreeF.take {w : World} {base n : Nat} {M : List It → Prop} {vt pos : List It → Nat} {kv : List It → Value} {kd : List It → List It} {tb : Nat} {cv : Value} {L : List (List It)}
    (h : TreeF w base n M vt pos kv kd tb cv L) {c : List It} (hc : M c) (k : Nat) : M (c.take k) := by
  by_cases hk : c.length ≤ k
  · rw [List.take_of_length_le hk]; exact hc
  · obtain ⟨m, hm⟩ : ∃ m, m = c.length - k := ⟨_, rfl⟩
    induction m generalizing k with
    | zero => omega
    | succ m ih =>
      have h1 : M (c.take (k + 1)) := by
        by_cases h2 : c.length ≤ k + 1
        · rw [List.take_of_length_le h2]; exact hc
        · exact ih (k + 1) h2 (by omega)
      rw [List.take_succ_eq_append_getElem (by omega)] at h1
      exact (h.up _ _ h1).1
theorem TreeF.path {w : World} {base n : Nat} {M : List It → Prop} {vt pos : List It → Nat} {kv : List It → Value} {kd : List It → List It} {tb : Nat} {cv : Value} {L : List (List It)}
    (h : TreeF w base n M vt pos kv kd tb cv L) {c : List It} (hc : M c) : Path w w.heap.size vt pos kv c :=
  ⟨fun k => (Array.getElem?_eq_some_iff.1 (h.blk _ (h.take hc k))).1, fun k => h.blk _ (h.take hc k)⟩

def sizeAt (p : Value) (w : World) : Nat :=
  match p with
  | .pointer (some a) => (match w.cell? ⟨a.block, 5, none⟩ with | some v => (intOf v).toNat | none => 0)
  | _ => 0

set_option maxRecDepth 100000 in
set_option maxHeartbeats 2000000 in
theorem up1_in (n : Nat) (hn : 1 ≤ n) (l Bn n₀ : Nat) {vt pos : List It → Nat} {kv : List It → Value} (c : List It) (hl : c.length ≤ 1048576) (J Jx : List Nat → World → Prop)
    (hY : ∀ pre (x : Nat) W, J pre W → pre.length < c.length → YieldAt Fence.wide (n - 1) Try.prog l #[ptr (pos (c.take (x + 1)))] W fun e W' =>
      (e = .returned (.bool true) ∧ J (pre ++ [x]) W' ∧ Below n₀ W W') ∨ (e = .returned (.bool false) ∧ Jx (pre ++ [x]) W'))
    (W : World) (hBn : W.cell? ⟨Bn, 0, none⟩ = some (ptr (pos c))) (hP : Path W n₀ vt pos kv c) (h0 : J [] W) :
    CallsIn Fence.wide n Try.prog 81 #[.func (.yield l) #[] #[], ptr Bn] W fun e W' => (∃ v, e = .returned v) ∧
      ((∃ ys, ys = (List.range c.length).reverse ∧ J ys W') ∨ (∃ pre, pre <+: (List.range c.length).reverse ∧ Jx pre W')) := by
  unfold ptr at hBn hY ⊢
  refine callsIn_of_wp Try.func81 rfl trivial ?_ rfl
  simp only [Try.ntmps81, List.size_toArray, List.length_cons, List.length_nil, Nat.reduceAdd, Nat.reduceSub, Array.replicate_succ, Array.replicate_zero, List.push_toArray, List.append_toArray, List.nil_append, List.cons_append]
  gi_wp2
  gi_loopw [3] (fun p wr => ∃ k : Nat, k ≤ c.length ∧ p = .pointer (some ⟨pos (c.take k), 0, none⟩) ∧ Path wr n₀ vt pos kv c ∧ J (downTo c.length k) wr)
    (fun p wr => sizeAt p wr)
  case atStart =>
    exact ⟨c.length, Nat.le_refl _, by rw [List.take_length], hP, by rw [downTo_top]; exact h0⟩
  case round =>
    obtain ⟨k, hk, rfl, hp, hJs⟩ := hrel
    cases k with
    | zero =>
      obtain ⟨c0, _⟩ := brO_cells (hp.blk 0)
      rw [List.take_zero, aheadP_nil] at c0
      rw [List.take_zero]
      have hJs' : Hid (J (List.range c.length).reverse wr) := by rw [← downTo_all]; exact hJs
      clear hJs
      gi_wp2
      go_end0
      exact ⟨⟨_, rfl⟩, .inl ⟨_, rfl, hJs'.out⟩⟩
    | succ k =>
      obtain ⟨c0, _, c5, _⟩ := brO_cells (hp.blk (k + 1))
      obtain ⟨_, _, d5, _⟩ := brO_cells (hp.blk k)
      have hlt := hp.lt (k + 1)
      have hlk := hp.lt k
      have ht : c.take (k + 1) = c.take k ++ [c[k]] := List.take_succ_eq_append_getElem (by omega)
      have hah : aheadP pos (c.take (k + 1)) = some ⟨pos (c.take k), 0, none⟩ := by rw [ht, aheadP_snoc]
      rw [hah] at c0
      obtain ⟨fn, tmps, assign, body, hy, hR⟩ := hY (downTo c.length (k + 1)) k wr hJs (by rw [downTo_length _ _ hk]; omega)
      rw [← downTo_step _ _ (by omega)] at hR
      have hz : Hid (sizeAt (.pointer (some ⟨pos (c.take (k + 1)), 0, none⟩)) wr = k + 1) := by
        show sizeAt _ _ = k + 1
        unfold sizeAt
        simp only [c5]
        simp [intOf]
        omega
      obtain ⟨P1, hP1⟩ : ∃ P1, Hid (P1 = pos (c.take (k + 1))) := ⟨_, hide rfl⟩
      obtain ⟨P0, hP0⟩ : ∃ P0, Hid (P0 = pos (c.take k)) := ⟨_, hide rfl⟩
      rw [← hP1.out] at c0 hy hlt hz ⊢
      rw [← hP0.out] at c0
      clear ht hah c5 hJs
      gi_wp2
      refine hR.mono ?_
      rintro e W3 (⟨rfl, hJ3, hk3⟩ | ⟨rfl, hJx3⟩)
      · have hq3 : W3.cell? ⟨P1, 0, none⟩ = some (.pointer (some ⟨P0, 0, none⟩)) := (hk3.cell (p := ⟨P1, 0, none⟩) hlt).trans c0
        have d53 : W3.cell? ⟨P0, 5, none⟩ = some (.int .i64 ((c.take k).length : Nat)) := by rw [hP0.out]; exact (hk3.cell (p := ⟨pos (c.take k), 5, none⟩) hlk).trans d5
        gi_wp2
        go_roundw
        case rel => exact ⟨k, by omega, by rw [hP0.out], hp.below hk3, hJ3⟩
        case measure =>
          rw [hz.out]
          unfold sizeAt
          simp only [d53]
          simp [intOf]
          omega
      · gi_wp2
        refine bodyPost_ret (results_none rfl _ _ _) rfl ?_
        exact ⟨⟨_, rfl⟩, .inr ⟨_, downTo_prefix _ _, hJx3⟩⟩

set_option maxHeartbeats 1000000 in
theorem upward_any (p : Nat) (w : World) :
    Calls Try.prog 61 #[ptr p] w fun e w' => e = .returned (.func (.func 81) #[] #[ptr w.heap.size]) ∧ w' = w.alloc (.cells #[ptr p] 58) := by
  unfold ptr
  go_enter Try.func61, Try.ntmps61
  go_wp2
  go_ret
  exact ⟨rfl, rfl⟩

theorem up_stops (n : Nat) (hn : 1 ≤ n) (Bn n₀ : Nat) {vt pos : List It → Nat} {kv : List It → Value} (c : List It) (hl : c.length ≤ 1048576) (w : World) (hBn : Bn < w.heap.size) (hn₀ : n₀ ≤ w.heap.size)
    (hc : w.cell? ⟨Bn, 0, none⟩ = some (ptr (pos c))) (hP : Path w n₀ vt pos kv c) :
    SeqStopsK Fence.wide n Try.prog 81 #[ptr Bn] (fun x : Nat => #[ptr (pos (c.take (x + 1)))]) (Below n₀) (fun ys => ys = (List.range c.length).reverse) (fun pre => pre <+: (List.range c.length).reverse) c.length w :=
  fun l J Jx W hW _ _ hY h0 => up1_in n hn l Bn n₀ c hl J Jx hY W ((hW.cell (p := ⟨Bn, 0, none⟩) hBn).trans hc) (hP.below (hW.mono hn₀)) h0
end Go.Proofs.Ytibhfiamibccnac
