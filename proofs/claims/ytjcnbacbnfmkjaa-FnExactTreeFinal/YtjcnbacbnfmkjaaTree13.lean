/-
  The iterator that goes through all sure chains of a tree.
-/
import Derived.RangeFuncNested
import Derived.RangeFuncBound
import Derived.RangeFuncCalls
import Derived.RangeFuncLeaves
import Derived.Shelf.Abstract
import Derived.Shelf.RegionOpen
import Derived.WalkKit
import Derived.OwnWalkIn
import Derived.TacticsInMore
import Derived.LoopNIn
import Derived.LoopIn
import Derived.Test.YtjcnbacbnfmkjaaTreeB
namespace Go.Proofs.Ytjcnbacbnfmkjaa
set_option linter.unusedVariables false
open Go.RowKit Go.Shelf
attribute [local go_sem] Oper.semAt_some

/-- Those of the chains listed that are sure, by their places. -/
def sureIx (vt : List It → Nat) (L : List (List It)) (k : Nat) : List Nat := (List.range k).filter (fun i => sureF vt (L.getD i []))
theorem sureIx_zero (vt : List It → Nat) (L : List (List It)) : sureIx vt L 0 = [] := rfl
theorem sureIx_yes {vt : List It → Nat} {L : List (List It)} {k : Nat} (h : sureF vt (L.getD k []) = true) : sureIx vt L (k + 1) = sureIx vt L k ++ [k] := by
  unfold sureIx; rw [List.range_succ, List.filter_append]; simp only [List.filter_cons, h, List.filter_nil, if_true]
theorem sureIx_no {vt : List It → Nat} {L : List (List It)} {k : Nat} (h : sureF vt (L.getD k []) = false) : sureIx vt L (k + 1) = sureIx vt L k := by
  unfold sureIx; rw [List.range_succ, List.filter_append]; simp [h, -List.getD_eq_getElem?_getD]
theorem sureIx_len (vt : List It → Nat) (L : List (List It)) (k : Nat) : (sureIx vt L k).length ≤ k := by
  unfold sureIx
  have := List.length_filter_le (fun i => sureF vt (L.getD i [])) (List.range k)
  simpa using this
theorem sureIx_pre (vt : List It → Nat) (L : List (List It)) {k n : Nat} (h : k ≤ n) : sureIx vt L k <+: sureIx vt L n := by
  induction n with
  | zero => rw [show k = 0 by omega]; exact List.prefix_refl _
  | succ n ih =>
    by_cases e : k = n + 1
    · rw [e]; exact List.prefix_refl _
    · have := ih (by omega)
      cases hs : sureF vt (L.getD n []) with
      | true => rw [sureIx_yes hs]; exact this.trans (List.prefix_append _ _)
      | false => rw [sureIx_no hs]; exact this
theorem sureIx_map (vt : List It → Nat) (L : List (List It)) : (sureIx vt L L.length).map (fun i => L.getD i []) = L.filter (sureF vt) := by
  unfold sureIx
  have e : (List.range L.length).map (fun i => L.getD i []) = L := by
    apply List.ext_getElem
    · simp
    · intro i h1 h2
      simp at h1
      simp [h2]
  have h : ∀ (l : List Nat), (l.filter (fun i => sureF vt (L.getD i []))).map (fun i => L.getD i []) = (l.map (fun i => L.getD i [])).filter (sureF vt) := by
    intro l
    rw [List.filter_map]
    rfl
  rw [h, e]
theorem getD_mem {L : List (List It)} {r : List (List It)} (h : L = [] :: r) (i : Nat) : L.getD i [] ∈ L := by
  rw [List.getD_eq_getElem?_getD]
  by_cases hi : i < L.length
  · rw [List.getElem?_eq_getElem hi]; exact List.getElem_mem hi
  · rw [List.getElem?_eq_none (by omega), h]; exact List.mem_cons_self

set_option maxRecDepth 100000 in
set_option maxHeartbeats 4000000 in
theorem sureIt_in (n : Nat) (hn : 1 ≤ n) (l Bn : Nat) {w0 : World} {base m : Nat} {M : List It → Prop} {vt pos : List It → Nat} {kv : List It → Value} {kd : List It → List It} {tb : Nat} {cv : Value} {L r : List (List It)}
    (h : TreeF w0 base m M vt pos kv kd tb cv L) (hL : L = [] :: r) (hlen : L.length ≤ 1073741824) (hs : ∀ c ∈ L, c.length ≤ 1048576) (J Jx : List Nat → World → Prop)
    (W : World) (hJ : AbidesFrom W.heap.size J) (hY : ∀ pre (x : Nat) W, J pre W → pre.length < L.length → YieldAt Fence.wide (n - 1) Try.prog l #[ptr (pos (L.getD x []))] W fun e W' =>
      (e = .returned (.bool true) ∧ J (pre ++ [x]) W' ∧ Below w0.heap.size W W') ∨ (e = .returned (.bool false) ∧ Jx (pre ++ [x]) W'))
    (hBn : W.cell? ⟨Bn, 0, none⟩ = some (ptr tb)) (hP : Below w0.heap.size w0 W) (h0 : J [] W) :
    CallsIn Fence.wide n Try.prog 81 #[.func (.yield l) #[] #[], ptr Bn] W fun e W' => (∃ v, e = .returned v) ∧
      ((∃ ys, ys = sureIx vt L L.length ∧ J ys W') ∨ (∃ pre, pre <+: sureIx vt L L.length ∧ Jx pre W')) := by
  have hTW := h.grew (.of_below hP)
  obtain ⟨g, cap, hcv, hrow⟩ : ∃ g cap, Hid (cv = .slice (some ⟨g, 0, none⟩) L.length cap) ∧ Hid (∀ i (hi : i < L.length), g < w0.heap.size ∧ w0.cell? ⟨g, i, none⟩ = some (ptr (pos (L.getD i [])))) := by
    rcases ownsRow_at h.trow with ⟨h1, _⟩ | ⟨g, cap, hv, hx⟩
    · rw [hL] at h1; simp at h1
    · refine ⟨g, cap, hide hv, hide (fun i hi => ?_)⟩
      have hc := hx i (by simpa using hi)
      refine ⟨World.block_lt_of_cell? _ _ hc, ?_⟩
      rw [hc, List.getElem_map, List.getD_eq_getElem?_getD, List.getElem?_eq_getElem hi]
      rfl
  have t0 : W.cell? ⟨tb, 0, none⟩ = some (.slice (some ⟨g, 0, none⟩) L.length cap) := by rw [← hcv.out]; simp [World.cell?, hTW.tblk]
  have hX : ∀ wr k, Below w0.heap.size w0 wr → Hid (Calls Try.prog 82 #[.pointer (some ⟨pos (L.getD k []), 0, none⟩)] wr fun r w' => r = .returned (.bool (sureF vt (L.getD k []))) ∧ Grew wr w') :=
    fun wr k g => hide (sure_any (h.grew (.of_below g)) _ (h.mem _ (getD_mem hL k)) (hs _ (getD_mem hL k)))
  clear hTW h hL hs
  unfold ptr at hBn hY hrow ⊢
  refine callsIn_of_wp Try.func81 rfl trivial ?_ rfl
  simp only [Try.ntmps81, List.size_toArray, List.length_cons, List.length_nil, Nat.reduceAdd, Nat.reduceSub, Array.replicate_succ, Array.replicate_zero, List.push_toArray, List.append_toArray, List.nil_append, List.cons_append]
  gi_wp2
  gi_loopw [10] (fun i wr => ∃ k : Nat, k ≤ L.length ∧ i = .int .i64 k ∧ Below w0.heap.size w0 wr ∧ W.heap.size ≤ wr.heap.size ∧ J (sureIx vt L k) wr)
    (fun i _ => L.length - (intOf i).toNat)
  case atStart => exact ⟨0, Nat.zero_le _, rfl, hP, Nat.le_refl _, h0⟩
  case round =>
    obtain ⟨k, hk, rfl, hB, hsz, hJs⟩ := hrel
    by_cases hlt : k < L.length
    · obtain ⟨hgl, hcell⟩ := hrow.out k hlt
      have hcw := (hB.cell (p := ⟨g, k, none⟩) hgl).trans hcell
      clear hcell
      have hX' := hX wr k hB
      have hYk := hide (fun w2 => hY (sureIx vt L k) k w2)
      have hln := sureIx_len vt L k
      obtain ⟨P, hPP⟩ : ∃ P, Hid (P = pos (L.getD k [])) := ⟨_, hide rfl⟩
      rw [← hPP.out] at hcw hX' hYk
      cases hsu : sureF vt (L.getD k []) with
      | false =>
        rw [hsu] at hX'
        have HN := hide (sureIx_no hsu)
        clear hsu
        gi_wp2_with (refine ⟨trivial, ?_⟩; gi_at_call 82; refine (callsIn_wide.2 hX'.out).mono ?_; rintro r w2 ⟨rfl, g2⟩)
        refine ⟨fun _ h => (by cases h), ?_⟩
        have hB2 : Below w0.heap.size w0 w2 := hB.trans (g2.below.mono hB.size)
        have hJ2 := hJ _ _ _ none hJs g2.grownBy (fun r e => by cases e)
        gi_wp2
        go_roundw
        case rel => exact ⟨k + 1, by omega, by go_num, hB2, Nat.le_trans hsz g2.size, by rw [HN.out]; exact hJ2⟩
        case measure => simp [intOf]; omega
      | true =>
        rw [hsu] at hX'
        have HN := hide (sureIx_yes hsu)
        clear hsu
        gi_wp2_with (refine ⟨trivial, ?_⟩; gi_at_call 82; refine (callsIn_wide.2 hX'.out).mono ?_; rintro r w2 ⟨rfl, g2⟩; obtain ⟨fn, tmps, assign, body, hy, hR⟩ := hYk.out w2 (hJ _ _ _ none hJs g2.grownBy (fun r e => by cases e)) (by omega))
        refine hR.mono ?_
        have hB2 : Below w0.heap.size w0 w2 := hB.trans (g2.below.mono hB.size)
        rw [← HN.out]
        rintro e W3 (⟨rfl, hJ3, hk3⟩ | ⟨rfl, hJx3⟩)
        · gi_wp2
          go_roundw
          case rel => exact ⟨k + 1, by omega, by go_num, hB2.trans hk3, Nat.le_trans hsz (Nat.le_trans g2.size hk3.size), hJ3⟩
          case measure => simp [intOf]; omega
        · gi_wp2
          refine bodyPost_ret (results_none rfl _ _ _) rfl ?_
          exact ⟨⟨_, rfl⟩, .inr ⟨_, sureIx_pre vt L (by omega), hJx3⟩⟩
    · have hkl : k = L.length := by omega
      have hle : (L.length : Int) ≤ (k : Int) := by omega
      rw [hkl] at hJs
      clear hkl
      gi_wp2
      go_end0
      exact ⟨⟨_, rfl⟩, .inl ⟨_, rfl, hJs⟩⟩

set_option maxHeartbeats 1000000 in
theorem treeSures_any (p : Nat) (w : World) :
    Calls Try.prog 55 #[ptr p] w fun e w' => e = .returned (.func (.func 81) #[] #[ptr w.heap.size]) ∧ w' = w.alloc (.cells #[ptr p] 70) := by
  unfold ptr
  go_enter Try.func55, Try.ntmps55
  go_wp2
  go_ret
  exact ⟨rfl, rfl⟩

theorem sureIt_stops (n : Nat) (hn : 1 ≤ n) (Bn : Nat) {w0 : World} {base m : Nat} {M : List It → Prop} {vt pos : List It → Nat} {kv : List It → Value} {kd : List It → List It} {tb : Nat} {cv : Value} {L r : List (List It)}
    (h : TreeF w0 base m M vt pos kv kd tb cv L) (hL : L = [] :: r) (hlen : L.length ≤ 1073741824) (hs : ∀ c ∈ L, c.length ≤ 1048576) (w : World) (hBn : Bn < w.heap.size)
    (hc : w.cell? ⟨Bn, 0, none⟩ = some (ptr tb)) (hB : Below w0.heap.size w0 w) :
    SeqStopsK Fence.wide n Try.prog 81 #[ptr Bn] (fun x : Nat => #[ptr (pos (L.getD x []))]) (Below w0.heap.size) (fun ys => ys = sureIx vt L L.length) (fun pre => pre <+: sureIx vt L L.length) L.length w :=
  fun l J Jx W hW hJ _ hY h0 => sureIt_in n hn l Bn h hL hlen hs J Jx W hJ hY ((hW.cell (p := ⟨Bn, 0, none⟩) hBn).trans hc) (hB.trans (hW.mono hB.size)) h0
end Go.Proofs.Ytjcnbacbnfmkjaa
