/-
  The first of the sure chains of which most is final: mostFinal.
-/
import Derived.RangeFuncNested
import Derived.RangeFuncBound
import Derived.RangeFuncCalls
import Derived.RangeFuncLeaves
import Derived.Shelf.Abstract
import Derived.Shelf.RegionOpen
import Derived.WalkKit
import Derived.OwnWalkIn
import Derived.TacticsInMore
import Derived.LoopNIn
import Derived.LoopIn
import Derived.Deep.RegionHeld
import Derived.Test.YtjcnbacbnfmkjaaTree14
namespace Go.Proofs.Ytjcnbacbnfmkjaa
set_option linter.unusedVariables false
open Go.RowKit Go.Shelf
attribute [local go_sem] Oper.semAt_some
attribute [local simp] far_const

/-- Of which most is final, the first, and how much. -/
def mostF (cs : List (List It)) : List It × Nat := cs.foldl (fun t c => if t.2 < finN c then (c, finN c) else t) ([], 0)
theorem mostF_snoc (cs : List (List It)) (c : List It) : mostF (cs ++ [c]) = if (mostF cs).2 < finN c then (c, finN c) else mostF cs := by unfold mostF; rw [List.foldl_append]; rfl
theorem finN_lt (c : List It) : finN c ≤ c.length := by
  unfold finN
  cases h : (List.range c.length).reverse.find? (fun j => endsB (c.take (j + 1))) with
  | none => simp
  | some j =>
    have := List.mem_of_find?_eq_some h
    simp at this
    simp
    omega
theorem mostF_mem (cs : List (List It)) : (mostF cs).2 ≤ (mostF cs).1.length ∧ ((mostF cs).1 = [] ∨ (mostF cs).1 ∈ cs) := by
  obtain ⟨n, hn⟩ : ∃ n, cs.length = n := ⟨_, rfl⟩
  induction n generalizing cs with
  | zero => have := List.eq_nil_of_length_eq_zero hn; subst this; exact ⟨Nat.le_refl _, .inl rfl⟩
  | succ n ih =>
    rcases List.eq_nil_or_concat cs with rfl | ⟨m, x, rfl⟩
    · simp at hn
    rw [List.concat_eq_append] at hn ⊢
    rw [mostF_snoc]
    obtain ⟨h1, h2⟩ := ih m (by simp at hn; exact hn)
    split
    · exact ⟨finN_lt x, .inr (by simp)⟩
    · exact ⟨h1, h2.imp id (fun h => List.mem_append.2 (.inl h))⟩
theorem mostF_in {L r : List (List It)} (hL : L = [] :: r) (pre : List Nat) : (mostF (pre.map (fun i => L.getD i []))).1 ∈ L := by
  rcases (mostF_mem (pre.map (fun i => L.getD i []))).2 with h | h
  · rw [h, hL]; exact List.mem_cons_self
  · obtain ⟨i, _, e⟩ := List.mem_map.1 h
    rw [← e]; exact getD_mem hL i

set_option maxRecDepth 100000 in
set_option maxHeartbeats 4000000 in
theorem mostFinal_any {w : World} {base m : Nat} {M : List It → Prop} {vt pos : List It → Nat} {kv : List It → Value} {kd : List It → List It} {tb : Nat} {cv : Value} {L r : List (List It)}
    (h : TreeF w base m M vt pos kv kd tb cv L) (hL : L = [] :: r) (hlen : L.length ≤ 1073741824) (hs : ∀ c ∈ L, c.length ≤ 1048576) :
    Calls Try.prog 57 #[ptr tb] w fun r w' => r = .returned (.tuple #[ptr (pos (mostF (L.filter (sureF vt))).1), .int .i64 ((mostF (L.filter (sureF vt))).2 : Nat)]) ∧ Grew w w' := by
  have hN := hide (nothing_any (L := r) (hL ▸ h))
  have HT := hide h
  have HL := hide hL
  clear h hL
  unfold ptr at hN
  refine (callsIn_wide (n := 3)).1 ?_
  unfold ptr
  refine callsIn_of_wp_marks Try.func57 rfl trivial ?_ rfl
  simp only [Try.ntmps57, List.size_toArray, List.length_cons, List.length_nil, Nat.reduceAdd, Nat.reduceSub, Array.replicate_succ, Array.replicate_zero, List.push_toArray, List.append_toArray, List.nil_append, List.cons_append]
  gi_wp2_with (first | (refine ⟨trivial, ?_⟩; gi_at_call 75; refine (callsIn_wide.2 hN.out).mono ?_; rintro e w1 ⟨rfl, g1⟩) | (refine ⟨trivial, ?_⟩; gi_at_call 55; refine (callsIn_wide.2 (treeSures_any _ _)).mono ?_; rintro e w' ⟨rfl, rfl⟩))
  have h1 := (unhide HT).grew g1
  obtain ⟨W1, hW1⟩ : ∃ W1, Hid (W1 = ((w1.alloc (.cells #[.pointer (some ⟨pos [], 0, none⟩)] 73)).alloc (.cells #[.int .i64 0] 3)).alloc (.cells #[ptr tb] 70)) := ⟨_, hide rfl⟩
  rw [← hW1.out]
  have c0 := cellNew w1 (.pointer (some ⟨pos [], 0, none⟩)) 73
  have c1 := cellNew (w1.alloc (.cells #[.pointer (some ⟨pos [], 0, none⟩)] 73)) (.int .i64 0) 3
  have c2 := cellNew ((w1.alloc (.cells #[.pointer (some ⟨pos [], 0, none⟩)] 73)).alloc (.cells #[.int .i64 0] 3)) (ptr tb) 70
  simp only [World.size_alloc] at c1 c2
  have k0 := cellOld (.cells #[ptr tb] 70) (cellOld (.cells #[.int .i64 0] 3) c0.1)
  have k0f := frozenOld (.cells #[ptr tb] 70) (cellOld (.cells #[.int .i64 0] 3) c0.1) (frozenOld (.cells #[.int .i64 0] 3) c0.1 c0.2)
  have k1 := cellOld (.cells #[ptr tb] 70) c1.1
  have k1f := frozenOld (.cells #[ptr tb] 70) c1.1 c1.2
  have hsz : W1.heap.size = w1.heap.size + 1 + 1 + 1 := by rw [hW1.out]; simp
  have hB0 : Below w1.heap.size w1 W1 := by rw [hW1.out]; exact ((((Grew.refl w1).alloc _).alloc _).alloc _).below
  rw [← hW1.out] at c2 k0 k0f k1 k1f
  clear c0 c1
  have hmem : ∀ i, M (L.getD i []) := fun i => h1.mem _ (getD_mem HL.out i)
  have hsi : ∀ i, (L.getD i []).length ≤ 1048576 := fun i => hs _ (getD_mem HL.out i)
  have hst : ∀ pre : List Nat, (mostF (pre.map (fun i => L.getD i []))).2 ≤ 1048576 := fun pre => Nat.le_trans (mostF_mem _).1 (hs _ (mostF_in HL.out pre))
  refine wpIn_rangeFunc_ownF rfl (by omega) (gf := 81) (lb := #[ptr (w1.heap.size + 1 + 1)]) rfl trivial (enters_of Try.func81 (by kernel_rfl) rfl)
    (sureIt_stops 2 (by omega) (w1.heap.size + 1 + 1) h1 HL.out hlen hs W1 (by omega) c2.1 hB0) belowK_t (belowK_b (by omega)) (Below.refl _ _) (fun _ => rfl)
    (fun pre W => (W.cell? ⟨w1.heap.size, 0, none⟩ = some (ptr (pos (mostF (pre.map (fun i => L.getD i []))).1)) ∧ W.frozen? ⟨w1.heap.size, 0, none⟩ = false ∧ W.cell? ⟨w1.heap.size + 1, 0, none⟩ = some (.int .i64 ((mostF (pre.map (fun i => L.getD i []))).2 : Nat)) ∧ W.frozen? ⟨w1.heap.size + 1, 0, none⟩ = false) ∧ Below w1.heap.size w1 W)
    (fun _ _ _ => False)
    (OwnFrom.and (Own.from (fun s A B row hs hg hr => ⟨cell_kept hs.1 hg hr, (frozen_kept hs.1 hg hr).trans hs.2.1, cell_kept hs.2.2.1 hg hr, (frozen_kept hs.2.2.1 hg hr).trans hs.2.2.2⟩) _) (ownFrom_below (Nat.le_refl _) (by omega)))
    (fun cd => (fun _ _ _ _ hs _ _ => hs))
    ⟨⟨k0, k0f, k1, k1f⟩, hB0⟩
    (fun x => { tmps := #[.pointer (some ⟨tb, 0, none⟩), undef, .pointer none, .int .i64 0, .pointer (some ⟨w1.heap.size, 0, none⟩), .pointer (some ⟨w1.heap.size + 1, 0, none⟩), ptr (pos (L.getD x [])), undef, .pointer (some ⟨tb, 0, none⟩), .pointer (some ⟨pos [], 0, none⟩), .pointer (some ⟨tb, 0, none⟩), .func (.func 81) #[] #[ptr (w1.heap.size + 1 + 1)], ptr (pos (L.getD x [])), undef, undef, undef, undef, undef, undef, undef, undef, undef], defers := [] }) ?assign ?body ?done ?stop
  case assign =>
    intro l x W K hK
    gi_wp2
    exact hK
  case body =>
    rintro l pre x W ⟨⟨hc0, hf0, hc1, hf1⟩, hB⟩ _
    have hE := hide (finalSize_any (h1.grew (.of_below hB)) _ (hmem x) (hsi x))
    have ls := hst pre
    have li := finN_lt (L.getD x [])
    have lj := hsi x
    have hstep := mostF_snoc (pre.map (fun i => L.getD i [])) (L.getD x [])
    have hmap : (pre ++ [x]).map (fun i => L.getD i []) = pre.map (fun i => L.getD i []) ++ [L.getD x []] := by simp
    unfold ptr at hc0 hE ⊢
    obtain ⟨c, hc⟩ : ∃ c, c = L.getD x [] := ⟨_, rfl⟩
    obtain ⟨t, ht⟩ : ∃ t, t = mostF (pre.map (fun i => L.getD i [])) := ⟨_, rfl⟩
    rw [← hc] at hE li lj hstep hmap ⊢
    rw [← ht] at ls hstep hc0 hc1
    rw [← hmap] at hstep
    have HS := hide hstep
    clear hc ht hstep hmap
    obtain ⟨N, hN⟩ : ∃ N, Hid (N = finN c) := ⟨_, hide rfl⟩
    rw [← hN.out] at hE HS li
    by_cases hlt : t.2 < N
    · have hd : decide (t.2 < N) = true := decide_eq_true hlt
      have HX := HS.out
      rw [if_pos hlt] at HX
      have HX := hide HX
      clear HS hlt
      gi_wp2_with (refine ⟨trivial, ?_⟩; gi_at_call 84; refine (CallsIn.inRound l (callsIn_wide.2 hE.out)).mono ?_; rintro r w2 ⟨rfl, g2⟩; have d0 := g2.keep hc0; have df0 := g2.frozen hc0 hf0; have d1 := g2.keep hc1; have df1 := g2.frozen hc1 hf1)
      have hB2 : Below w1.heap.size w1 w2 := hB.trans (g2.below.mono hB.size)
      refine ⟨g2.others.trans ((KeepsOthers.setCell _ _ _).trans (KeepsOthers.setCell _ _ _)), ((g2.below.mono hB.size).setCell (p := ⟨w1.heap.size, 0, none⟩) (Nat.le_refl _) _).setCell (p := ⟨w1.heap.size + 1, 0, none⟩) (by simp) _, ⟨?_, ?_, ?_, ?_⟩, (hB2.setCell (p := ⟨w1.heap.size, 0, none⟩) (Nat.le_refl _) _).setCell (p := ⟨w1.heap.size + 1, 0, none⟩) (by simp) _⟩
      · rw [HX.out, World.cell?_setCell_other _ _ _ _ (by intro e; injection e; omega)]
        exact World.cell?_setCell_same' _ _ _ (by rw [d0]; rfl)
      · rw [World.frozen?_setCell, World.frozen?_setCell]; exact df0
      · rw [HX.out, World.cell?_setCell_same' _ _ _ (by rw [World.cell?_setCell_other _ _ _ _ (by intro e; injection e; omega), d1]; rfl), hN.out]
      · rw [World.frozen?_setCell, World.frozen?_setCell]; exact df1
    · have hd : decide (t.2 < N) = false := decide_eq_false hlt
      have HX := HS.out
      rw [if_neg hlt] at HX
      have HX := hide HX
      clear HS hlt
      gi_wp2_with (refine ⟨trivial, ?_⟩; gi_at_call 84; refine (CallsIn.inRound l (callsIn_wide.2 hE.out)).mono ?_; rintro r w2 ⟨rfl, g2⟩; have d0 := g2.keep hc0; have df0 := g2.frozen hc0 hf0; have d1 := g2.keep hc1; have df1 := g2.frozen hc1 hf1)
      have hB2 : Below w1.heap.size w1 w2 := hB.trans (g2.below.mono hB.size)
      exact ⟨g2.others, g2.below.mono hB.size, ⟨by rw [HX.out]; exact d0, df0, by rw [HX.out]; exact d1, df1⟩, hB2⟩
  case done =>
    rintro D ys W hD rfl ⟨⟨hc0, hf0, hc1, hf1⟩, hB⟩ hK
    rw [sureIx_map] at hc0 hc1
    unfold ptr at hc0
    gi_wp2
    gi_region
    all_goals gi_wp2
    all_goals refine ⟨by simp, .inl ⟨_, _, rfl, run_takeDeferred (show W.drew.heap[D]? = _ from hK), ?_⟩⟩
    all_goals exact ⟨_, results_tmp2 rfl _ _ _, rfl, g1.trans (.of_below ((hB.drew).trans (belowK_b (w := w1) (Nat.le_refl _) W.drew D _ _ (by omega) hK rfl rfl)))⟩
  case stop =>
    rintro D cd pre W hD hpre h hK
    exact h.elim
end Go.Proofs.Ytjcnbacbnfmkjaa
