/-
  The first of the longest sure chains: tip.
-/
import Derived.RangeFuncNested
import Derived.RangeFuncBound
import Derived.RangeFuncCalls
import Derived.RangeFuncLeaves
import Derived.Shelf.Abstract
import Derived.Shelf.RegionOpen
import Derived.WalkKit
import Derived.OwnWalkIn
import Derived.TacticsInMore
import Derived.LoopNIn
import Derived.LoopIn
import Derived.Deep.RegionHeld
import Derived.Test.YtjcnbacbnfmkjaaTree13
import Derived.Test.YtjcnbacbnfmkjaaRound
namespace Go.Proofs.Ytjcnbacbnfmkjaa
set_option linter.unusedVariables false
open Go.RowKit Go.Shelf
attribute [local go_sem] Oper.semAt_some
attribute [local simp] far_const

/-- The first of the longest. -/
def longest (cs : List (List It)) : List It := cs.foldl (fun t c => if t.length < c.length then c else t) []
theorem longest_snoc (cs : List (List It)) (c : List It) : longest (cs ++ [c]) = if (longest cs).length < c.length then c else longest cs := by unfold longest; rw [List.foldl_append]; rfl
theorem longest_mem (cs : List (List It)) : longest cs = [] ∨ longest cs ∈ cs := by
  obtain ⟨n, hn⟩ : ∃ n, cs.length = n := ⟨_, rfl⟩
  induction n generalizing cs with
  | zero => have := List.eq_nil_of_length_eq_zero hn; subst this; exact .inl rfl
  | succ n ih =>
    rcases List.eq_nil_or_concat cs with rfl | ⟨m, x, rfl⟩
    · simp at hn
    rw [List.concat_eq_append] at hn ⊢
    rw [longest_snoc]
    split
    · exact .inr (by simp)
    · rcases ih m (by simp at hn; exact hn) with h | h
      · exact .inl h
      · exact .inr (List.mem_append.2 (.inl h))
theorem longest_in {L r : List (List It)} (hL : L = [] :: r) (pre : List Nat) : longest (pre.map (fun i => L.getD i [])) ∈ L := by
  rcases longest_mem (pre.map (fun i => L.getD i [])) with h | h
  · rw [h, hL]; exact List.mem_cons_self
  · obtain ⟨i, _, e⟩ := List.mem_map.1 h
    rw [← e]; exact getD_mem hL i

set_option maxRecDepth 100000 in
set_option maxHeartbeats 4000000 in
theorem tip_any {w : World} {base m : Nat} {M : List It → Prop} {vt pos : List It → Nat} {kv : List It → Value} {kd : List It → List It} {tb : Nat} {cv : Value} {L r : List (List It)}
    (h : TreeF w base m M vt pos kv kd tb cv L) (hL : L = [] :: r) (hlen : L.length ≤ 1073741824) (hs : ∀ c ∈ L, c.length ≤ 1048576) :
    Calls Try.prog 50 #[ptr tb] w fun r w' => r = .returned (ptr (pos (longest (L.filter (sureF vt))))) ∧ Grew w w' := by
  have hN := hide (nothing_any (L := r) (hL ▸ h))
  have HT := hide h
  have HL := hide hL
  clear h hL
  unfold ptr at hN
  refine (callsIn_wide (n := 3)).1 ?_
  unfold ptr
  refine callsIn_of_wp_marks Try.func50 rfl trivial ?_ rfl
  simp only [Try.ntmps50, List.size_toArray, List.length_cons, List.length_nil, Nat.reduceAdd, Nat.reduceSub, Array.replicate_succ, Array.replicate_zero, List.push_toArray, List.append_toArray, List.nil_append, List.cons_append]
  gi_wp2_with (first | (refine ⟨trivial, ?_⟩; gi_at_call 75; refine (callsIn_wide.2 hN.out).mono ?_; rintro e w1 ⟨rfl, g1⟩) | (refine ⟨trivial, ?_⟩; gi_at_call 55; refine (callsIn_wide.2 (treeSures_any _ _)).mono ?_; rintro e w' ⟨rfl, rfl⟩))
  have h1 := (unhide HT).grew g1
  obtain ⟨W1, hW1⟩ : ∃ W1, Hid (W1 = (w1.alloc (.cells #[.pointer (some ⟨pos [], 0, none⟩)] 73)).alloc (.cells #[ptr tb] 70)) := ⟨_, hide rfl⟩
  rw [← hW1.out]
  have c0 := cellNew w1 (.pointer (some ⟨pos [], 0, none⟩)) 73
  have c1 := cellNew (w1.alloc (.cells #[.pointer (some ⟨pos [], 0, none⟩)] 73)) (ptr tb) 70
  simp only [World.size_alloc] at c1
  have k0 := cellOld (.cells #[ptr tb] 70) c0.1
  have k0f := frozenOld (.cells #[ptr tb] 70) c0.1 c0.2
  have hsz : W1.heap.size = w1.heap.size + 1 + 1 := by rw [hW1.out]; simp
  have hB0 : Below w1.heap.size w1 W1 := by rw [hW1.out]; exact ((Below.refl _ w1).alloc (Nat.le_refl _) _).alloc (by simp) _
  rw [← hW1.out] at c1 k0 k0f
  clear c0
  have hmem : ∀ i, M (L.getD i []) := fun i => h1.mem _ (getD_mem HL.out i)
  have hmt : ∀ pre : List Nat, M (longest (pre.map (fun i => L.getD i []))) := fun pre => h1.mem _ (longest_in HL.out pre)
  have hst : ∀ pre : List Nat, (longest (pre.map (fun i => L.getD i []))).length ≤ 1048576 := fun pre => hs _ (longest_in HL.out pre)
  have hsi : ∀ i, (L.getD i []).length ≤ 1048576 := fun i => hs _ (getD_mem HL.out i)
  refine wpIn_rangeFunc_ownF rfl (by omega) (gf := 81) (lb := #[ptr (w1.heap.size + 1)]) rfl trivial (enters_of Try.func81 (by kernel_rfl) rfl)
    (sureIt_stops 2 (by omega) (w1.heap.size + 1) h1 HL.out hlen hs W1 (by omega) c1.1 hB0) belowK_t (belowK_b (by omega)) (Below.refl _ _) (fun _ => rfl)
    (fun pre W => (W.cell? ⟨w1.heap.size, 0, none⟩ = some (ptr (pos (longest (pre.map (fun i => L.getD i []))))) ∧ W.frozen? ⟨w1.heap.size, 0, none⟩ = false) ∧ Below w1.heap.size w1 W)
    (fun _ _ _ => False)
    (OwnFrom.and (Own.from (fun s A B row hs hg hr => ⟨cell_kept hs.1 hg hr, (frozen_kept hs.1 hg hr).trans hs.2⟩) _) (ownFrom_below (Nat.le_refl _) (by omega)))
    (fun cd => (fun _ _ _ _ hs _ _ => hs))
    ⟨⟨k0, k0f⟩, hB0⟩
    (fun x => { tmps := #[.pointer (some ⟨tb, 0, none⟩), undef, .pointer none, .pointer (some ⟨w1.heap.size, 0, none⟩), ptr (pos (L.getD x [])), .pointer (some ⟨tb, 0, none⟩), .pointer (some ⟨pos [], 0, none⟩), .pointer (some ⟨tb, 0, none⟩), .func (.func 81) #[] #[ptr (w1.heap.size + 1)], ptr (pos (L.getD x [])), undef, undef, undef, undef, undef, undef, undef, undef, undef, undef, undef], defers := [] }) ?assign ?body ?done ?stop
  case assign =>
    intro l x W K hK
    gi_wp2
    exact hK
  case body =>
    rintro l pre x W ⟨⟨hcr, hfr⟩, hB⟩ _
    have hTW := h1.grew (.of_below hB)
    obtain ⟨_, _, a5, _⟩ := brO_cells (hTW.blk _ (hmem x))
    obtain ⟨_, _, b5, _⟩ := brO_cells (hTW.blk _ (hmt pre))
    have ls := hst pre
    have li := hsi x
    have hstep := longest_snoc (pre.map (fun i => L.getD i [])) (L.getD x [])
    have hmap : (pre ++ [x]).map (fun i => L.getD i []) = pre.map (fun i => L.getD i []) ++ [L.getD x []] := by simp
    unfold ptr at hcr ⊢
    obtain ⟨c, hc⟩ : ∃ c, c = L.getD x [] := ⟨_, rfl⟩
    obtain ⟨t, ht⟩ : ∃ t, t = longest (pre.map (fun i => L.getD i [])) := ⟨_, rfl⟩
    rw [← hc] at a5 li hstep hmap ⊢
    rw [← ht] at b5 ls hstep hcr
    have HS := hide hstep
    have HMp := hide hmap
    clear hTW hc ht hstep hmap
    have e1 := Grew.gcell a5
    have e2 := Grew.gcell b5
    have e3 := Grew.gcell hcr
    by_cases hlt : t.length < c.length
    · have hd : decide (t.length < c.length) = true := decide_eq_true hlt
      have HX : Hid (longest ((pre ++ [x]).map (fun i => L.getD i [])) = c) := hide (by rw [HMp.out, HS.out, if_pos hlt])
      clear HS HMp hlt
      gi_wp2
      refine region_roundQ (by kernel_rfl) (by kernel_rfl) (fun _ _ h => h) (by kernel_rfl) ?_
      repeat (go_big_quiet_step (first | fail))
      refine wpQuiet_nil ?_
      intro _ hw'
      obtain ⟨⟨nq, osq⟩, hw''⟩ := hw'
      subst hw''
      have g0 : Grew W (far W nq osq) := ⟨_, _, rfl⟩
      have d0 := g0.keep hcr
      have df := g0.frozen hcr hfr
      gi_wp2
      refine ⟨g0.others.trans (KeepsOthers.setCell _ _ _), (g0.below.mono hB.size).setCell (p := ⟨w1.heap.size, 0, none⟩) (Nat.le_refl _) _, ⟨?_, ?_⟩, (hB.trans (g0.below.mono hB.size)).setCell (p := ⟨w1.heap.size, 0, none⟩) (Nat.le_refl _) _⟩
      · rw [HX.out]
        exact World.cell?_setCell_same' _ _ _ (by rw [d0]; rfl)
      · rw [World.frozen?_setCell]; exact df
    · have hd : decide (t.length < c.length) = false := decide_eq_false hlt
      have HX : Hid (longest ((pre ++ [x]).map (fun i => L.getD i [])) = t) := hide (by rw [HMp.out, HS.out, if_neg hlt])
      clear HS HMp hlt
      gi_wp2
      refine region_roundQ (by kernel_rfl) (by kernel_rfl) (fun _ _ h => h) (by kernel_rfl) ?_
      repeat (go_big_quiet_step (first | fail))
      refine wpQuiet_nil ?_
      intro _ hw'
      obtain ⟨⟨nq, osq⟩, hw''⟩ := hw'
      subst hw''
      have g0 : Grew W (far W nq osq) := ⟨_, _, rfl⟩
      gi_wp2
      exact ⟨g0.others, g0.below.mono hB.size, ⟨by rw [HX.out]; exact g0.keep hcr, g0.frozen hcr hfr⟩, hB.trans (g0.below.mono hB.size)⟩
  case done =>
    rintro D ys W hD rfl ⟨⟨hcr, hfr⟩, hB⟩ hK
    rw [sureIx_map] at hcr
    unfold ptr at hcr
    gi_wp2
    refine ⟨by simp, .inl ⟨_, _, rfl, run_takeDeferred hK, ?_⟩⟩
    refine ⟨_, results_tmp rfl _ _ _, rfl, g1.trans (.of_below (hB.trans (belowK_b (w := w1) (Nat.le_refl _) W D _ _ (by omega) hK rfl rfl)))⟩
  case stop =>
    rintro D cd pre W hD hpre h hK
    exact h.elim
end Go.Proofs.Ytjcnbacbnfmkjaa
