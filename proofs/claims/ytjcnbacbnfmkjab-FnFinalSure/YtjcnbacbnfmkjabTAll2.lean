/-
  What TreeAll answers.
-/
import Derived.RangeFuncNested
import Derived.RangeFuncBound
import Derived.RangeFuncCalls
import Derived.RangeFuncLeaves
import Derived.Shelf.Abstract
import Derived.Shelf.RegionOpen
import Derived.WalkKit
import Derived.OwnWalkIn
import Derived.TacticsInMore
import Derived.LoopNIn
import Derived.LoopIn
import Derived.Deep.RegionHeld
import Derived.Test.YtjcnbacbnfmkjabTAllA
namespace Go.Proofs.Ytjcnbacbnfmkjab
set_option linter.unusedVariables false
open Go.RowKit Go.Shelf
attribute [local go_sem] Oper.semAt_some
attribute [local simp] far_const

/-- A chain of a row, told by its number. -/
theorem wf_size {n : Nat} (h : n ≤ 1048576) : n ≤ maxLen := by unfold maxLen; omega

set_option maxRecDepth 100000 in
set_option maxHeartbeats 8000000 in
theorem implTreeAll (a : Option Addr) (cap : Nat) (l : List Vt) (w : World) (hl : Vts w a l) (hs : Short l) (hn : l.length ≤ 1048576) :
    Calls Try.prog 15 #[.slice a l.length cap] w fun r w' => ∃ v hs, r = .returned v ∧ KRow w' w.heap.size v hs (if votesB l = true then allS l else []) ∧ Grew w w' := by
  have hT := hide (treeOf_any a cap l w hl hs hn)
  unfold ptr at hT
  cases hv : votesB l with
  | false =>
    have hT1 : Hid (Calls Try.prog 38 #[.slice a l.length cap] w fun r w' => r = .returned (.tuple #[.pointer none, .bool false]) ∧ Grew w w') := hide (hT.out.mono (by
      rintro r w' ⟨(⟨h, _⟩ | ⟨_, h⟩), g⟩
      · rw [hv] at h; cases h
      · exact ⟨h, g⟩))
    rw [if_neg (by simp)]
    clear hT hv
    refine (callsIn_wide (n := 3)).1 ?_
    refine callsIn_of_wp_marks Try.func15 rfl trivial ?_ rfl
    simp only [Try.ntmps15, List.size_toArray, List.length_cons, List.length_nil, Nat.reduceAdd, Nat.reduceSub, Array.replicate_succ, Array.replicate_zero, List.push_toArray, List.append_toArray, List.nil_append, List.cons_append]
    gi_wp2_with (refine ⟨trivial, ?_⟩; gi_at_call 38; refine (callsIn_wide.2 hT1.out).mono ?_; rintro r w1 ⟨rfl, g1⟩)
    exact ⟨_, results_tmp rfl _ _ _, _, [], rfl, KRow.nil _ _, g1⟩
  | true =>
    have hT1 : Hid (Calls Try.prog 38 #[.slice a l.length cap] w fun r w' => ∃ tb base, r = .returned (.tuple #[.pointer (some ⟨tb, 0, none⟩), .bool true]) ∧ TreeV w' base l tb ∧ Grew w w') := hide (hT.out.mono (by
      rintro r w' ⟨(⟨_, tb, base, h, h2, _⟩ | ⟨h, _⟩), g⟩
      · exact ⟨tb, base, h, h2, g⟩
      · rw [hv] at h; cases h))
    rw [if_pos rfl]
    clear hT hv
    refine (callsIn_wide (n := 3)).1 ?_
    refine callsIn_of_wp_marks Try.func15 rfl trivial ?_ rfl
    simp only [Try.ntmps15, List.size_toArray, List.length_cons, List.length_nil, Nat.reduceAdd, Nat.reduceSub, Array.replicate_succ, Array.replicate_zero, List.push_toArray, List.append_toArray, List.nil_append, List.cons_append]
    gi_wp2_with (first | (refine ⟨trivial, ?_⟩; gi_at_call 38; refine (callsIn_wide.2 hT1.out).mono ?_; rintro r w1 ⟨tb, base, rfl, hTV, g1⟩) | (refine ⟨trivial, ?_⟩; gi_at_call 39; refine (callsIn_wide.2 (treeSures_any _ _)).mono ?_; rintro e w' ⟨rfl, rfl⟩))
    obtain ⟨M, pos, kv, kd, cv, hF, hM⟩ := hTV
    obtain ⟨r, hr⟩ := firstsL_head l
    have hsl := hs.firsts
    have hfl := firstsL_len l
    obtain ⟨L, hLL⟩ : ∃ L, Hid (L = firstsL l) := ⟨_, hide rfl⟩
    have HAS : Hid (allS l = L.filter (sureF (cnt l))) := hide (by rw [hLL.out]; rfl)
    rw [← hLL.out] at hF hr hsl hfl
    have HR := hide hr
    clear hr hM hl hs
    have hlen : L.length ≤ 1073741824 := by omega
    have hmem : ∀ i, M (L.getD i []) := fun i => hF.mem _ (getD_mem HR.out i)
    have hsi : ∀ i, (L.getD i []).length ≤ 1048576 := fun i => hsl _ (getD_mem HR.out i)
    obtain ⟨W1, hW1⟩ : ∃ W1, Hid (W1 = (w1.alloc (.cells #[.slice none 0 0] 25)).alloc (.cells #[ptr tb] 52)) := ⟨_, hide rfl⟩
    rw [← hW1.out]
    have c0 := cellNew w1 (.slice none 0 0) 25
    have c1 := cellNew (w1.alloc (.cells #[.slice none 0 0] 25)) (ptr tb) 52
    simp only [World.size_alloc] at c1
    have k0 := cellOld (.cells #[ptr tb] 52) c0.1
    have k0f := frozenOld (.cells #[ptr tb] 52) c0.1 c0.2
    have hsz : W1.heap.size = w1.heap.size + 1 + 1 := by rw [hW1.out]; simp
    have hB0 : Below w1.heap.size w1 W1 := by rw [hW1.out]; exact ((Below.refl _ w1).alloc (Nat.le_refl _) _).alloc (by simp) _
    rw [← hW1.out] at c1 k0 k0f
    clear c0
    refine wpIn_rangeFunc_ownF rfl (by omega) (gf := 63) (lb := #[ptr (w1.heap.size + 1)]) rfl trivial (enters_of Try.func63 (by kernel_rfl) rfl)
      (sureIt_stops 2 (by omega) (w1.heap.size + 1) hF HR.out hlen hsl W1 (by omega) c1.1 hB0) belowK_t (belowK_b (by omega)) (Below.refl _ _) (fun _ => rfl)
      (fun pre W => (∃ v hs', W.cell? ⟨w1.heap.size, 0, none⟩ = some v ∧ W.frozen? ⟨w1.heap.size, 0, none⟩ = false ∧ KRow W (w1.heap.size + 1) v hs' (pre.map (fun i => L.getD i []))) ∧ Below w1.heap.size w1 W)
      (fun _ _ _ => False)
      (OwnFrom.and (Own.from (fun s A B row hs hg hr => by
        obtain ⟨v, hs', h1, h2, h3⟩ := hs
        exact ⟨v, hs', cell_kept h1 hg hr, (frozen_kept h1 hg hr).trans h2, h3.turn hg hr⟩) _) (ownFrom_below (Nat.le_refl _) (by omega)))
      (fun cd => (fun _ _ _ _ hs _ _ => hs))
      ⟨⟨_, [], k0, k0f, KRow.nil _ _⟩, hB0⟩
      (fun x => { tmps := #[.slice a l.length cap, undef, .slice none 0 0, .pointer (some ⟨tb, 0, none⟩), .bool true, .pointer (some ⟨w1.heap.size, 0, none⟩), ptr (pos (L.getD x [])), .tuple #[.pointer (some ⟨tb, 0, none⟩), .bool true], .slice a l.length cap, .tuple #[.pointer (some ⟨tb, 0, none⟩), .bool true], .pointer (some ⟨tb, 0, none⟩), .bool true, .bool true, .bool false, .pointer (some ⟨tb, 0, none⟩), .func (.func 63) #[] #[ptr (w1.heap.size + 1)], ptr (pos (L.getD x [])), undef, undef, undef, undef, undef, undef, undef, undef, undef, undef], defers := [] }) ?assign ?body ?done ?stop
    case assign =>
      intro l x W K hK
      gi_wp2
      exact hK
    case body =>
      rintro q pre x W ⟨⟨v, hs', hcr, hfr, hK⟩, hB⟩ hpl
      have hTW := hF.grew (.of_below hB)
      obtain ⟨_, _, a5, _⟩ := brO_cells (hTW.blk _ (hmem x))
      have hP5 : pos (L.getD x []) < w1.heap.size := (Array.getElem?_eq_some_iff.1 (hF.blk _ (hmem x))).1
      have hBg : ∀ W', Grew W W' → Hid (Calls Try.prog 40 #[.pointer (some ⟨pos (L.getD x []), 0, none⟩), .int .i64 ((L.getD x []).length : Nat)] W' fun r w' => ∃ v, r = .returned v ∧ FreshI w' W'.heap.size v (L.getD x []) ∧ Grew W' w') := fun W' g => by
        have := beginning_any (hTW.grew g) _ (hmem x) (hsi x) (L.getD x []).length (Nat.le_refl _)
        rw [List.take_length] at this
        exact hide this
      have HMp : Hid ((pre ++ [x]).map (fun i => L.getD i []) = pre.map (fun i => L.getD i []) ++ [L.getD x []]) := hide (by simp)
      obtain ⟨va, vn, vc, rfl⟩ : ∃ a n c, v = .slice a n c := by
        obtain ⟨vs, row, _⟩ := hK.row
        rcases row.2 with ⟨e, _⟩ | ⟨g, cap, cur, e, _⟩
        · exact ⟨_, _, _, e⟩
        · exact ⟨_, _, _, e⟩
      have HK := hide hK
      have hpl2 : (pre.map (fun i => L.getD i [])).length ≤ 1073741823 := by simp; omega
      have hsx := hsi x
      unfold ptr
      obtain ⟨c, hc⟩ : ∃ c, Hid (c = L.getD x []) := ⟨_, hide rfl⟩
      rw [← hc.out] at a5 hP5 hBg HMp hsx ⊢
      obtain ⟨cs, hcs⟩ : ∃ cs, Hid (cs = pre.map (fun i => L.getD i [])) := ⟨_, hide rfl⟩
      rw [← hcs.out] at HMp HK hpl2
      clear hTW hK
      gi_wp2
      refine region_roundH (S := fun w' => w'.cell? ⟨pos c, 5, none⟩ = some (.int .i64 (c.length : Nat))) (by kernel_rfl) (by kernel_rfl) (fun _ _ h => h) a5 (fun hHeld => ?_)
      refine' takeH (i := 1) (oi := _) (v := _) ?hi1 ?hs1 ?hf1 ?hr1 ?hQ1 ?hw1 ?hy1 hHeld.out ?h1
      case hi1 => (simp only [List.getElem?_toArray, List.getElem?_cons_succ, List.getElem?_cons_zero]; try rfl)
      case hs1 => kernel_rfl
      case hf1 => kernel_rfl
      case hr1 => kernel_rfl
      case hw1 => rfl
      case hy1 => (intro wz hSw; go_simp; try (with_reducible rfl))
      case hQ1 => exact fun _ _ _ h => h
      try simp only [Act.put, List.setIfInBounds_toArray, List.set_cons_zero, List.set_cons_succ]
      refine' takeH (i := 2) (oi := _) (v := _) ?hi2 ?hs2 ?hf2 ?hr2 ?hQ2 ?hw2 ?hy2 hHeld.out ?h2
      case hi2 => (simp only [List.getElem?_toArray, List.getElem?_cons_succ, List.getElem?_cons_zero]; try rfl)
      case hs2 => kernel_rfl
      case hf2 => kernel_rfl
      case hr2 => kernel_rfl
      case hw2 => rfl
      case hy2 => (intro wz hSw; go_simp; try (with_reducible rfl))
      case hQ2 => exact fun _ _ _ h => h
      try simp only [Act.put, List.setIfInBounds_toArray, List.set_cons_zero, List.set_cons_succ]
      refine' takeH (i := 3) (oi := _) (v := _) ?hi3 ?hs3 ?hf3 ?hr3 ?hQ3 ?hw3 ?hy3 hHeld.out ?h3
      case hi3 => (simp only [List.getElem?_toArray, List.getElem?_cons_succ, List.getElem?_cons_zero]; try rfl)
      case hs3 => kernel_rfl
      case hf3 => kernel_rfl
      case hr3 => kernel_rfl
      case hw3 => rfl
      case hy3 => (intro wz hSw; go_simp; try (with_reducible rfl))
      case hQ3 => exact fun _ _ _ h => h
      try simp only [Act.put, List.setIfInBounds_toArray, List.set_cons_zero, List.set_cons_succ]
      refine' takeH (i := 4) (oi := _) (v := _) ?hi4 ?hs4 ?hf4 ?hr4 ?hQ4 ?hw4 ?hy4 hHeld.out ?h4
      case hi4 => (simp only [List.getElem?_toArray, List.getElem?_cons_succ, List.getElem?_cons_zero]; try rfl)
      case hs4 => kernel_rfl
      case hf4 => kernel_rfl
      case hr4 => kernel_rfl
      case hw4 => rfl
      case hy4 => (intro wz hSw; go_simp; try (with_reducible rfl))
      case hQ4 => exact fun _ _ _ h => h
      try simp only [Act.put, List.setIfInBounds_toArray, List.set_cons_zero, List.set_cons_succ]
      refine' takeH (i := 5) (oi := _) (v := _) ?hi5 ?hs5 ?hf5 ?hr5 ?hQ5 ?hw5 ?hy5 hHeld.out ?h5
      case hi5 => (simp only [List.getElem?_toArray, List.getElem?_cons_succ, List.getElem?_cons_zero]; try rfl)
      case hs5 => kernel_rfl
      case hf5 => kernel_rfl
      case hr5 => kernel_rfl
      case hw5 => rfl
      case hy5 => (intro wz hSw; go_simp; try (with_reducible rfl))
      case hQ5 => exact fun _ _ _ h => h
      try simp only [Act.put, List.setIfInBounds_toArray, List.set_cons_zero, List.set_cons_succ]
      refine wpAnyH_ready (rs := [0, 6]) (by kernel_rfl) (by simp) ?_
      refine AllReadyH.cons rfl (fun K hK => ?_) (AllReadyH.cons rfl (fun K hK => ?_) AllReadyH.nil)
      · skip
        go_simp
        refine hK.out _ _ a5 (fun _ => ?_)
        clear hK K
        try simp only [Act.put, List.setIfInBounds_toArray, List.set_cons_zero, List.set_cons_succ]
        refine wpAnyH_ready (rs := [6]) (by kernel_rfl) (by simp) ?_
        refine AllReadyH.cons rfl (fun K hK => ?_) AllReadyH.nil
        go_simp
        refine (hBg _ (Grew.refl W).drew).out.mono ?_
        rintro e w3 ⟨u, rfl, ⟨q3, rfl, hq3, hi3, ho3⟩, g3⟩
        have G3 := (Grew.refl W).drew.trans g3
        have a53 := G3.keep a5
        have hcr3 := G3.keep hcr
        have hfr3 := G3.frozen hcr hfr
        refine hK.out _ _ a53 (fun _ => ?_)
        clear hK K
        try simp only [Act.put, List.setIfInBounds_toArray, List.set_cons_zero, List.set_cons_succ]
        refine wpAnyH_ready (rs := [7]) (by kernel_rfl) (by simp) ?_
        refine AllReadyH.cons rfl (fun K hK => ?_) AllReadyH.nil
        go_simp
        refine hK.out _ _ (((Grew.refl w3).alloc _).keep a53) (fun _ => ?_)
        clear hK K
        try simp only [Act.put, List.setIfInBounds_toArray, List.set_cons_zero, List.set_cons_succ]
        have hWb : w1.heap.size < W.heap.size := World.block_lt_of_cell? _ ⟨w1.heap.size, 0, none⟩ hcr
        have hq3' : W.heap.size ≤ q3 := hq3
        have hne : ∀ k, (Value.slice va vn vc).ownBlock = some k → w1.heap.size + 1 ≤ k ∧ k < W.heap.size := (unhide HK).block
        have g4 : Grew w3 (w3.alloc (.cells #[.slice (some ⟨q3, 0, none⟩) c.length c.length] 29)) := (Grew.refl w3).alloc _
        have hcell4 := (cellNew w3 (.slice (some ⟨q3, 0, none⟩) c.length c.length) 29).1
        have a54 := g4.keep a53
        have hcr4 := g4.keep hcr3
        have hfr4 := g4.frozen hcr3 hfr3
        refine wpAnyH_ready (rs := [8]) (by kernel_rfl) (by simp) ?_
        refine AllReadyH.cons rfl (fun K hK => ?_) AllReadyH.nil
        refine step_chs rfl (.tmp 17) (.tmp 24) rfl (w1.heap.size + 1) (.slice va vn vc) hs' cs rfl ((unhide HK).grew (G3.trans g4)) ⟨w3.heap.size, 0, none⟩ 1 c q3 rfl hcell4 (by omega) (Nat.lt_of_lt_of_le ho3.lt g4.size) (fun hm => by have := ((unhide HK).low q3 hm).2; omega) (fun e => by have := (hne q3 e).2; omega) (hi3.grew g4) (ho3.grew g4) hpl2 (by have := (G3.trans g4).size; omega) ?_
        intro v' w5 hK5 hg5
        have a55 := hg5.cell a54 (fun e => by have := (hne _ e.symm).1; simp only at this; omega)
        have hcr5 := hg5.cell hcr4 (fun e => by have := (hne _ e.symm).1; simp only at this; omega)
        have hfr5 : w5.frozen? ⟨w1.heap.size, 0, none⟩ = false := by
          rw [World.frozen?_of_block (hg5.block w1.heap.size (World.block_lt_of_cell? _ ⟨w1.heap.size, 0, none⟩ hcr4) (fun e => by have := (hne _ e.symm).1; omega))]
          exact hfr4
        have hB5 : Below w1.heap.size W w5 := ((G3.trans g4).below.mono hB.size).grown hg5 (by have := (G3.trans g4).size; omega) (fun k hk => by have := (hne k hk).1; omega)
        have hO5 : KeepsOthers W w5 := (G3.trans g4).others.trans (KeepsOthers.of_grownBy hg5 (fun j o e ho => by
          obtain ⟨vs, row, _⟩ := ((unhide HK).grew (G3.trans g4)).row
          rcases row.2 with ⟨e', _⟩ | ⟨g', cap', cur', e', _, hgg, _⟩
          · rw [e'] at e; cases e
          · rw [e'] at e
            have e := Option.some.inj e
            subst e
            rw [hgg] at ho
            cases ho
            rfl))
        obtain ⟨va', vn', vc', rfl⟩ : ∃ a n c, v' = .slice a n c := by
          obtain ⟨vs, row, _⟩ := hK5.out.row
          rcases row.2 with ⟨e, _⟩ | ⟨g, cap, cur, e, _⟩
          · exact ⟨_, _, _, e⟩
          · exact ⟨_, _, _, e⟩
        refine hK.out _ _ a55 (fun _ => ?_)
        clear hK K
        try simp only [Act.put, List.setIfInBounds_toArray]
        refine wpAnyH_ready (rs := [9]) (by kernel_rfl) (by simp) ?_
        refine AllReadyH.cons rfl (fun K hK => ?_) AllReadyH.nil
        go_simp
        have a56 : (w5.setCell ⟨w1.heap.size, 0, none⟩ (.slice va' vn' vc')).cell? ⟨pos c, 5, none⟩ = some (.int .i64 (c.length : Nat)) := by rw [World.cell?_setCell_other _ _ _ _ (by intro e; injection e; omega)]; exact a55
        refine hK.out _ _ a56 (fun _ => ?_)
        clear hK K
        refine wpAnyH_done (by kernel_rfl) ?_ _
        have HK6 : Hid (KRow (w5.setCell ⟨w1.heap.size, 0, none⟩ (.slice va' vn' vc')) (w1.heap.size + 1) (.slice va' vn' vc') (hs' ++ [q3]) ((pre ++ [x]).map (fun i => L.getD i []))) := by
          rw [HMp.out]
          exact hide (hK5.out.kept (by simp [World.setCell]) (fun g hg _ => Below.heap_setCell _ _ _ _ (by show g ≠ w1.heap.size; omega)))
        gi_wp2
        exact ⟨hO5.trans (KeepsOthers.setCell _ _ _), hB5.setCell (p := ⟨w1.heap.size, 0, none⟩) (Nat.le_refl _) _, ⟨_, _, World.cell?_setCell_same' _ _ _ (by rw [hcr5]; rfl), by rw [World.frozen?_setCell]; exact hfr5, HK6.out⟩, (hB.trans hB5).setCell (p := ⟨w1.heap.size, 0, none⟩) (Nat.le_refl _) _⟩
      · skip
        go_simp
        refine (hBg _ (Grew.refl W).drew).out.mono ?_
        rintro e w3 ⟨u, rfl, ⟨q3, rfl, hq3, hi3, ho3⟩, g3⟩
        have G3 := (Grew.refl W).drew.trans g3
        have a53 := G3.keep a5
        have hcr3 := G3.keep hcr
        have hfr3 := G3.frozen hcr hfr
        refine hK.out _ _ a53 (fun _ => ?_)
        clear hK K
        try simp only [Act.put, List.setIfInBounds_toArray, List.set_cons_zero, List.set_cons_succ]
        refine wpAnyH_ready (rs := [0, 7]) (by kernel_rfl) (by simp) ?_
        refine AllReadyH.cons rfl (fun K hK => ?_) (AllReadyH.cons rfl (fun K hK => ?_) AllReadyH.nil)
        · skip
          go_simp
          refine hK.out _ _ a53 (fun _ => ?_)
          clear hK K
          try simp only [Act.put, List.setIfInBounds_toArray, List.set_cons_zero, List.set_cons_succ]
          refine wpAnyH_ready (rs := [7]) (by kernel_rfl) (by simp) ?_
          refine AllReadyH.cons rfl (fun K hK => ?_) AllReadyH.nil
          go_simp
          refine hK.out _ _ (((Grew.refl w3).alloc _).keep a53) (fun _ => ?_)
          clear hK K
          try simp only [Act.put, List.setIfInBounds_toArray, List.set_cons_zero, List.set_cons_succ]
          have hWb : w1.heap.size < W.heap.size := World.block_lt_of_cell? _ ⟨w1.heap.size, 0, none⟩ hcr
          have hq3' : W.heap.size ≤ q3 := hq3
          have hne : ∀ k, (Value.slice va vn vc).ownBlock = some k → w1.heap.size + 1 ≤ k ∧ k < W.heap.size := (unhide HK).block
          have g4 : Grew w3 (w3.alloc (.cells #[.slice (some ⟨q3, 0, none⟩) c.length c.length] 29)) := (Grew.refl w3).alloc _
          have hcell4 := (cellNew w3 (.slice (some ⟨q3, 0, none⟩) c.length c.length) 29).1
          have a54 := g4.keep a53
          have hcr4 := g4.keep hcr3
          have hfr4 := g4.frozen hcr3 hfr3
          refine wpAnyH_ready (rs := [8]) (by kernel_rfl) (by simp) ?_
          refine AllReadyH.cons rfl (fun K hK => ?_) AllReadyH.nil
          refine step_chs rfl (.tmp 17) (.tmp 24) rfl (w1.heap.size + 1) (.slice va vn vc) hs' cs rfl ((unhide HK).grew (G3.trans g4)) ⟨w3.heap.size, 0, none⟩ 1 c q3 rfl hcell4 (by omega) (Nat.lt_of_lt_of_le ho3.lt g4.size) (fun hm => by have := ((unhide HK).low q3 hm).2; omega) (fun e => by have := (hne q3 e).2; omega) (hi3.grew g4) (ho3.grew g4) hpl2 (by have := (G3.trans g4).size; omega) ?_
          intro v' w5 hK5 hg5
          have a55 := hg5.cell a54 (fun e => by have := (hne _ e.symm).1; simp only at this; omega)
          have hcr5 := hg5.cell hcr4 (fun e => by have := (hne _ e.symm).1; simp only at this; omega)
          have hfr5 : w5.frozen? ⟨w1.heap.size, 0, none⟩ = false := by
            rw [World.frozen?_of_block (hg5.block w1.heap.size (World.block_lt_of_cell? _ ⟨w1.heap.size, 0, none⟩ hcr4) (fun e => by have := (hne _ e.symm).1; omega))]
            exact hfr4
          have hB5 : Below w1.heap.size W w5 := ((G3.trans g4).below.mono hB.size).grown hg5 (by have := (G3.trans g4).size; omega) (fun k hk => by have := (hne k hk).1; omega)
          have hO5 : KeepsOthers W w5 := (G3.trans g4).others.trans (KeepsOthers.of_grownBy hg5 (fun j o e ho => by
            obtain ⟨vs, row, _⟩ := ((unhide HK).grew (G3.trans g4)).row
            rcases row.2 with ⟨e', _⟩ | ⟨g', cap', cur', e', _, hgg, _⟩
            · rw [e'] at e; cases e
            · rw [e'] at e
              have e := Option.some.inj e
              subst e
              rw [hgg] at ho
              cases ho
              rfl))
          obtain ⟨va', vn', vc', rfl⟩ : ∃ a n c, v' = .slice a n c := by
            obtain ⟨vs, row, _⟩ := hK5.out.row
            rcases row.2 with ⟨e, _⟩ | ⟨g, cap, cur, e, _⟩
            · exact ⟨_, _, _, e⟩
            · exact ⟨_, _, _, e⟩
          refine hK.out _ _ a55 (fun _ => ?_)
          clear hK K
          try simp only [Act.put, List.setIfInBounds_toArray]
          refine wpAnyH_ready (rs := [9]) (by kernel_rfl) (by simp) ?_
          refine AllReadyH.cons rfl (fun K hK => ?_) AllReadyH.nil
          go_simp
          have a56 : (w5.setCell ⟨w1.heap.size, 0, none⟩ (.slice va' vn' vc')).cell? ⟨pos c, 5, none⟩ = some (.int .i64 (c.length : Nat)) := by rw [World.cell?_setCell_other _ _ _ _ (by intro e; injection e; omega)]; exact a55
          refine hK.out _ _ a56 (fun _ => ?_)
          clear hK K
          refine wpAnyH_done (by kernel_rfl) ?_ _
          have HK6 : Hid (KRow (w5.setCell ⟨w1.heap.size, 0, none⟩ (.slice va' vn' vc')) (w1.heap.size + 1) (.slice va' vn' vc') (hs' ++ [q3]) ((pre ++ [x]).map (fun i => L.getD i []))) := by
            rw [HMp.out]
            exact hide (hK5.out.kept (by simp [World.setCell]) (fun g hg _ => Below.heap_setCell _ _ _ _ (by show g ≠ w1.heap.size; omega)))
          gi_wp2
          exact ⟨hO5.trans (KeepsOthers.setCell _ _ _), hB5.setCell (p := ⟨w1.heap.size, 0, none⟩) (Nat.le_refl _) _, ⟨_, _, World.cell?_setCell_same' _ _ _ (by rw [hcr5]; rfl), by rw [World.frozen?_setCell]; exact hfr5, HK6.out⟩, (hB.trans hB5).setCell (p := ⟨w1.heap.size, 0, none⟩) (Nat.le_refl _) _⟩
        · skip
          go_simp
          refine hK.out _ _ (((Grew.refl w3).alloc _).keep a53) (fun _ => ?_)
          clear hK K
          try simp only [Act.put, List.setIfInBounds_toArray, List.set_cons_zero, List.set_cons_succ]
          have hcr4' := ((Grew.refl w3).alloc (.cells #[.slice (some ⟨q3, 0, none⟩) c.length c.length] 29)).keep hcr3
          refine wpAnyH_ready (rs := [0]) (by kernel_rfl) (by simp) ?_
          refine AllReadyH.cons rfl (fun K hK => ?_) AllReadyH.nil
          go_simp
          refine hK.out _ _ (((Grew.refl w3).alloc _).keep a53) (fun _ => ?_)
          clear hK K
          try simp only [Act.put, List.setIfInBounds_toArray, List.set_cons_zero, List.set_cons_succ]
          have hWb : w1.heap.size < W.heap.size := World.block_lt_of_cell? _ ⟨w1.heap.size, 0, none⟩ hcr
          have hq3' : W.heap.size ≤ q3 := hq3
          have hne : ∀ k, (Value.slice va vn vc).ownBlock = some k → w1.heap.size + 1 ≤ k ∧ k < W.heap.size := (unhide HK).block
          have g4 : Grew w3 (w3.alloc (.cells #[.slice (some ⟨q3, 0, none⟩) c.length c.length] 29)) := (Grew.refl w3).alloc _
          have hcell4 := (cellNew w3 (.slice (some ⟨q3, 0, none⟩) c.length c.length) 29).1
          have a54 := g4.keep a53
          have hcr4 := g4.keep hcr3
          have hfr4 := g4.frozen hcr3 hfr3
          refine wpAnyH_ready (rs := [8]) (by kernel_rfl) (by simp) ?_
          refine AllReadyH.cons rfl (fun K hK => ?_) AllReadyH.nil
          refine step_chs rfl (.tmp 17) (.tmp 24) rfl (w1.heap.size + 1) (.slice va vn vc) hs' cs rfl ((unhide HK).grew (G3.trans g4)) ⟨w3.heap.size, 0, none⟩ 1 c q3 rfl hcell4 (by omega) (Nat.lt_of_lt_of_le ho3.lt g4.size) (fun hm => by have := ((unhide HK).low q3 hm).2; omega) (fun e => by have := (hne q3 e).2; omega) (hi3.grew g4) (ho3.grew g4) hpl2 (by have := (G3.trans g4).size; omega) ?_
          intro v' w5 hK5 hg5
          have a55 := hg5.cell a54 (fun e => by have := (hne _ e.symm).1; simp only at this; omega)
          have hcr5 := hg5.cell hcr4 (fun e => by have := (hne _ e.symm).1; simp only at this; omega)
          have hfr5 : w5.frozen? ⟨w1.heap.size, 0, none⟩ = false := by
            rw [World.frozen?_of_block (hg5.block w1.heap.size (World.block_lt_of_cell? _ ⟨w1.heap.size, 0, none⟩ hcr4) (fun e => by have := (hne _ e.symm).1; omega))]
            exact hfr4
          have hB5 : Below w1.heap.size W w5 := ((G3.trans g4).below.mono hB.size).grown hg5 (by have := (G3.trans g4).size; omega) (fun k hk => by have := (hne k hk).1; omega)
          have hO5 : KeepsOthers W w5 := (G3.trans g4).others.trans (KeepsOthers.of_grownBy hg5 (fun j o e ho => by
            obtain ⟨vs, row, _⟩ := ((unhide HK).grew (G3.trans g4)).row
            rcases row.2 with ⟨e', _⟩ | ⟨g', cap', cur', e', _, hgg, _⟩
            · rw [e'] at e; cases e
            · rw [e'] at e
              have e := Option.some.inj e
              subst e
              rw [hgg] at ho
              cases ho
              rfl))
          obtain ⟨va', vn', vc', rfl⟩ : ∃ a n c, v' = .slice a n c := by
            obtain ⟨vs, row, _⟩ := hK5.out.row
            rcases row.2 with ⟨e, _⟩ | ⟨g, cap, cur, e, _⟩
            · exact ⟨_, _, _, e⟩
            · exact ⟨_, _, _, e⟩
          refine hK.out _ _ a55 (fun _ => ?_)
          clear hK K
          try simp only [Act.put, List.setIfInBounds_toArray]
          refine wpAnyH_ready (rs := [9]) (by kernel_rfl) (by simp) ?_
          refine AllReadyH.cons rfl (fun K hK => ?_) AllReadyH.nil
          go_simp
          have a56 : (w5.setCell ⟨w1.heap.size, 0, none⟩ (.slice va' vn' vc')).cell? ⟨pos c, 5, none⟩ = some (.int .i64 (c.length : Nat)) := by rw [World.cell?_setCell_other _ _ _ _ (by intro e; injection e; omega)]; exact a55
          refine hK.out _ _ a56 (fun _ => ?_)
          clear hK K
          refine wpAnyH_done (by kernel_rfl) ?_ _
          have HK6 : Hid (KRow (w5.setCell ⟨w1.heap.size, 0, none⟩ (.slice va' vn' vc')) (w1.heap.size + 1) (.slice va' vn' vc') (hs' ++ [q3]) ((pre ++ [x]).map (fun i => L.getD i []))) := by
            rw [HMp.out]
            exact hide (hK5.out.kept (by simp [World.setCell]) (fun g hg _ => Below.heap_setCell _ _ _ _ (by show g ≠ w1.heap.size; omega)))
          gi_wp2
          exact ⟨hO5.trans (KeepsOthers.setCell _ _ _), hB5.setCell (p := ⟨w1.heap.size, 0, none⟩) (Nat.le_refl _) _, ⟨_, _, World.cell?_setCell_same' _ _ _ (by rw [hcr5]; rfl), by rw [World.frozen?_setCell]; exact hfr5, HK6.out⟩, (hB.trans hB5).setCell (p := ⟨w1.heap.size, 0, none⟩) (Nat.le_refl _) _⟩
    case done =>
      rintro D ys W hD rfl ⟨⟨v, hs', hcr, hfr, hK'⟩, hB⟩ hK
      rw [sureIx_map, ← HAS.out] at hK'
      obtain ⟨va, vn, vc, rfl⟩ : ∃ a n c, v = .slice a n c := by
        obtain ⟨vs, row, _⟩ := hK'.row
        rcases row.2 with ⟨e, _⟩ | ⟨g, cap, cur, e, _⟩
        · exact ⟨_, _, _, e⟩
        · exact ⟨_, _, _, e⟩
      have HK' := hide hK'
      clear hK'
      gi_wp2
      refine ⟨by simp, .inl ⟨_, _, rfl, run_takeDeferred hK, ?_⟩⟩
      refine ⟨_, results_tmp rfl _ _ _, .slice va vn vc, hs', rfl, ((unhide HK').turn (grownBy_putObj' W D (.deferred none)) (fun r e => by cases e; exact ⟨_, hK, rfl⟩)).lower (Nat.le_succ_of_le g1.size), g1.trans (.of_below (hB.trans (belowK_b (w := w1) (Nat.le_refl _) W D _ _ (by omega) hK rfl rfl)))⟩
    case stop =>
      rintro D cd pre W hD hpre h hK
      exact h.elim
end Go.Proofs.Ytjcnbacbnfmkjab
