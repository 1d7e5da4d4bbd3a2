/-
  What add does: a vote for a chain comes into the tree.
-/
import Derived.Test.YtibhfiamibccnacTree8
namespace Go.Proofs.Ytibhfiamibccnac
set_option linter.unusedVariables false
open Go.RowKit
attribute [local simp] far_const

/-- What add leaves, of a vote for the chain c. -/
def Added (w w' : World) (base n : Nat) (M : List It → Prop) (vt : List It → Nat) (tb : Nat) (L : List (List It)) (c : List It) : Prop :=
  ∃ M' pos' kv' kd' cv', TreeF w' base (n + c.length) M' (upd vt c (vt c + 1)) pos' kv' kd' tb cv' (if vt c = 0 then L ++ [c] else L) ∧ (∀ d, M' d ↔ M d ∨ d <+: c) ∧ Below base w w'

theorem prefix_take_succ {c d : List It} {k : Nat} (hk : k < c.length) : d <+: c.take (k + 1) ↔ d <+: c.take k ∨ d = c.take (k + 1) := by
  rw [List.take_succ_eq_append_getElem hk, List.prefix_concat_iff]
  exact Or.comm

set_option maxRecDepth 20000 in
set_option maxHeartbeats 4000000 in
theorem treeAdd_any {w : World} {base n : Nat} {M : List It → Prop} {vt pos : List It → Nat} {kv : List It → Value} {kd : List It → List It} {tb : Nat} {cv : Value} {L : List (List It)}
    (h : TreeF w base n M vt pos kv kd tb cv ([] :: L)) (hb : base ≤ w.heap.size) (a : Option Addr) (cap : Nat) (c : List It) (hc : Its w a c) (hlow : ∀ x, a = some x → x.block < base) (hl : c.length ≤ 1048576) (hn : n ≤ 536870912) (hL : L.length ≤ 1048576) (hv : vt c ≤ 1048576) :
    Calls Try.prog 59 #[ptr tb, .slice a c.length cap] w fun r w' => (∃ v, r = .returned v) ∧ Added w w' base n M vt tb ([] :: L) c := by
  have hN := nothing_any h
  have HT := hide h
  clear h
  unfold ptr at hN ⊢
  go_enter Try.func59, Try.ntmps59
  go_wp2_with fail
  refine hN.mono ?_
  clear hN
  rintro r w1 ⟨rfl, g1⟩
  go_wp2_with fail
  go_loopw [4, 10] (fun b i wr => ∃ k : Nat, k ≤ c.length ∧ i = .int .i64 k ∧ ∃ M' pos' kv' kd', b = .pointer (some ⟨pos' (c.take k), 0, none⟩) ∧ Hid (TreeF wr base (n + k) M' vt pos' kv' kd' tb cv ([] :: L)) ∧ Hid (∀ d, M' d ↔ M d ∨ d <+: c.take k) ∧ Below base w wr) (fun _ i _ => c.length - (intOf i).toNat)
  case atStart =>
    refine ⟨0, Nat.zero_le _, rfl, M, pos, kv, kd, by rw [List.take_zero], hide ((unhide HT).grew g1), hide (fun d => ⟨.inl, fun hd => hd.elim id (fun e => ?_)⟩), g1.below.mono hb⟩
    rw [List.take_zero, List.prefix_nil] at e
    rw [e]
    exact (unhide HT).nil
  case round =>
    obtain ⟨k, hk, rfl, M', pos', kv', kd', rfl, hT', hM', hB'⟩ := hrel
    by_cases hlt : k < c.length
    · obtain ⟨b1, o1, rfl, hat⟩ := hc.at hlt
      have hbl := hlow _ rfl
      obtain ⟨c0, c1, c2, c3⟩ := hat
      have e0 := (hB'.cell (p := ⟨b1, o1 + k * 4, none⟩) hbl).trans c0
      have e1 := (hB'.cell (p := ⟨b1, o1 + k * 4 + 1, none⟩) hbl).trans c1
      have e2 := (hB'.cell (p := ⟨b1, o1 + k * 4 + 2, none⟩) hbl).trans c2
      have e3 := (hB'.cell (p := ⟨b1, o1 + k * 4 + 3, none⟩) hbl).trans c3
      clear c0 c1 c2 c3
      have hbw : base ≤ wr.heap.size := Nat.le_trans hb hB'.size
      have hmk : M' (c.take k) := (hM'.out _).2 (.inr (List.prefix_refl _))
      have hG := grow_any (unhide hT') hbw (c.take k) c[k] hmk (by omega) (by simp; omega)
      unfold ptr at hG
      clear hmk
      go_wp2_with fail
      refine hG.mono ?_
      clear hG
      rintro r w2 ⟨b, rfl, M2, pos2, kv2, kd2, hT2, hM2, rfl, hB2⟩
      have ht : c.take (k + 1) = c.take k ++ [c[k]] := List.take_succ_eq_append_getElem hlt
      rw [← ht] at hM2 ⊢
      have HT2 := hide hT2
      have HM2 : Hid (∀ d, M2 d ↔ M d ∨ d <+: c.take (k + 1)) := hide (fun d => by
        rw [hM2 d, hM'.out d, prefix_take_succ hlt, or_assoc])
      clear hT2 hM2 ht
      have HB2 := hB'.trans hB2
      go_wp2
      go_roundw
      case rel => exact ⟨k + 1, by omega, by go_num, M2, pos2, kv2, kd2, rfl, HT2, HM2, HB2⟩
      case measure => simp [intOf]; omega
    · have hkl : k = c.length := by omega
      have hle : (c.length : Int) ≤ (k : Int) := by omega
      have HM : Hid (∀ d, M' d ↔ M d ∨ d <+: c) := hide (fun d => by have := hM'.out d; rw [hkl, List.take_length] at this; exact this)
      have e1 : c.take k = c := by rw [hkl, List.take_length]
      rw [e1]
      have HT3 : Hid (TreeF wr base (n + c.length) M' vt pos' kv' kd' tb cv ([] :: L)) := by rw [← hkl]; exact hT'
      clear hM' hT' hkl e1
      have hmc : M' c := (HM.out _).2 (.inr (List.prefix_refl _))
      obtain ⟨_, _, _, c6, _, cf⟩ := brO_cells ((unhide HT3).blk c hmc)
      have hbw : base ≤ wr.heap.size := Nat.le_trans hb hB'.size
      by_cases h0 : vt c = 0
      · have HH : Hid (vt c = 0) := h0
        obtain ⟨ca, ccap, hcv⟩ : ∃ a cap, Hid (cv = .slice a (L.length + 1) cap) := by
          rcases ownsRow_at (unhide HT3).trow with ⟨h1, hv⟩ | ⟨g, cap, hv, _⟩
          · simp at h1
          · exact ⟨_, cap, hide hv⟩
        have t0 : wr.cell? ⟨tb, 0, none⟩ = some (.slice ca (L.length + 1) ccap) := by rw [← hcv.out]; simp [World.cell?, (unhide HT3).tblk]
        rw [h0] at c6
        have gB : Grew wr (wr.alloc (.cells #[.pointer (some ⟨pos' c, 0, none⟩)] 58)) := (Grew.refl _).alloc _
        have HT4 := hide ((unhide HT3).grew gB)
        have t1 := gB.keep t0
        have hcell : Hid ((wr.alloc (.cells #[.pointer (some ⟨pos' c, 0, none⟩)] 58)).cell? ⟨wr.heap.size, 0, none⟩ = some (ptr (pos' c))) := by
          show World.cell? _ _ = _
          have h0 : (wr.alloc (.cells #[.pointer (some ⟨pos' c, 0, none⟩)] 58)).heap[wr.heap.size]? = some (.cells #[.pointer (some ⟨pos' c, 0, none⟩)] 58 (0, 0)) := heap_alloc_new wr _
          unfold World.cell?; simp only; rw [h0]; rfl
        have hR := hide (unhide HT4).trow
        have hne : Hid (cv.ownBlock ≠ some tb) := fun e => by
          obtain ⟨cur, hcur⟩ := ownsRow_block' (unhide HT4).trow e
          exact absurd (cells_type hcur (unhide HT4).tblk) (by decide)
        clear h0
        go_wp2_with (first | (at_builtin; refine wpList_ptr rfl _ _ rfl base (.slice ca (L.length + 1) ccap) (L.length + 1) (([] :: L).map (fun d => ptr (pos' d))) rfl (by rw [← hcv.out]; exact unhide hR) ⟨wr.heap.size, 0, none⟩ 1 (pos' c) rfl hcell.out (by omega) (by simp; omega) ?_))
        intro v' w4 hrow hg HS
        rw [← hcv.out] at hg HS
        have hT5 := (unhide HT4).listed hmc hrow hg (by
          obtain ⟨g, h1, h2⟩ := unhide HS
          exact ⟨g, h1, h2.imp id (fun h => by rw [World.size_alloc]; exact h)⟩)
        have hB5 : Below base w (w4.setCell ⟨tb, 0, none⟩ v') := ((hB'.trans (gB.below.mono hbw)).grown hg (by simp; omega) (fun k hk => ((unhide hR).lt k hk).1)).setCell (p := ⟨tb, 0, none⟩) (unhide HT3).tlow _
        have t4 : w4.cell? ⟨tb, 0, none⟩ = some (.slice ca (L.length + 1) ccap) := hg.cell t1 (fun e => hne.out e.symm)
        have tf4 : w4.frozen? ⟨tb, 0, none⟩ = false := by
          rw [World.frozen?_of_block (hg.block tb (World.block_lt_of_cell? _ ⟨tb, 0, none⟩ t1) (fun e => hne.out e.symm))]
          simp [World.frozen?, (unhide HT4).tblk]
        obtain ⟨_, _, _, k6, _, kf⟩ := brO_cells (hT5.blk c hmc)
        rw [HH.out] at k6
        have HT5 := hide hT5
        rcases hrow.2 with ⟨_, h0⟩ | ⟨g', cap', cur', rfl, _⟩
        · simp at h0
        clear hrow hT5
        go_wp2
        go_end0
        refine ⟨⟨_, rfl⟩, M', pos', kv', kd', .slice (some ⟨g', 0, none⟩) (L.length + 1 + 1) cap', ?_, HM.out, hB5.setCell (p := ⟨pos' c, 6, none⟩) ((unhide HT3).low c hmc) _⟩
        have hT6 := (unhide HT5).voted hmc
        rw [if_pos HH.out]
        have e : Value.int .i64 ((vt c + 1 : Nat) : Int) = .int .i64 1 := by rw [HH.out]; rfl
        rw [e] at hT6
        exact hT6
      · have hd : (((vt c : Nat) : Int) == 0) = false := by simp; exact h0
        have HH : Hid (¬ vt c = 0) := h0
        clear h0
        go_wp2
        go_end0
        refine ⟨⟨_, rfl⟩, M', pos', kv', kd', cv, ?_, HM.out, hB'.setCell (p := ⟨pos' c, 6, none⟩) ((unhide HT3).low c hmc) _⟩
        rw [if_neg HH.out]
        exact (unhide HT3).voted hmc
end Go.Proofs.Ytibhfiamibccnac
