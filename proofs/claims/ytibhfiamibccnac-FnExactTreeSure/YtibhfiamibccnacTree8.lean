/-
  What the functions that build a tree do: grow.
-/
import Derived.Test.YtibhfiamibccnacTree7
namespace Go.Proofs.Ytibhfiamibccnac
set_option linter.unusedVariables false
open Go.RowKit
attribute [local simp] far_const

section
variable {w : World} {base n : Nat} {M : List It → Prop} {vt pos : List It → Nat} {kv : List It → Value} {kd : List It → List It} {tb : Nat} {cv : Value} {L : List (List It)}
/-- What grow leaves. -/
def Grown (w w' : World) (base n : Nat) (M : List It → Prop) (vt : List It → Nat) (tb : Nat) (cv : Value) (L : List (List It)) (c : List It) (b : Nat) : Prop :=
  ∃ M' pos' kv' kd', TreeF w' base (n + 1) M' vt pos' kv' kd' tb cv L ∧ (∀ d, M' d ↔ M d ∨ d = c) ∧ pos' c = b ∧ Below base w w'
set_option maxRecDepth 20000 in
set_option maxHeartbeats 4000000 in
theorem grow_any (h : TreeF w base n M vt pos kv kd tb cv L) (hb : base ≤ w.heap.size) (c : List It) (x : It) (hc : M c) (hn : n ≤ 1073741823) (hl : c.length ≤ 1048576) :
    Calls Try.prog 80 #[ptr (pos c), .agg #[.int .i64 x.e, .int .i64 x.f, .int .i64 x.t, .int .i64 x.s]] w fun r w' => ∃ b, r = .returned (ptr b) ∧ Grown w w' base n M vt tb cv L (c ++ [x]) b := by
  have hx0 := its_one w x 63
  obtain ⟨b1, o1, e1, hat2⟩ := hx0.at (i := 0) (by simp)
  simp only [Option.some.injEq, Addr.mk.injEq, and_true] at e1
  obtain ⟨rfl, rfl⟩ := e1
  obtain ⟨d0, d1, d2, d3⟩ := hat2
  simp only [List.getElem_cons_zero, Nat.zero_mul, Nat.add_zero, Nat.zero_add] at d0 d1 d2 d3
  have gA : Grew w (w.alloc (.cells #[.int .i64 x.e, .int .i64 x.f, .int .i64 x.t, .int .i64 x.s] 63)) := (Grew.refl w).alloc _
  have hN := next_any (h.grew gA) c x hc (by omega)
  have HT := hide h
  clear h
  unfold ptr at hN ⊢
  go_enter Try.func80, Try.ntmps80
  go_wp2_with fail
  refine hN.mono ?_
  clear hN
  rintro r w1 ⟨(⟨hx, rfl⟩ | ⟨hx, rfl⟩), g1⟩
  · have HX := hide hx
    clear hx
    go_wp2
    go_ret
    exact ⟨_, rfl, M, pos, kv, kd, ((unhide HT).grew (gA.trans g1)).more (by omega), fun d => ⟨.inl, fun hd => hd.elim id (fun e => by rw [e]; exact (unhide HT).dn _ _ hc HX.out)⟩, rfl, (gA.trans g1).below.mono hb⟩
  · have HX := hide hx
    clear hx
    have hT1 := (unhide HT).grew (gA.trans g1)
    obtain ⟨_, _, c5, _, c7, cf⟩ := brO_cells (hT1.blk c hc)
    have HT1 := hide hT1
    have e0 := g1.keep d0
    have e1 := g1.keep d1
    have e2 := g1.keep d2
    have e3 := g1.keep d3
    clear d0 d1 d2 d3 hx0 hT1
    go_wp2_with fail
    go_region
    obtain ⟨W2, hW2⟩ : ∃ W2, Hid (W2 = (w1.alloc (.cells #[.pointer (some ⟨pos c, 0, none⟩), .int .i64 x.e, .int .i64 x.f, .int .i64 x.t, .int .i64 x.s, .int .i64 ((c.length : Int) + 1), .int .i64 0, .slice none 0 0] 66)).drew) := ⟨_, hide rfl⟩
    rw [← hW2.out]
    have g2 : Grew w1 W2 := by rw [hW2.out]; exact ((Grew.refl w1).alloc _).drew
    have hnb : Hid (W2.heap[w1.heap.size]? = some (brO (some ⟨pos c, 0, none⟩) x (c.length + 1) 0 (.slice none 0 0))) := by
      show W2.heap[w1.heap.size]? = _
      rw [hW2.out]
      exact heap_alloc_new w1 _
    have hsz : Hid (W2.heap.size = w1.heap.size + 1) := by show W2.heap.size = _; rw [hW2.out]; simp [World.drew]
    have hT2 := (unhide HT1).grew g2
    have gB : Grew W2 (W2.alloc (.cells #[.pointer (some ⟨w1.heap.size, 0, none⟩)] 58)) := (Grew.refl _).alloc _
    have hT3 := hT2.grew gB
    have k7 := g2.keep c7
    have k7b := gB.keep k7
    have hR := hide (hT3.row c hc)
    obtain ⟨ka, kcap, hkv⟩ : ∃ a cap, Hid (kv c = .slice a (kd c).length cap) := by
      rcases ownsRow_at (hT3.row c hc) with ⟨h0, hv⟩ | ⟨g, cap, hv, _⟩
      · exact ⟨none, 0, hide (by rw [hv, h0])⟩
      · exact ⟨_, cap, hide hv⟩
    rw [hkv.out] at k7 k7b
    have hne : (kv c).ownBlock ≠ some (pos c) := fun e => by
      obtain ⟨cur, hcur⟩ := hT2.rowBlk hc e
      exact absurd (cells_type hcur (hT2.blk c hc)) (by decide)
    have hfew := hT2.few c hc
    have HT3 := hide hT3
    have hcell : Hid ((W2.alloc (.cells #[.pointer (some ⟨w1.heap.size, 0, none⟩)] 58)).cell? ⟨W2.heap.size, 0, none⟩ = some (ptr w1.heap.size)) := by
      show World.cell? _ _ = _
      have h0 : (W2.alloc (.cells #[.pointer (some ⟨w1.heap.size, 0, none⟩)] 58)).heap[W2.heap.size]? = some (.cells #[.pointer (some ⟨w1.heap.size, 0, none⟩)] 58 (0, 0)) := heap_alloc_new W2 _
      unfold World.cell?; simp only; rw [h0]; rfl
    have hbW : Hid (base ≤ (W2.alloc (.cells #[.pointer (some ⟨w1.heap.size, 0, none⟩)] 58)).heap.size) := by
      show base ≤ _
      have := gA.size; have := g1.size; have := hsz.out; simp; omega
    clear c5 c7 cf e0 e1 e2 e3 hT2 hT3
    go_wp2_with (first | (at_builtin; refine wpList_ptr rfl _ _ rfl base (.slice ka (kd c).length kcap) (kd c).length (kidsV pos c (kd c)) rfl (by rw [← hkv.out]; exact unhide hR) ⟨W2.heap.size, 0, none⟩ 1 w1.heap.size rfl hcell.out (by omega) hbW.out ?_))
    intro v' w4 hrow hg HS
    rw [← hkv.out] at hg HS
    rcases hrow.2 with ⟨_, h0⟩ | ⟨g', cap', cur', rfl, _⟩
    · omega
    have k7c : w4.cell? ⟨pos c, 7, none⟩ = some (.slice ka (kd c).length kcap) := hg.cell k7b (fun e => hne e.symm)
    have hf4 : ∀ i, w4.frozen? ⟨pos c, i, none⟩ = false := fun i => by
      have h3 := (brO_cells ((unhide HT3).blk c hc)).2.2.2.2.2 i
      rw [World.frozen?_of_block (hg.block (pos c) (World.block_lt_of_cell? _ ⟨pos c, 7, none⟩ k7b) (fun e => hne e.symm))]
      exact h3
    have HR4 := hide hrow
    clear hrow
    go_wp2
    go_ret
    have hGr := (unhide HT3).grown hc HX.out (nb := w1.heap.size) (by have := gA.size; have := g1.size; omega) (by rw [gB.below.block _ (by have := hsz.out; omega)]; exact hnb.out)
      (fun d hd e => by
        have := (Array.getElem?_eq_some_iff.1 ((unhide HT1).blk d hd)).1
        omega) (unhide HR4) hg (by
        obtain ⟨g, h1, h2⟩ := unhide HS
        exact ⟨g, h1, h2.imp id (fun h => by rw [World.size_alloc]; exact h)⟩)
    refine ⟨w1.heap.size, rfl, _, _, _, _, hGr, fun d => Iff.rfl, upd_same _ _ _, ?_⟩
    have hB3 : Below base w (W2.alloc (.cells #[.pointer (some ⟨w1.heap.size, 0, none⟩)] 58)) := (((gA.trans g1).trans g2).trans gB).below.mono hb
    refine (hB3.grown hg hbW.out (fun k hk => ((unhide hR).lt k hk).1)).setCell (p := ⟨pos c, 7, none⟩) ?_ _
    exact (unhide HT3).low c hc
end
end Go.Proofs.Ytibhfiamibccnac
