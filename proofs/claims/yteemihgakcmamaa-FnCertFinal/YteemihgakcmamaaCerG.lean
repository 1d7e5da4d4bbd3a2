/-
  The draws of the laws on certs.
-/
import Derived.Test.YteemihgakcmamaaCerE
namespace Go.Proofs.Yteemihgakcmamaa
set_option linter.unusedVariables false
open Go.RowKit
attribute [local simp] far_const

theorem Byt.box {w : World} {a : Option Addr} {n : Nat} (hb : Byt w a w.heap.size n) (o : Obj) : Byt (w.alloc o) a (w.alloc o).heap.size n := by
  rcases hb with h | ⟨b, off, ha, hb, h⟩
  · exact .inl h
  · exact .inr ⟨b, off, ha, by simp; omega, fun i hi => by obtain ⟨z, h1, h2, h3⟩ := h i hi; exact ⟨z, h1, h2, ((Grew.refl w).alloc _).keep h3⟩⟩
theorem DC.low {w : World} {base base' B : Nat} {u v : Value} {x : Ct} (h : DC w base B u v x) (hb : base' ≤ base) : DC w base' B u v x := by
  obtain ⟨⟨a, cap, h1, h2, h3, h4⟩, hB, vs, row, hc⟩ := h
  refine ⟨⟨a, cap, h1, h2, h3, fun y hy => ⟨Nat.le_trans hb (h4 y hy).1, (h4 y hy).2⟩⟩, hB, vs, ⟨row.1, ?_⟩, fun i hi => ?_⟩
  · rcases row.2 with h0 | ⟨g, cap, cur, hv, hb', hr⟩
    · exact .inl h0
    · exact .inr ⟨g, cap, cur, hv, Nat.le_trans hb hb', hr⟩
  · obtain ⟨ai, ci, k1, k2, k3, k4⟩ := hc i hi
    exact ⟨ai, ci, k1, k2, k3, fun y hy => ⟨Nat.le_trans hb (k4 y hy).1, (k4 y hy).2⟩⟩

set_option maxHeartbeats 4000000 in
theorem drawCertOk_dc (a : Option Addr) (n cap : Nat) (w : World) (hb : Byt w a w.heap.size n) (hc : n ≤ cap) (hn : n ≤ 1048576) :
    Calls Try.prog 30 #[.slice a n cap] w fun r w' => ∃ u v x, r = .returned (.agg #[u, v]) ∧ (∃ B, DC w' (w.heap.size + 1) B u v x) ∧ DB x ∧ Grew w w' := by
  have HB := hide (hb.box (.cells #[.slice none 0 0, .slice none 0 0] 31))
  clear hb
  go_enter Try.func30, Try.ntmps30
  go_wp2_with fail
  refine (open_any a n cap _ (unhide HB) hc hn).mono ?_
  rintro r w1 ⟨rfl, r1, g1⟩
  simp only [World.size_alloc] at r1 ⊢
  have R0 := hide ((Box2.box w (.slice none 0 0) (.slice none 0 0) 31).grew g1)
  have G1 := hide (((Grew.refl w).alloc (.cells #[.slice none 0 0, .slice none 0 0] 31)).trans g1)
  have s1 := r1.lt
  clear g1
  have hne : w.heap.size ≠ w.heap.size + 1 := by omega
  go_wp2_with fail
  refine (l72Cert_any (w.heap.size + 1) 0 _ r1 (by omega)).mono ?_
  rintro r w2 ⟨u, v, vl, x, rfl, ⟨B, D⟩, hdb, r2, g2⟩
  obtain ⟨⟨ua, uc, rfl, _⟩, hir⟩ := id D
  obtain ⟨vb, vc, rfl, _, _⟩ := hir.ctR
  have R2 := hide ((unhide R0).kept (g2.keep _ (unhide R0).lt hne))
  have G2 := hide (g2.from (unhide G1) (by omega))
  have z12 := g2.size
  have D2 := hide (D.grew ((Grew.refl w2).alloc (.cells #[.slice ua x.c.length uc, .slice vb x.b.length vc] 31)))
  have R3 := hide ((unhide R2).grew ((Grew.refl w2).alloc (.cells #[.slice ua x.c.length uc, .slice vb x.b.length vc] 31)))
  have G3 := hide ((unhide G2).alloc (.cells #[.slice ua x.c.length uc, .slice vb x.b.length vc] 31))
  have HDB := hide hdb
  have hlt2 := (unhide R2).lt
  clear D hir g2 r2 hdb R0 G1
  obtain ⟨W3, hW3⟩ : ∃ W, W = w2.alloc (.cells #[.slice ua x.c.length uc, .slice vb x.b.length vc] 31) := ⟨_, rfl⟩
  have hsc : ∀ p q, (((w2.setCell ⟨w.heap.size, 0, none⟩ p).setCell ⟨w.heap.size, 1, none⟩ q).alloc (.cells #[.slice ua x.c.length uc, .slice vb x.b.length vc] 31)) = (W3.setCell ⟨w.heap.size, 0, none⟩ p).setCell ⟨w.heap.size, 1, none⟩ q := fun p q => by
    rw [hW3, World.setCell_alloc_past _ _ _ _ hlt2, World.setCell_alloc_past _ _ _ _ (by simpa [World.setCell] using hlt2)]
  have HSC := hide hsc
  have HW3 := hide hW3
  clear hsc hW3
  obtain ⟨⟨a0, a1⟩, c0, c1⟩ := unhide R2
  go_wp2
  refine bodyPost_ret (by simp [results, Try.results30, go_sem, a0, a1, hlt2]; try rfl) rfl ?_
  refine ⟨_, _, x, rfl, ⟨B, ?_⟩, unhide HDB, ?_⟩
  · rw [unhide HSC]
    refine (((unhide D2).low (base' := w.heap.size + 1) (by omega)).kept (w' := (W3.setCell ⟨w.heap.size, 0, none⟩ _).setCell ⟨w.heap.size, 1, none⟩ _) (by simp [World.setCell, unhide HW3]) (fun g hg _ _ => ?_))
    rw [Below.heap_setCell _ _ _ _ (by show g ≠ w.heap.size; omega), Below.heap_setCell _ _ _ _ (by show g ≠ w.heap.size; omega), unhide HW3]
  · rw [unhide HSC, unhide HW3]
    exact ((unhide G3).setCell (p := ⟨w.heap.size, 0, none⟩) (Nat.le_refl _) _).setCell (p := ⟨w.heap.size, 1, none⟩) (Nat.le_refl _) _
set_option maxHeartbeats 1000000 in
theorem drawCertFinal_dc (a : Option Addr) (n cap : Nat) (w : World) (hb : Byt w a w.heap.size n) (hc : n ≤ cap) (hn : n ≤ 1048576) :
    Calls Try.prog 33 #[.slice a n cap] w fun r w' => ∃ u v x, r = .returned (.agg #[u, v]) ∧ CtR w' u v x ∧ DB x ∧ Grew w w' := by
  have HB := hide (hb.box (.cells #[.slice none 0 0, .slice none 0 0] 31))
  clear hb
  go_enter Try.func33, Try.ntmps33
  go_wp2_with fail
  refine (drawCertOk_dc a n cap _ (unhide HB) hc hn).mono ?_
  rintro r w1 ⟨u, v, x, rfl, ⟨B, D⟩, hdb, g1⟩
  obtain ⟨⟨ua, uc, rfl, _⟩, hir⟩ := id D
  obtain ⟨vb, vc, rfl, _, _⟩ := hir.ctR
  have R0 := hide ((Box2.box w (.slice none 0 0) (.slice none 0 0) 31).grew g1)
  have G1 := hide (((Grew.refl w).alloc (.cells #[.slice none 0 0, .slice none 0 0] 31)).trans g1)
  simp only [World.size_alloc] at D
  have HD := hide D
  have HDB := hide hdb
  clear D hir g1 hdb
  obtain ⟨⟨a0, a1⟩, c0, c1⟩ := unhide R0
  go_wp2
  refine bodyPost_ret (by simp [results, Try.results33, go_sem, a0, a1]; try rfl) rfl ?_
  refine ⟨_, _, x, rfl, ?_, unhide HDB, ?_⟩
  · refine ((unhide HD).kept (w' := (w1.setCell ⟨w.heap.size, 0, none⟩ _).setCell ⟨w.heap.size, 1, none⟩ _) (by simp [World.setCell]) (fun g hg _ _ => ?_)).ctR
    rw [Below.heap_setCell _ _ _ _ (by show g ≠ w.heap.size; omega), Below.heap_setCell _ _ _ _ (by show g ≠ w.heap.size; omega)]
  · exact ((unhide G1).setCell (p := ⟨w.heap.size, 0, none⟩) (Nat.le_refl _) _).setCell (p := ⟨w.heap.size, 1, none⟩) (Nat.le_refl _) _
set_option maxHeartbeats 1000000 in
theorem drawCertVotes_dc (a : Option Addr) (n cap : Nat) (w : World) (hb : Byt w a w.heap.size n) (hc : n ≤ cap) (hn : n ≤ 1048576) :
    Calls Try.prog 38 #[.slice a n cap] w fun r w' => ∃ u v x, r = .returned (.agg #[u, v]) ∧ CtR w' u v x ∧ DB x ∧ Grew w w' := by
  have HB := hide (hb.box (.cells #[.slice none 0 0, .slice none 0 0] 31))
  clear hb
  go_enter Try.func38, Try.ntmps38
  go_wp2_with fail
  refine (drawCertOk_dc a n cap _ (unhide HB) hc hn).mono ?_
  rintro r w1 ⟨u, v, x, rfl, ⟨B, D⟩, hdb, g1⟩
  obtain ⟨⟨ua, uc, rfl, _⟩, hir⟩ := id D
  obtain ⟨vb, vc, rfl, _, _⟩ := hir.ctR
  have R0 := hide ((Box2.box w (.slice none 0 0) (.slice none 0 0) 31).grew g1)
  have G1 := hide (((Grew.refl w).alloc (.cells #[.slice none 0 0, .slice none 0 0] 31)).trans g1)
  simp only [World.size_alloc] at D
  have HD := hide D
  have HDB := hide hdb
  clear D hir g1 hdb
  obtain ⟨⟨a0, a1⟩, c0, c1⟩ := unhide R0
  go_wp2
  refine bodyPost_ret (by simp [results, Try.results38, go_sem, a0, a1]; try rfl) rfl ?_
  refine ⟨_, _, x, rfl, ?_, unhide HDB, ?_⟩
  · refine ((unhide HD).kept (w' := (w1.setCell ⟨w.heap.size, 0, none⟩ _).setCell ⟨w.heap.size, 1, none⟩ _) (by simp [World.setCell]) (fun g hg _ _ => ?_)).ctR
    rw [Below.heap_setCell _ _ _ _ (by show g ≠ w.heap.size; omega), Below.heap_setCell _ _ _ _ (by show g ≠ w.heap.size; omega)]
  · exact ((unhide G1).setCell (p := ⟨w.heap.size, 0, none⟩) (Nat.le_refl _) _).setCell (p := ⟨w.heap.size, 1, none⟩) (Nat.le_refl _) _
theorem drawCertOk_any (a : Option Addr) (n cap : Nat) (w : World) (hb : Byt w a w.heap.size n) (hc : n ≤ cap) (hn : n ≤ 1048576) :
    Calls Try.prog 30 #[.slice a n cap] w fun r w' => ∃ u v x, r = .returned (.agg #[u, v]) ∧ CtR w' u v x ∧ DB x ∧ Grew w w' := by
  refine (drawCertOk_dc a n cap w hb hc hn).mono ?_
  rintro r w1 ⟨u, v, x, rfl, ⟨B, D⟩, hdb, g1⟩
  exact ⟨u, v, x, rfl, D.ctR, hdb, g1⟩
theorem drawCertOf_any (a : Option Addr) (n cap : Nat) (w : World) (hb : Byt w a w.heap.size n) (hc : n ≤ cap) (hn : n ≤ 1048576) :
    Calls Try.prog 43 #[.slice a n cap] w fun r w' => ∃ v l base, r = .returned v ∧ VRow w' base v l ∧ l.length ≤ 193 ∧ Low 16 l ∧ Grew w w' := by
  have hX := hide (drawTreeFinal_any a n cap w hb hc hn)
  clear hb
  go_enter Try.func43, Try.ntmps43
  go_wp2_with fail
  refine (unhide hX).mono ?_
  clear hX
  rintro r w1 ⟨v, l, base, rfl, h1, h2, h3, g⟩
  have H1 := hide h1
  have H3 := hide h3
  clear h1 h3
  go_wp2
  go_ret
  exact ⟨v, l, base, rfl, unhide H1, h2, unhide H3, g⟩
end Go.Proofs.Yteemihgakcmamaa
