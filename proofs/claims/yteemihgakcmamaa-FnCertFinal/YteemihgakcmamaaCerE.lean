/-
  Certs that are drawn.
-/
import Derived.Test.YteemihgakcmamaaCerD
namespace Go.Proofs.Yteemihgakcmamaa
set_option linter.unusedVariables false
open Go.RowKit
attribute [local simp] far_const

/-- How great a drawn cert is at most. -/
def DB (x : Ct) : Prop := x.c.length ≤ 16 ∧ x.b.length ≤ 4 ∧ ∀ y ∈ x.b, y.length ≤ 4
def DB0 (x : Ct) : Prop := x.c.length ≤ 16 ∧ x.b.length ≤ 3 ∧ ∀ y ∈ x.b, y.length ≤ 4
theorem DB0.db {x : Ct} (h : DB0 x) : DB x := ⟨h.1, Nat.le_trans h.2.1 (by omega), h.2.2⟩
theorem DB0.of {l : List Vt} (h : Low 16 l) : DB0 (certL l).1 := by
  have h2 := certL_bound (h.short (by omega))
  exact ⟨certL_low h, h2.2.1, h2.2.2.1⟩
theorem DB0.set {x : Ct} (h : DB0 x) (j : Nat) (y : List Int) (hy : y.length ≤ 4) : DB ⟨x.c, x.b.set j y⟩ := by
  refine ⟨h.1, by show (x.b.set j y).length ≤ 4; rw [List.length_set]; exact Nat.le_trans h.2.1 (by omega), fun z hz => ?_⟩
  rcases List.mem_or_eq_of_mem_set hz with e | e
  · exact h.2.2 z e
  · rw [e]; exact hy
theorem DB0.snoc {x : Ct} (h : DB0 x) (y : List Int) (hy : y.length ≤ 4) : DB ⟨x.c, x.b ++ [y]⟩ := by
  refine ⟨h.1, by show (x.b ++ [y]).length ≤ 4; have := h.2.1; simp; omega, fun z hz => ?_⟩
  rcases List.mem_append.1 hz with e | e
  · exact h.2.2 z e
  · simp at e; rw [e]; exact hy
theorem DB0.chain {x : Ct} (h : DB0 x) (c : List It) (hc : c.length ≤ 16) : DB ⟨c, x.b⟩ := ⟨hc, Nat.le_trans h.2.1 (by omega), h.2.2⟩

theorem fin72 {R N M base B : Nat} {w W : World} {u v : Value} {x : Ct} (hlt : R < w.heap.size) (D : DC W (w.heap.size + 1) B u v x) (HD : DB x) (hrd : Rd W R M) (hM : M ≤ N + 5000) (hran : Ran R w W) (p q : Value) :
    (∃ B, DC ((W.setCell ⟨w.heap.size, 0, none⟩ p).setCell ⟨w.heap.size, 1, none⟩ q) (w.heap.size + 1) B u v x) ∧ DB x ∧ Rd ((W.setCell ⟨w.heap.size, 0, none⟩ p).setCell ⟨w.heap.size, 1, none⟩ q) R (N + 5000) ∧ Ran R w ((W.setCell ⟨w.heap.size, 0, none⟩ p).setCell ⟨w.heap.size, 1, none⟩ q) := by
  refine ⟨⟨_, D.kept (w' := (W.setCell ⟨w.heap.size, 0, none⟩ p).setCell ⟨w.heap.size, 1, none⟩ q) (by simp [World.setCell]) (fun g hg _ _ => ?_)⟩, HD, ((hrd.setCell hlt p).setCell hlt q).more hM, (hran.setCell (.inr (Nat.le_refl _)) p).setCell (.inr (Nat.le_refl _)) q⟩
  rw [Below.heap_setCell _ _ _ _ (by show g ≠ w.heap.size; omega), Below.heap_setCell _ _ _ _ (by show g ≠ w.heap.size; omega)]
theorem DC.setrow {W : World} {base B g cap n : Nat} {u : Value} {x : Ct} (h : DC W base B u (.slice (some ⟨g, 0, none⟩) n cap) x) (hn : n = x.b.length) {j : Nat} (hj : j < x.b.length) (y : List Int) (m : Nat) (hm : y.length = m) (q c : Nat) (hq : base ≤ q) (hql : q < W.heap.size) (hqg : q ≠ g) (hqB : q ≠ B) (hc : m ≤ c) (hi : Ints W (some ⟨q, 0, none⟩) y) :
    DC (W.setCell ⟨g, j, none⟩ (.slice (some ⟨q, 0, none⟩) m c)) base B u (.slice (some ⟨g, 0, none⟩) n cap) ⟨x.c, x.b.set j y⟩ := by
  obtain ⟨⟨a, ca, h1, h2, h3, h4⟩, h5⟩ := h
  refine ⟨⟨a, ca, h1, h2, h3.block' (fun z hz => Below.heap_setCell _ _ _ _ (fun e => (h4 z hz).2.2.2 (by show some g = _; rw [e]))), fun z hz => ⟨(h4 z hz).1, by simpa [World.setCell] using (h4 z hz).2.1, (h4 z hz).2.2⟩⟩, ?_⟩
  exact h5.set hn hj y m hm q c hq hql hqg hqB hc hi
theorem DC.chain {W : World} {base B : Nat} {u v : Value} {x : Ct} (h : DC W base B u v x) {g cap : Nat} (c : List It) (hc : c.length ≤ cap) (hi : Its W (some ⟨g, 0, none⟩) c) (hg : base ≤ g) (hgl : g < W.heap.size) (hgB : g ≠ B) (hgv : v.ownBlock ≠ some g) (p : Value) : DC (W.setCell ⟨B, 0, none⟩ p) base B (.slice (some ⟨g, 0, none⟩) c.length cap) v ⟨c, x.b⟩ := by
  have : DC W base B (.slice (some ⟨g, 0, none⟩) c.length cap) v ⟨c, x.b⟩ := ⟨⟨_, cap, rfl, hc, hi, fun y hy => by cases hy; exact ⟨hg, hgl, hgB, hgv⟩⟩, h.2⟩
  exact this.kept (by simp [World.setCell]) (fun b _ _ hb => Below.heap_setCell _ _ _ _ hb)

set_option maxRecDepth 20000 in
set_option maxHeartbeats 16000000 in
theorem l72Cert_any (R N : Nat) (w : World) (hr : Rd w R N) (hN : N + 5000 ≤ 1048576) :
    Calls Try.prog 92 #[.pointer (some ⟨R, 0, none⟩)] w fun r w' => ∃ u v vl x, r = .returned (.tuple #[.agg #[u, v], vl]) ∧ (∃ B, DC w' (w.heap.size + 1) B u v x) ∧ DB x ∧ Rd w' R (N + 5000) ∧ Ran R w w' := by
  have hlt := hr.lt
  go_enter Try.func92, Try.ntmps92
  go_wp2_with fail
  refine (l71Votes_any R N _ (hr.grew ((Grew.refl _).alloc _)) (by omega)).mono ?_
  rintro r w1 ⟨vl, l, rfl, vr, hl, hlow, r1, g1⟩
  have R0 := hide ((Box2.box w (.slice none 0 0) (.slice none 0 0) 31).ran g1 hlt)
  have G1 := hide (((Ran.refl R w).grew ((Grew.refl _).alloc (.cells #[.slice none 0 0, .slice none 0 0] 31))).trans g1)
  have HD := hide (DB0.of hlow)
  have hzA := hide (unhide R0).lt
  have hX := hide (specCertOf_r w1 vr (hlow.short (by omega)) (by omega))
  obtain ⟨X0, hX0⟩ : ∃ X, (certL l).1 = X := ⟨_, rfl⟩
  obtain ⟨ok0, hok0⟩ : ∃ b, (certL l).2 = b := ⟨_, rfl⟩
  rw [hX0, hok0] at hX
  rw [hX0] at HD
  clear g1 vr hlow hX0 hok0
  go_wp2_with fail
  refine (unhide hX).mono ?_
  clear hX
  rintro r w2 ⟨u2, v2, rfl, cs, g2⟩
  obtain ⟨ua, un, uc, va, vn, vc, rfl, rfl⟩ := cs.open
  have D2 := hide (cs.dc (lo := w.heap.size + 1) (B := w2.heap.size) (by have := unhide hzA; omega) (.inr (Nat.le_refl _)))
  have R0 := hide ((unhide R0).grew g2)
  have G2 := hide ((unhide G1).grew g2)
  have r2 := r1.grew g2
  have hzB := hide (Nat.lt_of_lt_of_le (unhide hzA) g2.size)
  clear cs g2 r1 G1
  have X3 := hide (Box2.box w2 (.slice ua un uc) (.slice va vn vc) 31)
  have D3 := hide ((unhide D2).grew ((Grew.refl w2).alloc (.cells #[.slice ua un uc, .slice va vn vc] 31)))
  have R3 := hide ((unhide R0).grew ((Grew.refl w2).alloc (.cells #[.slice ua un uc, .slice va vn vc] 31)))
  have G3 := hide ((unhide G2).grew ((Grew.refl w2).alloc (.cells #[.slice ua un uc, .slice va vn vc] 31)))
  have r3 := r2.grew ((Grew.refl w2).alloc (.cells #[.slice ua un uc, .slice va vn vc] 31))
  obtain ⟨B, hB⟩ : ∃ B, B = w2.heap.size := ⟨_, rfl⟩
  have HB := hide hB
  have hBR : R < B := by have := unhide hzB; omega
  have hBw : w.heap.size < B := by rw [hB]; exact unhide hzB
  clear D2 R0 G2 r2
  go_wp2_with fail
  rw [← unhide HB] at X3 D3 ⊢
  clear hB
  go_loopw [4, 6, 7] (fun lv okv i wr => ∃ (k : Nat) (bb : Bool) (u v : Value) (x : Ct), k ≤ 6 ∧ okv = .bool bb ∧ i = .int .i64 k ∧ Hid (Box2 wr B u v) ∧ Hid (Box2 wr w.heap.size (.slice none 0 0) (.slice none 0 0)) ∧ Hid (DC wr (w.heap.size + 1) B u v x) ∧ Hid (DB0 x) ∧ Rd wr R (N + 700 * (k + 1)) ∧ Hid (Ran R w wr)) (fun _ _ i _ => 6 - (intOf i).toNat)
  case atStart => exact ⟨0, ok0, _, _, X0, by omega, rfl, rfl, X3, R3, D3, HD, r3.more (by omega), G3⟩
  case round =>
    clear X3 R3 D3 HD r3 G3
    obtain ⟨k, bb, u, v, x, hk, rfl, rfl, X, R0, D, HD, hrd, hran⟩ := hrel
    have hgo := Classical.em (k < 6 ∧ bb = false)
    rcases hgo with ⟨hk6, hbf⟩ | hend
    · subst hbf
      have hd6 : decide ((k : Int) < 6) = true := by simp; omega
      have hd6' : (k : Int) < 6 := by omega
      go_wp2_with fail
      refine (l71Votes_any R _ _ hrd (by omega)).mono ?_
      rintro r w4 ⟨v4, l4, rfl, vr4, hl4, hlow4, r4, g4⟩
      have X4 := hide ((unhide X).ran g4 hBR)
      have R4 := hide ((unhide R0).ran g4 hlt)
      have G4 := hide ((unhide hran).trans g4)
      have HD4 := hide (DB0.of hlow4)
      have hX := hide (specCertOf_r w4 vr4 (hlow4.short (by omega)) (by omega))
      have hz4 := hide (unhide X4).lt
      obtain ⟨Y, hY⟩ : ∃ X, (certL l4).1 = X := ⟨_, rfl⟩
      obtain ⟨ok4, hok4⟩ : ∃ b, (certL l4).2 = b := ⟨_, rfl⟩
      rw [hY, hok4] at hX
      rw [hY] at HD4
      clear g4 vr4 hlow4 hY hok4 X R0 D HD hrd hran
      go_wp2_with fail
      refine (unhide hX).mono ?_
      clear hX
      rintro r w5 ⟨u5, v5, rfl, cs5, g5⟩
      obtain ⟨xa, xn, xc, ya, yn, yc, rfl, rfl⟩ := cs5.open
      have D5 := hide (cs5.dc (lo := w.heap.size + 1) (B := B) (by have := unhide hz4; omega) (.inl (unhide hz4)))
      have X5 := hide ((unhide X4).grew g5)
      have R5 := hide ((unhide R4).grew g5)
      have G5 := hide ((unhide G4).grew g5)
      have r5 := r4.grew g5
      obtain ⟨⟨x0, x1⟩, z0, z1⟩ := unhide X5
      have X6 := hide ((unhide X5).put (.slice xa xn xc) (.slice ya yn yc))
      have oth : ∀ b, b ≠ B → ((w5.setCell ⟨B, 0, none⟩ (.slice xa xn xc)).setCell ⟨B, 1, none⟩ (.slice ya yn yc)).heap[b]? = w5.heap[b]? := fun b hb => by rw [Below.heap_setCell _ _ _ _ hb, Below.heap_setCell _ _ _ _ hb]
      have R6 := hide ((unhide R5).kept (oth _ (by omega)))
      have D6 := hide ((unhide D5).kept (w' := (w5.setCell ⟨B, 0, none⟩ (.slice xa xn xc)).setCell ⟨B, 1, none⟩ (.slice ya yn yc)) (by simp [World.setCell]) (fun g _ _ hg => oth g hg))
      have r6 := (r5.setCell (p := ⟨B, 0, none⟩) hBR (.slice xa xn xc)).setCell (p := ⟨B, 1, none⟩) hBR (.slice ya yn yc)
      have G6 := hide (((unhide G5).setCell (p := ⟨B, 0, none⟩) (.inr (Nat.le_of_lt hBw)) (.slice xa xn xc)).setCell (p := ⟨B, 1, none⟩) (.inr (Nat.le_of_lt hBw)) (.slice ya yn yc))
      clear oth X4 X5 R4 R5 G4 G5 D5 r4 r5 cs5 g5
      go_wp2
      go_roundw
      case rel => exact ⟨k + 1, ok4, _, _, Y, by omega, rfl, by go_num, X6, R6, D6, HD4, r6.more (by omega), G6⟩
      case measure => simp [intOf]; omega
    · have hz : Hid (B < wr.heap.size) := hide (unhide X).lt
      have hfin : Hid (∀ r3, decide ((k : Int) < 6) = r3 → (if r3 = true then !bb else false) = false) := hide (fun r3 h => by
        subst h
        by_cases h6 : k < 6
        · cases bb with
          | false => exact absurd ⟨h6, rfl⟩ hend
          | true => simp
        · have : decide ((k : Int) < 6) = false := by simp; omega
          rw [this]; rfl)
      obtain ⟨⟨ua, uc, rfl, hdc⟩, hir⟩ := unhide D
      obtain ⟨vb, vcap, rfl, _, _⟩ := hir.ctR
      clear hdc hir
      have hend2 : (k < 6 ∧ bb = true) ∨ ¬ k < 6 := by
        by_cases h6 : k < 6
        · cases bb with
          | false => exact absurd ⟨h6, rfl⟩ hend
          | true => exact .inl ⟨h6, rfl⟩
        · exact .inr h6
      clear hend hfin
      rcases hend2 with ⟨hk6, rfl⟩ | hk6
      · have hd6 : decide ((k : Int) < 6) = true := by simp; omega
        have hd6' : (k : Int) < 6 := by omega
        go_wp2_with fail
        refine (pick_any R _ 10 _ hrd (by omega) (by omega)).mono ?_
        rintro r w3 ⟨z, rfl, z0, z1, z2, r3, g3⟩
        have z3 := z1 (by omega)
        have X := hide ((unhide X).ran g3 hBR)
        have R0 := hide ((unhide R0).ran g3 hlt)
        have D := hide ((unhide D).ran g3 (by omega))
        have hran := hide ((unhide hran).trans g3)
        have hrd := r3
        have hz3 := hide (unhide X).lt
        clear z1 z2 g3 r3 hz
        by_cases e0 : z = 0
        · subst e0
          rcases (unhide D).2.shape with ⟨hv0, hb0⟩ | ⟨g, cap, hv0, hcap, hg1, hg2, hgB⟩
          · simp only [Value.slice.injEq] at hv0
            obtain ⟨rfl, hl0, rfl⟩ := hv0
            rw [hl0] at X D
            clear hl0 hb0
            obtain ⟨⟨a0, a1⟩, c0, c1⟩ := unhide R0
            obtain ⟨⟨b0, b1⟩, d0, d1⟩ := unhide X
            go_wp2
            refine bodyPost_ret (by simp [results, Try.results92, go_sem, a0, a1]; try rfl) rfl ?_
            exact ⟨_, _, _, _, rfl, fin72 (base := 0) hlt (unhide D) (unhide HD).db hrd (by omega) (unhide hran) _ _⟩
          · simp only [Value.slice.injEq, true_and] at hv0
            obtain ⟨rfl, rfl⟩ := hv0
            obtain ⟨n, hn⟩ : ∃ n, x.b.length = n := ⟨_, rfl⟩
            have HN := hide hn
            rw [hn] at X D hcap
            clear hn
            by_cases hn0 : 0 < n
            · have hn0' : (0 : Int) < (n : Int) := by omega
              have hn1 : decide ((0 : Int) < (n : Int)) = true := by simp; omega
              obtain ⟨⟨y0, hy0⟩, zf⟩ := (unhide D).2.cells (j := 0) (by have := unhide HN; omega)
              have ol := (unhide D).grew ((Grew.refl w3).alloc (.cells #[.int .i64 1, .int .i64 2] 3))
              have hint : Ints (w3.alloc (.cells #[.int .i64 1, .int .i64 2] 3)) (some ⟨w3.heap.size, 0, none⟩) [1, 2] := by
                have := (OwnN.lit (w := w3) (base := 0) (Nat.zero_le _) [1, 2] 2 rfl (by omega)).shape
                obtain ⟨g', c', e, _, _, _, hi, _⟩ := this
                cases e
                exact hi
              have D4 := hide (DC.setrow ol (unhide HN).symm (j := 0) (by have := unhide HN; omega) [1, 2] 2 rfl w3.heap.size 2 (by omega) (by simp) (by omega) (by have := unhide hz3; omega) (Nat.le_refl _) hint)
              have X4 := hide (((unhide X).grew ((Grew.refl w3).alloc (.cells #[.int .i64 1, .int .i64 2] 3))).kept (w' := (w3.alloc (.cells #[.int .i64 1, .int .i64 2] 3)).setCell ⟨g, 0, none⟩ (.slice (some ⟨w3.heap.size, 0, none⟩) 2 2)) (Below.heap_setCell _ _ _ _ (by show B ≠ g; omega)))
              have R4 := hide (((unhide R0).grew ((Grew.refl w3).alloc (.cells #[.int .i64 1, .int .i64 2] 3))).kept (w' := (w3.alloc (.cells #[.int .i64 1, .int .i64 2] 3)).setCell ⟨g, 0, none⟩ (.slice (some ⟨w3.heap.size, 0, none⟩) 2 2)) (Below.heap_setCell _ _ _ _ (by show w.heap.size ≠ g; omega)))
              have r4 := (hrd.grew ((Grew.refl w3).alloc (.cells #[.int .i64 1, .int .i64 2] 3))).setCell (p := ⟨g, 0, none⟩) (by show R < g; omega) (.slice (some ⟨w3.heap.size, 0, none⟩) 2 2)
              have ran4 := hide (((unhide hran).grew ((Grew.refl w3).alloc (.cells #[.int .i64 1, .int .i64 2] 3))).setCell (p := ⟨g, 0, none⟩) (.inr (by show w.heap.size ≤ g; omega)) (.slice (some ⟨w3.heap.size, 0, none⟩) 2 2))
              clear ol hint D
              obtain ⟨⟨b0, b1⟩, d0, d1⟩ := unhide X
              obtain ⟨⟨a0, a1⟩, c0, c1⟩ := unhide R0
              have hne1 : g ≠ B := hgB
              have hne2 : w.heap.size ≠ g := by omega
              have hsc : (w3.alloc (.cells #[.int .i64 1, .int .i64 2] 3)).setCell ⟨g, 0, none⟩ (.slice (some ⟨w3.heap.size, 0, none⟩) 2 2) = (w3.setCell ⟨g, 0, none⟩ (.slice (some ⟨w3.heap.size, 0, none⟩) 2 2)).alloc (.cells #[.int .i64 1, .int .i64 2] 3) := by
                exact World.setCell_alloc_past _ _ _ _ hg2
              rw [hsc] at D4 X4 R4 r4 ran4
              clear hsc
              obtain ⟨⟨f0, f1⟩, _⟩ := unhide X4
              obtain ⟨⟨e0, e1⟩, h0, h1⟩ := unhide R4
              go_wp2
              refine bodyPost_ret (by simp [results, Try.results92, go_sem, e0, e1]; try rfl) rfl ?_
              exact ⟨_, _, _, _, rfl, fin72 (base := 0) hlt (unhide D4) ((unhide HD).set _ _ (by simp)) r4 (by omega) (unhide ran4) _ _⟩
            · have hn0' : ¬ (0 : Int) < (n : Int) := by omega
              have hn1 : decide ((0 : Int) < (n : Int)) = false := by simp; omega
              obtain ⟨⟨a0, a1⟩, c0, c1⟩ := unhide R0
              obtain ⟨⟨b0, b1⟩, d0, d1⟩ := unhide X
              go_wp2
              refine bodyPost_ret (by simp [results, Try.results92, go_sem, a0, a1]; try rfl) rfl ?_
              exact ⟨_, _, _, _, rfl, fin72 (base := 0) hlt (unhide D) (unhide HD).db hrd (by omega) (unhide hran) _ _⟩
        · have e0' : (z == 0) = false := by simp; omega
          by_cases e1 : z = 1
          · subst e1
            go_wp2_with fail
            refine (l71Off_any R _ _ hrd (by omega)).mono ?_
            rintro r w4 ⟨v4, cc, rfl, oc, hcc, r4, g4⟩
            obtain ⟨g, cap, rfl, hcap, hg1, hg2, hic⟩ := oc.shape
            have hvo : (Value.slice vb x.b.length vcap).ownBlock ≠ some g := fun e => by have := ((unhide D).2.block g e).2; omega
            have X4 := hide ((unhide X).ran g4 hBR)
            have R4 := hide ((unhide R0).ran g4 hlt)
            have D4 := hide (((unhide D).ran g4 (by omega)).chain cc hcap hic (by have := unhide hz3; omega) hg2 (by have := unhide hz3; omega) hvo (.slice (some ⟨g, 0, none⟩) cc.length cap))
            have ran4 := hide (((unhide hran).trans g4).setCell (p := ⟨B, 0, none⟩) (.inr (Nat.le_of_lt hBw)) (.slice (some ⟨g, 0, none⟩) cc.length cap))
            have r5 := r4.setCell (p := ⟨B, 0, none⟩) hBR (.slice (some ⟨g, 0, none⟩) cc.length cap)
            have X5 := hide ((unhide X4).set0 (.slice (some ⟨g, 0, none⟩) cc.length cap))
            have R5 := hide ((unhide R4).kept (w' := w4.setCell ⟨B, 0, none⟩ (.slice (some ⟨g, 0, none⟩) cc.length cap)) (Below.heap_setCell _ _ _ _ (by show w.heap.size ≠ B; omega)))
            have HDD := hide ((unhide HD).chain cc (by omega))
            clear hic oc D g4 hcc hran hrd r4
            obtain ⟨⟨b0, b1⟩, d0, d1⟩ := unhide X4
            obtain ⟨⟨f0, f1⟩, _⟩ := unhide X5
            obtain ⟨⟨e0, e1⟩, h0, h1⟩ := unhide R5
            go_wp2
            refine bodyPost_ret (by simp [results, Try.results92, go_sem, e0, e1]; try rfl) rfl ?_
            exact ⟨_, _, _, _, rfl, fin72 (base := 0) hlt (unhide D4) (unhide HDD) r5 (by omega) (unhide ran4) _ _⟩
          · have e1' : (z == 1) = false := by simp; omega
            by_cases e2 : z = 2
            · subst e2
              obtain ⟨⟨b0, b1⟩, d0, d1⟩ := unhide X
              have gg := ((Grew.refl w3).alloc (.cells #[.int .i64 1, .int .i64 2, .int .i64 3] 3)).alloc (.cells #[.slice (some ⟨w3.heap.size, 0, none⟩) 3 3] 47)
              have GG := hide gg
              have HROW := hide ((unhide D).grew gg)
              have HCE : Hid (∀ j u, ([.slice (some ⟨w3.heap.size, 0, none⟩) 3 3] : List Value)[j]? = some u → ((w3.alloc (.cells #[.int .i64 1, .int .i64 2, .int .i64 3] 3)).alloc (.cells #[.slice (some ⟨w3.heap.size, 0, none⟩) 3 3] 47)).cell? ((⟨w3.heap.size + 1, 0, none⟩ : Addr).add j) = some u) := hide (by
                have := cell_row (w3.alloc (.cells #[.int .i64 1, .int .i64 2, .int .i64 3] 3)) (.slice (some ⟨w3.heap.size, 0, none⟩) 3 3) 47
                simpa using this)
              have HIN : Hid (Ints ((w3.alloc (.cells #[.int .i64 1, .int .i64 2, .int .i64 3] 3)).alloc (.cells #[.slice (some ⟨w3.heap.size, 0, none⟩) 3 3] 47)) (some ⟨w3.heap.size, 0, none⟩) [1, 2, 3]) := hide (by
                have := (OwnN.lit (w := w3) (base := 0) (Nat.zero_le _) [1, 2, 3] 3 rfl (by omega)).shape
                obtain ⟨g', c', e, _, _, _, hi, _⟩ := this
                cases e
                exact hi.grew ((Grew.refl _).alloc _))
              have hvo : Hid ((Value.slice vb x.b.length vcap).ownBlock ≠ some w3.heap.size) := hide (fun e => by have := ((unhide D).2.block _ e).2; omega)
              have hvb := hide (fun k (e : (Value.slice vb x.b.length vcap).ownBlock = some k) => ((unhide D).2.block k e).1)
              have hb3 : Hid (x.b.length ≤ 3) := hide (unhide HD).2.1
              clear gg
              go_wp2_with (first | (at_builtin; refine wpList_irow rfl _ _ rfl (w.heap.size + 1) B (.slice vb x.b.length vcap) x.b rfl (unhide HROW).2 ⟨w3.heap.size + 1, 0, none⟩ 1 rfl [1, 2, 3] 3 rfl w3.heap.size 3 (unhide HCE) (by have := unhide hz3; omega) (by simp; omega) (by have := unhide hz3; omega) (unhide hvo) (Nat.le_refl _) (unhide HIN) (by have := unhide hb3; omega) (by have := unhide hz3; simp; omega) (by have := unhide hz3; simp; omega) ?_))
              intro gn cn w4 o4 g4 hat
              have hvB : (Value.slice vb x.b.length vcap).ownBlock ≠ some B := (unhide D).2.1
              have hvW : (Value.slice vb x.b.length vcap).ownBlock ≠ some w.heap.size := fun e => by have := unhide hvb _ e; omega
              have D4 := hide (((unhide HROW).by g4 o4 (hat.imp id (fun e => by rw [e]; simp))).kept (w' := w4.setCell ⟨B, 1, none⟩ (.slice (some ⟨gn, 0, none⟩) (x.b.length + 1) cn)) (by simp [World.setCell]) (fun b _ _ hb => Below.heap_setCell _ _ _ _ hb))
              have X4 := hide (((unhide X).grew (unhide GG)).grown g4 hvB)
              have R4 := hide (((unhide R0).grew (unhide GG)).grown g4 hvW)
              have r4 := ((hrd.grew (unhide GG)).grown g4 (fun k hk => by have := unhide hvb k hk; omega)).setCell (p := ⟨B, 1, none⟩) hBR (.slice (some ⟨gn, 0, none⟩) (x.b.length + 1) cn)
              have ran4 := hide ((((unhide hran).grew (unhide GG)).grown g4 (fun k hk => by have := unhide hvb k hk; omega)).setCell (p := ⟨B, 1, none⟩) (.inr (Nat.le_of_lt hBw)) (.slice (some ⟨gn, 0, none⟩) (x.b.length + 1) cn))
              have X5 := hide ((unhide X4).set1 (.slice (some ⟨gn, 0, none⟩) (x.b.length + 1) cn))
              have R5 := hide ((unhide R4).kept (w' := w4.setCell ⟨B, 1, none⟩ (.slice (some ⟨gn, 0, none⟩) (x.b.length + 1) cn)) (Below.heap_setCell _ _ _ _ (by show w.heap.size ≠ B; omega)))
              have HDD := hide ((unhide HD).snoc [1, 2, 3] (by simp))
              clear D HROW HCE HIN hvo hvb o4 g4 hat GG hran hrd hvB hvW b0 b1 d0 d1
              obtain ⟨⟨b0, b1⟩, d0, d1⟩ := unhide X4
              obtain ⟨⟨f0, f1⟩, _⟩ := unhide X5
              obtain ⟨⟨e0, e1⟩, h0, h1⟩ := unhide R5
              go_wp2
              refine bodyPost_ret (by simp [results, Try.results92, go_sem, e0, e1]; try rfl) rfl ?_
              exact ⟨_, _, _, _, rfl, fin72 (base := 0) hlt (unhide D4) (unhide HDD) r4 (by omega) (unhide ran4) _ _⟩
            · have e2' : (z == 2) = false := by simp; omega
              by_cases e3 : z = 3
              · subst e3
                rcases (unhide D).2.shape with ⟨hv0, hb0⟩ | ⟨g, cap, hv0, hcap, hg1, hg2, hgB⟩
                · simp only [Value.slice.injEq] at hv0
                  obtain ⟨rfl, hl0, rfl⟩ := hv0
                  rw [hl0] at X D
                  clear hl0 hb0
                  obtain ⟨⟨a0, a1⟩, c0, c1⟩ := unhide R0
                  obtain ⟨⟨b0, b1⟩, d0, d1⟩ := unhide X
                  go_wp2
                  refine bodyPost_ret (by simp [results, Try.results92, go_sem, a0, a1]; try rfl) rfl ?_
                  exact ⟨_, _, _, _, rfl, fin72 (base := 0) hlt (unhide D) (unhide HD).db hrd (by omega) (unhide hran) _ _⟩
                · simp only [Value.slice.injEq, true_and] at hv0
                  obtain ⟨rfl, rfl⟩ := hv0
                  obtain ⟨n, hn⟩ : ∃ n, x.b.length = n := ⟨_, rfl⟩
                  have HN := hide hn
                  rw [hn] at X D hcap
                  clear hn
                  by_cases hn0 : 1 < n
                  · have hn0' : (1 : Int) < (n : Int) := by omega
                    have hn1 : decide ((1 : Int) < (n : Int)) = true := by simp; omega
                    obtain ⟨⟨y0, hy0⟩, zf⟩ := (unhide D).2.cells (j := 1) (by have := unhide HN; omega)
                    have ol := (unhide D).grew ((Grew.refl w3).alloc (.cells #[.int .i64 1, .int .i64 3, .int .i64 3, .int .i64 4] 3))
                    have hint : Ints (w3.alloc (.cells #[.int .i64 1, .int .i64 3, .int .i64 3, .int .i64 4] 3)) (some ⟨w3.heap.size, 0, none⟩) [1, 3, 3, 4] := by
                      have := (OwnN.lit (w := w3) (base := 0) (Nat.zero_le _) [1, 3, 3, 4] 4 rfl (by omega)).shape
                      obtain ⟨g', c', e, _, _, _, hi, _⟩ := this
                      cases e
                      exact hi
                    have D4 := hide (DC.setrow ol (unhide HN).symm (j := 1) (by have := unhide HN; omega) [1, 3, 3, 4] 4 rfl w3.heap.size 4 (by omega) (by simp) (by omega) (by have := unhide hz3; omega) (Nat.le_refl _) hint)
                    have X4 := hide (((unhide X).grew ((Grew.refl w3).alloc (.cells #[.int .i64 1, .int .i64 3, .int .i64 3, .int .i64 4] 3))).kept (w' := (w3.alloc (.cells #[.int .i64 1, .int .i64 3, .int .i64 3, .int .i64 4] 3)).setCell ⟨g, 1, none⟩ (.slice (some ⟨w3.heap.size, 0, none⟩) 4 4)) (Below.heap_setCell _ _ _ _ (by show B ≠ g; omega)))
                    have R4 := hide (((unhide R0).grew ((Grew.refl w3).alloc (.cells #[.int .i64 1, .int .i64 3, .int .i64 3, .int .i64 4] 3))).kept (w' := (w3.alloc (.cells #[.int .i64 1, .int .i64 3, .int .i64 3, .int .i64 4] 3)).setCell ⟨g, 1, none⟩ (.slice (some ⟨w3.heap.size, 0, none⟩) 4 4)) (Below.heap_setCell _ _ _ _ (by show w.heap.size ≠ g; omega)))
                    have r4 := (hrd.grew ((Grew.refl w3).alloc (.cells #[.int .i64 1, .int .i64 3, .int .i64 3, .int .i64 4] 3))).setCell (p := ⟨g, 1, none⟩) (by show R < g; omega) (.slice (some ⟨w3.heap.size, 0, none⟩) 4 4)
                    have ran4 := hide (((unhide hran).grew ((Grew.refl w3).alloc (.cells #[.int .i64 1, .int .i64 3, .int .i64 3, .int .i64 4] 3))).setCell (p := ⟨g, 1, none⟩) (.inr (by show w.heap.size ≤ g; omega)) (.slice (some ⟨w3.heap.size, 0, none⟩) 4 4))
                    clear ol hint D
                    obtain ⟨⟨b0, b1⟩, d0, d1⟩ := unhide X
                    obtain ⟨⟨a0, a1⟩, c0, c1⟩ := unhide R0
                    have hne1 : g ≠ B := hgB
                    have hne2 : w.heap.size ≠ g := by omega
                    have hsc : (w3.alloc (.cells #[.int .i64 1, .int .i64 3, .int .i64 3, .int .i64 4] 3)).setCell ⟨g, 1, none⟩ (.slice (some ⟨w3.heap.size, 0, none⟩) 4 4) = (w3.setCell ⟨g, 1, none⟩ (.slice (some ⟨w3.heap.size, 0, none⟩) 4 4)).alloc (.cells #[.int .i64 1, .int .i64 3, .int .i64 3, .int .i64 4] 3) := by
                      exact World.setCell_alloc_past _ _ _ _ hg2
                    rw [hsc] at D4 X4 R4 r4 ran4
                    clear hsc
                    obtain ⟨⟨f0, f1⟩, _⟩ := unhide X4
                    obtain ⟨⟨e0, e1⟩, h0, h1⟩ := unhide R4
                    go_wp2
                    refine bodyPost_ret (by simp [results, Try.results92, go_sem, e0, e1]; try rfl) rfl ?_
                    exact ⟨_, _, _, _, rfl, fin72 (base := 0) hlt (unhide D4) ((unhide HD).set _ _ (by simp)) r4 (by omega) (unhide ran4) _ _⟩
                  · have hn0' : ¬ (1 : Int) < (n : Int) := by omega
                    have hn1 : decide ((1 : Int) < (n : Int)) = false := by simp; omega
                    obtain ⟨⟨a0, a1⟩, c0, c1⟩ := unhide R0
                    obtain ⟨⟨b0, b1⟩, d0, d1⟩ := unhide X
                    go_wp2
                    refine bodyPost_ret (by simp [results, Try.results92, go_sem, a0, a1]; try rfl) rfl ?_
                    exact ⟨_, _, _, _, rfl, fin72 (base := 0) hlt (unhide D) (unhide HD).db hrd (by omega) (unhide hran) _ _⟩
              · have e3' : (z == 3) = false := by simp; omega
                obtain ⟨⟨a0, a1⟩, c0, c1⟩ := unhide R0
                obtain ⟨⟨b0, b1⟩, d0, d1⟩ := unhide X
                go_wp2
                refine bodyPost_ret (by simp [results, Try.results92, go_sem, a0, a1]; try rfl) rfl ?_
                exact ⟨_, _, _, _, rfl, fin72 (base := 0) hlt (unhide D) (unhide HD).db hrd (by omega) (unhide hran) _ _⟩
      · have hd6 : decide ((k : Int) < 6) = false := by simp; omega
        have hd6' : ¬ (k : Int) < 6 := by omega
        go_wp2_with fail
        refine (pick_any R _ 10 _ hrd (by omega) (by omega)).mono ?_
        rintro r w3 ⟨z, rfl, z0, z1, z2, r3, g3⟩
        have z3 := z1 (by omega)
        have X := hide ((unhide X).ran g3 hBR)
        have R0 := hide ((unhide R0).ran g3 hlt)
        have D := hide ((unhide D).ran g3 (by omega))
        have hran := hide ((unhide hran).trans g3)
        have hrd := r3
        have hz3 := hide (unhide X).lt
        clear z1 z2 g3 r3 hz
        by_cases e0 : z = 0
        · subst e0
          rcases (unhide D).2.shape with ⟨hv0, hb0⟩ | ⟨g, cap, hv0, hcap, hg1, hg2, hgB⟩
          · simp only [Value.slice.injEq] at hv0
            obtain ⟨rfl, hl0, rfl⟩ := hv0
            rw [hl0] at X D
            clear hl0 hb0
            obtain ⟨⟨a0, a1⟩, c0, c1⟩ := unhide R0
            obtain ⟨⟨b0, b1⟩, d0, d1⟩ := unhide X
            go_wp2
            refine bodyPost_ret (by simp [results, Try.results92, go_sem, a0, a1]; try rfl) rfl ?_
            exact ⟨_, _, _, _, rfl, fin72 (base := 0) hlt (unhide D) (unhide HD).db hrd (by omega) (unhide hran) _ _⟩
          · simp only [Value.slice.injEq, true_and] at hv0
            obtain ⟨rfl, rfl⟩ := hv0
            obtain ⟨n, hn⟩ : ∃ n, x.b.length = n := ⟨_, rfl⟩
            have HN := hide hn
            rw [hn] at X D hcap
            clear hn
            by_cases hn0 : 0 < n
            · have hn0' : (0 : Int) < (n : Int) := by omega
              have hn1 : decide ((0 : Int) < (n : Int)) = true := by simp; omega
              obtain ⟨⟨y0, hy0⟩, zf⟩ := (unhide D).2.cells (j := 0) (by have := unhide HN; omega)
              have ol := (unhide D).grew ((Grew.refl w3).alloc (.cells #[.int .i64 1, .int .i64 2] 3))
              have hint : Ints (w3.alloc (.cells #[.int .i64 1, .int .i64 2] 3)) (some ⟨w3.heap.size, 0, none⟩) [1, 2] := by
                have := (OwnN.lit (w := w3) (base := 0) (Nat.zero_le _) [1, 2] 2 rfl (by omega)).shape
                obtain ⟨g', c', e, _, _, _, hi, _⟩ := this
                cases e
                exact hi
              have D4 := hide (DC.setrow ol (unhide HN).symm (j := 0) (by have := unhide HN; omega) [1, 2] 2 rfl w3.heap.size 2 (by omega) (by simp) (by omega) (by have := unhide hz3; omega) (Nat.le_refl _) hint)
              have X4 := hide (((unhide X).grew ((Grew.refl w3).alloc (.cells #[.int .i64 1, .int .i64 2] 3))).kept (w' := (w3.alloc (.cells #[.int .i64 1, .int .i64 2] 3)).setCell ⟨g, 0, none⟩ (.slice (some ⟨w3.heap.size, 0, none⟩) 2 2)) (Below.heap_setCell _ _ _ _ (by show B ≠ g; omega)))
              have R4 := hide (((unhide R0).grew ((Grew.refl w3).alloc (.cells #[.int .i64 1, .int .i64 2] 3))).kept (w' := (w3.alloc (.cells #[.int .i64 1, .int .i64 2] 3)).setCell ⟨g, 0, none⟩ (.slice (some ⟨w3.heap.size, 0, none⟩) 2 2)) (Below.heap_setCell _ _ _ _ (by show w.heap.size ≠ g; omega)))
              have r4 := (hrd.grew ((Grew.refl w3).alloc (.cells #[.int .i64 1, .int .i64 2] 3))).setCell (p := ⟨g, 0, none⟩) (by show R < g; omega) (.slice (some ⟨w3.heap.size, 0, none⟩) 2 2)
              have ran4 := hide (((unhide hran).grew ((Grew.refl w3).alloc (.cells #[.int .i64 1, .int .i64 2] 3))).setCell (p := ⟨g, 0, none⟩) (.inr (by show w.heap.size ≤ g; omega)) (.slice (some ⟨w3.heap.size, 0, none⟩) 2 2))
              clear ol hint D
              obtain ⟨⟨b0, b1⟩, d0, d1⟩ := unhide X
              obtain ⟨⟨a0, a1⟩, c0, c1⟩ := unhide R0
              have hne1 : g ≠ B := hgB
              have hne2 : w.heap.size ≠ g := by omega
              have hsc : (w3.alloc (.cells #[.int .i64 1, .int .i64 2] 3)).setCell ⟨g, 0, none⟩ (.slice (some ⟨w3.heap.size, 0, none⟩) 2 2) = (w3.setCell ⟨g, 0, none⟩ (.slice (some ⟨w3.heap.size, 0, none⟩) 2 2)).alloc (.cells #[.int .i64 1, .int .i64 2] 3) := by
                exact World.setCell_alloc_past _ _ _ _ hg2
              rw [hsc] at D4 X4 R4 r4 ran4
              clear hsc
              obtain ⟨⟨f0, f1⟩, _⟩ := unhide X4
              obtain ⟨⟨e0, e1⟩, h0, h1⟩ := unhide R4
              go_wp2
              refine bodyPost_ret (by simp [results, Try.results92, go_sem, e0, e1]; try rfl) rfl ?_
              exact ⟨_, _, _, _, rfl, fin72 (base := 0) hlt (unhide D4) ((unhide HD).set _ _ (by simp)) r4 (by omega) (unhide ran4) _ _⟩
            · have hn0' : ¬ (0 : Int) < (n : Int) := by omega
              have hn1 : decide ((0 : Int) < (n : Int)) = false := by simp; omega
              obtain ⟨⟨a0, a1⟩, c0, c1⟩ := unhide R0
              obtain ⟨⟨b0, b1⟩, d0, d1⟩ := unhide X
              go_wp2
              refine bodyPost_ret (by simp [results, Try.results92, go_sem, a0, a1]; try rfl) rfl ?_
              exact ⟨_, _, _, _, rfl, fin72 (base := 0) hlt (unhide D) (unhide HD).db hrd (by omega) (unhide hran) _ _⟩
        · have e0' : (z == 0) = false := by simp; omega
          by_cases e1 : z = 1
          · subst e1
            go_wp2_with fail
            refine (l71Off_any R _ _ hrd (by omega)).mono ?_
            rintro r w4 ⟨v4, cc, rfl, oc, hcc, r4, g4⟩
            obtain ⟨g, cap, rfl, hcap, hg1, hg2, hic⟩ := oc.shape
            have hvo : (Value.slice vb x.b.length vcap).ownBlock ≠ some g := fun e => by have := ((unhide D).2.block g e).2; omega
            have X4 := hide ((unhide X).ran g4 hBR)
            have R4 := hide ((unhide R0).ran g4 hlt)
            have D4 := hide (((unhide D).ran g4 (by omega)).chain cc hcap hic (by have := unhide hz3; omega) hg2 (by have := unhide hz3; omega) hvo (.slice (some ⟨g, 0, none⟩) cc.length cap))
            have ran4 := hide (((unhide hran).trans g4).setCell (p := ⟨B, 0, none⟩) (.inr (Nat.le_of_lt hBw)) (.slice (some ⟨g, 0, none⟩) cc.length cap))
            have r5 := r4.setCell (p := ⟨B, 0, none⟩) hBR (.slice (some ⟨g, 0, none⟩) cc.length cap)
            have X5 := hide ((unhide X4).set0 (.slice (some ⟨g, 0, none⟩) cc.length cap))
            have R5 := hide ((unhide R4).kept (w' := w4.setCell ⟨B, 0, none⟩ (.slice (some ⟨g, 0, none⟩) cc.length cap)) (Below.heap_setCell _ _ _ _ (by show w.heap.size ≠ B; omega)))
            have HDD := hide ((unhide HD).chain cc (by omega))
            clear hic oc D g4 hcc hran hrd r4
            obtain ⟨⟨b0, b1⟩, d0, d1⟩ := unhide X4
            obtain ⟨⟨f0, f1⟩, _⟩ := unhide X5
            obtain ⟨⟨e0, e1⟩, h0, h1⟩ := unhide R5
            go_wp2
            refine bodyPost_ret (by simp [results, Try.results92, go_sem, e0, e1]; try rfl) rfl ?_
            exact ⟨_, _, _, _, rfl, fin72 (base := 0) hlt (unhide D4) (unhide HDD) r5 (by omega) (unhide ran4) _ _⟩
          · have e1' : (z == 1) = false := by simp; omega
            by_cases e2 : z = 2
            · subst e2
              obtain ⟨⟨b0, b1⟩, d0, d1⟩ := unhide X
              have gg := ((Grew.refl w3).alloc (.cells #[.int .i64 1, .int .i64 2, .int .i64 3] 3)).alloc (.cells #[.slice (some ⟨w3.heap.size, 0, none⟩) 3 3] 47)
              have GG := hide gg
              have HROW := hide ((unhide D).grew gg)
              have HCE : Hid (∀ j u, ([.slice (some ⟨w3.heap.size, 0, none⟩) 3 3] : List Value)[j]? = some u → ((w3.alloc (.cells #[.int .i64 1, .int .i64 2, .int .i64 3] 3)).alloc (.cells #[.slice (some ⟨w3.heap.size, 0, none⟩) 3 3] 47)).cell? ((⟨w3.heap.size + 1, 0, none⟩ : Addr).add j) = some u) := hide (by
                have := cell_row (w3.alloc (.cells #[.int .i64 1, .int .i64 2, .int .i64 3] 3)) (.slice (some ⟨w3.heap.size, 0, none⟩) 3 3) 47
                simpa using this)
              have HIN : Hid (Ints ((w3.alloc (.cells #[.int .i64 1, .int .i64 2, .int .i64 3] 3)).alloc (.cells #[.slice (some ⟨w3.heap.size, 0, none⟩) 3 3] 47)) (some ⟨w3.heap.size, 0, none⟩) [1, 2, 3]) := hide (by
                have := (OwnN.lit (w := w3) (base := 0) (Nat.zero_le _) [1, 2, 3] 3 rfl (by omega)).shape
                obtain ⟨g', c', e, _, _, _, hi, _⟩ := this
                cases e
                exact hi.grew ((Grew.refl _).alloc _))
              have hvo : Hid ((Value.slice vb x.b.length vcap).ownBlock ≠ some w3.heap.size) := hide (fun e => by have := ((unhide D).2.block _ e).2; omega)
              have hvb := hide (fun k (e : (Value.slice vb x.b.length vcap).ownBlock = some k) => ((unhide D).2.block k e).1)
              have hb3 : Hid (x.b.length ≤ 3) := hide (unhide HD).2.1
              clear gg
              go_wp2_with (first | (at_builtin; refine wpList_irow rfl _ _ rfl (w.heap.size + 1) B (.slice vb x.b.length vcap) x.b rfl (unhide HROW).2 ⟨w3.heap.size + 1, 0, none⟩ 1 rfl [1, 2, 3] 3 rfl w3.heap.size 3 (unhide HCE) (by have := unhide hz3; omega) (by simp; omega) (by have := unhide hz3; omega) (unhide hvo) (Nat.le_refl _) (unhide HIN) (by have := unhide hb3; omega) (by have := unhide hz3; simp; omega) (by have := unhide hz3; simp; omega) ?_))
              intro gn cn w4 o4 g4 hat
              have hvB : (Value.slice vb x.b.length vcap).ownBlock ≠ some B := (unhide D).2.1
              have hvW : (Value.slice vb x.b.length vcap).ownBlock ≠ some w.heap.size := fun e => by have := unhide hvb _ e; omega
              have D4 := hide (((unhide HROW).by g4 o4 (hat.imp id (fun e => by rw [e]; simp))).kept (w' := w4.setCell ⟨B, 1, none⟩ (.slice (some ⟨gn, 0, none⟩) (x.b.length + 1) cn)) (by simp [World.setCell]) (fun b _ _ hb => Below.heap_setCell _ _ _ _ hb))
              have X4 := hide (((unhide X).grew (unhide GG)).grown g4 hvB)
              have R4 := hide (((unhide R0).grew (unhide GG)).grown g4 hvW)
              have r4 := ((hrd.grew (unhide GG)).grown g4 (fun k hk => by have := unhide hvb k hk; omega)).setCell (p := ⟨B, 1, none⟩) hBR (.slice (some ⟨gn, 0, none⟩) (x.b.length + 1) cn)
              have ran4 := hide ((((unhide hran).grew (unhide GG)).grown g4 (fun k hk => by have := unhide hvb k hk; omega)).setCell (p := ⟨B, 1, none⟩) (.inr (Nat.le_of_lt hBw)) (.slice (some ⟨gn, 0, none⟩) (x.b.length + 1) cn))
              have X5 := hide ((unhide X4).set1 (.slice (some ⟨gn, 0, none⟩) (x.b.length + 1) cn))
              have R5 := hide ((unhide R4).kept (w' := w4.setCell ⟨B, 1, none⟩ (.slice (some ⟨gn, 0, none⟩) (x.b.length + 1) cn)) (Below.heap_setCell _ _ _ _ (by show w.heap.size ≠ B; omega)))
              have HDD := hide ((unhide HD).snoc [1, 2, 3] (by simp))
              clear D HROW HCE HIN hvo hvb o4 g4 hat GG hran hrd hvB hvW b0 b1 d0 d1
              obtain ⟨⟨b0, b1⟩, d0, d1⟩ := unhide X4
              obtain ⟨⟨f0, f1⟩, _⟩ := unhide X5
              obtain ⟨⟨e0, e1⟩, h0, h1⟩ := unhide R5
              go_wp2
              refine bodyPost_ret (by simp [results, Try.results92, go_sem, e0, e1]; try rfl) rfl ?_
              exact ⟨_, _, _, _, rfl, fin72 (base := 0) hlt (unhide D4) (unhide HDD) r4 (by omega) (unhide ran4) _ _⟩
            · have e2' : (z == 2) = false := by simp; omega
              by_cases e3 : z = 3
              · subst e3
                rcases (unhide D).2.shape with ⟨hv0, hb0⟩ | ⟨g, cap, hv0, hcap, hg1, hg2, hgB⟩
                · simp only [Value.slice.injEq] at hv0
                  obtain ⟨rfl, hl0, rfl⟩ := hv0
                  rw [hl0] at X D
                  clear hl0 hb0
                  obtain ⟨⟨a0, a1⟩, c0, c1⟩ := unhide R0
                  obtain ⟨⟨b0, b1⟩, d0, d1⟩ := unhide X
                  go_wp2
                  refine bodyPost_ret (by simp [results, Try.results92, go_sem, a0, a1]; try rfl) rfl ?_
                  exact ⟨_, _, _, _, rfl, fin72 (base := 0) hlt (unhide D) (unhide HD).db hrd (by omega) (unhide hran) _ _⟩
                · simp only [Value.slice.injEq, true_and] at hv0
                  obtain ⟨rfl, rfl⟩ := hv0
                  obtain ⟨n, hn⟩ : ∃ n, x.b.length = n := ⟨_, rfl⟩
                  have HN := hide hn
                  rw [hn] at X D hcap
                  clear hn
                  by_cases hn0 : 1 < n
                  · have hn0' : (1 : Int) < (n : Int) := by omega
                    have hn1 : decide ((1 : Int) < (n : Int)) = true := by simp; omega
                    obtain ⟨⟨y0, hy0⟩, zf⟩ := (unhide D).2.cells (j := 1) (by have := unhide HN; omega)
                    have ol := (unhide D).grew ((Grew.refl w3).alloc (.cells #[.int .i64 1, .int .i64 3, .int .i64 3, .int .i64 4] 3))
                    have hint : Ints (w3.alloc (.cells #[.int .i64 1, .int .i64 3, .int .i64 3, .int .i64 4] 3)) (some ⟨w3.heap.size, 0, none⟩) [1, 3, 3, 4] := by
                      have := (OwnN.lit (w := w3) (base := 0) (Nat.zero_le _) [1, 3, 3, 4] 4 rfl (by omega)).shape
                      obtain ⟨g', c', e, _, _, _, hi, _⟩ := this
                      cases e
                      exact hi
                    have D4 := hide (DC.setrow ol (unhide HN).symm (j := 1) (by have := unhide HN; omega) [1, 3, 3, 4] 4 rfl w3.heap.size 4 (by omega) (by simp) (by omega) (by have := unhide hz3; omega) (Nat.le_refl _) hint)
                    have X4 := hide (((unhide X).grew ((Grew.refl w3).alloc (.cells #[.int .i64 1, .int .i64 3, .int .i64 3, .int .i64 4] 3))).kept (w' := (w3.alloc (.cells #[.int .i64 1, .int .i64 3, .int .i64 3, .int .i64 4] 3)).setCell ⟨g, 1, none⟩ (.slice (some ⟨w3.heap.size, 0, none⟩) 4 4)) (Below.heap_setCell _ _ _ _ (by show B ≠ g; omega)))
                    have R4 := hide (((unhide R0).grew ((Grew.refl w3).alloc (.cells #[.int .i64 1, .int .i64 3, .int .i64 3, .int .i64 4] 3))).kept (w' := (w3.alloc (.cells #[.int .i64 1, .int .i64 3, .int .i64 3, .int .i64 4] 3)).setCell ⟨g, 1, none⟩ (.slice (some ⟨w3.heap.size, 0, none⟩) 4 4)) (Below.heap_setCell _ _ _ _ (by show w.heap.size ≠ g; omega)))
                    have r4 := (hrd.grew ((Grew.refl w3).alloc (.cells #[.int .i64 1, .int .i64 3, .int .i64 3, .int .i64 4] 3))).setCell (p := ⟨g, 1, none⟩) (by show R < g; omega) (.slice (some ⟨w3.heap.size, 0, none⟩) 4 4)
                    have ran4 := hide (((unhide hran).grew ((Grew.refl w3).alloc (.cells #[.int .i64 1, .int .i64 3, .int .i64 3, .int .i64 4] 3))).setCell (p := ⟨g, 1, none⟩) (.inr (by show w.heap.size ≤ g; omega)) (.slice (some ⟨w3.heap.size, 0, none⟩) 4 4))
                    clear ol hint D
                    obtain ⟨⟨b0, b1⟩, d0, d1⟩ := unhide X
                    obtain ⟨⟨a0, a1⟩, c0, c1⟩ := unhide R0
                    have hne1 : g ≠ B := hgB
                    have hne2 : w.heap.size ≠ g := by omega
                    have hsc : (w3.alloc (.cells #[.int .i64 1, .int .i64 3, .int .i64 3, .int .i64 4] 3)).setCell ⟨g, 1, none⟩ (.slice (some ⟨w3.heap.size, 0, none⟩) 4 4) = (w3.setCell ⟨g, 1, none⟩ (.slice (some ⟨w3.heap.size, 0, none⟩) 4 4)).alloc (.cells #[.int .i64 1, .int .i64 3, .int .i64 3, .int .i64 4] 3) := by
                      exact World.setCell_alloc_past _ _ _ _ hg2
                    rw [hsc] at D4 X4 R4 r4 ran4
                    clear hsc
                    obtain ⟨⟨f0, f1⟩, _⟩ := unhide X4
                    obtain ⟨⟨e0, e1⟩, h0, h1⟩ := unhide R4
                    go_wp2
                    refine bodyPost_ret (by simp [results, Try.results92, go_sem, e0, e1]; try rfl) rfl ?_
                    exact ⟨_, _, _, _, rfl, fin72 (base := 0) hlt (unhide D4) ((unhide HD).set _ _ (by simp)) r4 (by omega) (unhide ran4) _ _⟩
                  · have hn0' : ¬ (1 : Int) < (n : Int) := by omega
                    have hn1 : decide ((1 : Int) < (n : Int)) = false := by simp; omega
                    obtain ⟨⟨a0, a1⟩, c0, c1⟩ := unhide R0
                    obtain ⟨⟨b0, b1⟩, d0, d1⟩ := unhide X
                    go_wp2
                    refine bodyPost_ret (by simp [results, Try.results92, go_sem, a0, a1]; try rfl) rfl ?_
                    exact ⟨_, _, _, _, rfl, fin72 (base := 0) hlt (unhide D) (unhide HD).db hrd (by omega) (unhide hran) _ _⟩
              · have e3' : (z == 3) = false := by simp; omega
                obtain ⟨⟨a0, a1⟩, c0, c1⟩ := unhide R0
                obtain ⟨⟨b0, b1⟩, d0, d1⟩ := unhide X
                go_wp2
                refine bodyPost_ret (by simp [results, Try.results92, go_sem, a0, a1]; try rfl) rfl ?_
                exact ⟨_, _, _, _, rfl, fin72 (base := 0) hlt (unhide D) (unhide HD).db hrd (by omega) (unhide hran) _ _⟩
end Go.Proofs.Yteemihgakcmamaa
