/-
  Certs: as values; counted, copied field by field, held against each other, marked.
-/
import Derived.Test.YteemihgakcmamaaCer1
namespace Go.Proofs.Yteemihgakcmamaa
set_option linter.unusedVariables false
open Go.RowKit
attribute [local simp] far_const

/-- A cert: a chain, and who voted. -/
structure Ct where
  c : List It
  b : List (List Int)
def totC (x : Ct) : Nat := x.c.length + (x.b.length + sumI x.b)
/-- A cert as a value. -/
def CtV (w : World) (v : Value) (x : Ct) : Prop := ∃ a cap b capb, v = .agg #[.slice a x.c.length cap, .slice b x.b.length capb] ∧ x.c.length ≤ cap ∧ Its w a x.c ∧ IntsS w b x.b
theorem CtV.grew {w w' : World} {v : Value} {x : Ct} (h : CtV w v x) (g : Grew w w') : CtV w' v x := by
  obtain ⟨a, cap, b, capb, h1, h2, h3, h4⟩ := h; exact ⟨a, cap, b, capb, h1, h2, h3.grew g, h4.grew g⟩
/-- The two cells of a cert. -/
def CtAt (w : World) (b : Nat) (u v : Value) : Prop := w.cell? ⟨b, 0, none⟩ = some u ∧ w.cell? ⟨b, 1, none⟩ = some v
theorem CtAt.grew {w w' : World} {b : Nat} {u v : Value} (h : CtAt w b u v) (g : Grew w w') : CtAt w' b u v := ⟨g.keep h.1, g.keep h.2⟩
theorem CtAt.box (w : World) (u v : Value) (t : TypeId) : CtAt (w.alloc (.cells #[u, v] t)) w.heap.size u v := by
  refine ⟨?_, ?_⟩ <;> simp [go_sem]

set_option maxHeartbeats 1000000 in
theorem szCert_any (x : Ct) (a : Option Addr) (cap : Nat) (b : Option Addr) (capb : Nat) (left : Int) (w : World) (hb : IntsS w b x.b) (h0 : 0 ≤ left) (h1 : left ≤ 1048576) (hc : x.c.length ≤ 9223372036854775807) (hn : x.b.length ≤ 9223372036854775807) (hx : ∀ y ∈ x.b, y.length ≤ 9223372036854775807) :
    Calls Try.prog 16 #[.agg #[.slice a x.c.length cap, .slice b x.b.length capb], .int .i64 left] w fun r w' => r = .returned (.int .i64 (szR left (totC x))) ∧ Grew w w' := by
  have hz := fun w => szItemS_any a cap x.c.length left w h0 h1 hc
  by_cases h : left < x.c.length
  · simp only [if_pos h] at hz
    have HZ := hide hz
    have hr : Hid (szR left (totC x) = -1) := szR_neg (by unfold totC; omega)
    clear hz
    go_enter Try.func16, Try.ntmps16
    go_wp2_with fail
    refine (unhide HZ _).mono ?_
    rintro r w1 ⟨rfl, rfl⟩
    go_wp2
    go_ret
    exact ⟨by rw [hr.out]; rfl, (Grew.refl _).alloc _⟩
  · simp only [if_neg h] at hz
    have HZ := hide hz
    have h' : ¬ left - (x.c.length : Int) < 0 := by omega
    clear hz
    have HY : Hid (∀ W, Grew w W → Calls Try.prog 69 #[.slice b x.b.length capb, .int .i64 (left - x.c.length)] W fun r w' => r = .returned (.int .i64 (szR (left - x.c.length) (x.b.length + sumI x.b))) ∧ Grew W w') :=
      hide (fun W g => szIntSS_any b capb x.b (left - x.c.length) W (hb.grew g) (by omega) (by omega) hn hx)
    clear hb hx
    by_cases h2 : left - x.c.length < ((x.b.length + sumI x.b : Nat) : Int)
    · have hr : Hid (szR left (totC x) = -1) := szR_neg (by unfold totC; omega)
      rw [szR_neg h2] at HY
      go_enter Try.func16, Try.ntmps16
      go_wp2_with fail
      refine (unhide HZ _).mono ?_
      rintro r w1 ⟨rfl, rfl⟩
      go_wp2_with fail
      refine (unhide HY _ ((Grew.refl _).alloc _)).mono ?_
      rintro r w1 ⟨rfl, g1⟩
      go_wp2
      go_ret
      exact ⟨by rw [hr.out]; rfl, ((Grew.refl _).alloc _).trans g1⟩
    · have hr : Hid (szR left (totC x) = left - x.c.length - ((x.b.length + sumI x.b : Nat) : Int)) := by
        show szR left (totC x) = _
        rw [szR_pos (by unfold totC; omega)]; unfold totC; omega
      rw [szR_pos h2] at HY
      have h3 : ¬ left - x.c.length - ((x.b.length + sumI x.b : Nat) : Int) < 0 := by omega
      obtain ⟨R, hR⟩ : ∃ R : Int, R = left - x.c.length - ((x.b.length + sumI x.b : Nat) : Int) := ⟨_, rfl⟩
      rw [← hR] at HY h3
      have HR := hide hR
      clear hR h2
      go_enter Try.func16, Try.ntmps16
      go_wp2_with fail
      refine (unhide HZ _).mono ?_
      rintro r w1 ⟨rfl, rfl⟩
      go_wp2_with fail
      refine (unhide HY _ ((Grew.refl _).alloc _)).mono ?_
      rintro r w1 ⟨rfl, g1⟩
      go_wp2
      go_ret
      exact ⟨by rw [hr.out, ← HR.out]; rfl, ((Grew.refl _).alloc _).trans g1⟩

set_option maxHeartbeats 2000000 in
theorem toCert_any (x : Ct) (a : Option Addr) (cap : Nat) (b : Option Addr) (capb : Nat) (w : World) (hl : Its w a x.c) (hb : IntsS w b x.b) (hc : x.c.length ≤ 1048576) (hn : x.b.length ≤ 1048576) (hs : ShortI x.b) :
    Calls Try.prog 18 #[.agg #[.slice a x.c.length cap, .slice b x.b.length capb]] w fun r w' => ∃ q sv hh, r = .returned (.agg #[.slice (some ⟨q, 0, none⟩) x.c.length x.c.length, sv]) ∧ w.heap.size ≤ q ∧ q < w'.heap.size ∧ Its w' (some ⟨q, 0, none⟩) x.c ∧ Own w' q x.c.length ∧ PRow w' (q + 1) sv hh x.b.length x.b ∧ Grew w w' := by
  have HB := hide hb
  clear hb
  go_enter Try.func18, Try.ntmps18
  go_wp2_with fail
  refine (toItemS_any a cap x.c _ (hl.grew ((((Grew.refl w).alloc _).alloc _).alloc _)) hc).mono ?_
  rintro r w1 ⟨rfl, g1, i1, o1⟩
  have c20 := g1.keep (p := ⟨w.heap.size + 1 + 1, 0, none⟩) (v := .slice none 0 0) (by simp [go_sem])
  have c21 := g1.keep (p := ⟨w.heap.size + 1 + 1, 1, none⟩) (v := .slice none 0 0) (by simp [go_sem])
  have c10 := g1.keep (p := ⟨w.heap.size + 1, 0, none⟩) (v := .slice none 0 0) (by simp [go_sem])
  have c11 := g1.keep (p := ⟨w.heap.size + 1, 1, none⟩) (v := .slice none 0 0) (by simp [go_sem])
  have c01 := g1.keep (p := ⟨w.heap.size, 1, none⟩) (v := .slice b x.b.length capb) (by simp [go_sem])
  have z2 : ∀ i, w1.frozen? ⟨w.heap.size + 1 + 1, i, none⟩ = false := fun i => by
    rw [World.frozen?_of_block (g1.below.block (w.heap.size + 1 + 1) (by simp))]
    simp [go_sem]
  have z1 : ∀ i, w1.frozen? ⟨w.heap.size + 1, i, none⟩ = false := fun i => by
    rw [World.frozen?_of_block (g1.below.block (w.heap.size + 1) (by simp))]
    simp [go_sem]
  have z20 := z2 0
  have G1 := hide (((((Grew.refl w).alloc _).alloc _).alloc _).trans g1)
  have hlt := o1.lt
  simp only [World.size_alloc] at i1 o1 hlt ⊢
  obtain ⟨W, hW⟩ : ∃ W, W = w1.setCell ⟨w.heap.size + 1 + 1, 0, none⟩ (.slice (some ⟨w.heap.size + 1 + 1 + 1, 0, none⟩) x.c.length x.c.length) := ⟨_, rfl⟩
  have HW := hide hW
  have GW : Hid (Grew w W) := by rw [hW]; exact (unhide G1).setCell (p := ⟨w.heap.size + 1 + 1, 0, none⟩) (by show w.heap.size ≤ w.heap.size + 1 + 1; omega) _
  have hzW : W.heap.size = w1.heap.size := by rw [hW]; simp [World.setCell]
  have oth : ∀ k, k ≠ w.heap.size + 1 + 1 → W.heap[k]? = w1.heap[k]? := fun k hk => by rw [hW]; exact Below.heap_setCell _ _ _ _ hk
  have I1 := hide (i1.block (oth (w.heap.size + 1 + 1 + 1) (by omega)))
  have O1 := hide (o1.block (oth (w.heap.size + 1 + 1 + 1) (by omega)))
  have d20 : W.cell? ⟨w.heap.size + 1 + 1, 0, none⟩ = some (.slice (some ⟨w.heap.size + 1 + 1 + 1, 0, none⟩) x.c.length x.c.length) := by rw [hW]; simp [go_sem, c20]
  have d21 : W.cell? ⟨w.heap.size + 1 + 1, 1, none⟩ = some (.slice none 0 0) := by rw [hW]; simp [go_sem, c21]
  have d10 : W.cell? ⟨w.heap.size + 1, 0, none⟩ = some (.slice none 0 0) := by rw [World.cell?_of_block (w := w1) (oth _ (by show w.heap.size + 1 ≠ _; omega))]; exact c10
  have d11 : W.cell? ⟨w.heap.size + 1, 1, none⟩ = some (.slice none 0 0) := by rw [World.cell?_of_block (w := w1) (oth _ (by show w.heap.size + 1 ≠ _; omega))]; exact c11
  have y2 : ∀ i, W.frozen? ⟨w.heap.size + 1 + 1, i, none⟩ = false := fun i => by rw [hW]; simp [go_sem, z2]
  have y1 : ∀ i, W.frozen? ⟨w.heap.size + 1, i, none⟩ = false := fun i => by rw [World.frozen?_of_block (w := w1) (oth _ (by show w.heap.size + 1 ≠ _; omega))]; exact z1 i
  clear z1 z2 g1 i1 o1 oth c10 c11 hl
  go_wp2_with fail
  rw [← unhide HW]
  have c21 := d21
  refine (toIntSS_any b capb x.b _ ((unhide HB).grew (unhide GW)) hs hn).mono ?_
  rintro r w2 ⟨sv, hh, rfl, o2, g2⟩
  obtain ⟨gq, cq, rfl, _, _, _⟩ := o2.shape
  have e20 := g2.keep d20
  have e21 := g2.keep d21
  have e10 := g2.keep d10
  have e11 := g2.keep d11
  have lt2 : w.heap.size + 1 + 1 < W.heap.size := World.block_lt_of_cell? _ _ d20
  have x2 : ∀ i, w2.frozen? ⟨w.heap.size + 1 + 1, i, none⟩ = false := fun i => by
    rw [World.frozen?_of_block (g2.below.block (w.heap.size + 1 + 1) lt2)]; exact y2 i
  have x1 : ∀ i, w2.frozen? ⟨w.heap.size + 1, i, none⟩ = false := fun i => by
    rw [World.frozen?_of_block (g2.below.block (w.heap.size + 1) (by omega))]; exact y1 i
  have x21 := x2 1
  have x10 := x1 0
  have x11 := x1 1
  have G2 := hide ((unhide GW).trans g2)
  have I2 := hide ((unhide I1).grew g2)
  have O2 := hide ((unhide O1).grew g2)
  have P2 := hide (o2.lower (base' := w.heap.size + 1 + 1 + 1 + 1) (by omega))
  have hz2 := g2.size
  have hl2 : w.heap.size + 1 + 1 + 1 < w2.heap.size := by omega
  clear HW hW d20 d21 d10 d11 y1 y2 x1 x2 g2 o2 c20 c21 c01 z20 G1 I1 O1 GW
  go_wp2
  refine bodyPost_ret (by simp [results, Try.results18, go_sem, e10, e11]; try rfl) rfl ?_
  have hk : ∀ (u0 u1 u2 : Value) k, k ≠ w.heap.size + 1 → k ≠ w.heap.size + 1 + 1 → (((w2.setCell ⟨w.heap.size + 1 + 1, 1, none⟩ u0).setCell ⟨w.heap.size + 1, 0, none⟩ u1).setCell ⟨w.heap.size + 1, 1, none⟩ u2).heap[k]? = w2.heap[k]? := fun u0 u1 u2 k h1 h2 => by
    rw [Below.heap_setCell _ _ _ _ h1, Below.heap_setCell _ _ _ _ h1, Below.heap_setCell _ _ _ _ h2]
  refine ⟨w.heap.size + 1 + 1 + 1, _, hh, rfl, by omega, ?_, ?_, ?_, ?_, ?_⟩
  · simpa [World.setCell] using hl2
  · exact (unhide I2).block (hk _ _ _ _ (by omega) (by omega))
  · exact (unhide O2).block (hk _ _ _ _ (by omega) (by omega))
  · exact (unhide P2).kept (by simp [World.setCell]) (fun g h1 h2 => hk _ _ _ _ (by omega) (by omega))
  · exact (((unhide G2).setCell (p := ⟨w.heap.size + 1 + 1, 1, none⟩) (by show w.heap.size ≤ w.heap.size + 1 + 1; omega) _).setCell (p := ⟨w.heap.size + 1, 0, none⟩) (by show w.heap.size ≤ w.heap.size + 1; omega) _).setCell (p := ⟨w.heap.size + 1, 1, none⟩) (by show w.heap.size ≤ w.heap.size + 1; omega) _

set_option maxHeartbeats 1000000 in
theorem eqCert_same (x : Ct) (v u : Value) (w : World) (hv : CtV w v x) (hu : CtV w u x) (hc : x.c.length ≤ 1048576) (hn : x.b.length ≤ 1048577) (hs : ShortI x.b) :
    Calls Try.prog 21 #[v, u] w fun r w' => r = .returned (.bool true) ∧ Grew w w' := by
  obtain ⟨a, cap, b, capb, rfl, _, hl, hb⟩ := hv
  obtain ⟨a2, cap2, b2, capb2, rfl, _, hl2, hb2⟩ := hu
  have HX : Hid (∀ W, Grew w W → Calls Try.prog 76 #[.slice a x.c.length cap, .slice a2 x.c.length cap2] W fun r w' => r = .returned (.bool true) ∧ Grew W w') := hide (fun W g => by
    have := eqItemS_any a a2 cap cap2 x.c x.c W (hl.grew g) (hl2.grew g) hc hc
    rw [(sameB_iff _ _).2 rfl] at this
    exact this)
  have HY := hide (fun W (g : Grew w W) => eqIntSS_same b b2 capb capb2 x.b W (hb.grew g) (hb2.grew g) hs hn)
  clear hl hb hl2 hb2
  go_enter Try.func21, Try.ntmps21
  go_wp2_with fail
  refine (unhide HX _ (((Grew.refl _).alloc _).alloc _)).mono ?_
  rintro r w1 ⟨rfl, g1⟩
  have p1 := g1.keep (p := ⟨w.heap.size, 1, none⟩) (v := .slice b x.b.length capb) (by simp [go_sem])
  have q1 := g1.keep (p := ⟨w.heap.size + 1, 1, none⟩) (v := .slice b2 x.b.length capb2) (by simp [go_sem])
  have G1 := hide ((((Grew.refl w).alloc _).alloc _).trans g1)
  clear g1
  go_wp2_with fail
  refine (unhide HY _ (unhide G1)).mono ?_
  rintro r w2 ⟨rfl, g2⟩
  go_wp2
  go_ret
  exact ⟨rfl, (unhide G1).trans g2⟩

set_option maxHeartbeats 1000000 in
theorem markIntSS_any (base : Nat) (v : Value) (hs : List Nat) (ls : List (List Int)) (k : Int) (w : World) (h : PRow w base v hs ls.length ls) (hn : ls.length + sumI ls ≤ 1048576) (hk0 : 0 ≤ k) (hk : k ≤ 100000000) :
    Calls Try.prog 79 #[v, .int .i64 k] w fun r w' => r = .returned (.int .i64 (k + sumI ls)) ∧ WroteS hs w w' := by
  obtain ⟨g, cap, rfl, _, _, _⟩ := h.shape
  have HP := hide h
  clear h
  go_enter Try.func79, Try.ntmps79
  go_wp2_with fail
  go_loopw [1, 5] (fun kk i wr => ∃ j : Nat, j ≤ ls.length ∧ i = .int .i64 j ∧ kk = .int .i64 (k + sumI (ls.take j)) ∧ Hid (WroteS (hs.take j) w wr)) (fun _ i _ => ls.length - (intOf i).toNat)
  case atStart => exact ⟨0, Nat.zero_le _, rfl, by simp [sumI], WroteS.refl _ _⟩
  case round =>
    obtain ⟨j, hj, rfl, rfl, hw⟩ := hrel
    have hcj := sumI_le ls j
    by_cases hlt : j < ls.length
    · have hjh : j < hs.length := by rw [(unhide HP).len]; exact hlt
      obtain ⟨vs, row, hc⟩ := (unhide HP).row
      obtain ⟨cp, h1, h2⟩ := hc j hlt hjh
      have hnt : hs[j] ∉ hs.take j := fun hm => by
        obtain ⟨i, hi, e⟩ := List.mem_iff_getElem.1 hm
        simp only [List.length_take] at hi
        rw [List.getElem_take] at e
        exact nodup_ne (unhide HP).apart (by omega) hjh (by omega) e
      have hgt : g ∉ hs.take j := fun hm => (unhide HP).off g (List.mem_of_mem_take hm) rfl
      have d1 : wr.cell? ⟨g, j, none⟩ = some (.slice (some ⟨hs[j], 0, none⟩) ls[j].length cp) := by
        rw [World.cell?_of_block (w := w) ((unhide hw).keep g hgt), row.cellAt j (by omega)]; exact h1
      have O2 := hide (h2.kept (w' := wr) (fun b _ _ hb => (unhide hw).keep b (by simp [Value.ownBlock] at hb; rw [← hb]; exact hnt)))
      have hct := sumI_take hlt
      have hcl := sumI_le ls (j + 1)
      have HCT := hide hct
      have hb1 : sumI (ls.take j) + ls[j].length ≤ 1048576 := by omega
      clear hct h1 h2 hc row vs
      go_wp2_with fail
      refine (markN_any base hs[j] ls[j].length cp ls[j] (k + sumI (ls.take j)) _ (unhide O2) (by omega) (by omega) (by omega)).mono ?_
      rintro r w1 ⟨rfl, _, hw1⟩
      have hws : Hid (WroteS (hs.take (j + 1)) w w1) := ((unhide hw).mono (fun b hb => by rw [List.take_succ_eq_append_getElem hjh]; exact List.mem_append_left _ hb)).trans (WroteS.of hw1 (by rw [List.take_succ_eq_append_getElem hjh]; exact List.mem_append_right _ (List.mem_singleton.2 rfl)))
      have hnk : Hid (k + sumI (ls.take j) + (ls[j].length : Int) = k + sumI (ls.take (j + 1))) := by
        show k + sumI (ls.take j) + (ls[j].length : Int) = k + sumI (ls.take (j + 1))
        have := unhide HCT; omega
      clear hw1
      go_wp2
      go_roundw
      case rel => exact ⟨j + 1, by omega, by go_num, by rw [hnk.out], hws⟩
      case measure => simp [intOf]; omega
    · have hjl : j = ls.length := by omega
      have hle : (ls.length : Int) ≤ (j : Int) := by omega
      have hct : Hid (sumI (ls.take j) = sumI ls) := by show sumI (ls.take j) = sumI ls; rw [hjl, List.take_length]
      clear hjl
      go_wp2
      go_ret
      exact ⟨by rw [hct.out]; rfl, (unhide hw).mono (fun b hb => List.mem_of_mem_take hb)⟩

set_option maxHeartbeats 1000000 in
theorem markCert_any (x : Ct) (q base : Nat) (cap : Nat) (sv : Value) (hs : List Nat) (k : Int) (w : World) (ho : Own w q x.c.length) (hp : PRow w base sv hs x.b.length x.b) (hq : q < base) (hq2 : q < w.heap.size) (hc : x.c.length ≤ 1048576) (hn : x.b.length + sumI x.b ≤ 1048576) (hk0 : 0 ≤ k) (hk : k ≤ 1000000) :
    Calls Try.prog 22 #[.agg #[.slice (some ⟨q, 0, none⟩) x.c.length cap, sv], .int .i64 k] w fun r w' => r = .returned (.int .i64 (k + 4 * x.c.length + sumI x.b)) ∧ WroteS (q :: hs) (w.alloc (.cells #[.slice (some ⟨q, 0, none⟩) x.c.length cap, sv] 31)) w' := by
  obtain ⟨g, cp, rfl, _, hb1, hb2⟩ := hp.shape
  have HP := hide hp
  clear hp
  go_enter Try.func22, Try.ntmps22
  go_wp2_with fail
  refine (mark_any q x.c.length cap k _ (ho.grew ((Grew.refl _).alloc _)) hc hk0 (by omega)).mono ?_
  rintro r w1 ⟨rfl, _, _, hw1⟩
  have HW := hide (WroteS.of (bs := q :: hs) hw1 (List.mem_cons_self ..))
  have p1 : w1.cell? ⟨w.heap.size, 1, none⟩ = some (.slice (some ⟨g, 0, none⟩) x.b.length cp) := by
    rw [World.cell?_of_block (w := w.alloc _) (hw1.keep w.heap.size (fun y hy => by cases hy; show q ≠ w.heap.size; omega))]
    simp [go_sem]
  have P1 := hide (((unhide HP).grew ((Grew.refl w).alloc _)).kept (w' := w1) (Nat.le_of_eq hw1.size.symm) (fun b h1 h2 => hw1.keep b (fun y hy => by cases hy; show q ≠ b; omega)))
  clear hw1
  go_wp2_with fail
  refine (markIntSS_any base _ hs x.b (k + 4 * x.c.length) _ (unhide P1) hn (by omega) (by omega)).mono ?_
  rintro r w2 ⟨rfl, hw2⟩
  have HW2 := hide ((unhide HW).trans (hw2.mono (fun b hb => List.mem_cons_of_mem _ hb)))
  clear hw2
  go_wp2
  go_ret
  exact ⟨rfl, unhide HW2⟩
end Go.Proofs.Yteemihgakcmamaa
