/-
  What CertOf answers, in the program.
-/
import Derived.Test.YteemihgakcmamaaCerR
import Derived.Test.YteemihgakcmamaaTreeT
import Derived.Deep.RegionLaw
namespace Go.Proofs.Yteemihgakcmamaa
set_option linter.unusedVariables false
open Go.RowKit
attribute [local simp] far_const

/-- The two cells of a cert in a box that can be written. -/
def Box2 (w : World) (b : Nat) (u v : Value) : Prop := CtAt w b u v ∧ w.frozen? ⟨b, 0, none⟩ = false ∧ w.frozen? ⟨b, 1, none⟩ = false
theorem Box2.box (w : World) (u v : Value) (t : TypeId) : Box2 (w.alloc (.cells #[u, v] t)) w.heap.size u v := ⟨CtAt.box w u v t, by simp [go_sem], by simp [go_sem]⟩
theorem Box2.grew {w w' : World} {b : Nat} {u v : Value} (h : Box2 w b u v) (g : Grew w w') : Box2 w' b u v := ⟨h.1.grew g, g.frozen h.1.1 h.2.1, g.frozen h.1.2 h.2.2⟩
theorem Box2.grown {w w' : World} {b : Nat} {u v : Value} {row : Option Nat} (h : Box2 w b u v) (g : w.grownBy w' row) (hne : row ≠ some b) : Box2 w' b u v := by
  have hlt : b < w.heap.size := World.block_lt_of_cell? _ _ h.1.1
  have e := g.block b hlt (fun e => hne e.symm)
  exact ⟨⟨by rw [World.cell?_of_block (w := w) e]; exact h.1.1, by rw [World.cell?_of_block (w := w) e]; exact h.1.2⟩, by rw [World.frozen?_of_block (w := w) e]; exact h.2.1, by rw [World.frozen?_of_block (w := w) e]; exact h.2.2⟩
theorem Box2.set1 {w : World} {b : Nat} {u v : Value} (h : Box2 w b u v) (x : Value) : Box2 (w.setCell ⟨b, 1, none⟩ x) b u x := by
  obtain ⟨⟨h0, h1⟩, h2, h3⟩ := h
  refine ⟨⟨?_, ?_⟩, ?_, ?_⟩ <;> simp [go_sem, h0, h1, h2, h3]
theorem Box2.lt {w : World} {b : Nat} {u v : Value} (h : Box2 w b u v) : b < w.heap.size := World.block_lt_of_cell? _ _ h.1.1
theorem implVotesFor_q {v : Value} {l : List Vt} (b : Option Addr) (cb n : Nat) (c : List It) (hcn : c.length = n) (f : List Int) (hf : forL l c = f) (hne : 0 < f.length) (w : World) (h : VtsV w v l) (hs : Short l) (hn : l.length ≤ 1048576) (hc : Its w b c) (hnc : n ≤ 1048576) :
    Calls Try.prog 41 #[v, .slice b n cb] w fun r w' => ∃ q cq, r = .returned (.slice (some ⟨q, 0, none⟩) f.length cq) ∧ OwnN w' w.heap.size (.slice (some ⟨q, 0, none⟩) f.length cq) f ∧ (w.heap.size ≤ q ∧ q < w'.heap.size) ∧ Grew w w' := by
  subst hcn hf
  refine (implVotesFor_v b cb c w h hs hn hc hnc).mono ?_
  rintro r w1 ⟨u, rfl, hu, g⟩
  rcases hu with ⟨_, h0⟩ | hu
  · rw [h0] at hne; exact absurd hne (Nat.lt_irrefl _)
  · obtain ⟨q, cq, rfl, _, h1, h2, _, _⟩ := hu.shape
    exact ⟨q, cq, rfl, hu, ⟨h1, h2⟩, g⟩
theorem certL_no {l : List Vt} (h : ¬ (votesB l = true ∧ 0 < (mostF (allS l)).2)) : certL l = (⟨[], []⟩, false) := by unfold certL; rw [if_neg h]
theorem certL_yes {l : List Vt} (hv : votesB l = true) (h : 0 < (mostF (allS l)).2) : certL l = (certOf l (mostF (allS l)).1, true) := by unfold certL; rw [if_pos ⟨hv, h⟩]
def preR (x y z : List Int) : Nat → List (List Int)
  | 0 => []
  | 1 => [x]
  | 2 => [x, y]
  | _ => [x, y, z]

set_option maxRecDepth 20000 in
set_option maxHeartbeats 8000000 in
theorem implCertOf (a : Option Addr) (cap : Nat) (l : List Vt) (w : World) (hl : Vts w a l) (hcap : l.length ≤ cap) (hs : Short l) (hn : l.length ≤ 1048576) :
    Calls Try.prog 28 #[.slice a l.length cap] w fun r w' => ∃ u v, r = .returned (.tuple #[.agg #[u, v], .bool (certL l).2]) ∧ CAns w' w.heap.size u v (certL l).1 ∧ Grew w w' := by
  have hT := fun W => hide (fun (g : Grew w W) => treeOf_any a cap l W (hl.grew g) hs hn)
  unfold ptr at hT
  have HL := hide hl
  have HS := hide hs
  clear hl hs
  go_enter Try.func28, Try.ntmps28
  go_wp2_with fail
  refine (unhide (hT _) ((Grew.refl _).alloc _)).mono ?_
  clear hT
  rintro r w1 ⟨(⟨hv, tb, base, rfl, ⟨M, pos, kv, kd, cv, hF, hM⟩, hb1, hb2⟩ | ⟨hv, rfl⟩), g1⟩
  · obtain ⟨r, hr⟩ := firstsL_head l
    have R0 := hide ((Box2.box w (.slice none 0 0) (.slice none 0 0) 31).grew g1)
    have G1 := hide (((Grew.refl w).alloc _).trans g1)
    have hX := mostFinal_any hF hr (by have := firstsL_len l; omega) (unhide HS).firsts
    unfold ptr at hX
    rw [show (firstsL l).filter (sureF (cnt l)) = allS l from rfl] at hX
    have HF := hide hF
    have HMM := hide ((unhide HF).mem _ (mostF_firsts l))
    have HSH := hide ((unhide HS).firsts _ (mostF_firsts l))
    have HP := hide (most_parts (l := l))
    have HY := hide (certL_yes hv)
    have HN := hide (certL_no (l := l))
    have HB := hide (fun m (h : m ∈ allS l) => certOf_by hv h)
    obtain ⟨m, hm⟩ : ∃ m, (mostF (allS l)).1 = m := ⟨_, rfl⟩
    obtain ⟨s, hsz⟩ : ∃ s, (mostF (allS l)).2 = s := ⟨_, rfl⟩
    rw [hm, hsz] at hX HP
    rw [hm] at HMM HSH
    rw [hm, hsz] at HY
    rw [hsz] at HN
    have hX := hide hX
    clear hF hM hb1 hb2 hr g1 hm hsz
    go_wp2_with fail
    refine (unhide hX).mono ?_
    clear hX
    rintro rr w2 ⟨rfl, g2⟩
    have R0 := hide ((unhide R0).grew g2)
    have G2 := hide ((unhide G1).trans g2)
    have HF := hide ((unhide HF).grew g2)
    clear g2 G1
    by_cases hs0 : s = 0
    · have he : Hid (certL l = (⟨[], []⟩, false)) := unhide HN (by omega)
      subst hs0
      obtain ⟨⟨r0, r1⟩, z0, z1⟩ := unhide R0
      clear HP HY HN HB
      go_wp2
      refine bodyPost_ret (by simp [results, Try.results28, go_sem, r0, r1]; try rfl) rfl ?_
      refine ⟨_, _, by rw [he.out], .inl ⟨rfl, rfl, by rw [he.out]⟩, ?_⟩
      exact ((unhide G2).setCell (p := ⟨w.heap.size, 0, none⟩) (Nat.le_refl _) _).setCell (p := ⟨w.heap.size, 1, none⟩) (Nat.le_refl _) _
    · obtain ⟨hma, hse, hs2, hsl⟩ := unhide HP (by omega)
      rw [← hse] at hs2 hsl
      have he : Hid (certL l = (certOf l m, true)) := unhide HY (by omega)
      obtain ⟨p, rfl⟩ : ∃ p, s = p + 2 := ⟨s - 2, by omega⟩
      have hby := unhide HB m hma (by omega) (by omega)
      have hml := HSH.out
      have hD : Hid ((m.take (p + 3)).length = p + 3) := by show (m.take (p + 3)).length = p + 3; rw [List.length_take]; omega
      have hct : Hid (certOf l m = ⟨m.take (p + 3), [forL l (m.take (p + 1)), forL l (m.take (p + 2)), forL l (m.take (p + 3))]⟩) := by
        show certOf l m = _; unfold certOf; rw [← hse]; rfl
      obtain ⟨f0, hf0⟩ : ∃ f, forL l (m.take (p + 1)) = f := ⟨_, rfl⟩
      obtain ⟨f1, hf1⟩ : ∃ f, forL l (m.take (p + 2)) = f := ⟨_, rfl⟩
      obtain ⟨f2, hf2⟩ : ∃ f, forL l (m.take (p + 3)) = f := ⟨_, rfl⟩
      rw [unhide hct] at hby
      rw [hf0, hf1, hf2] at hct hby
      have y0 := hby f0 (by simp)
      have y1 := hby f1 (by simp)
      have y2 := hby f2 (by simp)
      have hY := beginning_any (unhide HF) _ (unhide HMM) (unhide HSH) (p + 3) (by omega)
      unfold ptr at hY
      have hpb : p + 3 ≤ 1048576 := by omega
      have hin : ((p + 3 : Nat) : Int) = (p : Int) + 2 + 1 := by omega
      rw [hin] at hY
      have hY := hide hY
      have K0 : Hid (∀ W, Grew w W → ∀ g, Its W (some ⟨g, 0, none⟩) (m.take (p + 3)) → Calls Try.prog 41 #[.slice a l.length cap, .slice (some ⟨g, 0, none⟩) (p + 1) (p + 3)] W fun r w' => ∃ q cq, r = .returned (.slice (some ⟨q, 0, none⟩) f0.length cq) ∧ OwnN w' W.heap.size (.slice (some ⟨q, 0, none⟩) f0.length cq) f0 ∧ (W.heap.size ≤ q ∧ q < w'.heap.size) ∧ Grew W w') :=
        hide (fun W gr g hi => implVotesFor_q _ _ _ (m.take (p + 1)) (by rw [List.length_take]; omega) f0 hf0 (by omega) W ⟨a, cap, rfl, hcap, (unhide HL).grew gr⟩ (unhide HS) hn (by have := hi.take (p + 1); rwa [List.take_take, Nat.min_eq_left (by omega)] at this) (by omega))
      have K1 : Hid (∀ W, Grew w W → ∀ g, Its W (some ⟨g, 0, none⟩) (m.take (p + 3)) → Calls Try.prog 41 #[.slice a l.length cap, .slice (some ⟨g, 0, none⟩) (p + 2) (p + 3)] W fun r w' => ∃ q cq, r = .returned (.slice (some ⟨q, 0, none⟩) f1.length cq) ∧ OwnN w' W.heap.size (.slice (some ⟨q, 0, none⟩) f1.length cq) f1 ∧ (W.heap.size ≤ q ∧ q < w'.heap.size) ∧ Grew W w') :=
        hide (fun W gr g hi => implVotesFor_q _ _ _ (m.take (p + 2)) (by rw [List.length_take]; omega) f1 hf1 (by omega) W ⟨a, cap, rfl, hcap, (unhide HL).grew gr⟩ (unhide HS) hn (by have := hi.take (p + 2); rwa [List.take_take, Nat.min_eq_left (by omega)] at this) (by omega))
      have K2 : Hid (∀ W, Grew w W → ∀ g, Its W (some ⟨g, 0, none⟩) (m.take (p + 3)) → Calls Try.prog 41 #[.slice a l.length cap, .slice (some ⟨g, 0, none⟩) (p + 3) (p + 3)] W fun r w' => ∃ q cq, r = .returned (.slice (some ⟨q, 0, none⟩) f2.length cq) ∧ OwnN w' W.heap.size (.slice (some ⟨q, 0, none⟩) f2.length cq) f2 ∧ (W.heap.size ≤ q ∧ q < w'.heap.size) ∧ Grew W w') :=
        hide (fun W gr g hi => implVotesFor_q _ _ _ (m.take (p + 3)) (unhide hD) f2 hf2 (by omega) W ⟨a, cap, rfl, hcap, (unhide HL).grew gr⟩ (unhide HS) hn hi hpb)
      clear HP HY HN HB hma hse hs2 hsl hby hf0 hf1 hf2 HMM hml hin
      obtain ⟨D, hDD⟩ : ∃ D, m.take (p + 3) = D := ⟨_, rfl⟩
      rw [hDD] at hD hct hY K0 K1 K2
      clear hDD HSH
      go_wp2_with fail
      refine (unhide hY).mono ?_
      clear hY
      rintro rr w3 ⟨vd, rfl, hfr, g3⟩
      obtain ⟨g, rfl, hg2, hig, hog⟩ := hfr
      have hgl := hog.lt
      rw [unhide hD]
      have HI := hide hig
      have HO : Hid (Own w3 g (p + 3)) := by have := hog; rw [unhide hD] at this; exact this
      have R0' := hide (unhide R0)
      have R0 := hide ((unhide R0).grew g3)
      have G3 := hide ((unhide G2).trans g3)
      have hgg := hide (And.intro (Nat.le_trans (unhide G2).size hg2) hgl)
      have R0lt : Hid (w.heap.size < g) := hide (Nat.lt_of_lt_of_le (unhide R0').lt hg2)
      clear hig hog hg2 hgl g3 G2 HF
      have X4 := hide (Box2.box w3 (.slice (some ⟨g, 0, none⟩) (p + 3) (p + 3)) (.slice none 0 0) 31)
      obtain ⟨⟨x0, x1⟩, _⟩ := unhide X4
      go_wp2_with fail
      refine (lastChains_any (some ⟨g, 0, none⟩) p (p + 3) _ (Nat.le_refl _) hpb).mono ?_
      rintro rr w4 ⟨rfl, g4⟩
      have X4 := hide ((unhide X4).grew g4)
      have G4 : Hid (Grew w3 w4) := hide (((Grew.refl w3).alloc _).trans g4)
      clear x0 x1 g4
      have i0 : ∀ W : World, (Instr.index 112 (.agg #[.slice (some ⟨g, 0, none⟩) (p + 1) (p + 3), .slice (some ⟨g, 0, none⟩) (p + 2) (p + 3), .slice (some ⟨g, 0, none⟩) (p + 3) (p + 3)]) (.int .i64 0)).run Try.prog W = .ok (.slice (some ⟨g, 0, none⟩) (p + 1) (p + 3)) W := fun _ => by kernel_rfl
      have i1 : ∀ W : World, (Instr.index 112 (.agg #[.slice (some ⟨g, 0, none⟩) (p + 1) (p + 3), .slice (some ⟨g, 0, none⟩) (p + 2) (p + 3), .slice (some ⟨g, 0, none⟩) (p + 3) (p + 3)]) (.int .i64 1)).run Try.prog W = .ok (.slice (some ⟨g, 0, none⟩) (p + 2) (p + 3)) W := fun _ => by kernel_rfl
      have i2 : ∀ W : World, (Instr.index 112 (.agg #[.slice (some ⟨g, 0, none⟩) (p + 1) (p + 3), .slice (some ⟨g, 0, none⟩) (p + 2) (p + 3), .slice (some ⟨g, 0, none⟩) (p + 3) (p + 3)]) (.int .i64 2)).run Try.prog W = .ok (.slice (some ⟨g, 0, none⟩) (p + 3) (p + 3)) W := fun _ => by kernel_rfl
      go_wp2_with fail
      go_loopw [10, 35] (fun ch i wr => ∃ (k : Nat) (bv : Value) (hr : List Nat), k ≤ 3 ∧ i = .int .i64 k ∧ Hid (RAns wr (w3.heap.size + 1) bv hr (preR f0 f1 f2 k)) ∧ Hid (Box2 wr w3.heap.size (.slice (some ⟨g, 0, none⟩) (p + 3) (p + 3)) bv) ∧ Hid (Grew w3 wr)) (fun _ i _ => 3 - (intOf i).toNat)
      case atStart => exact ⟨0, .slice none 0 0, [], by omega, rfl, hide (.inl ⟨rfl, rfl, rfl⟩), X4, G4⟩
      case round =>
        clear X4 G4
        obtain ⟨k, bv, hr, hk, rfl, hp, X, gg⟩ := hrel
        match k, hk with
        | 0, _ =>
          obtain ⟨⟨x0, x1⟩, z0, z1⟩ := unhide X
          have hlow := hide (unhide hp).low
          have hblk := hide (unhide hp).block
          have hsz := hide (unhide gg).size
          have GW := hide ((unhide G3).trans (unhide gg))
          have HIW := hide ((unhide HI).grew (unhide gg))
          have hxl := hide (unhide X).lt
          go_wp2_with fail
          go_region_law (first
            | (go_simp; go_at_call 41; refine (unhide K0 _ (unhide GW).drew g ((unhide HIW).grew (Grew.refl _).drew)).mono ?_; rintro r w5 ⟨q, cq, rfl, o5, hq, g5⟩; have X5 := (unhide X).grew ((Grew.refl _).drew.trans g5); have hq1 : wr.heap.size ≤ q := hq.1; have hq2 := hq.2; obtain ⟨⟨y0, y1⟩, u0, u1⟩ := X5; have y1o := fun o => cellOld o y1)
            | ((with_reducible refine at_ite ?_); refine step_prow rfl _ _ rfl (w3.heap.size + 1) bv hr (preR f0 f1 f2 0) rfl ((unhide hp).grew (((Grew.refl _).drew.trans g5).alloc _)) ⟨w5.heap.size, 0, none⟩ 1 rfl f0 q cq (cell_row _ _ _) (by have := unhide hxl; omega) (by simp; omega) (fun hm => by have := (unhide hlow q hm).2; omega) (fun e => by have := (unhide hblk q e).2; omega) ((o5.grew ((Grew.refl _).alloc _)).low (show w3.heap.size + 1 ≤ wr.drew.heap.size from unhide hxl)) (by simp [preR]) (by have := unhide hxl; simp; omega) ?_; intro gn cn w6 o6 g6; have X6 := (((unhide X).grew ((Grew.refl _).drew.trans g5)).grew ((Grew.refl _).alloc (.cells #[.slice (some ⟨q, 0, none⟩) f0.length cq] 47))).grown g6 (fun e => by have := (unhide hblk _ e).1; omega); obtain ⟨⟨v0, v1⟩, t0, t1⟩ := X6))
          all_goals
            have R7 : Hid (RAns (w6.setCell ⟨w3.heap.size, 1, none⟩ (.slice (some ⟨gn, 0, none⟩) 1 cn)) (w3.heap.size + 1) (.slice (some ⟨gn, 0, none⟩) 1 cn) (hr ++ [q]) (preR f0 f1 f2 1)) :=
              hide (RAns.kept (w := w6) (show RAns w6 (w3.heap.size + 1) (.slice (some ⟨gn, 0, none⟩) 1 cn) (hr ++ [q]) (preR f0 f1 f2 1) from o6) (by simp [World.setCell]) (fun b hb _ => Below.heap_setCell _ _ _ _ (by show b ≠ w3.heap.size; omega)))
            have X7 : Hid (Box2 (w6.setCell ⟨w3.heap.size, 1, none⟩ (.slice (some ⟨gn, 0, none⟩) 1 cn)) w3.heap.size (.slice (some ⟨g, 0, none⟩) (p + 3) (p + 3)) (.slice (some ⟨gn, 0, none⟩) 1 cn)) := hide (Box2.set1 ⟨⟨v0, v1⟩, t0, t1⟩ _)
            have G7 : Hid (Grew w3 (w6.setCell ⟨w3.heap.size, 1, none⟩ (.slice (some ⟨gn, 0, none⟩) 1 cn))) := hide (((((unhide gg).drew.trans g5).alloc (.cells #[.slice (some ⟨q, 0, none⟩) f0.length cq] 47)).grown g6 (fun b hb => by have := (unhide hblk b hb).1; omega)).setCell (p := ⟨w3.heap.size, 1, none⟩) (Nat.le_refl _) _)
            clear o6 g6 g5 o5 hp X gg hlow hblk hsz GW HIW v0 v1 t0 t1 y0 y1 u0 u1 y1o x0 x1 z0 z1 hxl
            go_wp2
            go_roundw
            case rel => exact ⟨1, _, hr ++ [q], by omega, by go_num, R7, X7, G7⟩
            case measure => simp [intOf]
        | 1, _ =>
          obtain ⟨⟨x0, x1⟩, z0, z1⟩ := unhide X
          have hlow := hide (unhide hp).low
          have hblk := hide (unhide hp).block
          have hsz := hide (unhide gg).size
          have GW := hide ((unhide G3).trans (unhide gg))
          have HIW := hide ((unhide HI).grew (unhide gg))
          have hxl := hide (unhide X).lt
          go_wp2_with fail
          go_region_law (first
            | (go_simp; go_at_call 41; refine (unhide K1 _ (unhide GW).drew g ((unhide HIW).grew (Grew.refl _).drew)).mono ?_; rintro r w5 ⟨q, cq, rfl, o5, hq, g5⟩; have X5 := (unhide X).grew ((Grew.refl _).drew.trans g5); have hq1 : wr.heap.size ≤ q := hq.1; have hq2 := hq.2; obtain ⟨⟨y0, y1⟩, u0, u1⟩ := X5; have y1o := fun o => cellOld o y1)
            | ((with_reducible refine at_ite ?_); refine step_prow rfl _ _ rfl (w3.heap.size + 1) bv hr (preR f0 f1 f2 1) rfl ((unhide hp).grew (((Grew.refl _).drew.trans g5).alloc _)) ⟨w5.heap.size, 0, none⟩ 1 rfl f1 q cq (cell_row _ _ _) (by have := unhide hxl; omega) (by simp; omega) (fun hm => by have := (unhide hlow q hm).2; omega) (fun e => by have := (unhide hblk q e).2; omega) ((o5.grew ((Grew.refl _).alloc _)).low (show w3.heap.size + 1 ≤ wr.drew.heap.size from unhide hxl)) (by simp [preR]) (by have := unhide hxl; simp; omega) ?_; intro gn cn w6 o6 g6; have X6 := (((unhide X).grew ((Grew.refl _).drew.trans g5)).grew ((Grew.refl _).alloc (.cells #[.slice (some ⟨q, 0, none⟩) f1.length cq] 47))).grown g6 (fun e => by have := (unhide hblk _ e).1; omega); obtain ⟨⟨v0, v1⟩, t0, t1⟩ := X6))
          all_goals
            have R7 : Hid (RAns (w6.setCell ⟨w3.heap.size, 1, none⟩ (.slice (some ⟨gn, 0, none⟩) 2 cn)) (w3.heap.size + 1) (.slice (some ⟨gn, 0, none⟩) 2 cn) (hr ++ [q]) (preR f0 f1 f2 2)) :=
              hide (RAns.kept (w := w6) (show RAns w6 (w3.heap.size + 1) (.slice (some ⟨gn, 0, none⟩) 2 cn) (hr ++ [q]) (preR f0 f1 f2 2) from o6) (by simp [World.setCell]) (fun b hb _ => Below.heap_setCell _ _ _ _ (by show b ≠ w3.heap.size; omega)))
            have X7 : Hid (Box2 (w6.setCell ⟨w3.heap.size, 1, none⟩ (.slice (some ⟨gn, 0, none⟩) 2 cn)) w3.heap.size (.slice (some ⟨g, 0, none⟩) (p + 3) (p + 3)) (.slice (some ⟨gn, 0, none⟩) 2 cn)) := hide (Box2.set1 ⟨⟨v0, v1⟩, t0, t1⟩ _)
            have G7 : Hid (Grew w3 (w6.setCell ⟨w3.heap.size, 1, none⟩ (.slice (some ⟨gn, 0, none⟩) 2 cn))) := hide (((((unhide gg).drew.trans g5).alloc (.cells #[.slice (some ⟨q, 0, none⟩) f1.length cq] 47)).grown g6 (fun b hb => by have := (unhide hblk b hb).1; omega)).setCell (p := ⟨w3.heap.size, 1, none⟩) (Nat.le_refl _) _)
            clear o6 g6 g5 o5 hp X gg hlow hblk hsz GW HIW v0 v1 t0 t1 y0 y1 u0 u1 y1o x0 x1 z0 z1 hxl
            go_wp2
            go_roundw
            case rel => exact ⟨2, _, hr ++ [q], by omega, by go_num, R7, X7, G7⟩
            case measure => simp [intOf]
        | 2, _ =>
          obtain ⟨⟨x0, x1⟩, z0, z1⟩ := unhide X
          have hlow := hide (unhide hp).low
          have hblk := hide (unhide hp).block
          have hsz := hide (unhide gg).size
          have GW := hide ((unhide G3).trans (unhide gg))
          have HIW := hide ((unhide HI).grew (unhide gg))
          have hxl := hide (unhide X).lt
          go_wp2_with fail
          go_region_law (first
            | (go_simp; go_at_call 41; refine (unhide K2 _ (unhide GW).drew g ((unhide HIW).grew (Grew.refl _).drew)).mono ?_; rintro r w5 ⟨q, cq, rfl, o5, hq, g5⟩; have X5 := (unhide X).grew ((Grew.refl _).drew.trans g5); have hq1 : wr.heap.size ≤ q := hq.1; have hq2 := hq.2; obtain ⟨⟨y0, y1⟩, u0, u1⟩ := X5; have y1o := fun o => cellOld o y1)
            | ((with_reducible refine at_ite ?_); refine step_prow rfl _ _ rfl (w3.heap.size + 1) bv hr (preR f0 f1 f2 2) rfl ((unhide hp).grew (((Grew.refl _).drew.trans g5).alloc _)) ⟨w5.heap.size, 0, none⟩ 1 rfl f2 q cq (cell_row _ _ _) (by have := unhide hxl; omega) (by simp; omega) (fun hm => by have := (unhide hlow q hm).2; omega) (fun e => by have := (unhide hblk q e).2; omega) ((o5.grew ((Grew.refl _).alloc _)).low (show w3.heap.size + 1 ≤ wr.drew.heap.size from unhide hxl)) (by simp [preR]) (by have := unhide hxl; simp; omega) ?_; intro gn cn w6 o6 g6; have X6 := (((unhide X).grew ((Grew.refl _).drew.trans g5)).grew ((Grew.refl _).alloc (.cells #[.slice (some ⟨q, 0, none⟩) f2.length cq] 47))).grown g6 (fun e => by have := (unhide hblk _ e).1; omega); obtain ⟨⟨v0, v1⟩, t0, t1⟩ := X6))
          all_goals
            have R7 : Hid (RAns (w6.setCell ⟨w3.heap.size, 1, none⟩ (.slice (some ⟨gn, 0, none⟩) 3 cn)) (w3.heap.size + 1) (.slice (some ⟨gn, 0, none⟩) 3 cn) (hr ++ [q]) (preR f0 f1 f2 3)) :=
              hide (RAns.kept (w := w6) (show RAns w6 (w3.heap.size + 1) (.slice (some ⟨gn, 0, none⟩) 3 cn) (hr ++ [q]) (preR f0 f1 f2 3) from o6) (by simp [World.setCell]) (fun b hb _ => Below.heap_setCell _ _ _ _ (by show b ≠ w3.heap.size; omega)))
            have X7 : Hid (Box2 (w6.setCell ⟨w3.heap.size, 1, none⟩ (.slice (some ⟨gn, 0, none⟩) 3 cn)) w3.heap.size (.slice (some ⟨g, 0, none⟩) (p + 3) (p + 3)) (.slice (some ⟨gn, 0, none⟩) 3 cn)) := hide (Box2.set1 ⟨⟨v0, v1⟩, t0, t1⟩ _)
            have G7 : Hid (Grew w3 (w6.setCell ⟨w3.heap.size, 1, none⟩ (.slice (some ⟨gn, 0, none⟩) 3 cn))) := hide (((((unhide gg).drew.trans g5).alloc (.cells #[.slice (some ⟨q, 0, none⟩) f2.length cq] 47)).grown g6 (fun b hb => by have := (unhide hblk b hb).1; omega)).setCell (p := ⟨w3.heap.size, 1, none⟩) (Nat.le_refl _) _)
            clear o6 g6 g5 o5 hp X gg hlow hblk hsz GW HIW v0 v1 t0 t1 y0 y1 u0 u1 y1o x0 x1 z0 z1 hxl
            go_wp2
            go_roundw
            case rel => exact ⟨3, _, hr ++ [q], by omega, by go_num, R7, X7, G7⟩
            case measure => simp [intOf]
        | 3, _ =>
          have hP0 : PRow wr (w3.heap.size + 1) bv hr (preR f0 f1 f2 3).length (preR f0 f1 f2 3) := (unhide hp).resolve_left (fun h => by have := h.2.1; simp [preR] at this)
          obtain ⟨gb, cb, rfl, _, _, _⟩ := hP0.shape
          have hP : Hid (PRow wr (w3.heap.size + 1) (.slice (some ⟨gb, 0, none⟩) 3 cb) hr 3 [f0, f1, f2]) := hide hP0
          have XX : Hid (Box2 wr w3.heap.size (.slice (some ⟨g, 0, none⟩) (p + 3) (p + 3)) (.slice (some ⟨gb, 0, none⟩) 3 cb)) := X
          clear hP0 hp X
          obtain ⟨⟨x0, x1⟩, _⟩ := unhide XX
          obtain ⟨⟨r0, r1⟩, z0, z1⟩ := (unhide R0).grew (unhide gg)
          have GE := hide ((unhide G3).trans (unhide gg))
          have hAns : Hid (∀ W : World, wr.heap.size ≤ W.heap.size → (∀ b, w.heap.size < b → W.heap[b]? = wr.heap[b]?) → CAns W w.heap.size (.slice (some ⟨g, 0, none⟩) (p + 3) (p + 3)) (.slice (some ⟨gb, 0, none⟩) 3 cb) ⟨D, [f0, f1, f2]⟩) := hide (fun W hz he => by
            have hl1 := (unhide hgg).1
            have hl2 := (unhide hgg).2
            have hl3 := (unhide R0lt)
            have hsz := (unhide gg).size
            refine .inr ⟨g, hr, ?_, hl1, by omega, ?_, ?_, ?_⟩
            · show _ = Value.slice _ D.length D.length; rw [unhide hD]
            · exact ((unhide HI).grew (unhide gg)).block (he g (by omega))
            · show Own W g D.length; rw [unhide hD]; exact ((unhide HO).grew (unhide gg)).block (he g (by omega))
            · exact ((unhide hP).lower (by omega)).kept hz (fun b hb hb2 => he b (by omega)))
          clear hP XX R0 gg
          clear K0 K1 K2 i0 i1 i2 hY hX
          go_wp2
          refine bodyPost_ret (by simp [results, Try.results28, go_sem, r0, r1]; try rfl) rfl ?_
          refine ⟨_, _, by rw [he.out], ?_, ?_⟩
          · rw [he.out]; show CAns _ _ _ _ (certOf l m); rw [hct.out]; exact unhide hAns _ (by simp [World.setCell]) (fun b hb => by rw [Below.heap_setCell _ _ _ _ (by show b ≠ w.heap.size; omega), Below.heap_setCell _ _ _ _ (by show b ≠ w.heap.size; omega)])
          · exact ((unhide GE).setCell (p := ⟨w.heap.size, 0, none⟩) (Nat.le_refl _) _).setCell (p := ⟨w.heap.size, 1, none⟩) (Nat.le_refl _) _
  · have he : Hid (certL l = (⟨[], []⟩, false)) := certL_no (by rw [hv]; simp)
    obtain ⟨⟨r0, r1⟩, z0, z1⟩ := (Box2.box w (.slice none 0 0) (.slice none 0 0) 31).grew g1
    have G1 := hide (((Grew.refl w).alloc _).trans g1)
    clear hv g1
    go_wp2
    refine bodyPost_ret (by simp [results, Try.results28, go_sem, r0, r1]; try rfl) rfl ?_
    refine ⟨_, _, by rw [he.out], .inl ⟨rfl, rfl, by rw [he.out]⟩, ?_⟩
    exact ((unhide G1).setCell (p := ⟨w.heap.size, 0, none⟩) (Nat.le_refl _) _).setCell (p := ⟨w.heap.size, 1, none⟩) (Nat.le_refl _) _
end Go.Proofs.Yteemihgakcmamaa
