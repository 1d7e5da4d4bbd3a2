/-
  nodeDo: where the node is not ok, and for each deed by its contract.
-/
import Derived.Test.YtkegdjfpeocndaaNod6
import Derived.Deep.RegionLaw
namespace Go.Proofs.Ytkegdjfpeocndaa
set_option linter.unusedVariables false
open Go.RowKit
attribute [local simp] far_const

theorem nzeros4 {w : World} {b : Nat} (v0 v1 v2 v3 : Value) {u0 u1 u2 u3 : Value} (r0 : w.cell? ⟨b, 0, none⟩ = some u0) (r1 : w.cell? ⟨b, 1, none⟩ = some u1) (r2 : w.cell? ⟨b, 2, none⟩ = some u2) (r3 : w.cell? ⟨b, 3, none⟩ = some u3) :
    ∀ w', w' = (((w.setCell ⟨b, 0, none⟩ v0).setCell ⟨b, 1, none⟩ v1).setCell ⟨b, 2, none⟩ v2).setCell ⟨b, 3, none⟩ v3 → w'.cell? ⟨b, 0, none⟩ = some v0 ∧ w'.cell? ⟨b, 1, none⟩ = some v1 ∧ w'.cell? ⟨b, 2, none⟩ = some v2 ∧ w'.cell? ⟨b, 3, none⟩ = some v3 := by
  rintro w' rfl
  have ne : ∀ {i j : Nat}, i ≠ j → (⟨b, i, none⟩ : Addr) ≠ ⟨b, j, none⟩ := fun h e => h (by injection e)
  have s0 : (w.setCell ⟨b, 0, none⟩ v0).cell? ⟨b, 0, none⟩ = some v0 := World.cell?_setCell_same _ _ _ r0
  have s1 : ((w.setCell ⟨b, 0, none⟩ v0).setCell ⟨b, 1, none⟩ v1).cell? ⟨b, 1, none⟩ = some v1 := World.cell?_setCell_same _ _ _ (u := u1) (by rw [World.cell?_setCell_other _ _ _ _ (ne (by decide))]; exact r1)
  have s2 : (((w.setCell ⟨b, 0, none⟩ v0).setCell ⟨b, 1, none⟩ v1).setCell ⟨b, 2, none⟩ v2).cell? ⟨b, 2, none⟩ = some v2 := World.cell?_setCell_same _ _ _ (u := u2) (by rw [World.cell?_setCell_other _ _ _ _ (ne (by decide)), World.cell?_setCell_other _ _ _ _ (ne (by decide))]; exact r2)
  refine ⟨?_, ?_, ?_, World.cell?_setCell_same _ _ _ (u := u3) ?_⟩
  · rw [World.cell?_setCell_other _ _ _ _ (ne (by decide)), World.cell?_setCell_other _ _ _ _ (ne (by decide)), World.cell?_setCell_other _ _ _ _ (ne (by decide))]; exact s0
  · rw [World.cell?_setCell_other _ _ _ _ (ne (by decide)), World.cell?_setCell_other _ _ _ _ (ne (by decide))]; exact s1
  · rw [World.cell?_setCell_other _ _ _ _ (ne (by decide))]; exact s2
  · rw [World.cell?_setCell_other _ _ _ _ (ne (by decide)), World.cell?_setCell_other _ _ _ _ (ne (by decide)), World.cell?_setCell_other _ _ _ _ (ne (by decide))]; exact r3
theorem res42 {w : World} {b d : Nat} (hbd : b ≠ d) {u0 u1 u2 u3 t0 t1 : Value} (c0 : w.cell? ⟨b, 0, none⟩ = some u0) (c1 : w.cell? ⟨b, 1, none⟩ = some u1) (c2 : w.cell? ⟨b, 2, none⟩ = some u2) (c3 : w.cell? ⟨b, 3, none⟩ = some u3) (d0 : w.cell? ⟨d, 0, none⟩ = some t0) (d1 : w.cell? ⟨d, 1, none⟩ = some t1) (v0 v1 v2 v3 x0 x1 : Value) :
    ∀ w', w' = (((((w.setCell ⟨b, 0, none⟩ v0).setCell ⟨b, 1, none⟩ v1).setCell ⟨b, 2, none⟩ v2).setCell ⟨b, 3, none⟩ v3).setCell ⟨d, 0, none⟩ x0).setCell ⟨d, 1, none⟩ x1 → (w'.cell? ⟨b, 0, none⟩ = some v0 ∧ w'.cell? ⟨b, 1, none⟩ = some v1 ∧ w'.cell? ⟨b, 2, none⟩ = some v2 ∧ w'.cell? ⟨b, 3, none⟩ = some v3) ∧ w'.cell? ⟨d, 0, none⟩ = some x0 ∧ w'.cell? ⟨d, 1, none⟩ = some x1 := by
  rintro w' rfl
  obtain ⟨k0, k1, k2, k3⟩ := nzeros4 v0 v1 v2 v3 c0 c1 c2 c3 _ rfl
  refine ⟨⟨cset (cset k0 hbd) hbd, cset (cset k1 hbd) hbd, cset (cset k2 hbd) hbd, cset (cset k3 hbd) hbd⟩, ?_⟩
  exact res2 (cset (cset (cset (cset d0 (Ne.symm hbd)) (Ne.symm hbd)) (Ne.symm hbd)) (Ne.symm hbd)) (cset (cset (cset (cset d1 (Ne.symm hbd)) (Ne.symm hbd)) (Ne.symm hbd)) (Ne.symm hbd)) x0 x1
/-- The boxes that nodeDo begins with. -/
structure Boxes (W1 : World) (n : Nat) (i e o : Int) (s : Value) (ev : List Value) : Prop where
  nd : NdAt W1 n i e o s
  er : ∀ j (h : j < ev.length), W1.cell? ⟨n + 1, j, none⟩ = some ev[j]
  c0 : W1.cell? ⟨n + 1 + 1, 0, none⟩ = some (.int .i64 0)
  c1 : W1.cell? ⟨n + 1 + 1, 1, none⟩ = some (.int .i64 0)
  c2 : W1.cell? ⟨n + 1 + 1, 2, none⟩ = some (.int .i64 0)
  c3 : W1.cell? ⟨n + 1 + 1, 3, none⟩ = some (.slice none 0 0)
  d0 : W1.cell? ⟨n + 1 + 1 + 1, 0, none⟩ = some (.int .i64 0)
  d1 : W1.cell? ⟨n + 1 + 1 + 1, 1, none⟩ = some (.slice none 0 0)
  cz : ∀ j, W1.frozen? ⟨n + 1 + 1, j, none⟩ = false
  dz : ∀ j, W1.frozen? ⟨n + 1 + 1 + 1, j, none⟩ = false
theorem Boxes.grew {W1 W2 : World} {n : Nat} {i e o : Int} {s : Value} {ev : List Value} (h : Boxes W1 n i e o s ev) (g : Grew W1 W2) : Boxes W2 n i e o s ev :=
  ⟨h.nd.grew g, fun j hj => g.keep (h.er j hj), g.keep h.c0, g.keep h.c1, g.keep h.c2, g.keep h.c3, g.keep h.d0, g.keep h.d1,
    fun j => by rw [World.frozen?_of_block (a := ⟨n + 1 + 1, j, none⟩) (g.below.block (n + 1 + 1) (World.block_lt_of_cell? _ _ h.c0))]; exact h.cz j,
    fun j => by rw [World.frozen?_of_block (a := ⟨n + 1 + 1 + 1, j, none⟩) (g.below.block (n + 1 + 1 + 1) (World.block_lt_of_cell? _ _ h.d0))]; exact h.dz j⟩
theorem Boxes.begin (w : World) (i p o : Int) (s : Value) (e pf pt ps vb : Int) (va : Option Addr) (vn vc : Nat) (t1 t2 t3 t4 : TypeId) : Boxes ((((w.alloc (.cells #[.int .i64 i, .int .i64 p, .int .i64 o, s] t1)).alloc (.cells #[.int .i64 e, .int .i64 pf, .int .i64 pt, .int .i64 ps, .int .i64 vb, .slice va vn vc] t2)).alloc (.cells #[.int .i64 0, .int .i64 0, .int .i64 0, .slice none 0 0] t3)).alloc (.cells #[.int .i64 0, .slice none 0 0] t4)) w.heap.size i p o s [.int .i64 e, .int .i64 pf, .int .i64 pt, .int .i64 ps, .int .i64 vb, .slice va vn vc] := by
  refine ⟨((((NdAt.box w i p o s t1).grew ((Grew.refl _).alloc _)).grew ((Grew.refl _).alloc _)).grew ((Grew.refl _).alloc _)), fun j hj => ?_, ?_, ?_, ?_, ?_, ?_, ?_, fun j => ?_, fun j => ?_⟩
  · simp only [List.length_cons, List.length_nil] at hj
    rcases j with _ | _ | _ | _ | _ | _ | j <;> first | (exfalso; omega) | simp [go_sem]
  all_goals simp [go_sem]

theorem keep6 {w w' : World} {p0 p1 p2 p3 p4 p5 : Addr} {u0 u1 u2 u3 u4 u5 : Value} (h : w.cell? p0 = some u0 ∧ w.cell? p1 = some u1 ∧ w.cell? p2 = some u2 ∧ w.cell? p3 = some u3 ∧ w.cell? p4 = some u4 ∧ w.cell? p5 = some u5) (g : Grew w w') : w'.cell? p0 = some u0 ∧ w'.cell? p1 = some u1 ∧ w'.cell? p2 = some u2 ∧ w'.cell? p3 = some u3 ∧ w'.cell? p4 = some u4 ∧ w'.cell? p5 = some u5 :=
  ⟨g.keep h.1, g.keep h.2.1, g.keep h.2.2.1, g.keep h.2.2.2.1, g.keep h.2.2.2.2.1, g.keep h.2.2.2.2.2⟩

set_option maxHeartbeats 2000000 in
theorem nodeDo_no (which : Int) (x : Nd) (e pf pt ps vb : Int) (va : Option Addr) (vn vc : Nat) (v : Value) (w : World) (h : NdV w v x) (hs : Short x.s) (hn : x.s.length ≤ 1048576) (hok : nodeB x = false) :
    Calls Try.prog 80 #[v, .int .i64 which, .agg #[.int .i64 e, .int .i64 pf, .int .i64 pt, .int .i64 ps, .int .i64 vb, .slice va vn vc]] w fun r w' => r = .returned (.tuple #[.agg #[.int .i64 0, .int .i64 0, .int .i64 0, .slice none 0 0], .agg #[.int .i64 0, .slice none 0 0], .bool false]) ∧ Grew w w' := by
  obtain ⟨sv, rfl, a, cap, rfl, hcap, hv⟩ := h
  have HV := hide hv
  have hB := Boxes.begin w x.id x.ep x.vo (.slice a x.s.length cap) e pf pt ps vb va vn vc 52 122 52 45
  have hG : Grew w ((((w.alloc (.cells #[.int .i64 x.id, .int .i64 x.ep, .int .i64 x.vo, .slice a x.s.length cap] 52)).alloc (.cells #[.int .i64 e, .int .i64 pf, .int .i64 pt, .int .i64 ps, .int .i64 vb, .slice va vn vc] 122)).alloc (.cells #[.int .i64 0, .int .i64 0, .int .i64 0, .slice none 0 0] 52)).alloc (.cells #[.int .i64 0, .slice none 0 0] 45)) := ((((Grew.refl w).alloc _).alloc _).alloc _).alloc _
  obtain ⟨W1, hW1⟩ : ∃ W, W = ((((w.alloc (.cells #[.int .i64 x.id, .int .i64 x.ep, .int .i64 x.vo, .slice a x.s.length cap] 52)).alloc (.cells #[.int .i64 e, .int .i64 pf, .int .i64 pt, .int .i64 ps, .int .i64 vb, .slice va vn vc] 122)).alloc (.cells #[.int .i64 0, .int .i64 0, .int .i64 0, .slice none 0 0] 52)).alloc (.cells #[.int .i64 0, .slice none 0 0] 45)) := ⟨_, rfl⟩
  rw [← hW1] at hB hG
  have HB := hide hB
  have HG := hide hG
  have HW := hide hW1
  have hz : w.heap.size + 4 = W1.heap.size := by rw [hW1]; simp
  clear hv hB hG hW1
  go_enter Try.func80, Try.ntmps80
  go_wp2_with fail
  rw [← unhide HW]
  clear HW
  obtain ⟨p0, p1, p2, p3⟩ := (unhide HB).nd
  go_wp2_with fail
  refine (implNodeOk x _ _ ⟨_, rfl, a, cap, rfl, hcap, (unhide HV).grew (unhide HG)⟩ hs hn).mono ?_
  rw [hok]
  rintro r W2 ⟨rfl, g2⟩
  have S2 := hide g2
  clear g2 p0 p1 p2 p3
  have B2 := (unhide HB).grew (unhide S2)
  have c0 := B2.c0
  have c1 := B2.c1
  have c2 := B2.c2
  have c3 := B2.c3
  have d0 := B2.d0
  have d1 := B2.d1
  have cz0 := B2.cz 0
  have cz1 := B2.cz 1
  have cz2 := B2.cz 2
  have cz3 := B2.cz 3
  have dz0 := B2.dz 0
  have dz1 := B2.dz 1
  clear B2
  go_wp2
  obtain ⟨⟨k0, k1, k2, k3⟩, l0, l1⟩ := res42 (b := w.heap.size + 1 + 1) (d := w.heap.size + 1 + 1 + 1) (by omega) c0 c1 c2 c3 d0 d1 (.int .i64 0) (.int .i64 0) (.int .i64 0) (.slice none 0 0) (.int .i64 0) (.slice none 0 0) _ rfl
  refine bodyPost_ret (by simp [results, Try.results80, go_sem, k0, k1, k2, k3, l0, l1]; try rfl) rfl ?_
  refine ⟨rfl, ?_⟩
  have le2 : w.heap.size ≤ w.heap.size + 1 + 1 := by omega
  have le3 : w.heap.size ≤ w.heap.size + 1 + 1 + 1 := by omega
  exact (((((((unhide HG).trans (unhide S2)).setCell le2 _).setCell le2 _).setCell le2 _).setCell le2 _).setCell le3 _).setCell le3 _
/-- A cell of another block is written. -/
theorem KpO.setB {w : World} {base k B j : Nat} {x : Nd} {sv u : Value} {hh : List Nat} (h : KpO w base k x sv hh) (h1 : B ≠ k) (h2 : B ∉ hh) (h3 : sv.ownBlock ≠ some B) : KpO (w.setCell ⟨B, j, none⟩ u) base k x sv hh :=
  ⟨⟨cset h.kp.c0 (Ne.symm h1), cset h.kp.c1 (Ne.symm h1), cset h.kp.c2 (Ne.symm h1), cset h.kp.c3 (Ne.symm h1), fun j => by rw [World.frozen?_setCell]; exact h.kp.z j⟩, h.own.set h2 h3, h.o1, h.o2, h.low⟩
/-- What a deed tells. -/
abbrev Tell := Nat → World → Int → Option Addr → Nat → Nat → List Nat → Value → Prop
/-- What a deed tells stays, where what was laid behind N stays. -/
def Tell.Keeps (T : Tell) : Prop := ∀ N w w' b q m c hh sv, T N w b q m c hh sv → w.heap.size ≤ w'.heap.size → (∀ g, N ≤ g → g < w.heap.size → w'.heap[g]? = w.heap[g]?) → T N w' b q m c hh sv
theorem Tell.Keeps.grew {T : Tell} (hT : T.Keeps) {N : Nat} {w w' : World} {b : Int} {q : Option Addr} {m c : Nat} {hh : List Nat} {sv : Value} (h : T N w b q m c hh sv) (g : Grew w w') : T N w' b q m c hh sv := hT N w w' b q m c hh sv h g.size (fun k _ hk => g.below.block k hk)
theorem Tell.Keeps.set {T : Tell} (hT : T.Keeps) {N B j : Nat} {w : World} {b : Int} {q : Option Addr} {m c : Nat} {hh : List Nat} {sv u : Value} (h : T N w b q m c hh sv) (hB : B < N) : T N (w.setCell ⟨B, j, none⟩ u) b q m c hh sv := hT N w _ b q m c hh sv h (by simp [World.setCell]) (fun k hk _ => by rw [Below.heap_setCell _ _ _ _ (by show k ≠ B; omega)])
/-- Of the blocks that were there just those that a row has had can be the new row's. -/
def Newly (W : World) (hh : List Nat) (sv : Value) (hh' : List Nat) (sv' : Value) : Prop := ∀ B, B < W.heap.size → B ∉ hh → sv.ownBlock ≠ some B → B ∉ hh' ∧ sv'.ownBlock ≠ some B
/-- How nodeDo stands behind the deed. -/
structure Behind (W6 W2 : World) (B n k N : Nat) (i e o : Int) (s : Value) (ev : List Value) (x' : Nd) (sv' : Value) (hh' : List Nat) (T : Tell) (b : Int) (q : Option Addr) (m c : Nat) : Prop where
  bx : Boxes W6 n i e o s ev
  kp : KpO W6 W2.heap.size k x' sv' hh'
  t : T N W6 b q m c hh' sv'
  g : Grew W2 W6
  hN : W2.heap.size ≤ N
  hB : W2.heap.size ≤ B
  q0 : W6.cell? ⟨B, 0, none⟩ = some (.int .i64 b)
  q1 : W6.cell? ⟨B, 1, none⟩ = some (.slice q m c)
theorem Behind.late {W5 W2 : World} {n k N : Nat} {i e o : Int} {s : Value} {ev : List Value} {x' : Nd} {sv' : Value} {hh' : List Nat} {T : Tell} {b : Int} {q : Option Addr} {m c : Nat} (hT : T.Keeps) (hB : Boxes W2 n i e o s ev) (hg : Grew W2 W5) (hk : KpO W5 W2.heap.size k x' sv' hh') (ht : T N W5 b q m c hh' sv') (hN : W2.heap.size ≤ N) (t : TypeId) :
    Behind (W5.alloc (.cells #[.int .i64 b, .slice q m c] t)) W2 W5.heap.size n k N i e o s ev x' sv' hh' T b q m c := by
  have g1 := (Grew.refl W5).alloc (.cells #[.int .i64 b, .slice q m c] t)
  exact ⟨hB.grew (hg.trans g1), hk.grew g1, hT.grew ht g1, hg.trans g1, hN, hg.size, by simp [go_sem], by simp [go_sem]⟩
theorem Behind.early {W5 W2 : World} {B n k N : Nat} {i e o : Int} {s : Value} {ev : List Value} {x' : Nd} {sv' : Value} {hh' : List Nat} {T : Tell} {b : Int} {q : Option Addr} {m c : Nat} (hT : T.Keeps) (hB : Boxes W2 n i e o s ev) (hg : Grew W2 W5) (hk : KpO W5 W2.heap.size k x' sv' hh') (ht : T N W5 b q m c hh' sv') (hN : W2.heap.size ≤ N) (hBN : B < N) (hB2 : W2.heap.size ≤ B) (hBk : B ≠ k) (hBf : B ∉ hh' ∧ sv'.ownBlock ≠ some B)
    {u0 u1 : Value} (r0 : W5.cell? ⟨B, 0, none⟩ = some u0) (r1 : W5.cell? ⟨B, 1, none⟩ = some u1) :
    Behind ((W5.setCell ⟨B, 0, none⟩ (.int .i64 b)).setCell ⟨B, 1, none⟩ (.slice q m c)) W2 B n k N i e o s ev x' sv' hh' T b q m c := by
  have g1 := (hg.setCell (p := ⟨B, 0, none⟩) hB2 (.int .i64 b)).setCell (p := ⟨B, 1, none⟩) hB2 (.slice q m c)
  have hr := res2 r0 r1 (.int .i64 b) (.slice q m c)
  exact ⟨hB.grew g1, (hk.setB hBk hBf.1 hBf.2).setB hBk hBf.1 hBf.2, hT.set (hT.set ht hBN) hBN, g1, hN, hB2, hr.1, hr.2⟩

theorem behind_end {w W6 W7 W2 : World} {B k N : Nat} {i e o : Int} {s sv' : Value} {ev : List Value} {x' : Nd} {hh' : List Nat} {T : Tell} {b : Int} {q : Option Addr} {m c : Nat} {told : Bool} (hT : T.Keeps) (L : Behind W6 W2 B w.heap.size k N i e o s ev x' sv' hh' T b q m c) (g7 : Grew W6 W7) (g : Grew w W2) (hz : w.heap.size + 4 ≤ W2.heap.size) {v0 v1 v2 v3 v4 v5 : Value} :
    ∃ N b' q' m' c' sv'' hh'', Ending.returned (.tuple #[.agg #[.int .i64 x'.id, .int .i64 x'.ep, .int .i64 x'.vo, sv'], .agg #[.int .i64 b, .slice q m c], .bool told]) = Ending.returned (.tuple #[.agg #[.int .i64 x'.id, .int .i64 x'.ep, .int .i64 x'.vo, sv''], .agg #[.int .i64 b', .slice q' m' c'], .bool told]) ∧ VAns ((((((W7.setCell ⟨w.heap.size + 1 + 1, 0, none⟩ v0).setCell ⟨w.heap.size + 1 + 1, 1, none⟩ v1).setCell ⟨w.heap.size + 1 + 1, 2, none⟩ v2).setCell ⟨w.heap.size + 1 + 1, 3, none⟩ v3).setCell ⟨w.heap.size + 1 + 1 + 1, 0, none⟩ v4).setCell ⟨w.heap.size + 1 + 1 + 1, 1, none⟩ v5) w.heap.size sv'' hh'' x'.s ∧ T N ((((((W7.setCell ⟨w.heap.size + 1 + 1, 0, none⟩ v0).setCell ⟨w.heap.size + 1 + 1, 1, none⟩ v1).setCell ⟨w.heap.size + 1 + 1, 2, none⟩ v2).setCell ⟨w.heap.size + 1 + 1, 3, none⟩ v3).setCell ⟨w.heap.size + 1 + 1 + 1, 0, none⟩ v4).setCell ⟨w.heap.size + 1 + 1 + 1, 1, none⟩ v5) b' q' m' c' hh'' sv'' ∧ w.heap.size ≤ N ∧ Grew w ((((((W7.setCell ⟨w.heap.size + 1 + 1, 0, none⟩ v0).setCell ⟨w.heap.size + 1 + 1, 1, none⟩ v1).setCell ⟨w.heap.size + 1 + 1, 2, none⟩ v2).setCell ⟨w.heap.size + 1 + 1, 3, none⟩ v3).setCell ⟨w.heap.size + 1 + 1 + 1, 0, none⟩ v4).setCell ⟨w.heap.size + 1 + 1 + 1, 1, none⟩ v5) := by
  have own := L.kp.own.grew g7
  have hlow : ∀ n, n < W2.heap.size → n ∉ hh' ∧ sv'.ownBlock ≠ some n := by
    intro n hn
    rcases L.kp.own with ⟨rfl, _, rfl⟩ | h
    · exact ⟨by simp, fun e => by cases e⟩
    · exact ⟨fun hm => by have := (h.low n hm).1; omega, fun e => by have := (h.block n e).1; omega⟩
  have h2 := hlow (w.heap.size + 1 + 1) (by omega)
  have h3 := hlow (w.heap.size + 1 + 1 + 1) (by omega)
  have le2 : w.heap.size ≤ w.heap.size + 1 + 1 := by omega
  have le3 : w.heap.size ≤ w.heap.size + 1 + 1 + 1 := by omega
  have n2 : w.heap.size + 1 + 1 < N := Nat.lt_of_lt_of_le (by omega) L.hN
  have n3 : w.heap.size + 1 + 1 + 1 < N := Nat.lt_of_lt_of_le (by omega) L.hN
  have ht := hT.grew L.t g7
  have gg := (g.trans L.g).trans g7
  exact ⟨N, b, q, m, c, sv', hh', rfl, (((((((own.lower (Nat.le_trans (by omega) (Nat.le_refl W2.heap.size) : w.heap.size ≤ W2.heap.size)).set h2.1 h2.2).set h2.1 h2.2).set h2.1 h2.2).set h2.1 h2.2).set h3.1 h3.2).set h3.1 h3.2),
    hT.set (hT.set (hT.set (hT.set (hT.set (hT.set ht n2) n2) n2) n2) n3) n3, Nat.le_trans (by omega) L.hN,
    (((((gg.setCell le2 _).setCell le2 _).setCell le2 _).setCell le2 _).setCell le3 _).setCell le3 _⟩

end Go.Proofs.Ytkegdjfpeocndaa
