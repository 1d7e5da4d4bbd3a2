/-
  NodeEnter on both sides; the specification's copy of a node.
-/
import Derived.Test.YtkegdjfpeocndaaGreatNodE
import Derived.Test.YtkegdjfpeocndaaGreatNod9
import Derived.Test.YtkegdjfpeocndaaGreatVSpec3
namespace Go.Proofs.YtkegdjfpeocndaaGreat
set_option linter.unusedVariables false
open Go.RowKit
attribute [local simp] far_const

theorem nodeB_ep {x : Nd} (h : nodeB x = true) : 0 ≤ x.ep ∧ x.ep ≤ 30 := by
  unfold nodeB at h
  simp only [Bool.and_eq_true] at h
  have := h.2.1
  unfold inB at this
  simp only [Bool.and_eq_true, decide_eq_true_eq] at this
  exact this
/-- What NodeEnter answers. -/
def enterN (x : Nd) (e : Int) : Nd := if nodeB x = true then entN x e else ⟨0, 0, 0, []⟩
theorem enterN_yes {x : Nd} (h : nodeB x = true) (e : Int) : enterN x e = entN x e := if_pos h
theorem enterN_no {x : Nd} (h : nodeB x = false) (e : Int) : enterN x e = ⟨0, 0, 0, []⟩ := if_neg (by rw [h]; decide)
theorem entN_s (x : Nd) (e : Int) : (entN x e).s = x.s ∧ (entN x e).id = x.id ∧ (entN x e).vo = x.vo := by unfold entN; split <;> simp
theorem res4 {w : World} {b : Nat} {u0 u1 u2 u3 : Value} (v0 v1 v2 v3 : Value) (r0 : w.cell? ⟨b, 0, none⟩ = some u0) (r1 : w.cell? ⟨b, 1, none⟩ = some u1) (r2 : w.cell? ⟨b, 2, none⟩ = some u2) (r3 : w.cell? ⟨b, 3, none⟩ = some u3) :
    ((((w.setCell ⟨b, 0, none⟩ v0).setCell ⟨b, 1, none⟩ v1).setCell ⟨b, 2, none⟩ v2).setCell ⟨b, 3, none⟩ v3).cell? ⟨b, 0, none⟩ = some v0 ∧ ((((w.setCell ⟨b, 0, none⟩ v0).setCell ⟨b, 1, none⟩ v1).setCell ⟨b, 2, none⟩ v2).setCell ⟨b, 3, none⟩ v3).cell? ⟨b, 1, none⟩ = some v1 ∧ ((((w.setCell ⟨b, 0, none⟩ v0).setCell ⟨b, 1, none⟩ v1).setCell ⟨b, 2, none⟩ v2).setCell ⟨b, 3, none⟩ v3).cell? ⟨b, 2, none⟩ = some v2 ∧ ((((w.setCell ⟨b, 0, none⟩ v0).setCell ⟨b, 1, none⟩ v1).setCell ⟨b, 2, none⟩ v2).setCell ⟨b, 3, none⟩ v3).cell? ⟨b, 3, none⟩ = some v3 := nzeros4 v0 v1 v2 v3 r0 r1 r2 r3 _ rfl
theorem Grew.set4 {w w' : World} (g : Grew w w') {b : Nat} (hb : w.heap.size ≤ b) (v0 v1 v2 v3 : Value) : Grew w ((((w'.setCell ⟨b, 0, none⟩ v0).setCell ⟨b, 1, none⟩ v1).setCell ⟨b, 2, none⟩ v2).setCell ⟨b, 3, none⟩ v3) :=
  (((g.setCell (p := ⟨b, 0, none⟩) hb v0).setCell (p := ⟨b, 1, none⟩) hb v1).setCell (p := ⟨b, 2, none⟩) hb v2).setCell (p := ⟨b, 3, none⟩) hb v3
theorem VAns.out {w w' : World} {base b : Nat} {v : Value} {hs : List Nat} {l : List Vt} (h : VAns w base v hs l) (hz : w.heap.size ≤ w'.heap.size) (e : ∀ g, g ≠ b → w'.heap[g]? = w.heap[g]?) (hb : b < base) : VAns w' base v hs l :=
  h.still hz (fun g hg => e g (by
    rcases h with ⟨rfl, _, rfl⟩ | h
    · rcases hg with hg | hg <;> cases hg
    · rcases hg with hg | hg
      · have := (h.low g hg).1; omega
      · have := (h.block g hg).1; omega))
theorem set4_out (w : World) (b : Nat) (v0 v1 v2 v3 : Value) : w.heap.size ≤ ((((w.setCell ⟨b, 0, none⟩ v0).setCell ⟨b, 1, none⟩ v1).setCell ⟨b, 2, none⟩ v2).setCell ⟨b, 3, none⟩ v3).heap.size ∧ ∀ g, g ≠ b → ((((w.setCell ⟨b, 0, none⟩ v0).setCell ⟨b, 1, none⟩ v1).setCell ⟨b, 2, none⟩ v2).setCell ⟨b, 3, none⟩ v3).heap[g]? = w.heap[g]? :=
  ⟨by simp [World.setCell], fun g hg => by rw [Below.heap_setCell _ _ _ _ hg, Below.heap_setCell _ _ _ _ hg, Below.heap_setCell _ _ _ _ hg, Below.heap_setCell _ _ _ _ hg]⟩

/-- A node's cells that can be written. -/
structure R4 (w : World) (b : Nat) : Prop where
  p0 : w.cell? ⟨b, 0, none⟩ = some (.int .i64 0)
  p1 : w.cell? ⟨b, 1, none⟩ = some (.int .i64 0)
  p2 : w.cell? ⟨b, 2, none⟩ = some (.int .i64 0)
  p3 : w.cell? ⟨b, 3, none⟩ = some (.slice none 0 0)
  z : ∀ j, w.frozen? ⟨b, j, none⟩ = false
theorem R4.made (w : World) (t : TypeId) : R4 (w.alloc (.cells #[.int .i64 0, .int .i64 0, .int .i64 0, .slice none 0 0] t)) w.heap.size := by
  refine ⟨?_, ?_, ?_, ?_, fun j => ?_⟩ <;> simp [go_sem]
theorem R4.made2 (w : World) (o : Obj) (t : TypeId) : R4 ((w.alloc o).alloc (.cells #[.int .i64 0, .int .i64 0, .int .i64 0, .slice none 0 0] t)) (w.heap.size + 1) := by
  have := R4.made (w.alloc o) t
  rwa [World.size_alloc] at this
theorem R4.grew {w w' : World} {b : Nat} (h : R4 w b) (g : Grew w w') : R4 w' b :=
  ⟨g.keep h.p0, g.keep h.p1, g.keep h.p2, g.keep h.p3, fun j => by
    rw [World.frozen?_of_block (a := ⟨b, j, none⟩) (g.below.block b (World.block_lt_of_cell? _ _ h.p0))]; exact h.z j⟩
set_option maxHeartbeats 4000000 in
theorem implNodeEnter (x : Nd) (e : Int) (v : Value) (w : World) (h : NdV w v x) (hs : Short x.s) (hn : x.s.length ≤ 1048576) :
    Calls Tryz.prog 9 #[v, .int .i64 e] w fun r w' => ∃ u hh, r = .returned u ∧ NdO w' w.heap.size u hh (enterN x e) ∧ Grew w w' := by
  obtain ⟨sv, rfl, a, cap, rfl, hcap, hv⟩ := h
  have HV := hide hv
  clear hv
  cases hok : nodeB x with
  | false =>
    have hX := hide (enterN_no hok e)
    have HC := hide (fun W (g : Grew w W) => nodeDo_no 0 x e 0 0 0 0 none 0 0 _ W ⟨_, rfl, a, cap, rfl, hcap, (unhide HV).grew g⟩ hs hn hok)
    go_enter Tryz.func9, Tryz.ntmps9
    go_wp2_with fail
    refine (unhide HC _ (((Grew.refl _).alloc _).alloc _)).mono ?_
    rintro r w1 ⟨rfl, g1⟩
    have R0 := hide ((R4.made2 w (.cells #[.int .i64 x.id, .int .i64 x.ep, .int .i64 x.vo, .slice a x.s.length cap] 28) 28).grew g1)
    have G1 := hide ((((Grew.refl w).alloc _).alloc _).trans g1)
    have S2 := hide (((Grew.refl w1).alloc (.cells #[.int .i64 0, .int .i64 0, .int .i64 0, .slice none 0 0] 28)).alloc (.cells #[.int .i64 0, .slice none 0 0] 38))
    have R2 := hide ((unhide R0).grew (unhide S2))
    have p0 := (unhide R2).p0
    have p1 := (unhide R2).p1
    have p2 := (unhide R2).p2
    have p3 := (unhide R2).p3
    have z0 := (unhide R2).z 0
    have z1 := (unhide R2).z 1
    have z2 := (unhide R2).z 2
    have z3 := (unhide R2).z 3
    clear g1 HC
    go_wp2
    obtain ⟨k0, k1, k2, k3⟩ := res4 (.int .i64 0) (.int .i64 0) (.int .i64 0) (.slice none 0 0) p0 p1 p2 p3
    refine bodyPost_ret (by simp [results, Tryz.results9, go_sem, k0, k1, k2, k3]; try rfl) rfl ?_
    rw [unhide hX]
    exact ⟨_, [], rfl, ⟨_, rfl, .inl ⟨rfl, rfl, rfl⟩⟩, ((unhide G1).trans (unhide S2)).set4 (Nat.le_succ _) _ _ _ _⟩
  | true =>
    have hX := hide (enterN_yes hok e)
    have HC := hide (fun W (g : Grew w W) => nodeDo0 x (entN x e) false TellN e 0 0 0 0 none 0 0 TellN.keeps (fun W base k sv hh hk => (enter_any W base k x sv hh hk e 0 0 0 0 none 0 0).mono (fun _ _ ⟨h1, h2, h3⟩ => ⟨0, none, 0, 0, sv, hh, h1, h2, ⟨rfl, rfl, rfl, rfl⟩, fun _ _ h1 h2 => ⟨h1, h2⟩, h3⟩)) _ W ⟨_, rfl, a, cap, rfl, hcap, (unhide HV).grew g⟩ hs hn hok)
    go_enter Tryz.func9, Tryz.ntmps9
    go_wp2_with fail
    refine (unhide HC _ (((Grew.refl _).alloc _).alloc _)).mono ?_
    rintro r w1 ⟨N, b, q, m, c, sv', hh', rfl, ha, ⟨rfl, rfl, rfl, rfl⟩, hN, g1⟩
    obtain ⟨sa, sc, rfl⟩ := ha.sl
    have R0 := hide ((R4.made2 w (.cells #[.int .i64 x.id, .int .i64 x.ep, .int .i64 x.vo, .slice a x.s.length cap] 28) 28).grew g1)
    have G1 := hide ((((Grew.refl w).alloc _).alloc _).trans g1)
    have S2 := hide (((Grew.refl w1).alloc (.cells #[.int .i64 (entN x e).id, .int .i64 (entN x e).ep, .int .i64 (entN x e).vo, .slice sa (entN x e).s.length sc] 28)).alloc (.cells #[.int .i64 0, .slice none 0 0] 38))
    have R2 := hide ((unhide R0).grew (unhide S2))
    have p0 := (unhide R2).p0
    have p1 := (unhide R2).p1
    have p2 := (unhide R2).p2
    have p3 := (unhide R2).p3
    have z0 := (unhide R2).z 0
    have z1 := (unhide R2).z 1
    have z2 := (unhide R2).z 2
    have z3 := (unhide R2).z 3
    have HA := hide (ha.grew (unhide S2))
    clear g1 HC ha
    go_wp2
    obtain ⟨k0, k1, k2, k3⟩ := res4 (.int .i64 (entN x e).id) (.int .i64 (entN x e).ep) (.int .i64 (entN x e).vo) (.slice sa (entN x e).s.length sc) p0 p1 p2 p3
    refine bodyPost_ret (by simp [results, Tryz.results9, go_sem, k0, k1, k2, k3]; try rfl) rfl ?_
    rw [unhide hX]
    refine ⟨_, hh', rfl, ⟨_, rfl, ((unhide HA).out (set4_out _ _ _ _ _ _).1 (set4_out _ _ _ _ _ _).2 (by simp)).lower (by simp; omega)⟩, ((unhide G1).trans (unhide S2)).set4 (Nat.le_succ _) _ _ _ _⟩

theorem NdAt.wrote {bs : List Nat} {w w' : World} {b : Nat} {i e o : Int} {sv : Value} (h : NdAt w b i e o sv) (q : WroteS bs w w') (hb : b ∉ bs) : NdAt w' b i e o sv := by
  have k : ∀ j, w'.cell? ⟨b, j, none⟩ = w.cell? ⟨b, j, none⟩ := fun j => World.cell?_of_block (q.keep b hb)
  exact ⟨(k 0).trans h.1, (k 1).trans h.2.1, (k 2).trans h.2.2.1, (k 3).trans h.2.2.2⟩
theorem VAns.floor {w : World} {base : Nat} {v : Value} {hs : List Nat} {l : List Vt} (h : VAns w base v hs l) : ∀ g, g ∈ hs ∨ v.ownBlock = some g → base ≤ g := by
  rcases h with ⟨rfl, _, rfl⟩ | h
  · intro g hg
    rcases hg with hg | hg <;> cases hg
  · intro g hg
    rcases hg with hg | hg
    · exact (h.low g hg).1
    · exact (h.block g hg).1

/-- The specification's copy of a node. -/
def NdR (w : World) (base : Nat) (v : Value) (x : Nd) : Prop := ∃ sv, v = .agg #[.int .i64 x.id, .int .i64 x.ep, .int .i64 x.vo, sv] ∧ VRow w base sv x.s
theorem NdR.ndV {w : World} {base : Nat} {v : Value} {x : Nd} (h : NdR w base v x) : NdV w v x := by
  obtain ⟨sv, h1, h2⟩ := h; exact ⟨sv, h1, h2.vtsV⟩
theorem NdR.grew {w w' : World} {base : Nat} {v : Value} {x : Nd} (h : NdR w base v x) (g : Grew w w') : NdR w' base v x := by
  obtain ⟨sv, h1, h2⟩ := h; exact ⟨sv, h1, h2.grew g⟩

theorem VRow.lower' {w : World} {base base' : Nat} {v : Value} {l : List Vt} (h : VRow w base v l) (hb : base' ≤ base) : VRow w base' v l := by
  obtain ⟨nz, cs, row, hc⟩ := h
  refine ⟨nz, cs, ⟨row.1, ?_⟩, fun i hi => ?_⟩
  · rcases row.2 with h0 | ⟨g, cap, cur, hv, hb', hr⟩
    · exact .inl h0
    · exact .inr ⟨g, cap, cur, hv, Nat.le_trans hb hb', hr⟩
  · obtain ⟨a, cap, k1, k2, k3, k4, k5⟩ := hc i hi
    exact ⟨a, cap, k1, k2, k3, fun y hy => ⟨(k4 y hy).1, (k4 y hy).2.1, Nat.le_trans hb (k4 y hy).2.2.1, (k4 y hy).2.2.2⟩, k5⟩
theorem VRow.set1 {w : World} {base b j : Nat} {v : Value} {l : List Vt} (h : VRow w base v l) (hb : b < base) (u : Value) : VRow (w.setCell ⟨b, j, none⟩ u) base v l :=
  h.kept (by simp [World.setCell]) (fun g h1 _ => Below.heap_setCell _ _ _ _ (by show g ≠ b; omega))
theorem VRow.set4 {w : World} {base b : Nat} {v : Value} {l : List Vt} (h : VRow w base v l) (hb : b < base) (v0 v1 v2 v3 : Value) : VRow ((((w.setCell ⟨b, 0, none⟩ v0).setCell ⟨b, 1, none⟩ v1).setCell ⟨b, 2, none⟩ v2).setCell ⟨b, 3, none⟩ v3) base v l :=
  h.kept (set4_out w b v0 v1 v2 v3).1 (fun g h1 _ => (set4_out w b v0 v1 v2 v3).2 g (by omega))

set_option maxHeartbeats 4000000 in
theorem l12Copy_any (x : Nd) (v : Value) (w : World) (h : NdV w v x) (hs : Short x.s) (hn : x.s.length ≤ 1048576) :
    Calls Tryz.prog 26 #[v] w fun r w' => ∃ u, r = .returned u ∧ NdR w' w.heap.size u x ∧ Grew w w' := by
  obtain ⟨sv, rfl, a, cap, rfl, hcap, hv⟩ := h
  have HV := hide hv
  clear hv
  go_enter Tryz.func26, Tryz.ntmps26
  go_wp2_with fail
  refine (l3Copy_any a cap x.s _ ((unhide HV).grew (((Grew.refl w).alloc _).alloc _)) hs hn).mono ?_
  rintro r w1 ⟨u, rfl, o1, g1⟩
  obtain ⟨gx, cx, rfl, _, _, _, _⟩ := o1.shape
  have R0 := hide ((R4.made2 w (.cells #[.int .i64 x.id, .int .i64 x.ep, .int .i64 x.vo, .slice a x.s.length cap] 28) 28).grew g1)
  have n0 := g1.keep (p := ⟨w.heap.size, 0, none⟩) (v := .int .i64 x.id) (by simp [go_sem])
  have n1 := g1.keep (p := ⟨w.heap.size, 1, none⟩) (v := .int .i64 x.ep) (by simp [go_sem])
  have n2 := g1.keep (p := ⟨w.heap.size, 2, none⟩) (v := .int .i64 x.vo) (by simp [go_sem])
  have n3 := g1.keep (p := ⟨w.heap.size, 3, none⟩) (v := .slice a x.s.length cap) (by simp [go_sem])
  have nz3 : w1.frozen? ⟨w.heap.size, 3, none⟩ = false := by
    rw [World.frozen?_of_block (a := ⟨w.heap.size, 3, none⟩) (g1.below.block w.heap.size (by simp only [World.size_alloc]; omega))]
    simp [go_sem]
  have p0 := (unhide R0).p0
  have p1 := (unhide R0).p1
  have p2 := (unhide R0).p2
  have p3 := (unhide R0).p3
  have z0 := (unhide R0).z 0
  have z1 := (unhide R0).z 1
  have z2 := (unhide R0).z 2
  have z3 := (unhide R0).z 3
  have G1 := hide ((((Grew.refl w).alloc _).alloc _).trans g1)
  have O1 := hide o1
  clear g1 o1
  go_wp2
  have e3 : w.heap.size + 1 ≠ w.heap.size := by omega
  obtain ⟨k0, k1, k2, k3⟩ := res4 (.int .i64 x.id) (.int .i64 x.ep) (.int .i64 x.vo) (.slice (some ⟨gx, 0, none⟩) x.s.length cx) (cset (p := ⟨w.heap.size, 3, none⟩) (u := .slice (some ⟨gx, 0, none⟩) x.s.length cx) p0 e3) (cset (p := ⟨w.heap.size, 3, none⟩) (u := .slice (some ⟨gx, 0, none⟩) x.s.length cx) p1 e3) (cset (p := ⟨w.heap.size, 3, none⟩) (u := .slice (some ⟨gx, 0, none⟩) x.s.length cx) p2 e3) (cset (p := ⟨w.heap.size, 3, none⟩) (u := .slice (some ⟨gx, 0, none⟩) x.s.length cx) p3 e3)
  refine bodyPost_ret (by simp [results, Tryz.results26, go_sem, k0, k1, k2, k3]; try rfl) rfl ?_
  exact ⟨_, rfl, ⟨_, rfl, (((unhide O1).set1 (by simp; omega) _).set4 (by simp) _ _ _ _).lower' (by simp; omega)⟩, ((unhide G1).setCell (p := ⟨w.heap.size, 3, none⟩) (Nat.le_refl _) _).set4 (Nat.le_succ _) _ _ _ _⟩

set_option maxHeartbeats 4000000 in
theorem l12Enter_any (x : Nd) (e : Int) (a : Option Addr) (n cap : Nat) (w : World) (h0 : 0 ≤ x.ep) (h1 : x.ep ≤ 30) :
    Calls Tryz.prog 25 #[.agg #[.int .i64 x.id, .int .i64 x.ep, .int .i64 x.vo, .slice a n cap], .int .i64 e] w fun r w' => r = .returned (.agg #[.int .i64 x.id, .int .i64 (entN x e).ep, .int .i64 x.vo, .slice a n cap]) ∧ Grew w w' := by
  have hw : IntKind.i64.wrap (x.ep + 1) = x.ep + 1 := by rw [IntKind.wrap_i64]; omega
  cases hin : inB e (x.ep + 1) 30 with
  | false =>
    have hE : (entN x e).ep = x.ep := by unfold entN; rw [if_neg (by rw [hin]; decide)]
    rw [hE]
    go_enter Tryz.func25, Tryz.ntmps25
    go_wp2_with fail
    refine (l6In_any _ _ _ _).mono ?_
    rw [hin]
    rintro r w1 ⟨rfl, rfl⟩
    go_wp2
    first | go_ret2 | go_returns
    exact ⟨rfl, by repeat (first | exact Grew.refl _ | refine Grew.alloc ?_ _)⟩
  | true =>
    have hE : (entN x e).ep = e := by unfold entN; rw [if_pos hin]
    rw [hE]
    go_enter Tryz.func25, Tryz.ntmps25
    go_wp2_with fail
    refine (l6In_any _ _ _ _).mono ?_
    rw [hin]
    rintro r w1 ⟨rfl, rfl⟩
    go_wp2
    first | go_ret2 | go_returns
    exact ⟨rfl, by repeat (first | exact Grew.refl _ | refine Grew.alloc ?_ _)⟩

set_option maxHeartbeats 4000000 in
theorem specNodeEnter (x : Nd) (e : Int) (v : Value) (w : World) (h : NdV w v x) (hs : Short x.s) (hn : x.s.length ≤ 1048576) :
    Calls Tryz.prog 7 #[v, .int .i64 e] w fun r w' => ∃ u, r = .returned u ∧ NdV w' u (enterN x e) ∧ Grew w w' := by
  obtain ⟨sv, rfl, a, cap, rfl, hcap, hv⟩ := h
  have HV := hide hv
  clear hv
  have S0 := hide (((Grew.refl w).alloc (.cells #[.int .i64 x.id, .int .i64 x.ep, .int .i64 x.vo, .slice a x.s.length cap] 28)).alloc (.cells #[.int .i64 0, .int .i64 0, .int .i64 0, .slice none 0 0] 28))
  cases hok : nodeB x with
  | false =>
    have hX := hide (enterN_no hok e)
    go_enter Tryz.func7, Tryz.ntmps7
    go_wp2_with fail
    refine (specNodeOk x _ _ ⟨_, rfl, a, cap, rfl, hcap, (unhide HV).grew (unhide S0)⟩ hs hn).mono ?_
    rw [hok]
    rintro r w1 ⟨rfl, g1⟩
    have R0 := hide ((R4.made2 w (.cells #[.int .i64 x.id, .int .i64 x.ep, .int .i64 x.vo, .slice a x.s.length cap] 28) 28).grew g1)
    have p0 := (unhide R0).p0
    have p1 := (unhide R0).p1
    have p2 := (unhide R0).p2
    have p3 := (unhide R0).p3
    have z0 := (unhide R0).z 0
    have z1 := (unhide R0).z 1
    have z2 := (unhide R0).z 2
    have z3 := (unhide R0).z 3
    have G1 := hide ((unhide S0).trans g1)
    clear g1
    go_wp2
    obtain ⟨k0, k1, k2, k3⟩ := res4 (.int .i64 0) (.int .i64 0) (.int .i64 0) (.slice none 0 0) p0 p1 p2 p3
    refine bodyPost_ret (by simp [results, Tryz.results7, go_sem, k0, k1, k2, k3]; try rfl) rfl ?_
    rw [unhide hX]
    exact ⟨_, rfl, ⟨_, rfl, none, 0, rfl, Nat.le_refl _, .inl rfl⟩, (unhide G1).set4 (Nat.le_succ _) _ _ _ _⟩
  | true =>
    have hX := hide (enterN_yes hok e)
    obtain ⟨he0, he1⟩ := nodeB_ep hok
    go_enter Tryz.func7, Tryz.ntmps7
    go_wp2_with fail
    refine (specNodeOk x _ _ ⟨_, rfl, a, cap, rfl, hcap, (unhide HV).grew (unhide S0)⟩ hs hn).mono ?_
    rw [hok]
    rintro r w1 ⟨rfl, g1⟩
    have n0 := g1.keep (p := ⟨w.heap.size, 0, none⟩) (v := .int .i64 x.id) (by simp [go_sem])
    have n1 := g1.keep (p := ⟨w.heap.size, 1, none⟩) (v := .int .i64 x.ep) (by simp [go_sem])
    have n2 := g1.keep (p := ⟨w.heap.size, 2, none⟩) (v := .int .i64 x.vo) (by simp [go_sem])
    have n3 := g1.keep (p := ⟨w.heap.size, 3, none⟩) (v := .slice a x.s.length cap) (by simp [go_sem])
    have R0 := hide ((R4.made2 w (.cells #[.int .i64 x.id, .int .i64 x.ep, .int .i64 x.vo, .slice a x.s.length cap] 28) 28).grew g1)
    have G1 := hide ((unhide S0).trans g1)
    have hz1 : w.heap.size + 2 ≤ w1.heap.size := by have := g1.size; simpa using this
    clear g1
    go_wp2_with fail
    refine (l12Copy_any x _ _ ⟨_, rfl, a, cap, rfl, hcap, (unhide HV).grew (unhide G1)⟩ hs hn).mono ?_
    rintro r w2 ⟨u, rfl, ⟨sv2, rfl, o2⟩, g2⟩
    obtain ⟨gx, cx, rfl, _, _, _, _⟩ := o2.shape
    have S2 := hide g2
    have O2 := hide o2
    clear g2 o2 n0 n1 n2 n3
    go_wp2_with fail
    refine (l12Enter_any x e _ _ _ _ he0 he1).mono ?_
    rintro r w3 ⟨rfl, g3⟩
    have R3 := hide (((unhide R0).grew (unhide S2)).grew g3)
    have p0 := (unhide R3).p0
    have p1 := (unhide R3).p1
    have p2 := (unhide R3).p2
    have p3 := (unhide R3).p3
    have z0 := (unhide R3).z 0
    have z1 := (unhide R3).z 1
    have z2 := (unhide R3).z 2
    have z3 := (unhide R3).z 3
    have G3 := hide (((unhide G1).trans (unhide S2)).trans g3)
    have O3 := hide ((unhide O2).grew g3)
    clear g3
    go_wp2
    obtain ⟨k0, k1, k2, k3⟩ := res4 (.int .i64 x.id) (.int .i64 (entN x e).ep) (.int .i64 x.vo) (.slice (some ⟨gx, 0, none⟩) x.s.length cx) p0 p1 p2 p3
    refine bodyPost_ret (by simp [results, Tryz.results7, go_sem, k0, k1, k2, k3]; try rfl) rfl ?_
    rw [unhide hX]
    obtain ⟨es, ei, ev⟩ := entN_s x e
    refine ⟨_, rfl, ⟨_, by rw [ei, ev], ?_⟩, (unhide G3).set4 (Nat.le_succ _) _ _ _ _⟩
    rw [es]
    exact ((unhide O3).set4 (by omega) _ _ _ _).vtsV
end Go.Proofs.YtkegdjfpeocndaaGreat
