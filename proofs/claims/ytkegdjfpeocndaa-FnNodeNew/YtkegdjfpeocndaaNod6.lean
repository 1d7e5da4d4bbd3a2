/-
  A node at work: the program's keeper: keeperOf, node, deeds, enter; NodeEnter on both sides.
-/
import Derived.Test.YtkegdjfpeocndaaNod4
import Derived.Test.YtkegdjfpeocndaaVSpec3
import Derived.Test.YtkegdjfpeocndaaDraw1
namespace Go.Proofs.Ytkegdjfpeocndaa
set_option linter.unusedVariables false
open Go.RowKit
attribute [local simp] far_const

/-- A keeper in the box k: what it has seen, which node, its epoch, in which it voted. -/
structure Kp (w : World) (k : Nat) (i e o : Int) (sv : Value) : Prop where
  c0 : w.cell? ⟨k, 0, none⟩ = some sv
  c1 : w.cell? ⟨k, 1, none⟩ = some (.int .i64 i)
  c2 : w.cell? ⟨k, 2, none⟩ = some (.int .i64 e)
  c3 : w.cell? ⟨k, 3, none⟩ = some (.int .i64 o)
  z : ∀ j, w.frozen? ⟨k, j, none⟩ = false
theorem Kp.grew {w w' : World} {k : Nat} {i e o : Int} {sv : Value} (h : Kp w k i e o sv) (g : Grew w w') : Kp w' k i e o sv :=
  ⟨g.keep h.c0, g.keep h.c1, g.keep h.c2, g.keep h.c3, fun j => by
    have hk : k < w.heap.size := World.block_lt_of_cell? _ _ h.c0
    rw [World.frozen?_of_block (g.below.block k hk)]; exact h.z j⟩
theorem Kp.lt {w : World} {k : Nat} {i e o : Int} {sv : Value} (h : Kp w k i e o sv) : k < w.heap.size := World.block_lt_of_cell? _ _ h.c0
theorem Kp.box (w : World) (i e o : Int) (sv : Value) (t : TypeId) : Kp (w.alloc (.cells #[sv, .int .i64 i, .int .i64 e, .int .i64 o] t)) w.heap.size i e o sv := by
  refine ⟨?_, ?_, ?_, ?_, fun j => ?_⟩ <;> simp [go_sem]

theorem nkeep {w w' : World} {p0 p1 p2 p3 : Addr} {u0 u1 u2 u3 : Value} (h : w.cell? p0 = some u0 ∧ w.cell? p1 = some u1 ∧ w.cell? p2 = some u2 ∧ w.cell? p3 = some u3) (g : Grew w w') : w'.cell? p0 = some u0 ∧ w'.cell? p1 = some u1 ∧ w'.cell? p2 = some u2 ∧ w'.cell? p3 = some u3 :=
  ⟨g.keep h.1, g.keep h.2.1, g.keep h.2.2.1, g.keep h.2.2.2⟩

/-- A row of votes stays where its blocks stay. -/
theorem VPart.still {w w' : World} {base : Nat} {v : Value} {hs : List Nat} {N : Nat} {l : List Vt} (h : VPart w base v hs N l) (hz : w.heap.size ≤ w'.heap.size) (e : ∀ g, g ∈ hs ∨ v.ownBlock = some g → w'.heap[g]? = w.heap[g]?) : VPart w' base v hs N l := by
  obtain ⟨nz, ⟨cs, row, hc⟩, len, le, apart, off, low, its⟩ := h
  refine ⟨nz, ⟨cs, ownsRow_block row (fun g hg => e g (.inr hg)), hc⟩, len, le, apart, off, fun h hh => ⟨(low h hh).1, Nat.lt_of_lt_of_le (low h hh).2 hz⟩, fun i h h' => ?_⟩
  have h1 := e hs[i] (.inl (List.getElem_mem h'))
  exact ⟨(its i h h').1.block h1, (its i h h').2.block h1⟩
theorem VAns.still {w w' : World} {base : Nat} {v : Value} {hs : List Nat} {l : List Vt} (h : VAns w base v hs l) (hz : w.heap.size ≤ w'.heap.size) (e : ∀ g, g ∈ hs ∨ v.ownBlock = some g → w'.heap[g]? = w.heap[g]?) : VAns w' base v hs l := by
  rcases h with h | h
  · exact .inl h
  · exact .inr (h.still hz e)
theorem Kp.setE {w : World} {k : Nat} {i e o : Int} {sv : Value} (h : Kp w k i e o sv) (n : Int) : Kp (w.setCell ⟨k, 2, none⟩ (.int .i64 n)) k i n o sv :=
  ⟨by rw [World.cell?_setCell_other _ _ _ _ (by simp)]; exact h.c0, by rw [World.cell?_setCell_other _ _ _ _ (by simp)]; exact h.c1, World.cell?_setCell_same _ _ _ h.c2, by rw [World.cell?_setCell_other _ _ _ _ (by simp)]; exact h.c3, fun j => by rw [World.frozen?_setCell]; exact h.z j⟩
theorem Kp.setO {w : World} {k : Nat} {i e o : Int} {sv : Value} (h : Kp w k i e o sv) (n : Int) : Kp (w.setCell ⟨k, 3, none⟩ (.int .i64 n)) k i e n sv :=
  ⟨by rw [World.cell?_setCell_other _ _ _ _ (by simp)]; exact h.c0, by rw [World.cell?_setCell_other _ _ _ _ (by simp)]; exact h.c1, by rw [World.cell?_setCell_other _ _ _ _ (by simp)]; exact h.c2, World.cell?_setCell_same _ _ _ h.c3, fun j => by rw [World.frozen?_setCell]; exact h.z j⟩
theorem Kp.setS {w : World} {k : Nat} {i e o : Int} {sv : Value} (h : Kp w k i e o sv) (u : Value) : Kp (w.setCell ⟨k, 0, none⟩ u) k i e o u :=
  ⟨World.cell?_setCell_same _ _ _ h.c0, by rw [World.cell?_setCell_other _ _ _ _ (by simp)]; exact h.c1, by rw [World.cell?_setCell_other _ _ _ _ (by simp)]; exact h.c2, by rw [World.cell?_setCell_other _ _ _ _ (by simp)]; exact h.c3, fun j => by rw [World.frozen?_setCell]; exact h.z j⟩
/-- A keeper of the call's own, with votes of the call's own. -/
structure KpO (w : World) (base k : Nat) (x : Nd) (sv : Value) (hh : List Nat) : Prop where
  kp : Kp w k x.id x.ep x.vo sv
  own : VAns w base sv hh x.s
  o1 : k ∉ hh
  o2 : sv.ownBlock ≠ some k
  low : base ≤ k
theorem KpO.grew {w w' : World} {base k : Nat} {x : Nd} {sv : Value} {hh : List Nat} (h : KpO w base k x sv hh) (g : Grew w w') : KpO w' base k x sv hh :=
  ⟨h.kp.grew g, h.own.grew g, h.o1, h.o2, h.low⟩
theorem VAns.set {w : World} {base k j : Nat} {sv u : Value} {hh : List Nat} {l : List Vt} (h : VAns w base sv hh l) (o1 : k ∉ hh) (o2 : sv.ownBlock ≠ some k) : VAns (w.setCell ⟨k, j, none⟩ u) base sv hh l :=
  h.still (by simp [World.setCell]) (fun g hg => by
    rw [Below.heap_setCell _ _ _ _ (by
      show g ≠ k
      rintro rfl
      rcases hg with hg | hg
      · exact o1 hg
      · exact o2 hg)])
theorem KpO.setE {w : World} {base k : Nat} {x : Nd} {sv : Value} {hh : List Nat} (h : KpO w base k x sv hh) (n : Int) : KpO (w.setCell ⟨k, 2, none⟩ (.int .i64 n)) base k { x with ep := n } sv hh :=
  ⟨h.kp.setE n, h.own.set h.o1 h.o2, h.o1, h.o2, h.low⟩
theorem KpO.setO {w : World} {base k : Nat} {x : Nd} {sv : Value} {hh : List Nat} (h : KpO w base k x sv hh) (n : Int) : KpO (w.setCell ⟨k, 3, none⟩ (.int .i64 n)) base k { x with vo := n } sv hh :=
  ⟨h.kp.setO n, h.own.set h.o1 h.o2, h.o1, h.o2, h.low⟩

theorem VAns.top {w : World} {base : Nat} {v : Value} {hs : List Nat} {l : List Vt} (h : VAns w base v hs l) : ∀ g, g ∈ hs ∨ v.ownBlock = some g → g < w.heap.size := by
  rcases h with ⟨rfl, _, rfl⟩ | h
  · intro g hg
    rcases hg with hg | hg
    · cases hg
    · cases hg
  · intro g hg
    rcases hg with hg | hg
    · exact (h.low g hg).2
    · exact (h.block g hg).2
/-- What is written behind all that the keeper's are doesn't touch it. -/
theorem KpO.over {W w w' : World} {base k : Nat} {x x0 : Nd} {sv : Value} {hh : List Nat} (h0 : KpO W base k x0 sv hh) (h : KpO w base k x sv hh) (hb : Below W.heap.size w w') : KpO w' base k x sv hh := by
  have hk := h0.kp.lt
  refine ⟨⟨?_, ?_, ?_, ?_, fun j => ?_⟩, h.own.still hb.size (fun g hg => hb.block g (h0.own.top g hg)), h.o1, h.o2, h.low⟩
  · rw [hb.cell hk]; exact h.kp.c0
  · rw [hb.cell hk]; exact h.kp.c1
  · rw [hb.cell hk]; exact h.kp.c2
  · rw [hb.cell hk]; exact h.kp.c3
  · rw [hb.frozen hk]; exact h.kp.z j

set_option maxHeartbeats 2000000 in
theorem keeperOf_any (x : Nd) (v : Value) (w : World) (h : NdV w v x) (hs : Short x.s) (hn : x.s.length ≤ 1048576) :
    Calls Try.prog 123 #[v] w fun r w' => ∃ k sv hh, r = .returned (.pointer (some ⟨k, 0, none⟩)) ∧ KpO w' w.heap.size k x sv hh ∧ Grew w w' := by
  obtain ⟨sv, rfl, a, cap, rfl, hcap, hv⟩ := h
  have HV := hide hv
  have B0 := NdAt.box w x.id x.ep x.vo (.slice a x.s.length cap) 52
  have S0 : Grew w (w.alloc (.cells #[.int .i64 x.id, .int .i64 x.ep, .int .i64 x.vo, .slice a x.s.length cap] 52)) := (Grew.refl w).alloc _
  obtain ⟨w0, hw0⟩ : ∃ W, W = w.alloc (.cells #[.int .i64 x.id, .int .i64 x.ep, .int .i64 x.vo, .slice a x.s.length cap] 52) := ⟨_, rfl⟩
  have hz : w.heap.size < w0.heap.size := by rw [hw0]; simp
  rw [← hw0] at B0 S0
  obtain ⟨p0, p1, p2, p3⟩ := B0
  have IQ := hide (And.intro p0 (And.intro p1 (And.intro p2 p3)))
  have G0 := hide S0
  have HW := hide hw0
  clear hv p0 p1 p2 p3 S0 hw0
  go_enter Try.func123, Try.ntmps123
  go_wp2_with fail
  rw [← unhide HW]
  clear HW
  go_region_held_law (fun w' => w'.cell? ⟨w.heap.size, 0, none⟩ = some (.int .i64 x.id) ∧ w'.cell? ⟨w.heap.size, 1, none⟩ = some (.int .i64 x.ep) ∧ w'.cell? ⟨w.heap.size, 2, none⟩ = some (.int .i64 x.vo) ∧ w'.cell? ⟨w.heap.size, 3, none⟩ = some (.slice a x.s.length cap))
    (first | with_reducible exact nkeep (unhide IQ) ((Grew.refl _).drew.trans g1) | with_reducible exact nkeep (unhide IQ) (Grew.refl _).drew | with_reducible exact nkeep (unhide IQ) (((Grew.refl _).drew.trans g1).alloc _))
    ((go_at_call 158; refine (copyVotes_any a cap x.s _ ((unhide HV).grew ((unhide G0).drew)) hs hn).mono ?_; rintro r w1 ⟨u, hh, rfl, o1, g1⟩; obtain ⟨gx, cx, rfl, _, _, _⟩ := o1.shape))
  have hk1 : gx < w1.heap.size := by omega
  have K1 : KpO (w1.alloc (.cells #[.slice (some ⟨gx, 0, none⟩) x.s.length cx, .int .i64 x.id, .int .i64 x.ep, .int .i64 x.vo] 210)) w.heap.size w1.heap.size x (.slice (some ⟨gx, 0, none⟩) x.s.length cx) hh := by
    have hz0 : w.heap.size ≤ w0.drew.heap.size := by show w.heap.size ≤ w0.heap.size; omega
    have hz1 : w.heap.size ≤ w1.heap.size := by have := g1.size; omega
    refine ⟨Kp.box w1 _ _ _ _ _, .inr ((o1.grew ((Grew.refl _).alloc _)).lower hz0), fun hm => ?_, fun e => ?_, hz1⟩
    · have := (o1.low _ hm).2; omega
    · have e1 : gx = w1.heap.size := Option.some.inj e
      omega
  have GG : Grew w (w1.alloc (.cells #[.slice (some ⟨gx, 0, none⟩) x.s.length cx, .int .i64 x.id, .int .i64 x.ep, .int .i64 x.vo] 210)) := ((unhide G0).drew.trans g1).alloc _
  have K1 := hide K1
  have GG := hide GG
  clear o1 g1 IQ G0 hz
  go_wp2
  go_ret
  exact ⟨_, _, hh, rfl, unhide K1, unhide GG⟩

theorem cset {w : World} {p q : Addr} {u v : Value} (h : w.cell? q = some v) (hb : q.block ≠ p.block) : (w.setCell p u).cell? q = some v := by
  rw [World.cell?_setCell_other _ _ _ _ (fun e => hb (by rw [e]))]; exact h
set_option maxHeartbeats 1000000 in
theorem node_any (W : World) (base k : Nat) (x : Nd) (sv : Value) (hh : List Nat) (h : KpO W base k x sv hh) :
    Calls Try.prog 125 #[.pointer (some ⟨k, 0, none⟩)] W fun r w' => r = .returned (.agg #[.int .i64 x.id, .int .i64 x.ep, .int .i64 x.vo, sv]) ∧ Grew W w' := by
  obtain ⟨a, c, e⟩ : ∃ a c, sv = .slice a x.s.length c := by
    rcases h.own with ⟨e, e2, _⟩ | h
    · exact ⟨none, 0, by rw [e, e2]; rfl⟩
    · obtain ⟨g, c, e, _⟩ := h.shape
      exact ⟨_, _, e⟩
  subst e
  obtain ⟨c0, c1, c2, c3, z⟩ := h.kp
  have hk := h.kp.lt
  clear h z
  have IQ := hide (And.intro c0 (And.intro c1 (And.intro c2 c3)))
  have hne : k ≠ W.heap.size := by omega
  clear c0 c1 c2 c3 hk
  go_enter Try.func125, Try.ntmps125
  go_wp2_with fail
  go_region_held_law (fun w' => w'.cell? ⟨k, 0, none⟩ = some (.slice a x.s.length c) ∧ w'.cell? ⟨k, 1, none⟩ = some (.int .i64 x.id) ∧ w'.cell? ⟨k, 2, none⟩ = some (.int .i64 x.ep) ∧ w'.cell? ⟨k, 3, none⟩ = some (.int .i64 x.vo))
    (with_reducible exact nkeep (unhide IQ) ((Grew.refl _).alloc _).drew)
    (fail)
  go_wp2
  refine bodyPost_ret (by simp [results, Try.results125, go_sem]; try rfl) rfl ?_
  exact ⟨rfl, by repeat (first | exact Grew.refl _ | refine Grew.drew ?_ | refine Grew.alloc ?_ _)⟩

def entN (x : Nd) (e : Int) : Nd := if inB e (x.ep + 1) 30 = true then { x with ep := e } else x

theorem deeds_any (W : World) (k : Nat) :
    Calls Try.prog 124 #[.pointer (some ⟨k, 0, none⟩)] W fun r w' => ∃ b, r = .returned (.slice (some ⟨b, 0, none⟩) 3 3) ∧ w'.cell? ⟨b, 0, none⟩ = some (.func (.func 159) #[.pointer (some ⟨k, 0, none⟩)] #[]) ∧ w'.cell? ⟨b, 1, none⟩ = some (.func (.func 160) #[.pointer (some ⟨k, 0, none⟩)] #[]) ∧ w'.cell? ⟨b, 2, none⟩ = some (.func (.func 161) #[.pointer (some ⟨k, 0, none⟩)] #[]) ∧ Grew W w' := by
  have hmf : ∀ (fn : Fn) (first cap : Array Value) (w : World), (Instr.makeFunc fn first cap).run Try.prog w = .ok (.func fn first cap) w := fun _ _ _ _ => rfl
  go_enter Try.func124, Try.ntmps124
  go_wp2
  go_ret
  exact ⟨_, rfl, by simp [go_sem], by simp [go_sem], by simp [go_sem], (Grew.refl _).alloc _⟩

theorem entN_no {x : Nd} {e : Int} (h : ¬ (x.ep < e ∧ e ≤ 30)) : entN x e = x := by
  unfold entN inB
  rw [if_neg]
  simp only [Bool.and_eq_true, decide_eq_true_eq]
  omega
theorem entN_yes {x : Nd} {e : Int} (h1 : x.ep < e) (h2 : e ≤ 30) : entN x e = { x with ep := e } := by
  unfold entN inB
  rw [if_pos]
  simp only [Bool.and_eq_true, decide_eq_true_eq]
  omega

/-- Behind the boxes that a deed begins with. -/
structure Deed (W2 W : World) (k : Nat) (e pf pt ps vb : Int) (va : Option Addr) (vn vc : Nat) : Prop where
  e0 : W2.cell? ⟨W.heap.size, 0, none⟩ = some (.int .i64 e)
  e1 : W2.cell? ⟨W.heap.size, 1, none⟩ = some (.int .i64 pf)
  e2 : W2.cell? ⟨W.heap.size, 2, none⟩ = some (.int .i64 pt)
  e3 : W2.cell? ⟨W.heap.size, 3, none⟩ = some (.int .i64 ps)
  e4 : W2.cell? ⟨W.heap.size, 4, none⟩ = some (.int .i64 vb)
  e5 : W2.cell? ⟨W.heap.size, 5, none⟩ = some (.slice va vn vc)
  r0 : W2.cell? ⟨W.heap.size + 1, 0, none⟩ = some (.int .i64 0)
  r1 : W2.cell? ⟨W.heap.size + 1, 1, none⟩ = some (.slice none 0 0)
  rz : ∀ j, W2.frozen? ⟨W.heap.size + 1, j, none⟩ = false
  g : Grew W W2
  s : W2.heap.size = W.heap.size + 2
theorem Deed.begin (W : World) (k : Nat) (e pf pt ps vb : Int) (va : Option Addr) (vn vc : Nat) (t1 t2 : TypeId) : Deed ((W.alloc (.cells #[.int .i64 e, .int .i64 pf, .int .i64 pt, .int .i64 ps, .int .i64 vb, .slice va vn vc] t1)).alloc (.cells #[.int .i64 0, .slice none 0 0] t2)) W k e pf pt ps vb va vn vc := by
  refine ⟨?_, ?_, ?_, ?_, ?_, ?_, ?_, ?_, fun j => ?_, ((Grew.refl W).alloc _).alloc _, ?_⟩ <;> simp [go_sem]

theorem res2 {w : World} {b : Nat} {u0 u1 : Value} (r0 : w.cell? ⟨b, 0, none⟩ = some u0) (r1 : w.cell? ⟨b, 1, none⟩ = some u1) (v0 v1 : Value) : ((w.setCell ⟨b, 0, none⟩ v0).setCell ⟨b, 1, none⟩ v1).cell? ⟨b, 0, none⟩ = some v0 ∧ ((w.setCell ⟨b, 0, none⟩ v0).setCell ⟨b, 1, none⟩ v1).cell? ⟨b, 1, none⟩ = some v1 := by
  have h0 : (w.setCell ⟨b, 0, none⟩ v0).cell? ⟨b, 0, none⟩ = some v0 := World.cell?_setCell_same _ _ _ r0
  have h1 : (w.setCell ⟨b, 0, none⟩ v0).cell? ⟨b, 1, none⟩ = some u1 := by rw [World.cell?_setCell_other _ _ _ _ (by simp)]; exact r1
  exact ⟨by rw [World.cell?_setCell_other _ _ _ _ (by simp)]; exact h0, World.cell?_setCell_same _ _ _ h1⟩
theorem res2d {w : World} {b : Nat} {u0 u1 : Value} (r0 : w.cell? ⟨b, 0, none⟩ = some u0) (r1 : w.cell? ⟨b, 1, none⟩ = some u1) (v0 v1 : Value) : ((w.setCell ⟨b, 0, none⟩ v0).setCell ⟨b, 1, none⟩ v1).drew.cell? ⟨b, 0, none⟩ = some v0 ∧ ((w.setCell ⟨b, 0, none⟩ v0).setCell ⟨b, 1, none⟩ v1).drew.cell? ⟨b, 1, none⟩ = some v1 := res2 r0 r1 v0 v1

set_option maxHeartbeats 1000000 in
theorem enter_any (W : World) (base k : Nat) (x : Nd) (sv : Value) (hh : List Nat) (h : KpO W base k x sv hh) (e pf pt ps vb : Int) (va : Option Addr) (vn vc : Nat) :
    Calls Try.prog 159 #[.pointer (some ⟨k, 0, none⟩), .agg #[.int .i64 e, .int .i64 pf, .int .i64 pt, .int .i64 ps, .int .i64 vb, .slice va vn vc]] W fun r w' => r = .returned (.tuple #[.agg #[.int .i64 0, .slice none 0 0], .bool false]) ∧ KpO w' base k (entN x e) sv hh ∧ Ran k W w' := by
  have hD := Deed.begin W k e pf pt ps vb va vn vc 122 45
  obtain ⟨W2, hW2⟩ : ∃ W2, W2 = (W.alloc (.cells #[.int .i64 e, .int .i64 pf, .int .i64 pt, .int .i64 ps, .int .i64 vb, .slice va vn vc] 122)).alloc (.cells #[.int .i64 0, .slice none 0 0] 45) := ⟨_, rfl⟩
  rw [← hW2] at hD
  have H2 := hide (h.grew hD.g)
  have HW := hide hW2
  have hk := h.kp.lt
  have c2 := (unhide H2).kp.c2
  have z2 := (unhide H2).kp.z 2
  have e0 := hD.e0
  have r0 := hD.r0
  have r1 := hD.r1
  have rz0 := hD.rz 0
  have rz1 := hD.rz 1
  have hne : k ≠ W.heap.size := by omega
  have hne1 : k ≠ W.heap.size + 1 := by omega
  have HS := hide hD.s
  have H := hide h
  have HG := hide hD.g
  clear h hW2 hD hk
  by_cases hx : x.ep < e ∧ e ≤ 30
  · rw [entN_yes hx.1 hx.2]
    obtain ⟨h1, h2⟩ := hx
    go_enter Try.func159, Try.ntmps159
    go_wp2_with fail
    rw [← unhide HW]
    go_region
    go_wp2
    have q := res2d (cset (u := .int .i64 e) (p := ⟨k, 2, none⟩) r0 (Ne.symm hne1)) (cset (u := .int .i64 e) (p := ⟨k, 2, none⟩) r1 (Ne.symm hne1)) (.int .i64 0) (.slice none 0 0)
    refine bodyPost_ret (by simp [results, Try.results159, go_sem, q.1, q.2]; try rfl) rfl ?_
    refine ⟨rfl, (unhide H).over ((unhide H2).setE e) (((((Below.refl _ _).setCell (Nat.le_succ _) _).setCell (Nat.le_succ _) _)).drew), ?_⟩
    exact ((((Ran.refl k W).grew (unhide HG)).setCell (p := ⟨k, 2, none⟩) (.inl rfl) _).setCell (p := ⟨W.heap.size + 1, 0, none⟩) (.inr (Nat.le_succ _)) _).setCell (p := ⟨W.heap.size + 1, 1, none⟩) (.inr (Nat.le_succ _)) _ |>.grew (Grew.refl _).drew
  · rw [entN_no hx]
    by_cases h1 : x.ep < e
    · have h2 : decide (e ≤ 30) = false := by simpa using fun h => hx ⟨h1, h⟩
      go_enter Try.func159, Try.ntmps159
      go_wp2_with fail
      rw [← unhide HW]
      go_region
      go_wp2
      have q := res2d r0 r1 (.int .i64 0) (.slice none 0 0)
      refine bodyPost_ret (by simp [results, Try.results159, go_sem, q.1, q.2]; try rfl) rfl ?_
      have hG : Grew W _ := ((((unhide HG).setCell (p := ⟨W.heap.size + 1, 0, none⟩) (Nat.le_succ _) (.int .i64 0)).setCell (p := ⟨W.heap.size + 1, 1, none⟩) (Nat.le_succ _) (.slice none 0 0))).drew
      exact ⟨rfl, (unhide H).grew hG, (Ran.refl k W).grew hG⟩
    · have h2 : decide (x.ep < e) = false := by simpa using h1
      go_enter Try.func159, Try.ntmps159
      go_wp2_with fail
      rw [← unhide HW]
      go_region
      go_wp2
      have q := res2d r0 r1 (.int .i64 0) (.slice none 0 0)
      refine bodyPost_ret (by simp [results, Try.results159, go_sem, q.1, q.2]; try rfl) rfl ?_
      have hG : Grew W _ := ((((unhide HG).setCell (p := ⟨W.heap.size + 1, 0, none⟩) (Nat.le_succ _) (.int .i64 0)).setCell (p := ⟨W.heap.size + 1, 1, none⟩) (Nat.le_succ _) (.slice none 0 0))).drew
      exact ⟨rfl, (unhide H).grew hG, (Ran.refl k W).grew hG⟩
theorem Ran.fz {R : Nat} {a b : World} (h : Ran R a b) {p : Addr} {u : Value} (hn : p.block ≠ R) (hl : a.cell? p = some u) {v : Bool} (hv : a.frozen? p = v) : b.frozen? p = v := by
  rw [World.frozen?_of_block (a := p) (h.keep p.block (World.block_lt_of_cell? _ _ hl) hn)]; exact hv
end Go.Proofs.Ytkegdjfpeocndaa
