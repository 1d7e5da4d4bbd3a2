/-
  NodePropose by the program, where nothing is proposed; lwNode.
-/
import Derived.Test.YtkegdjfpeocndaaNodP
import Derived.Test.YtkegdjfpeocndaaNod10
import Derived.Test.YtkegdjfpeocndaaVLwA
namespace Go.Proofs.Ytkegdjfpeocndaa
set_option linter.unusedVariables false
open Go.RowKit
attribute [local simp] far_const

set_option maxHeartbeats 2000000 in
theorem lwNode_same (x : Nd) (v u : Value) (w : World) (hv : NdV w v x) (hu : NdV w u x) (hs : Short x.s) (hn : x.s.length ≤ 1048577) :
    Calls Try.prog 32 #[v, u] w fun r w' => r = .returned (.bool true) ∧ Grew w w' := by
  obtain ⟨sv, rfl, hl⟩ := hv
  obtain ⟨su, rfl, hm⟩ := hu
  have HZ : Hid (∀ w', Grew w w' → Calls Try.prog 26 #[sv, su] w' fun r w'' => r = .returned (.bool true) ∧ Grew w' w'') := hide (fun w' g => by
    have := lwVotes_v w' (hl.grew g) (hm.grew g) hs hs hn hn
    rwa [(sameVs_iff x.s x.s).2 rfl] at this)
  clear hl hm hs hn
  go_enter Try.func32, Try.ntmps32
  go_wp2_with fail
  refine (unhide HZ _ (((Grew.refl _).alloc _).alloc _)).mono ?_
  rintro r w1 ⟨rfl, g1⟩
  go_wp2
  go_ret
  exact ⟨by first | rfl | simp, (((Grew.refl _).alloc _).alloc _).trans g1⟩

/-- The boxes that NodePropose begins with. -/
structure PBox (W1 : World) (n : Nat) (i e o : Int) (s : Value) (f t p : Int) : Prop where
  nd : NdAt W1 n i e o s
  p0 : W1.cell? ⟨n + 1, 0, none⟩ = some (.int .i64 f)
  p1 : W1.cell? ⟨n + 1, 1, none⟩ = some (.int .i64 t)
  p2 : W1.cell? ⟨n + 1, 2, none⟩ = some (.int .i64 p)
  c0 : W1.cell? ⟨n + 1 + 1, 0, none⟩ = some (.int .i64 0)
  c1 : W1.cell? ⟨n + 1 + 1, 1, none⟩ = some (.int .i64 0)
  c2 : W1.cell? ⟨n + 1 + 1, 2, none⟩ = some (.int .i64 0)
  c3 : W1.cell? ⟨n + 1 + 1, 3, none⟩ = some (.slice none 0 0)
  d0 : W1.cell? ⟨n + 1 + 1 + 1, 0, none⟩ = some (.int .i64 0)
  d1 : W1.cell? ⟨n + 1 + 1 + 1, 1, none⟩ = some (.slice none 0 0)
  cz : ∀ j, W1.frozen? ⟨n + 1 + 1, j, none⟩ = false
  dz : ∀ j, W1.frozen? ⟨n + 1 + 1 + 1, j, none⟩ = false
theorem PBox.grew {W1 W2 : World} {n : Nat} {i e o : Int} {s : Value} {f t p : Int} (h : PBox W1 n i e o s f t p) (g : Grew W1 W2) : PBox W2 n i e o s f t p :=
  ⟨h.nd.grew g, g.keep h.p0, g.keep h.p1, g.keep h.p2, g.keep h.c0, g.keep h.c1, g.keep h.c2, g.keep h.c3, g.keep h.d0, g.keep h.d1,
    fun j => by rw [World.frozen?_of_block (a := ⟨n + 1 + 1, j, none⟩) (g.below.block (n + 1 + 1) (World.block_lt_of_cell? _ _ h.c0))]; exact h.cz j,
    fun j => by rw [World.frozen?_of_block (a := ⟨n + 1 + 1 + 1, j, none⟩) (g.below.block (n + 1 + 1 + 1) (World.block_lt_of_cell? _ _ h.d0))]; exact h.dz j⟩
theorem PBox.begin (w : World) (i e o : Int) (s : Value) (f t p : Int) (t1 t2 t3 t4 : TypeId) : PBox ((((w.alloc (.cells #[.int .i64 i, .int .i64 e, .int .i64 o, s] t1)).alloc (.cells #[.int .i64 f, .int .i64 t, .int .i64 p] t2)).alloc (.cells #[.int .i64 0, .int .i64 0, .int .i64 0, .slice none 0 0] t3)).alloc (.cells #[.int .i64 0, .slice none 0 0] t4)) w.heap.size i e o s f t p := by
  refine ⟨(((NdAt.box w i e o s t1).grew ((Grew.refl _).alloc _)).grew ((Grew.refl _).alloc _)).grew ((Grew.refl _).alloc _), ?_, ?_, ?_, ?_, ?_, ?_, ?_, ?_, ?_, fun j => ?_, fun j => ?_⟩ <;> simp [go_sem]
theorem pro_done {w W2 : World} {T : Tell} {N : Nat} {X : Nd} {sv : Value} {hh : List Nat} {b : Int} {q : Option Addr} {m c : Nat} (hT : T.Keeps) (ha : VAns W2 (w.heap.size + 4) sv hh X.s) (ht : T N W2 b q m c hh sv) (hN : w.heap.size + 4 ≤ N) (g : Grew w W2) (v0 v1 v2 v3 v4 v5 : Value) :
    VAns ((((((W2.setCell ⟨w.heap.size + 1 + 1, 0, none⟩ v0).setCell ⟨w.heap.size + 1 + 1, 1, none⟩ v1).setCell ⟨w.heap.size + 1 + 1, 2, none⟩ v2).setCell ⟨w.heap.size + 1 + 1, 3, none⟩ v3).setCell ⟨w.heap.size + 1 + 1 + 1, 0, none⟩ v4).setCell ⟨w.heap.size + 1 + 1 + 1, 1, none⟩ v5) w.heap.size sv hh X.s ∧ T N ((((((W2.setCell ⟨w.heap.size + 1 + 1, 0, none⟩ v0).setCell ⟨w.heap.size + 1 + 1, 1, none⟩ v1).setCell ⟨w.heap.size + 1 + 1, 2, none⟩ v2).setCell ⟨w.heap.size + 1 + 1, 3, none⟩ v3).setCell ⟨w.heap.size + 1 + 1 + 1, 0, none⟩ v4).setCell ⟨w.heap.size + 1 + 1 + 1, 1, none⟩ v5) b q m c hh sv ∧ Grew w ((((((W2.setCell ⟨w.heap.size + 1 + 1, 0, none⟩ v0).setCell ⟨w.heap.size + 1 + 1, 1, none⟩ v1).setCell ⟨w.heap.size + 1 + 1, 2, none⟩ v2).setCell ⟨w.heap.size + 1 + 1, 3, none⟩ v3).setCell ⟨w.heap.size + 1 + 1 + 1, 0, none⟩ v4).setCell ⟨w.heap.size + 1 + 1 + 1, 1, none⟩ v5) := by
  have hlow : ∀ n, n < w.heap.size + 4 → n ∉ hh ∧ sv.ownBlock ≠ some n := by
    intro n hn
    rcases ha with ⟨rfl, _, rfl⟩ | h
    · exact ⟨by simp, fun e => by cases e⟩
    · exact ⟨fun hm => by have := (h.low n hm).1; omega, fun e => by have := (h.block n e).1; omega⟩
  have h2 := hlow (w.heap.size + 1 + 1) (by omega)
  have h3 := hlow (w.heap.size + 1 + 1 + 1) (by omega)
  have le2 : w.heap.size ≤ w.heap.size + 1 + 1 := by omega
  have le3 : w.heap.size ≤ w.heap.size + 1 + 1 + 1 := by omega
  have n2 : w.heap.size + 1 + 1 < N := by omega
  have n3 : w.heap.size + 1 + 1 + 1 < N := by omega
  exact ⟨((((((ha.lower (by omega)).set h2.1 h2.2).set h2.1 h2.2).set h2.1 h2.2).set h2.1 h2.2).set h3.1 h3.2).set h3.1 h3.2,
    hT.set (hT.set (hT.set (hT.set (hT.set (hT.set ht n2) n2) n2) n2) n3) n3,
    (((((g.setCell le2 _).setCell le2 _).setCell le2 _).setCell le2 _).setCell le3 _).setCell le3 _⟩

set_option maxHeartbeats 4000000 in
/-- NodePropose of an ok node and payment, by what nodeDo does. -/
theorem propose_do (x X : Nd) (f t p : Int) (told : Bool) (T : Tell) (hT : T.Keeps) (v : Value) (w : World) (h : NdV w v x) (hp : payB f t p = true)
    (HD : ∀ W, Grew w W → Calls Try.prog 80 #[v, .int .i64 1, .agg #[.int .i64 0, .int .i64 f, .int .i64 t, .int .i64 p, .int .i64 0, .slice none 0 0]] W fun r w' => ∃ N b q m c sv' hh', r = .returned (.tuple #[.agg #[.int .i64 X.id, .int .i64 X.ep, .int .i64 X.vo, sv'], .agg #[.int .i64 b, .slice q m c], .bool told]) ∧ VAns w' W.heap.size sv' hh' X.s ∧ T N w' b q m c hh' sv' ∧ W.heap.size ≤ N ∧ Grew W w') :
    Calls Try.prog 33 #[v, .agg #[.int .i64 f, .int .i64 t, .int .i64 p]] w fun r w' => ∃ N b q m c sv' hh', r = .returned (.tuple #[.agg #[.int .i64 X.id, .int .i64 X.ep, .int .i64 X.vo, sv'], .agg #[.int .i64 b, .slice q m c], .bool told]) ∧ VAns w' w.heap.size sv' hh' X.s ∧ T N w' b q m c hh' sv' ∧ w.heap.size ≤ N ∧ Grew w w' := by
  obtain ⟨sv, rfl, a, cap, rfl, hcap, hv⟩ := h
  have hB := PBox.begin w x.id x.ep x.vo (.slice a x.s.length cap) f t p 52 31 52 45
  have hG : Grew w ((((w.alloc (.cells #[.int .i64 x.id, .int .i64 x.ep, .int .i64 x.vo, .slice a x.s.length cap] 52)).alloc (.cells #[.int .i64 f, .int .i64 t, .int .i64 p] 31)).alloc (.cells #[.int .i64 0, .int .i64 0, .int .i64 0, .slice none 0 0] 52)).alloc (.cells #[.int .i64 0, .slice none 0 0] 45)) := ((((Grew.refl w).alloc _).alloc _).alloc _).alloc _
  obtain ⟨W1, hW1⟩ : ∃ W, W = ((((w.alloc (.cells #[.int .i64 x.id, .int .i64 x.ep, .int .i64 x.vo, .slice a x.s.length cap] 52)).alloc (.cells #[.int .i64 f, .int .i64 t, .int .i64 p] 31)).alloc (.cells #[.int .i64 0, .int .i64 0, .int .i64 0, .slice none 0 0] 52)).alloc (.cells #[.int .i64 0, .slice none 0 0] 45)) := ⟨_, rfl⟩
  rw [← hW1] at hB hG
  have HB := hide hB
  have HG := hide hG
  have HW := hide hW1
  have hz : w.heap.size + 4 = W1.heap.size := by rw [hW1]; simp
  have HDD := hide HD
  clear hv hB hG hW1 HD
  obtain ⟨n0, n1, n2, n3⟩ := (unhide HB).nd
  have p0 := (unhide HB).p0
  have p1 := (unhide HB).p1
  have p2 := (unhide HB).p2
  go_enter Try.func33, Try.ntmps33
  go_wp2_with fail
  rw [← unhide HW]
  clear HW
  go_wp2_with fail
  refine (implPayOk f t p W1).mono ?_
  rw [hp]
  rintro r W2 ⟨rfl, g2⟩
  obtain ⟨n0, n1, n2, n3⟩ := ((unhide HB).grew g2).nd
  have p0 := ((unhide HB).grew g2).p0
  have p1 := ((unhide HB).grew g2).p1
  have p2 := ((unhide HB).grew g2).p2
  have S2 := hide g2
  clear g2
  go_wp2_with fail
  refine (unhide HDD _ ((unhide HG).trans (unhide S2))).mono ?_
  rintro r W3 ⟨N, b, q, m, c, sv', hh', rfl, ha, ht, hN, g3⟩
  obtain ⟨sa, sc, rfl⟩ := ha.sl
  have B3 := ((unhide HB).grew (unhide S2)).grew g3
  have c0 := B3.c0
  have c1 := B3.c1
  have c2 := B3.c2
  have c3 := B3.c3
  have d0 := B3.d0
  have d1 := B3.d1
  have cz0 := B3.cz 0
  have cz1 := B3.cz 1
  have cz2 := B3.cz 2
  have cz3 := B3.cz 3
  have dz0 := B3.dz 0
  have dz1 := B3.dz 1
  have hz2 := (unhide S2).size
  have PD := hide (pro_done (w := w) (X := X) hT (ha.lower (by omega)) ht (by omega) (((unhide HG).trans (unhide S2)).trans g3) (.int .i64 X.id) (.int .i64 X.ep) (.int .i64 X.vo) (.slice sa X.s.length sc) (.int .i64 b) (.slice q m c))
  clear B3 ha ht g3 n0 n1 n2 n3 p0 p1 p2
  go_wp2
  obtain ⟨⟨k0, k1, k2, k3⟩, l0, l1⟩ := res42 (b := w.heap.size + 1 + 1) (d := w.heap.size + 1 + 1 + 1) (by omega) c0 c1 c2 c3 d0 d1 (.int .i64 X.id) (.int .i64 X.ep) (.int .i64 X.vo) (.slice sa X.s.length sc) (.int .i64 b) (.slice q m c) _ rfl
  refine bodyPost_ret (by simp [results, Try.results33, go_sem, k0, k1, k2, k3, l0, l1]; try rfl) rfl ?_
  exact ⟨N, b, q, m, c, _, hh', rfl, (unhide PD).1, (unhide PD).2.1, by omega, (unhide PD).2.2⟩

/-- A node that may not propose. -/
theorem implNodePropose_no (x : Nd) (f t p : Int) (v : Value) (w : World) (h : NdV w v x) (hs : Short x.s) (hn : x.s.length ≤ 1048576) (hp : payB f t p = true) (hok : nodeB x = true) (hb : proB x = false) :
    Calls Try.prog 33 #[v, .agg #[.int .i64 f, .int .i64 t, .int .i64 p]] w fun r w' => ∃ sv' hh', r = .returned (.tuple #[.agg #[.int .i64 x.id, .int .i64 x.ep, .int .i64 x.vo, sv'], .agg #[.int .i64 0, .slice none 0 0], .bool false]) ∧ VAns w' w.heap.size sv' hh' x.s ∧ Grew w w' := by
  refine (propose_do x x f t p false TellN TellN.keeps v w h hp (fun W g => nodeDo1 x x false TellN 0 f t p 0 none 0 0 TellN.keeps (fun W base k sv hh hk => (propose_no W base k x sv hh hk 0 f t p 0 none 0 0 hb).mono (fun r w' ⟨h1, h2⟩ => ⟨0, none, 0, 0, sv, hh, h1, hk.grew h2, ⟨rfl, rfl, rfl, rfl⟩, fun _ _ i1 i2 => ⟨i1, i2⟩, (Ran.refl k W).grew h2⟩)) v W (h.grew g) hs hn hok)).mono ?_
  rintro r w' ⟨N, b, q, m, c, sv', hh', rfl, ha, ⟨rfl, rfl, rfl, rfl⟩, hN, g⟩
  exact ⟨sv', hh', rfl, ha, g⟩
end Go.Proofs.Ytkegdjfpeocndaa
