/-
  Votes copied and with one more, by the specification.
-/
import Derived.Test.YtjbnohepbmejkaaVCopy
namespace Go.Proofs.Ytjbnohepbmejkaa
set_option linter.unusedVariables false
open Go.RowKit
attribute [local simp] far_const

set_option maxHeartbeats 1000000 in
theorem l1Copy_own (a : Option Addr) (ca : Nat) (l : List It) (n : Nat) (hln : l.length = n) (w : World) (hl : Its w a l) (hn : n ≤ 1048576) :
    Calls Try.prog 70 #[.slice a n ca] w fun r w' => ∃ v, r = .returned v ∧ OwnL w' w.heap.size v l ∧ Grew w w' := by
  have oe : OwnL (w.alloc (.cells #[] 33)) w.heap.size (.slice (some ⟨w.heap.size, 0, none⟩) 0 0) [] := OwnL.empty (Nat.le_refl _)
  rcases a with _ | ad
  · have h0 : l = [] := by
      rcases hl with h | ⟨_, _, h, _⟩
      · exact h
      · cases h
    subst h0
    simp only [List.length_nil] at hln
    subst hln
    have HO := hide oe
    clear oe
    go_enter Try.func70, Try.ntmps70
    go_wp2
    go_ret
    exact ⟨_, rfl, unhide HO, (Grew.refl _).alloc _⟩
  · have ia := hl.grew ((Grew.refl w).alloc (.cells #[] 33))
    have HO := hide oe
    have HI := hide ia
    have HL := hide hln
    clear oe ia hln hl
    go_enter Try.func70, Try.ntmps70
    go_wp2_with (first | (at_builtin; refine wpList_items rfl _ _ rfl w.heap.size _ [] rfl (unhide HO) ad ca l n (unhide HL) rfl (unhide HI) (by have := unhide HL; simp; omega) (by simp) ?_))
    intro v' w5 o5 g5
    have GG := ((Grew.refl w).alloc (.cells #[] 33)).grown g5 (fun k hk => Nat.le_of_eq (ownBlock_sl hk).symm)
    have HI5 := hide o5
    clear o5
    go_wp2
    go_ret
    exact ⟨_, rfl, unhide HI5, GG⟩

set_option maxHeartbeats 1000000 in
theorem l3VoteCopy_any (x : Vt) (v : Value) (w : World) (hv : VtV w v x) (hn : x.c.length ≤ 1048576) :
    Calls Try.prog 155 #[v] w fun r w' => ∃ q c, r = .returned (.agg #[.int .i64 x.n, .slice (some ⟨q, 0, none⟩) x.c.length c]) ∧ w.heap.size ≤ q ∧ (q < w'.heap.size ∧ x.c.length ≤ c) ∧ Its w' (some ⟨q, 0, none⟩) x.c ∧ Grew w w' := by
  obtain ⟨a, cap, rfl, hl⟩ := hv
  go_enter Try.func155, Try.ntmps155
  go_wp2_with fail
  refine (l1Copy_own a cap x.c _ rfl _ (hl.grew (((Grew.refl w).alloc _).alloc _)) hn).mono ?_
  rintro r w1 ⟨v1, rfl, o1, g1⟩
  obtain ⟨g, c, rfl, hcq, hg, hlt, i1⟩ := o1.shape
  have HCQ := hide hcq
  clear hcq
  have c00 := g1.keep (p := ⟨w.heap.size, 0, none⟩) (v := .int .i64 x.n) (by simp [go_sem])
  have c01 := g1.keep (p := ⟨w.heap.size, 1, none⟩) (v := .slice a x.c.length cap) (by simp [go_sem])
  have c10 := g1.keep (p := ⟨w.heap.size + 1, 0, none⟩) (v := .int .i64 0) (by simp [go_sem])
  have c11 := g1.keep (p := ⟨w.heap.size + 1, 1, none⟩) (v := .slice none 0 0) (by simp [go_sem])
  have z0 : w1.frozen? ⟨w.heap.size, 1, none⟩ = false := by
    rw [World.frozen?_of_block (g1.below.block w.heap.size (by simp; omega))]
    simp [go_sem]
  have z1 : ∀ i, w1.frozen? ⟨w.heap.size + 1, i, none⟩ = false := fun i => by
    rw [World.frozen?_of_block (g1.below.block (w.heap.size + 1) (by simp))]
    simp [go_sem]
  have z10 := z1 0
  have z11 := z1 1
  have G1 := hide ((((Grew.refl w).alloc _).alloc _).trans g1)
  simp only [World.size_alloc] at hg ⊢
  have I1 := hide i1
  clear z1 g1 i1 o1
  go_wp2
  refine bodyPost_ret (by simp [results, Try.results155, go_sem, c10, c11]; try rfl) rfl ?_
  have hk : ∀ (u0 u1 u2 : Value) b, b ≠ w.heap.size → b ≠ w.heap.size + 1 → (((w1.setCell ⟨w.heap.size, 1, none⟩ u0).setCell ⟨w.heap.size + 1, 0, none⟩ u1).setCell ⟨w.heap.size + 1, 1, none⟩ u2).heap[b]? = w1.heap[b]? := fun u0 u1 u2 b h1 h2 => by
    rw [Below.heap_setCell _ _ _ _ h2, Below.heap_setCell _ _ _ _ h2, Below.heap_setCell _ _ _ _ h1]
  refine ⟨g, c, rfl, by omega, ⟨?_, HCQ.out⟩, ?_, ?_⟩
  · simpa [World.setCell] using hlt
  · exact (unhide I1).block (hk _ _ _ _ (by omega) (by omega))
  · exact (((unhide G1).setCell (p := ⟨w.heap.size, 1, none⟩) (Nat.le_refl _) _).setCell (p := ⟨w.heap.size + 1, 0, none⟩) (by show w.heap.size ≤ w.heap.size + 1; omega) _).setCell (p := ⟨w.heap.size + 1, 1, none⟩) (by show w.heap.size ≤ w.heap.size + 1; omega) _

set_option maxHeartbeats 1000000 in
theorem l3Add_any (base : Nat) (v : Value) (l : List Vt) (x : Vt) (vx : Value) (w : World) (h : VRow w base v l) (hs : Short l) (hn : l.length ≤ 1048576) (hv : VtV w vx x) (hx : x.c.length ≤ 1048576) :
    Calls Try.prog 135 #[v, vx] w fun r w' => ∃ v', r = .returned (.tuple #[v', .bool (!hasB l x)]) ∧ VRow w' base v' (addL l x) ∧ w.grownBy w' v.ownBlock ∧ (v'.ownBlock = v.ownBlock ∨ ∃ k, v'.ownBlock = some k ∧ w.heap.size ≤ k) := by
  obtain ⟨a, cap, rfl, hxl⟩ := hv
  obtain ⟨g, cg, rfl, hcg, hbg, hgl, hvt⟩ := h.shape
  have H := hide h
  clear h
  go_enter Try.func135, Try.ntmps135
  go_wp2_with fail
  refine (l3Has_any _ _ _ l x _ _ rfl (hvt.grew ((Grew.refl _).alloc _)) ⟨_, _, rfl, hxl.grew ((Grew.refl _).alloc _)⟩ hs hx hn).mono ?_
  rintro r w1 ⟨rfl, g1⟩
  have p0 := g1.keep (p := ⟨w.heap.size, 0, none⟩) (v := .int .i64 x.n) (by simp [go_sem])
  have p1 := g1.keep (p := ⟨w.heap.size, 1, none⟩) (v := .slice a x.c.length cap) (by simp [go_sem])
  have G1 := hide (((Grew.refl w).alloc _).trans g1)
  clear g1
  cases hh : hasB l x with
  | true =>
    have e := hide (addL_old hh)
    go_wp2
    go_ret2
    exact ⟨_, (by rw [hh]; rfl), (by rw [unhide e]; exact (unhide H).grew (unhide G1)), ⟨(unhide G1).below.os, (unhide G1).below.tape, (unhide G1).below.output, (unhide G1).size, fun k hk _ => (unhide G1).below.block k hk⟩, .inl rfl⟩
  | false =>
    have e := hide (addL_new hh)
    go_wp2_with fail
    refine (l3VoteCopy_any x _ _ ⟨_, _, rfl, hxl.grew (unhide G1)⟩ hx).mono ?_
    rintro r w2 ⟨q, cq, rfl, hq1, hq2, qi, g2⟩
    have G2 := hide ((unhide G1).trans g2)
    have hz2 := g2.size
    have hz1 := (unhide G1).size
    have H2 := hide ((unhide H).grew (unhide G2))
    go_wp2_with (first | (at_builtin; refine wpList_vrow rfl _ _ rfl base _ l rfl ((unhide H2).grew ((Grew.refl _).alloc _)) ⟨w2.heap.size, 0, none⟩ 1 rfl x (some ⟨q, 0, none⟩) cq (cells_two _ _ _ _ _ _) (qi.grew ((Grew.refl _).alloc _)) (fun y hy => by cases hy; exact ⟨rfl, rfl, by show _ ≤ q; omega, by show q < _; simp; omega, fun e => by have : g = q := Option.some.inj e; omega⟩) (by omega) (by omega) (by simp; omega) ?_))
    intro v' w3 o3 g3 hat
    have O3 : Hid (VRow w3 base v' (addL l x)) := by show VRow w3 base v' (addL l x); rw [unhide e]; exact o3
    have G3 : Hid (w.grownBy w3 (some g)) := by
      have k := ((unhide G2).alloc (.cells #[.int .i64 x.n, .slice (some ⟨q, 0, none⟩) x.c.length cq] 45))
      exact ⟨g3.os.trans k.below.os, g3.tape.trans k.below.tape, g3.output.trans k.below.output, Nat.le_trans k.size g3.size, fun b hb hne => (g3.block b (Nat.lt_of_lt_of_le hb k.size) hne).trans (k.below.block b hb)⟩
    have hat' : Hid (v'.ownBlock = some g ∨ ∃ k, v'.ownBlock = some k ∧ w.heap.size ≤ k) := by
      rcases hat with h | h
      · exact .inl h
      · exact .inr ⟨_, h, by first | omega | (simp only [World.size_alloc]; omega)⟩
    clear o3 g3 hat
    go_wp2
    go_ret2
    exact ⟨v', (by rw [hh]; rfl), unhide O3, unhide G3, unhide hat'⟩

end Go.Proofs.Ytjbnohepbmejkaa
