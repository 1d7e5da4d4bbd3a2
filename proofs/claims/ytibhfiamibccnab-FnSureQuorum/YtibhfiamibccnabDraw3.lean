/-
  Chains that are drawn: of whatever content, a row of their own.
-/
import Derived.Test.YtibhfiamibccnabDraw2
namespace Go.Proofs.Ytibhfiamibccnab
set_option linter.unusedVariables false
open Go.RowKit
attribute [local simp] far_const

theorem Rd.low {w w' : World} {R N : Nat} (h : Rd w R N) (e : ∀ b, b ≤ R → w'.heap[b]? = w.heap[b]?) : Rd w' R N := by
  obtain ⟨a, n, cap, q, h0, h1, h2, h3, h4, h5, h6⟩ := h
  refine ⟨a, n, cap, q, ?_, ?_, ?_, h3, h4, h5, ?_⟩
  · rw [World.cell?_of_block (w := w) (e R (Nat.le_refl _))]; exact h0
  · rw [World.cell?_of_block (w := w) (e R (Nat.le_refl _))]; exact h1
  · rw [World.frozen?_of_block (w := w) (e R (Nat.le_refl _))]; exact h2
  · rcases h6 with h | ⟨b, off, ha, hb, h⟩
    · exact .inl h
    · exact .inr ⟨b, off, ha, hb, fun i hi => by obtain ⟨z, h1, h2, h3⟩ := h i hi; exact ⟨z, h1, h2, by rw [World.cell?_of_block (w := w) (e b (by omega))]; exact h3⟩⟩
theorem Rd.grown {w w' : World} {R N : Nat} {row : Option Nat} (h : Rd w R N) (g : w.grownBy w' row) (hr : ∀ k, row = some k → R < k) : Rd w' R N :=
  h.low fun b hb => g.block b (by have := h.lt; omega) (fun e => by have := hr b e.symm; omega)

set_option maxHeartbeats 4000000 in
theorem l71Chain_ok (R N : Nat) (w : World) (hr : Rd w R N) (hN : N + 31 ≤ 1048576) :
    Calls Try.prog 76 #[.pointer (some ⟨R, 0, none⟩)] w fun r w' => ∃ v l, r = .returned v ∧ OwnL w' w.heap.size v l ∧ l.length ≤ 6 ∧ okB l = true ∧ Rd w' R (N + 31) ∧ Ran R w w' := by
  have hlt := hr.lt
  go_enter Try.func76, Try.ntmps76
  go_wp2_with fail
  refine (pick_any R N 7 _ (hr.grew ((Grew.refl _).alloc _)) (by omega) (by omega)).mono ?_
  rintro r w1 ⟨x, rfl, x0, x1, x2, r1, g1⟩
  have x3 := x1 (by omega)
  clear x1 x2
  have o1 : OwnL w1 w.heap.size (.slice (some ⟨w.heap.size, 0, none⟩) 0 0) [] := (OwnL.empty (Nat.le_refl _)).ran g1 hlt
  have G1 := ((Ran.refl R w).grew ((Grew.refl _).alloc _)).trans g1
  go_wp2_with fail
  obtain ⟨k0, rfl⟩ := Int.eq_ofNat_of_zero_le x0
  go_loopw [3, 4, 5] (fun out at' n wr => ∃ (v : Value) (l : List It) (q : Int) (k : Nat), out = v ∧ at' = .int .i64 q ∧ n = .int .i64 k ∧ l.length + k ≤ 6 ∧ (goB 0 l = true ∧ endE 0 l = q ∧ 0 ≤ q ∧ q ≤ 3 * l.length) ∧ OwnL wr w.heap.size v l ∧ Rd wr R (N + 31 - 5 * k) ∧ Ran R w wr) (fun _ _ n _ => (intOf n).toNat)
  case atStart => exact ⟨_, [], 0, k0, rfl, rfl, rfl, by simp; omega, ⟨rfl, rfl, by omega, by simp⟩, o1, r1.more (by omega), G1⟩
  case round =>
    obtain ⟨v, l, q, k, rfl, rfl, rfl, hk, hok, ho, hrd, hran⟩ := hrel
    have HK := hide hok
    clear hok
    by_cases hk0 : 0 < k
    · go_wp2_with fail
      refine (pick_any R (N + 31 - 5 * k) 6 _ hrd (by omega) (by omega)).mono ?_
      rintro r w2 ⟨x, rfl, x0, x1, x2, r2, g2⟩
      have x3 := x1 (by omega)
      clear x1 x2
      go_wp2_with fail
      refine (pick_any R _ 3 _ r2 (by omega) (by omega)).mono ?_
      rintro r w3 ⟨y, rfl, y0, y1, y2, r3, g3⟩
      have y3 := y1 (by omega)
      clear y1 y2
      go_wp2_with fail
      refine (l71Pay_ok R _ _ r3 (by omega)).mono ?_
      rintro r w4 ⟨f, t, s, rfl, hp, r4, g4⟩
      have HP := hide hp
      clear hp
      have g := (g2.trans g3).trans g4
      have o4 := ho.ran g hlt
      have hsz : w.heap.size ≤ w4.heap.size := Nat.le_trans hran.size g.size
      go_wp2_with (first | (at_builtin; refine wpList_items rfl _ _ rfl w.heap.size _ l rfl (o4.grew ((Grew.refl _).alloc _)) ⟨w4.heap.size, 0, none⟩ 1 [⟨wrap64 (wrap64 (q + 1) + wrap64 (x / 5 * y)), f, t, s⟩] 1 rfl rfl (its_one _ _ _) (by simp; omega) (by simp; omega) ?_))
      intro v' w5 o5 g5
      have hbl : ∀ k, _ = some k → w.heap.size ≤ k := fun k hk => (ho.block k hk).1
      have r5 := (r4.grew ((Grew.refl _).alloc _)).grown g5 (fun k hk => by have := hbl k hk; omega)
      have G5 := ((hran.trans g).grew ((Grew.refl _).alloc _)).grown g5 hbl
      clear o4 ho g5 hbl
      go_wp2
      go_roundw
      case rel =>
        refine ⟨v', l ++ [⟨wrap64 (wrap64 (q + 1) + wrap64 (x / 5 * y)), f, t, s⟩], _, k - 1, rfl, rfl, by go_num, by simp; omega, ?_, o5, r5.more (by omega), G5⟩
        obtain ⟨h1, h2, h3, h4⟩ := unhide HK
        have hx5 : x / 5 = 0 ∨ x / 5 = 1 := by omega
        have hz0 : 0 ≤ x / 5 * y ∧ x / 5 * y ≤ 2 := by rcases hx5 with h | h <;> rw [h] <;> omega
        have e : wrap64 (wrap64 (q + 1) + wrap64 (x / 5 * y)) = q + 1 + x / 5 * y := by
          generalize x / 5 * y = zz at hz0 ⊢
          unfold wrap64; omega
        rw [e]
        refine ⟨?_, endE_snoc _ _ _, by omega, by rw [List.length_append, List.length_singleton]; omega⟩
        rw [goB_snoc, h1, h2]
        simp only [Bool.true_and, stepB, unhide HP, Bool.and_true, Bool.and_eq_true, decide_eq_true_eq]
        omega
      case measure => simp [intOf]; omega
    · have hk1 : k = 0 := by omega
      subst hk1
      go_wp2
      go_ret
      exact ⟨_, l, rfl, ho, by omega, by unfold okB; rw [(unhide HK).1, Bool.and_true]; exact decide_eq_true (by omega), hrd.more (by omega), hran⟩
theorem l71Chain_any (R N : Nat) (w : World) (hr : Rd w R N) (hN : N + 31 ≤ 1048576) :
    Calls Try.prog 76 #[.pointer (some ⟨R, 0, none⟩)] w fun r w' => ∃ v l, r = .returned v ∧ OwnL w' w.heap.size v l ∧ l.length ≤ 6 ∧ Rd w' R (N + 31) ∧ Ran R w w' :=
  (l71Chain_ok R N w hr hN).mono fun _ _ ⟨v, l, h1, h2, h3, _, h4⟩ => ⟨v, l, h1, h2, h3, h4⟩
end Go.Proofs.Ytibhfiamibccnab
