/-
  What BookNew, BookPay and BookOf answer, in the program and in the specification.
-/
import Derived.Test.YteemihgakcmamaaBook3
namespace Go.Proofs.Yteemihgakcmamaa
set_option linter.unusedVariables false
open Go.RowKit
attribute [local simp] far_const

/-- BookPay. -/
def bpay (l : List Int) (f t s : Int) : List Int := if bokB l = true ∧ payB f t s = true then payL l f t s else []
def payAll (c : List It) : List Int := c.foldl (fun b x => payL b x.f x.t x.s) [9, 9, 9]
/-- BookOf. -/
def bof (c : List It) : List Int := if okB c = true then payAll c else []

theorem implBookNew (w : World) : Calls Try.prog 67 #[] w fun r w' => ∃ v, r = .returned v ∧ OwnN w' w.heap.size v [9, 9, 9] ∧ Grew w w' := by
  have O := hide (OwnN.lit (w := w) (Nat.le_refl _) [9, 9, 9] 3 rfl (by omega))
  go_enter Try.func67, Try.ntmps67
  go_wp2
  go_ret
  exact ⟨_, rfl, unhide O, (Grew.refl _).alloc _⟩
theorem paymentOf_any (f t s : Int) (w : World) : Calls Try.prog 105 #[.agg #[.int .i64 f, .int .i64 t, .int .i64 s]] w fun r w' => r = .returned (.func (.func 142) #[] #[.pointer (some ⟨w.heap.size, 0, none⟩)]) ∧ w' = w.alloc (.cells #[.int .i64 f, .int .i64 t, .int .i64 s] 49) := by
  go_enter Try.func105, Try.ntmps105
  go_wp2
  go_ret
  exact ⟨rfl, rfl⟩

set_option maxHeartbeats 1000000 in
theorem implBookPay (a : Option Addr) (cap : Nat) (l : List Int) (f t s : Int) (w : World) (hl : Ints w a l) (hn : l.length ≤ 1048576) :
    Calls Try.prog 49 #[.slice a l.length cap, .agg #[.int .i64 f, .int .i64 t, .int .i64 s]] w fun r w' => ∃ v, r = .returned v ∧ AnsN w' w.heap.size v (bpay l f t s) ∧ Grew w w' := by
  have HL := hide (hl.grew ((Grew.refl w).alloc (.cells #[.int .i64 f, .int .i64 t, .int .i64 s] 49)))
  cases hb : bokB l with
  | false =>
    have E : Hid (bpay l f t s = []) := by show bpay l f t s = []; unfold bpay; rw [hb]; simp
    clear hl
    go_enter Try.func49, Try.ntmps49
    go_wp2_with (go_at_call 48; refine (implBookOk _ _ l _ (unhide HL) hn).mono ?_; rw [hb]; rintro e w' ⟨rfl, rfl⟩)
    go_ret
    exact ⟨_, rfl, .inl ⟨rfl, unhide E⟩, (Grew.refl _).alloc _⟩
  | true =>
    cases hp : payB f t s with
    | false =>
      have E : Hid (bpay l f t s = []) := by show bpay l f t s = []; unfold bpay; rw [hp]; simp
      clear hl
      go_enter Try.func49, Try.ntmps49
      go_wp2_with (first | (go_at_call 48; refine (implBookOk _ _ l _ (unhide HL) hn).mono ?_; rw [hb]; rintro e w' ⟨rfl, rfl⟩) | (go_at_call 106; refine (implPayOk _ _ _ _).mono ?_; rw [hp]; rintro e w' ⟨rfl, g1⟩))
      go_ret
      exact ⟨_, rfl, .inl ⟨rfl, unhide E⟩, ((Grew.refl _).alloc _).trans (by assumption)⟩
    | true =>
      have E : Hid (bpay l f t s = payL l f t s) := by show bpay l f t s = _; unfold bpay; rw [hb, hp]; simp
      obtain ⟨x, y, z, rfl, hx⟩ := bokB_three hb
      clear hl
      go_enter Try.func49, Try.ntmps49
      go_wp2_with fail
      refine (implBookOk _ _ [x, y, z] _ (unhide HL) hn).mono ?_
      rw [hb]
      rintro e w1 ⟨rfl, rfl⟩
      go_wp2_with fail
      refine (implPayOk _ _ _ _).mono ?_
      rw [hp]
      rintro e w2 ⟨rfl, g2⟩
      have p0 := g2.keep (p := ⟨w.heap.size, 0, none⟩) (v := .int .i64 f) (by simp [go_sem])
      have p1 := g2.keep (p := ⟨w.heap.size, 1, none⟩) (v := .int .i64 t) (by simp [go_sem])
      have p2 := g2.keep (p := ⟨w.heap.size, 2, none⟩) (v := .int .i64 s) (by simp [go_sem])
      have HL2 := hide ((unhide HL).grew g2)
      have G2 := hide (((Grew.refl w).alloc _).trans g2)
      clear HL g2
      go_wp2_with fail
      refine (paymentOf_any f t s _).mono ?_
      rintro e w3 ⟨rfl, rfl⟩
      go_wp2_with fail
      refine (clo_any a cap w2.heap.size x y z f t s _ ((unhide HL2).grew ((Grew.refl _).alloc _)) (by omega) hp (by simp [go_sem]) (by simp [go_sem]) (by simp [go_sem])).mono ?_
      rintro e w4 ⟨v, rfl, o4, g4⟩
      have O4 := hide o4
      have G4 := hide ((unhide G2).trans (((Grew.refl _).alloc _).trans g4))
      clear o4 g4
      go_wp2
      go_ret
      refine ⟨_, rfl, .inr ?_, unhide G4⟩
      rw [unhide E]
      exact (unhide O4).low (by have := (unhide G2).size; simp; omega)

end Go.Proofs.Yteemihgakcmamaa
