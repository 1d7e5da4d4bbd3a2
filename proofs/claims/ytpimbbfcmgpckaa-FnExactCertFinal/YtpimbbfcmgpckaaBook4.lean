/-
  What BookNew, BookPay and BookOf answer, in the program and in the specification.
-/
import Derived.Test.YtpimbbfcmgpckaaBook3
namespace Go.Proofs.Ytpimbbfcmgpckaa
set_option linter.unusedVariables false
open Go.RowKit
attribute [local simp] far_const

/-- BookPay. -/
def bpay (l : List Int) (f t s : Int) : List Int := if bokB l = true ∧ payB f t s = true then payL l f t s else []
def payAll (c : List It) : List Int := c.foldl (fun b x => payL b x.f x.t x.s) [9, 9, 9]
/-- BookOf. -/
def bof (c : List It) : List Int := if okB c = true then payAll c else []

theorem implBookNew (w : World) : Calls Try.prog 47 #[] w fun r w' => ∃ v, r = .returned v ∧ OwnN w' w.heap.size v [9, 9, 9] ∧ Grew w w' := by
  have O := hide (OwnN.lit (w := w) (Nat.le_refl _) [9, 9, 9] 3 rfl (by omega))
  go_enter Try.func47, Try.ntmps47
  go_wp2
  go_ret
  exact ⟨_, rfl, unhide O, (Grew.refl _).alloc _⟩
theorem specBookNew (w : World) : Calls Try.prog 140 #[] w fun r w' => ∃ v, r = .returned v ∧ OwnN w' w.heap.size v [9, 9, 9] ∧ Grew w w' := by
  have O := hide (OwnN.lit (w := w) (Nat.le_refl _) [9, 9, 9] 3 rfl (by omega))
  go_enter Try.func140, Try.ntmps140
  go_wp2
  go_ret
  exact ⟨_, rfl, unhide O, (Grew.refl _).alloc _⟩

theorem paymentOf_any (f t s : Int) (w : World) : Calls Try.prog 142 #[.agg #[.int .i64 f, .int .i64 t, .int .i64 s]] w fun r w' => r = .returned (.func (.func 164) #[] #[.pointer (some ⟨w.heap.size, 0, none⟩)]) ∧ w' = w.alloc (.cells #[.int .i64 f, .int .i64 t, .int .i64 s] 30) := by
  go_enter Try.func142, Try.ntmps142
  go_wp2
  go_ret
  exact ⟨rfl, rfl⟩

end Go.Proofs.Ytpimbbfcmgpckaa
