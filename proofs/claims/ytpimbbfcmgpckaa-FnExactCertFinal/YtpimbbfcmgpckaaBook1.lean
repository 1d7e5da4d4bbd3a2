/-
  What all have: when it is ok, what it is behind a payment. Plain mathematics, then BookOk in the program and in the specification.
-/
import Derived.Test.YtpimbbfcmgpckaaNumsA
namespace Go.Proofs.Ytpimbbfcmgpckaa
set_option linter.unusedVariables false
open Go.RowKit
attribute [local simp] far_const

/-- What all have is ok. -/
def bokB (l : List Int) : Bool := decide (l.length = 3) && (l.all (fun x => inB x 0 27) && decide (l.sum = 27))
theorem all_take (l : List Int) (p : Int → Bool) (k : Nat) (h : k < l.length) : (l.take (k + 1)).all p = ((l.take k).all p && p l[k]) := by
  rw [List.take_succ_eq_append_getElem h, List.all_append, List.all_cons, List.all_nil, Bool.and_true]
theorem sum_take (l : List Int) (k : Nat) (h : k < l.length) : (l.take (k + 1)).sum = (l.take k).sum + l[k] := by
  rw [List.take_succ_eq_append_getElem h, List.sum_append, List.sum_cons, List.sum_nil, Int.add_zero]
theorem all_ends (l : List Int) (p : Int → Bool) (k : Nat) (hk : k < l.length) (h : p l[k] = false) : l.all p = false := by
  cases e : l.all p with
  | false => rfl
  | true =>
    rw [List.all_eq_true] at e
    rw [e _ (List.getElem_mem hk)] at h
    cases h

end Go.Proofs.Ytpimbbfcmgpckaa
