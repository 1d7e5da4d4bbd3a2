/-
  What BookNew, BookPay and BookOf answer, in the program and in the specification.
-/
import Derived.Test.YtppikkppgojbpaaBook3
namespace Go.Proofs.Ytppikkppgojbpaa
set_option linter.unusedVariables false
open Go.RowKit
attribute [local simp] far_const

/-- BookPay. -/
def bpay (l : List Int) (f t s : Int) : List Int := if bokB l = true ∧ payB f t s = true then payL l f t s else []
def payAll (c : List It) : List Int := c.foldl (fun b x => payL b x.f x.t x.s) [9, 9, 9]
/-- BookOf. -/
def bof (c : List It) : List Int := if okB c = true then payAll c else []

end Go.Proofs.Ytppikkppgojbpaa
