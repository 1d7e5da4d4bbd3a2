/-
  The same contracts, told of slice values: what a call answered is handed on as it is.
-/
import Derived.Test.YteemihgakcmamaaNumsA
import Derived.Test.YteemihgakcmamaaBookA
namespace Go.Proofs.Yteemihgakcmamaa
set_option linter.unusedVariables false
open Go.RowKit
attribute [local simp] far_const

theorem implBookOk_v {v : Value} {l : List Int} (w : World) (hl : NumV w v l) (hn : l.length ≤ 1048576) : Calls Try.prog 48 #[v] w fun r w' => r = .returned (.bool (bokB l)) ∧ w' = w := by
  obtain ⟨a, ca, rfl, hl⟩ := hl
  exact implBookOk a ca l w hl hn
theorem implBookPay_v {v : Value} {l : List Int} (f t s : Int) (w : World) (hl : NumV w v l) (hn : l.length ≤ 1048576) :
    Calls Try.prog 49 #[v, .agg #[.int .i64 f, .int .i64 t, .int .i64 s]] w fun r w' => ∃ u, r = .returned u ∧ AnsN w' w.heap.size u (bpay l f t s) ∧ Grew w w' := by
  obtain ⟨a, ca, rfl, hl⟩ := hl
  exact implBookPay a ca l f t s w hl hn
end Go.Proofs.Yteemihgakcmamaa
