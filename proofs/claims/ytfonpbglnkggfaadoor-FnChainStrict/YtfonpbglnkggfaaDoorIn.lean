/-
  With how many items two rows begin, and whether one begins the other, in the program and in the specification.
-/
import Derived.Test.YtfonpbglnkggfaaDoorConv
namespace Go.Proofs.YtfonpbglnkggfaaDoor
set_option linter.unusedVariables false
open Go.RowKit
attribute [local simp] far_const

set_option maxHeartbeats 400000 in
theorem equal_item (x y : It) (w : World) : (Op.equalIn 10000 43 (.agg #[.int .i64 x.e, .int .i64 x.f, .int .i64 x.t, .int .i64 x.s]) (.agg #[.int .i64 y.e, .int .i64 y.f, .int .i64 y.t, .int .i64 y.s])).run Tryd.prog w = .ok (eqB x y) w := by
  go_simp
  by_cases he : x.e = y.e
  · by_cases hf : x.f = y.f
    · by_cases ht : x.t = y.t
      · by_cases hs : x.s = y.s
        · simp [eqB, he, hf, ht, hs]
        · simp [eqB, he, hf, ht, hs]
      · simp [eqB, he, hf, ht]
    · simp [eqB, he, hf]
  · simp [eqB, he]

theorem ret_int {a b : Int} (h : a = b) : Ending.returned (.int .i64 a) = .returned (.int .i64 b) := by rw [h]

end Go.Proofs.YtfonpbglnkggfaaDoor
