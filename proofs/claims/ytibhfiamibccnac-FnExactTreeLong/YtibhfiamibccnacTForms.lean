/-
  What TreeSure, TreeLong, TreeTip and TreeFinal answer, told of values.
-/
import Derived.Test.YtibhfiamibccnacTree16
import Derived.Test.YtibhfiamibccnacTreeS
import Derived.Test.YtibhfiamibccnacVForms
namespace Go.Proofs.Ytibhfiamibccnac
set_option linter.unusedVariables false
open Go.RowKit

theorem implTreeLong_v {v : Value} {l : List Vt} (w : World) (h : VtsV w v l) (hs : Short l) (hn : l.length ≤ 1048576) :
    Calls Try.prog 14 #[v] w fun r w' => r = .returned (.int .i64 (longL l)) ∧ Grew w w' := by
  obtain ⟨a, cap, rfl, h1, hv⟩ := h
  exact implTreeLong a cap l w hv hs hn
theorem implTreeTip_v {v : Value} {l : List Vt} (w : World) (h : VtsV w v l) (hs : Short l) (hn : l.length ≤ 1048576) :
    Calls Try.prog 29 #[v] w fun r w' => ∃ v, r = .returned v ∧ AnsI w' w.heap.size v (tipL l) ∧ Grew w w' := by
  obtain ⟨a, cap, rfl, h1, hv⟩ := h
  exact implTreeTip a cap l w hv hs hn
theorem implTreeFinal_v {v : Value} {l : List Vt} (w : World) (h : VtsV w v l) (hs : Short l) (hn : l.length ≤ 1048576) :
    Calls Try.prog 13 #[v] w fun r w' => ∃ v, r = .returned v ∧ AnsI w' w.heap.size v (finalL l) ∧ Grew w w' := by
  obtain ⟨a, cap, rfl, h1, hv⟩ := h
  exact implTreeFinal a cap l w hv hs hn
end Go.Proofs.Ytibhfiamibccnac
