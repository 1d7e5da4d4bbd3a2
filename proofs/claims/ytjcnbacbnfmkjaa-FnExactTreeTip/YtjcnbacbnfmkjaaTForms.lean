/-
  What TreeSure, TreeLong, TreeTip and TreeFinal answer, told of values.
-/
import Derived.Test.YtjcnbacbnfmkjaaTree16
import Derived.Test.YtjcnbacbnfmkjaaTreeS
import Derived.Test.YtjcnbacbnfmkjaaVForms
namespace Go.Proofs.Ytjcnbacbnfmkjaa
set_option linter.unusedVariables false
open Go.RowKit

theorem implTreeTip_v {v : Value} {l : List Vt} (w : World) (h : VtsV w v l) (hs : Short l) (hn : l.length ≤ 1048576) :
    Calls Try.prog 13 #[v] w fun r w' => ∃ v, r = .returned v ∧ AnsI w' w.heap.size v (tipL l) ∧ Grew w w' := by
  obtain ⟨a, cap, rfl, h1, hv⟩ := h
  exact implTreeTip a cap l w hv hs hn
theorem implTreeFinal_v {v : Value} {l : List Vt} (w : World) (h : VtsV w v l) (hs : Short l) (hn : l.length ≤ 1048576) :
    Calls Try.prog 25 #[v] w fun r w' => ∃ v, r = .returned v ∧ AnsI w' w.heap.size v (finalL l) ∧ Grew w w' := by
  obtain ⟨a, cap, rfl, h1, hv⟩ := h
  exact implTreeFinal a cap l w hv hs hn
end Go.Proofs.Ytjcnbacbnfmkjaa
