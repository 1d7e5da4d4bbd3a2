/-
  What TreeSure, TreeLong, TreeTip and TreeFinal answer, told of values.
-/
import Derived.Test.YtibhfiamibccnacTree16
import Derived.Test.YtibhfiamibccnacTSpec1
import Derived.Test.YtibhfiamibccnacVForms
namespace Go.Proofs.Ytibhfiamibccnac
set_option linter.unusedVariables false
open Go.RowKit

theorem implTreeSure_v {v : Value} {l : List Vt} (b : Option Addr) (cb : Nat) (c : List It) (w : World) (h : VtsV w v l) (hs : Short l) (hn : l.length ≤ 1048576) (hc : Its w b c) (hnc : c.length ≤ 1048576) :
    Calls Try.prog 20 #[v, .slice b c.length cb] w fun r w' => r = .returned (.bool (sureL l c)) ∧ Grew w w' := by
  obtain ⟨a, cap, rfl, _, hv⟩ := h
  exact implTreeSure a cap l b cb c w hv hs hn hc hnc
theorem specTreeSure_v {v : Value} {l : List Vt} (b : Option Addr) (cb : Nat) (c : List It) (w : World) (h : VtsV w v l) (hs : Short l) (hn : l.length ≤ 1048576) (hc : Its w b c) (hcb : c.length ≤ cb) (hnc : c.length ≤ 1048576) :
    Calls Try.prog 17 #[v, .slice b c.length cb] w fun r w' => r = .returned (.bool (sureL l c)) ∧ Grew w w' := by
  obtain ⟨a, cap, rfl, h1, hv⟩ := h
  exact specTreeSure a cap l b cb c w hv h1 hs hn hc hcb hnc
theorem implTreeLong_v {v : Value} {l : List Vt} (w : World) (h : VtsV w v l) (hs : Short l) (hn : l.length ≤ 1048576) :
    Calls Try.prog 14 #[v] w fun r w' => r = .returned (.int .i64 (longL l)) ∧ Grew w w' := by
  obtain ⟨a, cap, rfl, h1, hv⟩ := h
  exact implTreeLong a cap l w hv hs hn
theorem implTreeTip_v {v : Value} {l : List Vt} (w : World) (h : VtsV w v l) (hs : Short l) (hn : l.length ≤ 1048576) :
    Calls Try.prog 29 #[v] w fun r w' => ∃ v, r = .returned v ∧ AnsI w' w.heap.size v (tipL l) ∧ Grew w w' := by
  obtain ⟨a, cap, rfl, h1, hv⟩ := h
  exact implTreeTip a cap l w hv hs hn
theorem implTreeFinal_v {v : Value} {l : List Vt} (w : World) (h : VtsV w v l) (hs : Short l) (hn : l.length ≤ 1048576) :
    Calls Try.prog 13 #[v] w fun r w' => ∃ v, r = .returned v ∧ AnsI w' w.heap.size v (finalL l) ∧ Grew w w' := by
  obtain ⟨a, cap, rfl, h1, hv⟩ := h
  exact implTreeFinal a cap l w hv hs hn
end Go.Proofs.Ytibhfiamibccnac
