/-
  What TreeSure answers.
-/
import Derived.Test.YtibhfiamibccnacTree4
import Derived.Test.YtibhfiamibccnacTree11
namespace Go.Proofs.Ytibhfiamibccnac
set_option linter.unusedVariables false
open Go.RowKit
attribute [local simp] far_const

/-- A chain is sure of votes. -/
def sureL (l : List Vt) (c : List It) : Bool := votesB l && (okB c && sureF (cnt l) c)
theorem sureF_none {l : List Vt} {c : List It} (h : ¬ (c = [] ∨ ∃ x ∈ l, c <+: x.c)) : sureF (cnt l) c = false := by
  unfold sureF
  rw [List.all_eq_false]
  have hl : 0 < c.length := List.length_pos_iff.2 (fun e => h (.inl e))
  refine ⟨c.length - 1, by simp; omega, ?_⟩
  rw [show c.length - 1 + 1 = c.length by omega, List.take_length]
  have : cnt l c = 0 := (cnt_zero l c).2 (fun x hx e => h (.inr ⟨x, hx, by rw [e]; exact List.prefix_refl _⟩))
  rw [this]
  decide

set_option maxRecDepth 20000 in
set_option maxHeartbeats 4000000 in
theorem implTreeSure (a : Option Addr) (cap : Nat) (l : List Vt) (b : Option Addr) (cb : Nat) (c : List It) (w : World) (hl : Vts w a l) (hs : Short l) (hn : l.length ≤ 1048576) (hc : Its w b c) (hnc : c.length ≤ 1048576) :
    Calls Try.prog 20 #[.slice a l.length cap, .slice b c.length cb] w fun r w' => r = .returned (.bool (sureL l c)) ∧ Grew w w' := by
  have hT := hide (treeOf_any a cap l w hl hs hn)
  unfold ptr at hT
  go_enter Try.func20, Try.ntmps20
  go_wp2_with fail
  refine hT.out.mono ?_
  clear hT
  rintro r w1 ⟨(⟨hv, tb, base, rfl, ⟨M, pos, kv, kd, cv, hF, hM⟩, hb1, hb2⟩ | ⟨hv, rfl⟩), g1⟩
  · obtain ⟨r, hr⟩ := firstsL_head l
    rw [hr] at hF
    have HF := hide hF
    have HM := hide hM
    clear hF hM hb1 hb2
    have hC := hide (implChainOk b cb c w1 (hc.grew g1) hnc)
    go_wp2_with fail
    refine hC.out.mono ?_
    clear hC
    rintro rr w2 ⟨rfl, g2⟩
    cases hok : okB c with
    | false =>
      have he : Hid (sureL l c = false) := by show sureL l c = false; simp [sureL, hok]
      go_wp2
      go_ret
      exact ⟨ret_bool he.out.symm, g1.trans g2⟩
    | true =>
      have he : Hid (sureL l c = sureF (cnt l) c) := by show sureL l c = _; simp [sureL, hok, hv]
      have hX := hide (find_any ((unhide HF).grew g2) b cb c (hc.grew (g1.trans g2)) hnc (by omega))
      unfold ptr at hX
      clear hv hok
      go_wp2_with fail
      refine hX.out.mono ?_
      clear hX
      rintro rr w3 ⟨(⟨hm, rfl⟩ | ⟨hm, rfl⟩), g3⟩
      · have hS := hide (sure_any ((unhide HF).grew (g2.trans g3)) c hm hnc)
        unfold ptr at hS
        clear hm
        go_wp2_with fail
        refine hS.out.mono ?_
        clear hS
        rintro rr w4 ⟨rfl, g4⟩
        go_wp2
        go_ret
        exact ⟨ret_bool he.out.symm, ((g1.trans g2).trans g3).trans g4⟩
      · have hz : Hid (sureF (cnt l) c = false) := hide (sureF_none (fun h => hm ((HM.out c).2 h)))
        clear hm
        go_wp2
        go_ret
        exact ⟨ret_bool (by rw [he.out, hz.out]), (g1.trans g2).trans g3⟩
  · have he : Hid (sureL l c = false) := by show sureL l c = false; simp [sureL, hv]
    clear hv
    go_wp2
    go_ret
    exact ⟨ret_bool he.out.symm, g1⟩
end Go.Proofs.Ytibhfiamibccnac
