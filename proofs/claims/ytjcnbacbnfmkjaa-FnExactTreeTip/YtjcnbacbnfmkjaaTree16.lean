/-
  What TreeLong, TreeTip and TreeFinal answer.
-/
import Derived.Test.YtjcnbacbnfmkjaaTree6
import Derived.Test.YtjcnbacbnfmkjaaTreeS
import Derived.Test.YtjcnbacbnfmkjaaTree15
namespace Go.Proofs.Ytjcnbacbnfmkjaa
set_option linter.unusedVariables false
open Go.RowKit
attribute [local simp] far_const

/-- All sure chains. -/
def allS (l : List Vt) : List (List It) := (firstsL l).filter (sureF (cnt l))
def tipL (l : List Vt) : List It := if votesB l = true then longest (allS l) else []
def longL (l : List Vt) : Int := if votesB l = true then ((longest (allS l)).length : Nat) else -1
def finalL (l : List Vt) : List It := if votesB l = true then (mostF (allS l)).1.take (mostF (allS l)).2 else []
/-- What a call answers: nothing at all, or a new row of items. -/
def AnsI (w : World) (base : Nat) (v : Value) (l : List It) : Prop := (v = .slice none 0 0 ∧ l = []) ∨ FreshI w base v l
theorem AnsI.grew {w w' : World} {base : Nat} {v : Value} {l : List It} (h : AnsI w base v l) (g : Grew w w') : AnsI w' base v l := h.imp id (fun h => h.grew g)
theorem AnsI.shape {w : World} {base : Nat} {v : Value} {l : List It} (h : AnsI w base v l) : ∃ a cap, v = .slice a l.length cap ∧ l.length ≤ cap ∧ Its w a l ∧ (∀ x, a = some x → base ≤ x.block) := by
  rcases h with ⟨rfl, rfl⟩ | ⟨g, rfl, hb, hi, _⟩
  · exact ⟨none, 0, rfl, Nat.le_refl _, .inl rfl, fun x hx => by cases hx⟩
  · exact ⟨_, _, rfl, Nat.le_refl _, hi, fun x hx => by cases hx; exact hb⟩
theorem Short.firsts {l : List Vt} (h : Short l) : ∀ c ∈ firstsL l, c.length ≤ 1048576 := by
  intro c hc
  rcases (firstsL_mem l c).1 hc with rfl | ⟨x, hx, rfl⟩
  · simp
  · exact h x hx
theorem allS_sub {l : List Vt} {c : List It} (h : c ∈ allS l) : c ∈ firstsL l := (List.mem_filter.1 h).1
theorem longest_firsts (l : List Vt) : longest (allS l) ∈ firstsL l := by
  rcases longest_mem (allS l) with h | h
  · rw [h]; exact (firstsL_mem _ _).2 (.inl rfl)
  · exact allS_sub h
theorem mostF_firsts (l : List Vt) : (mostF (allS l)).1 ∈ firstsL l := by
  rcases (mostF_mem (allS l)).2 with h | h
  · rw [h]; exact (firstsL_mem _ _).2 (.inl rfl)
  · exact allS_sub h

set_option maxRecDepth 20000 in
set_option maxHeartbeats 4000000 in
theorem implTreeTip (a : Option Addr) (cap : Nat) (l : List Vt) (w : World) (hl : Vts w a l) (hs : Short l) (hn : l.length ≤ 1048576) :
    Calls Try.prog 13 #[.slice a l.length cap] w fun r w' => ∃ v, r = .returned v ∧ AnsI w' w.heap.size v (tipL l) ∧ Grew w w' := by
  have hT := hide (treeOf_any a cap l w hl hs hn)
  unfold ptr at hT
  go_enter Try.func13, Try.ntmps13
  go_wp2_with fail
  refine hT.out.mono ?_
  clear hT
  rintro r w1 ⟨(⟨hv, tb, base, rfl, ⟨M, pos, kv, kd, cv, hF, hM⟩, hb1, hb2⟩ | ⟨hv, rfl⟩), g1⟩
  · obtain ⟨r, hr⟩ := firstsL_head l
    have he : Hid (tipL l = longest (allS l)) := by show tipL l = _; simp [tipL, hv]
    have hX := hide (tip_any hF hr (by have := firstsL_len l; omega) hs.firsts)
    unfold ptr at hX
    have HF := hide hF
    clear hF hM hb1 hb2 hr hv
    go_wp2_with fail
    refine hX.out.mono ?_
    clear hX
    rintro rr w2 ⟨rfl, g2⟩
    have hmm := (unhide HF).mem _ (longest_firsts l)
    obtain ⟨_, _, c5, _⟩ := brO_cells (((unhide HF).grew g2).blk _ hmm)
    have hY := hide (beginning_any ((unhide HF).grew g2) _ hmm (hs.firsts _ (longest_firsts l)) (longest (allS l)).length (Nat.le_refl _))
    rw [List.take_length] at hY
    unfold ptr at hY
    unfold allS at c5 hY
    clear hmm
    go_wp2_with fail
    refine hY.out.mono ?_
    clear hY
    rintro rr w3 ⟨v, rfl, hfr, g3⟩
    have HR := hide hfr
    clear hfr
    go_wp2
    go_ret
    refine ⟨v, rfl, .inr ?_, (g1.trans g2).trans g3⟩
    rw [he.out]
    obtain ⟨g, h1, h2, h3⟩ := HR.out
    exact ⟨g, h1, Nat.le_trans (g1.trans g2).size h2, h3⟩
  · have he : Hid (tipL l = []) := by show tipL l = _; simp [tipL, hv]
    clear hv
    go_wp2
    go_ret
    exact ⟨_, rfl, .inl ⟨rfl, he.out⟩, g1⟩

set_option maxRecDepth 20000 in
set_option maxHeartbeats 4000000 in
theorem implTreeFinal (a : Option Addr) (cap : Nat) (l : List Vt) (w : World) (hl : Vts w a l) (hs : Short l) (hn : l.length ≤ 1048576) :
    Calls Try.prog 25 #[.slice a l.length cap] w fun r w' => ∃ v, r = .returned v ∧ AnsI w' w.heap.size v (finalL l) ∧ Grew w w' := by
  have hT := hide (treeOf_any a cap l w hl hs hn)
  unfold ptr at hT
  go_enter Try.func25, Try.ntmps25
  go_wp2_with fail
  refine hT.out.mono ?_
  clear hT
  rintro r w1 ⟨(⟨hv, tb, base, rfl, ⟨M, pos, kv, kd, cv, hF, hM⟩, hb1, hb2⟩ | ⟨hv, rfl⟩), g1⟩
  · obtain ⟨r, hr⟩ := firstsL_head l
    have he : Hid (finalL l = (mostF (allS l)).1.take (mostF (allS l)).2) := by show finalL l = _; simp [finalL, hv]
    have hX := hide (mostFinal_any hF hr (by have := firstsL_len l; omega) hs.firsts)
    unfold ptr at hX
    have HF := hide hF
    clear hF hM hb1 hb2 hr hv
    go_wp2_with fail
    refine hX.out.mono ?_
    clear hX
    rintro rr w2 ⟨rfl, g2⟩
    have hmm := (unhide HF).mem _ (mostF_firsts l)
    have hY := hide (beginning_any ((unhide HF).grew g2) _ hmm (hs.firsts _ (mostF_firsts l)) (mostF (allS l)).2 (mostF_mem _).1)
    unfold ptr at hY
    unfold allS at hY
    clear hmm
    go_wp2_with fail
    refine hY.out.mono ?_
    clear hY
    rintro rr w3 ⟨v, rfl, hfr, g3⟩
    have HR := hide hfr
    clear hfr
    go_wp2
    go_ret
    refine ⟨v, rfl, .inr ?_, (g1.trans g2).trans g3⟩
    rw [he.out]
    obtain ⟨g, h1, h2, h3⟩ := HR.out
    exact ⟨g, h1, Nat.le_trans (g1.trans g2).size h2, h3⟩
  · have he : Hid (finalL l = []) := by show finalL l = _; simp [finalL, hv]
    clear hv
    go_wp2
    go_ret
    exact ⟨_, rfl, .inl ⟨rfl, he.out⟩, g1⟩
end Go.Proofs.Ytjcnbacbnfmkjaa
