/-
  What NodeBook answers, in the program and in the specification.
-/
import Derived.Test.YtkegdjfpeocndaaNod4
import Derived.Test.YtkegdjfpeocndaaBookA
import Derived.Test.YtkegdjfpeocndaaTFormsA
import Derived.Test.YtkegdjfpeocndaaTSpecB
namespace Go.Proofs.Ytkegdjfpeocndaa
set_option linter.unusedVariables false
open Go.RowKit
attribute [local simp] far_const

/-- What NodeBook answers. -/
def bookN (x : Nd) : List Int := if nodeB x = true then bof (finalL x.s) else []
theorem nodeB_votes {x : Nd} (h : nodeB x = true) : votesB x.s = true := by
  simp only [nodeB, Bool.and_eq_true] at h
  exact h.2.2.2.2.1
theorem bookN_len (x : Nd) : (bookN x).length ≤ 3 := by
  unfold bookN; split
  · rcases bof_three (finalL x.s) with h | h
    · rw [h]; simp
    · obtain ⟨_, _, _, e, _⟩ := bokB_three h; rw [e]; simp
  · simp

set_option maxHeartbeats 1000000 in
theorem implNodeBook (x : Nd) (v : Value) (w : World) (h : NdV w v x) (hs : Short x.s) (hn : x.s.length ≤ 1048576) :
    Calls Try.prog 36 #[v] w fun r w' => ∃ u, r = .returned u ∧ AnsN w' w.heap.size u (bookN x) ∧ Grew w w' := by
  obtain ⟨sv, rfl, a, cap, rfl, hcap, hv⟩ := h
  have hX := fun W => hide (fun (g : Grew w W) => implNodeOk x _ W ⟨_, rfl, a, cap, rfl, hcap, hv.grew g⟩ hs hn)
  have HV := hide hv
  clear hv
  cases hb : nodeB x with
  | false =>
    have hx : Hid (bookN x = []) := by show bookN x = []; unfold bookN; rw [if_neg (by rw [hb]; decide)]
    rw [hb] at hX
    go_enter Try.func36, Try.ntmps36
    go_wp2_with fail
    refine (unhide (hX _) ((Grew.refl _).alloc _)).mono ?_
    rintro r w1 ⟨rfl, g1⟩
    go_wp2
    go_ret
    exact ⟨_, rfl, .inl ⟨rfl, hx.out⟩, ((Grew.refl _).alloc _).trans g1⟩
  | true =>
    have hx : Hid (bookN x = bof (finalL x.s)) := by show bookN x = _; unfold bookN; rw [if_pos hb]
    rw [hb] at hX
    have hT := fun W => hide (fun (g : Grew w W) => implTreeFinal_v (v := .slice a x.s.length cap) W ⟨a, cap, rfl, hcap, (unhide HV).grew g⟩ hs hn)
    have hfl := finalL_short hs
    go_enter Try.func36, Try.ntmps36
    go_wp2_with fail
    refine (unhide (hX _) ((Grew.refl _).alloc _)).mono ?_
    rintro r w1 ⟨rfl, g1⟩
    have p3 := g1.keep (p := ⟨w.heap.size, 3, none⟩) (v := .slice a x.s.length cap) (by simp [go_sem])
    have G1 := hide (((Grew.refl w).alloc _).trans g1)
    clear g1 hX
    go_wp2_with fail
    refine (unhide (hT _) (unhide G1)).mono ?_
    rintro r w2 ⟨u, rfl, hu, g2⟩
    obtain ⟨fa, fc, rfl, _, fi, _⟩ := hu.shape
    have FI := hide fi
    have G2 := hide ((unhide G1).trans g2)
    clear hu fi g2 hT
    go_wp2_with fail
    refine (implBookOf fa fc (finalL x.s) w2 (unhide FI) hfl).mono ?_
    rintro r w3 ⟨u, rfl, hu, g3⟩
    have HU := hide (hu.low (unhide G2).size)
    have G3 := hide ((unhide G2).trans g3)
    clear hu g3
    go_wp2
    go_ret
    exact ⟨_, rfl, by rw [hx.out]; exact unhide HU, unhide G3⟩

theorem nd2 {w : World} {b i e o b' i' e' o'} {sv sv' : Value} (h : NdAt w b i e o sv) (k : NdAt w b' i' e' o' sv') :
    w.cell? ⟨b, 0, none⟩ = some (.int .i64 i) ∧ w.cell? ⟨b, 1, none⟩ = some (.int .i64 e) ∧ w.cell? ⟨b, 2, none⟩ = some (.int .i64 o) ∧ w.cell? ⟨b, 3, none⟩ = some sv ∧
    w.cell? ⟨b', 0, none⟩ = some (.int .i64 i') ∧ w.cell? ⟨b', 1, none⟩ = some (.int .i64 e') ∧ w.cell? ⟨b', 2, none⟩ = some (.int .i64 o') ∧ w.cell? ⟨b', 3, none⟩ = some sv' :=
  ⟨h.1, h.2.1, h.2.2.1, h.2.2.2, k.1, k.2.1, k.2.2.1, k.2.2.2⟩
end Go.Proofs.Ytkegdjfpeocndaa
