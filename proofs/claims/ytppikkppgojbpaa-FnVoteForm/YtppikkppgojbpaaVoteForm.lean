/-
  FnVoteForm returns true at every two rows of bytes and leaves its arguments as they were: what the statement says; no condition.
-/
import Derived.Test.YtppikkppgojbpaaVDraw4
import Derived.Test.YtppikkppgojbpaaVShare
import Derived.Test.YtppikkppgojbpaaNumsV
import Derived.Test.YtppikkppgojbpaaVote3
import Derived.Test.YtppikkppgojbpaaOpen
import Derived.Lib.SmallJoins
import Derived.JoinedOf
import Derived.JoinedAt
import Derived.RowKit3
import Derived.Deep.RegionHeldLaw
import Derived.Deep.DeepFit
namespace Go.Proofs.Ytppikkppgojbpaa.FnVoteForm
set_option linter.unusedVariables false
open Go.ChangeShapes Go.WideShapes Go.ChangeAt Go.RowKit Go.Joins
attribute [local simp] far_const

set_option maxRecDepth 20000 in
set_option maxHeartbeats 16000000 in
theorem walk (a : Option Addr) (n cap : Nat) (a2 : Option Addr) (n2 cap2 : Nat) (w : World) (hb : Byt w a w.heap.size n) (hc : n ≤ cap) (hb2 : Byt w a2 w.heap.size n2) (hc2 : n2 ≤ cap2) :
    Calls Try.prog 4 #[.slice a n cap, .slice a2 n2 cap2] w fun e w' => e = .returned (.bool true) ∧ Grew w w' := by
  by_cases hn : n ≤ 1048576
  · have hn1 : decide ((1048576 : Int) < (n : Int)) = false := by simp; omega
    by_cases hn2 : n2 ≤ 1048576
    · have hn3 : decide ((1048576 : Int) < (n2 : Int)) = false := by simp; omega
      go_enter Try.func4, Try.ntmps4
      go_wp2_with fail
      refine (drawVoteOk_any a n cap _ hb hc hn).mono ?_
      rintro e w1 ⟨x, ax, cx, rfl, ix, hx7, gg⟩
      have I1 := hide ix
      have S0 := hide (show Grew w w1 from gg)
      clear gg ix
      go_wp2_with fail
      refine (implVoteOk x _ _ ⟨_, _, rfl, (unhide I1).grew ((Grew.refl _).alloc _)⟩ (by omega)).mono ?_
      rintro e w2 ⟨rfl, gg⟩
      have x0 := gg.keep (p := ⟨w1.heap.size, 0, none⟩) (v := .int .i64 x.n) (by simp [go_sem])
      have x1 := gg.keep (p := ⟨w1.heap.size, 1, none⟩) (v := .slice ax x.c.length cx) (by simp [go_sem])
      have S1 := hide (show Grew w1 w2 from ((Grew.refl _).alloc _).trans gg)
      clear gg
      go_wp2_with fail
      refine (specVoteOk x _ _ ⟨_, _, rfl, (unhide I1).grew (unhide S1)⟩ (by omega)).mono ?_
      rintro e w3 ⟨rfl, gg⟩
      have S2 := hide (show Grew w2 w3 from gg)
      have x0 := gg.keep x0
      have x1 := gg.keep x1
      clear gg
      cases hv : vokB x with
      | false =>
        go_wp2_with fail
        refine (specVoteOk x _ _ ⟨_, _, rfl, (unhide I1).grew ((unhide S1).trans (unhide S2))⟩ (by omega)).mono ?_
        rw [hv]
        rintro e w4 ⟨rfl, gg⟩
        have S3 := hide (show Grew w3 w4 from gg)
        clear gg
        go_wp2
        go_ret
        exact ⟨rfl, ((((unhide S0).trans (unhide S1)).trans (unhide S2)).trans (unhide S3))⟩
      | true =>
        obtain ⟨h1, h4, hok, hlen⟩ := vok_parts hv
        have hm : (0 : Int) ≤ (n2 : Int) % 4 ∧ (n2 : Int) % 4 < 4 := ⟨Int.emod_nonneg _ (by decide), Int.emod_lt_of_pos _ (by decide)⟩
        have m0 := hm.1
        have m1 := hm.2
        have vx : vokB ⟨1 + (n2 : Int) % 4, x.c⟩ = true := by simp only [vokB, inB, hok, Bool.and_eq_true, decide_eq_true_eq]; exact ⟨⟨⟨by omega, by omega⟩, trivial⟩, hlen⟩
        have vy : vokB ⟨5, x.c⟩ = false := rfl
        have vz : vokB ⟨x.n, []⟩ = false := by simp [vokB]
        have HV := hide (And.intro vx (And.intro vy (And.intro vz hok)))
        clear hm vx vy vz
        have q0 : ∀ o, (w3.alloc o).cell? ⟨w1.heap.size, 0, none⟩ = some (.int .i64 x.n) := fun o => ((Grew.refl _).alloc _).keep x0
        have q1 : ∀ o, (w3.alloc o).cell? ⟨w1.heap.size, 1, none⟩ = some (.slice ax x.c.length cx) := fun o => ((Grew.refl _).alloc _).keep x1
        have r0 : ∀ o o', ((w3.alloc o).alloc o').cell? ⟨w1.heap.size, 0, none⟩ = some (.int .i64 x.n) := fun o o' => ((Grew.refl _).alloc _).keep (q0 o)
        have r1 : ∀ o o', ((w3.alloc o).alloc o').cell? ⟨w1.heap.size, 1, none⟩ = some (.slice ax x.c.length cx) := fun o o' => ((Grew.refl _).alloc _).keep (q1 o)
        have s1 : ∀ o o' o'', (((w3.alloc o).alloc o').alloc o'').cell? ⟨w1.heap.size, 1, none⟩ = some (.slice ax x.c.length cx) := fun o o' o'' => ((Grew.refl _).alloc _).keep (r1 o o')
        go_wp2_with fail
        refine (implChainOk _ _ x.c _ ((unhide I1).grew (((((unhide S1).trans (unhide S2)).alloc (.cells #[.int .i64 (1 + (n2 : Int) % 4), .slice ax x.c.length cx] 28)).alloc (.cells #[.int .i64 5, .slice ax x.c.length cx] 28)).alloc (.cells #[.int .i64 x.n, .slice none 0 0] 28))) (by omega)).mono ?_
        rw [hok]
        rintro e w4 ⟨rfl, gg⟩
        have xx0 := gg.keep (p := ⟨w3.heap.size, 0, none⟩) (v := .int .i64 (1 + (n2 : Int) % 4)) (by simp [go_sem])
        have xx1 := gg.keep (p := ⟨w3.heap.size, 1, none⟩) (v := .slice ax x.c.length cx) (by simp [go_sem])
        have yy0 := gg.keep (p := ⟨w3.heap.size + 1, 0, none⟩) (v := .int .i64 5) (by simp [go_sem])
        have yy1 := gg.keep (p := ⟨w3.heap.size + 1, 1, none⟩) (v := .slice ax x.c.length cx) (by simp [go_sem])
        have zz0 := gg.keep (p := ⟨w3.heap.size + 1 + 1, 0, none⟩) (v := .int .i64 x.n) (by simp [go_sem])
        have zz1 := gg.keep (p := ⟨w3.heap.size + 1 + 1, 1, none⟩) (v := .slice none 0 0) (by simp [go_sem])
        have x1 := ((((Grew.refl _).alloc (.cells #[.int .i64 (1 + (n2 : Int) % 4), .slice ax x.c.length cx] 28)).alloc (.cells #[.int .i64 5, .slice ax x.c.length cx] 28)).alloc (.cells #[.int .i64 x.n, .slice none 0 0] 28) |>.trans gg).keep x1
        have S3 := hide (show Grew w3 w4 from (((Grew.refl _).alloc _).alloc _).alloc _ |>.trans gg)
        clear gg x0 q0 q1 r0 r1 s1
        go_wp2_with fail
        refine (implVoteOk ⟨1 + (n2 : Int) % 4, x.c⟩ _ _ ⟨_, _, rfl, (unhide I1).grew (((unhide S1).trans (unhide S2)).trans (unhide S3))⟩ (by show x.c.length ≤ _; omega)).mono ?_
        rw [(unhide HV).1]
        rintro e w5 ⟨rfl, gg⟩
        have S4 := hide (show Grew w4 w5 from gg)
        have yy0 := gg.keep yy0
        have yy1 := gg.keep yy1
        have zz0 := gg.keep zz0
        have zz1 := gg.keep zz1
        clear gg
        go_wp2_with fail
        refine (implVoteOk ⟨5, x.c⟩ _ _ ⟨_, _, rfl, (unhide I1).grew ((((unhide S1).trans (unhide S2)).trans (unhide S3)).trans (unhide S4))⟩ (by show x.c.length ≤ _; omega)).mono ?_
        rw [(unhide HV).2.1]
        rintro e w6 ⟨rfl, gg⟩
        have S5 := hide (show Grew w5 w6 from gg)
        have zz0 := gg.keep zz0
        have zz1 := gg.keep zz1
        clear gg
        go_wp2_with fail
        refine (implVoteOk ⟨x.n, []⟩ _ _ ⟨none, 0, rfl, .inl rfl⟩ (by simp)).mono ?_
        rw [(unhide HV).2.2.1]
        rintro e w7 ⟨rfl, gg⟩
        have S6 := hide (show Grew w6 w7 from gg)
        clear gg
        go_wp2
        go_ret
        exact ⟨rfl, (((((((unhide S0).trans (unhide S1)).trans (unhide S2)).trans (unhide S3)).trans (unhide S4)).trans (unhide S5)).trans (unhide S6))⟩
    · have hn3 : decide ((1048576 : Int) < (n2 : Int)) = true := by simp; omega
      clear hn2
      go_enter Try.func4, Try.ntmps4
      go_wp2
      go_ret
      exact ⟨rfl, Grew.refl _⟩
  · have hn1 : decide ((1048576 : Int) < (n : Int)) = true := by simp; omega
    clear hn
    go_enter Try.func4, Try.ntmps4
    go_wp2
    go_ret
    exact ⟨rfl, Grew.refl _⟩

set_option maxRecDepth 100000 in
theorem lifted (os : Os) (started : os.Started) (H : Type) (enc : TypeId × Value → H) :
    ReturnsInHanded {} Try.checked os 4 .any (Rows.fnVoteFormSpec.pre6 enc Try.prog Try.f4 Rows.fnVoteFormRow.domain false) (Rows.fnVoteFormSpec.post enc Try.prog Try.f4 false true false false) := by
  refine returnsInHanded_of_change (C := Try.checked) own started (by kernel_rfl) Try.func4
    (ChangeSpec.witness6 (enc := enc) (C := Try.checked) false ⟨#[], #[.slice none 0 0, .slice none 0 0], []⟩ 8 (by kernel_rfl) (by kernel_rfl) (by kernel_rfl) (by kernel_rfl)) ?_
  intro W base args ds gs before hval0 hW hcnd _
  have hval : ∀ (j : Nat) t v, Try.f4.params[j]? = some t → args[j]? = some v → Value.okWide Try.prog W .any base t v := hval0
  have hW' := hW
  obtain ⟨p, q, hA0, hV, rfl, hfz, hnd⟩ := hW
  have hA : DataW.TrodAll enc Try.prog W 0 (fun _ => true) true Try.f4.params.toList args.toList ds p := hA0
  rw [Try.params4] at hA hval
  obtain ⟨v0, vs0, d0, ds0, p0, q0, hargs, rfl, rfl, h0, r0⟩ := trodAll_cons hA
  obtain ⟨v1, vs1, d1, ds1, p1, q1, rfl, rfl, rfl, h1, r1⟩ := trodAll_cons r0
  obtain ⟨rfl, rfl, rfl⟩ := trodAll_nil r1
  obtain rfl : args = #[v0, v1] := by cases args; simp_all
  obtain ⟨rfl, rfl⟩ := trodVars_none hV
  have k0 := h0
  have lt0 : ∀ x ∈ p0, x.block < W.heap.size := by obtain ⟨m, hm⟩ := k0; exact DataW.trod_lt m _ _ _ hm
  obtain ⟨a0, len0, cap0, rfl⟩ := okWide_slice Try.underlying22 (hval 0 22 v0 rfl rfl)
  obtain ⟨fuel0, hf0⟩ := h0
  obtain ⟨hb0, hc0⟩ := open_bytes hf0
  have k1 := h1
  have lt1 : ∀ x ∈ p1, x.block < W.heap.size := by obtain ⟨m, hm⟩ := k1; exact DataW.trod_lt m _ _ _ hm
  obtain ⟨a1, len1, cap1, rfl⟩ := okWide_slice Try.underlying22 (hval 1 22 v1 rfl rfl)
  obtain ⟨fuel1, hf1⟩ := h1
  obtain ⟨hb1, hc1⟩ := open_bytes hf1
  clear hA0 hval0
  refine (walk a0 len0 cap0 a1 len1 cap1 W hb0 hc0 hb1 hc1).mono fun e W' ⟨he, bel⟩ => ?_
  subst he
  exact ⟨_, rfl, _, _, _, [], _, [], hW', trodAll_mk1 (shut_bool Try.underlying4 _), (trodAll_cons_mk (Below.trod laidOut (by kernel_rfl) (of_decide_eq_true (by kernel_rfl)) k0 bel.below lt0) (trodAll_cons_mk (Below.trod laidOut (by kernel_rfl) (of_decide_eq_true (by kernel_rfl)) k1 bel.below lt1) trodAll_mk0)), rfl, bel.below.frame _, fun h => by cases h⟩

theorem over : Rows.fnVoteFormRow.holds Try.pinned (OpenSpec.ofChange Rows.fnVoteFormSpec) :=
  OpenClaim.holds_of_wide 4 Try.f4 rfl rfl rfl rfl rfl rfl rfl ⟨rfl, rfl, rfl, rfl, rfl⟩ rfl rfl rfl rfl rfl (by kernel_rfl) Try.func4 (by kernel_rfl)
    (of_decide_eq_true (by kernel_rfl)) (by unfold Func.isWrapper; first | (rw [if_pos (by decide +kernel)]; kernel_rfl) | (rw [if_neg (by decide +kernel)]; exact ⟨rfl, rfl⟩))
    (fun os started H enc _ => lifted os started H enc)
end Go.Proofs.Ytppikkppgojbpaa.FnVoteForm
namespace Go.Proofs.Ytppikkppgojbpaa
theorem fnVoteForm_holds : Rows.FnVoteFormSaid := FnVoteForm.over
#print axioms fnVoteForm_holds
end Go.Proofs.Ytppikkppgojbpaa
