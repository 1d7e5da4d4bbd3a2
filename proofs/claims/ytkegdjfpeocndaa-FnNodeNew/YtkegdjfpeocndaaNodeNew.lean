/-
  FnNodeNew returns true at every row of bytes and leaves its argument as it was: what the statement says; no condition.
-/
import Derived.Test.YtkegdjfpeocndaaNod12
import Derived.Test.YtkegdjfpeocndaaNod5
import Derived.Test.YtkegdjfpeocndaaNumsA
import Derived.Test.YtkegdjfpeocndaaBytes
import Derived.Test.YtkegdjfpeocndaaDrawA
import Derived.Test.YtkegdjfpeocndaaOpen
import Derived.Lib.SmallJoins
import Derived.JoinedOf
import Derived.JoinedAt
import Derived.RowKit3
namespace Go.Proofs.Ytkegdjfpeocndaa.FnNodeNew
set_option linter.unusedVariables false
open Go.ChangeShapes Go.WideShapes Go.ChangeAt Go.RowKit Go.Joins
attribute [local simp] far_const

theorem draw_any (a : Option Addr) (n cap : Nat) (w : World) (hb : Byt w a w.heap.size n) (hc : n ≤ cap) (hn : n ≤ 1048576) :
    Calls Try.prog 29 #[.slice a n cap] w fun r w' => ∃ x : Int, r = .returned (.int .i64 x) ∧ 0 ≤ x ∧ x < 6 ∧ Grew w w' := by
  go_enter Try.func29, Try.ntmps29
  go_wp2_with fail
  refine (open_any a n cap _ hb hc hn).mono ?_
  rintro r w1 ⟨rfl, r1, g1⟩
  have hlt := r1.lt
  go_wp2_with fail
  refine (pick_any w.heap.size 0 6 _ r1 (by omega) (by omega)).mono ?_
  rintro r w2 ⟨x, rfl, x0, x1, x2, r2, g2⟩
  have x3 := x1 (by omega)
  clear x1 x2
  go_wp2
  go_ret
  exact ⟨x, rfl, x0, x3, g2.from g1 (Nat.le_refl _)⟩
theorem ok_new {M : Int} (h : inB M 1 4 = true) : nodeB ⟨M, 0, 0, []⟩ = true := by
  unfold nodeB
  simp only [h, Bool.true_and]
  rfl
theorem book_new {M : Int} (h : inB M 1 4 = true) : bookN ⟨M, 0, 0, []⟩ = [9, 9, 9] := by
  unfold bookN
  rw [if_pos (ok_new h)]
  show bof (finalL []) = _
  rw [final_none]
  rfl

set_option maxHeartbeats 4000000 in
theorem walk (a : Option Addr) (n cap : Nat) (w : World) (hb : Byt w a w.heap.size n) (hc : n ≤ cap) :
    Calls Try.prog 9 #[.slice a n cap] w fun e w' => e = .returned (.bool true) ∧ Grew w w' := by
  by_cases hn : n ≤ 1048576
  · have hn1 : decide ((1048576 : Int) < (n : Int)) = false := by simp; omega
    go_enter Try.func9, Try.ntmps9
    go_wp2_with fail
    refine (draw_any a n cap _ hb hc hn).mono ?_
    rintro r w1 ⟨id, rfl, x0, x1, g1⟩
    have G1 := hide g1
    clear g1 hb
    have HX := fun W => hide (specNodeNew id W)
    have HY := fun W => hide (implNodeNew id W)
    cases hin : inB id 1 4 with
    | false =>
      have hM : newN id = ⟨0, 0, 0, []⟩ := by unfold newN; rw [hin]; rfl
      simp only [hin, hM] at HX HY
      have HL := hide (fun (c : Option Addr) (W : World) => lwNode_same ⟨0, 0, 0, []⟩ (.agg #[.int .i64 0, .int .i64 0, .int .i64 0, .slice none 0 0]) (.agg #[.int .i64 0, .int .i64 0, .int .i64 0, .slice c 0 0]) W ⟨_, rfl, none, 0, rfl, Nat.le_refl _, .inl rfl⟩ ⟨_, rfl, c, 0, rfl, Nat.le_refl _, .inl rfl⟩ (fun x hx => by cases hx) (by simp))
      go_wp2_with fail
      refine (unhide (HX _)).mono ?_
      rintro r w2 ⟨sa, rfl, g2⟩
      have S2 := hide g2
      clear g2
      have A2 := hide (NdAt.box w2 0 0 0 (.slice sa 0 0) 52)
      go_wp2_with fail
      refine (unhide (HY _)).mono ?_
      rintro r w3 ⟨rfl, g3⟩
      have S3 := hide (((Grew.refl w2).alloc (.cells #[.int .i64 0, .int .i64 0, .int .i64 0, .slice sa 0 0] 52)).trans g3)
      have A3 := (unhide A2).grew g3
      have a0 := ((Grew.refl w3).alloc (.cells #[.int .i64 0, .int .i64 0, .int .i64 0, .slice none 0 0] 52)).keep A3.1
      have a1 := ((Grew.refl w3).alloc (.cells #[.int .i64 0, .int .i64 0, .int .i64 0, .slice none 0 0] 52)).keep A3.2.1
      have a2 := ((Grew.refl w3).alloc (.cells #[.int .i64 0, .int .i64 0, .int .i64 0, .slice none 0 0] 52)).keep A3.2.2.1
      have a3 := ((Grew.refl w3).alloc (.cells #[.int .i64 0, .int .i64 0, .int .i64 0, .slice none 0 0] 52)).keep A3.2.2.2
      have B3 := hide (NdAt.box w3 0 0 0 (.slice none 0 0) 52)
      have A4 := hide (And.intro a0 (And.intro a1 (And.intro a2 a3)))
      clear g3 A3
      go_wp2_with fail
      refine (unhide HL _ _).mono ?_
      rintro r w4 ⟨rfl, g4⟩
      have S4 := hide (((Grew.refl w3).alloc (.cells #[.int .i64 0, .int .i64 0, .int .i64 0, .slice none 0 0] 52)).trans g4)
      obtain ⟨b0, b1, b2, b3⟩ := (unhide B3).grew g4
      have q0 := g4.keep (unhide A4).1
      have q1 := g4.keep (unhide A4).2.1
      have q2 := g4.keep (unhide A4).2.2.1
      have q3 := g4.keep (unhide A4).2.2.2
      clear g4 a0 a1 a2 a3
      go_wp2_with fail
      refine (unhide HL _ _).mono ?_
      rintro r w5 ⟨rfl, g5⟩
      go_wp2
      go_ret
      exact ⟨by first | rfl | simp, ((((unhide G1).trans (unhide S2)).trans (unhide S3)).trans (unhide S4)).trans g5⟩
    | true =>
      have hM : newN id = ⟨id, 0, 0, []⟩ := by unfold newN; rw [hin]; rfl
      simp only [hin, hM] at HX HY
      have HL := hide (fun (c : Option Addr) (W : World) => lwNode_same ⟨id, 0, 0, []⟩ (.agg #[.int .i64 id, .int .i64 0, .int .i64 0, .slice none 0 0]) (.agg #[.int .i64 id, .int .i64 0, .int .i64 0, .slice c 0 0]) W ⟨_, rfl, none, 0, rfl, Nat.le_refl _, .inl rfl⟩ ⟨_, rfl, c, 0, rfl, Nat.le_refl _, .inl rfl⟩ (fun x hx => by cases hx) (by simp))
      have hok := ok_new hin
      have HP := hide (fun (W : World) => implNodePropose_no ⟨id, 0, 0, []⟩ 1 2 1 (.agg #[.int .i64 id, .int .i64 0, .int .i64 0, .slice none 0 0]) W ⟨_, rfl, none, 0, rfl, Nat.le_refl _, .inl rfl⟩ (fun x hx => by cases hx) (by simp) (by decide) hok (by unfold proB; simp))
      have HK := hide (fun (W : World) => implNodeOk ⟨id, 0, 0, []⟩ (.agg #[.int .i64 id, .int .i64 0, .int .i64 0, .slice none 0 0]) W ⟨_, rfl, none, 0, rfl, Nat.le_refl _, .inl rfl⟩ (fun x hx => by cases hx) (by simp))
      have HB := hide (fun (W : World) => implNodeBook ⟨id, 0, 0, []⟩ (.agg #[.int .i64 id, .int .i64 0, .int .i64 0, .slice none 0 0]) W ⟨_, rfl, none, 0, rfl, Nat.le_refl _, .inl rfl⟩ (fun x hx => by cases hx) (by simp))
      simp only [hok] at HK
      simp only [book_new hin] at HB
      go_wp2_with fail
      refine (unhide (HX _)).mono ?_
      rintro r w2 ⟨sa, rfl, g2⟩
      have S2 := hide g2
      clear g2
      have A2 := hide (NdAt.box w2 id 0 0 (.slice sa 0 0) 52)
      go_wp2_with fail
      refine (unhide (HY _)).mono ?_
      rintro r w3 ⟨rfl, g3⟩
      have S3 := hide (((Grew.refl w2).alloc (.cells #[.int .i64 id, .int .i64 0, .int .i64 0, .slice sa 0 0] 52)).trans g3)
      have A3 := (unhide A2).grew g3
      have a0 := ((Grew.refl w3).alloc (.cells #[.int .i64 id, .int .i64 0, .int .i64 0, .slice none 0 0] 52)).keep A3.1
      have a1 := ((Grew.refl w3).alloc (.cells #[.int .i64 id, .int .i64 0, .int .i64 0, .slice none 0 0] 52)).keep A3.2.1
      have a2 := ((Grew.refl w3).alloc (.cells #[.int .i64 id, .int .i64 0, .int .i64 0, .slice none 0 0] 52)).keep A3.2.2.1
      have a3 := ((Grew.refl w3).alloc (.cells #[.int .i64 id, .int .i64 0, .int .i64 0, .slice none 0 0] 52)).keep A3.2.2.2
      have B3 := hide (NdAt.box w3 id 0 0 (.slice none 0 0) 52)
      clear g3 A3
      go_wp2_with fail
      refine (unhide HL _ _).mono ?_
      rintro r w4 ⟨rfl, g4⟩
      have S4 := hide (((Grew.refl w3).alloc (.cells #[.int .i64 id, .int .i64 0, .int .i64 0, .slice none 0 0] 52)).trans g4)
      have B4 := hide ((unhide B3).grew g4)
      obtain ⟨b0, b1, b2, b3⟩ := unhide B4
      clear g4 a0 a1 a2 a3
      go_wp2_with fail
      refine (unhide HP _).mono ?_
      rintro r w5 ⟨sv5, hh5, rfl, ha5, g5⟩
      obtain ⟨sa5, sc5, rfl⟩ := ha5.sl
      have S5 := hide (g5.trans (((Grew.refl w5).alloc (.cells #[.int .i64 id, .int .i64 0, .int .i64 0, .slice sa5 0 sc5] 52)).alloc (.cells #[.int .i64 0, .slice none 0 0] 45)))
      obtain ⟨b0, b1, b2, b3⟩ := (unhide B4).grew (unhide S5)
      clear ha5 g5
      go_wp2_with fail
      refine (unhide HK _).mono ?_
      rintro r w6 ⟨rfl, g6⟩
      have B6 := hide (((unhide B4).grew (unhide S5)).grew g6)
      obtain ⟨b0, b1, b2, b3⟩ := unhide B6
      have S6 := hide ((unhide S5).trans g6)
      clear g6
      go_wp2_with fail
      refine (unhide HB _).mono ?_
      rintro r w7 ⟨u7, rfl, n7, g7⟩
      have N7 := hide n7.num
      have S7 := hide ((unhide S6).trans g7)
      clear n7 g7
      go_wp2_with fail
      refine (implBookNew _).mono ?_
      rintro r w8 ⟨u8, rfl, n8, g8⟩
      have N8 := hide n8.num
      have S8 := hide ((unhide S7).trans g8)
      have N78 := hide ((unhide N7).grew g8)
      clear n8 g8
      go_wp2_with fail
      refine (lwInts_v _ (unhide N78) (unhide N8) (by simp) (by simp)).mono ?_
      rintro r w9 ⟨rfl, g9⟩
      go_wp2
      go_ret
      exact ⟨by first | rfl | simp, ((((unhide G1).trans (unhide S2)).trans (unhide S3)).trans (unhide S4)).trans ((unhide S8).trans g9)⟩
  · have hn1 : decide ((1048576 : Int) < (n : Int)) = true := by simp; omega
    clear hn
    go_enter Try.func9, Try.ntmps9
    go_wp2
    go_ret
    exact ⟨rfl, Grew.refl _⟩

set_option maxRecDepth 100000 in
theorem lifted (os : Os) (started : os.Started) (H : Type) (enc : TypeId × Value → H) :
    ReturnsInHanded {} Try.checked os 9 .any (Rows.fnNodeNewSpec.pre6 enc Try.prog Try.f9 Rows.fnNodeNewRow.domain false) (Rows.fnNodeNewSpec.post enc Try.prog Try.f9 false true false false) := by
  refine returnsInHanded_of_change (C := Try.checked) own started (by kernel_rfl) Try.func9
    (ChangeSpec.witness6 (enc := enc) (C := Try.checked) false ⟨#[], #[.slice none 0 0], []⟩ 8 (by kernel_rfl) (by kernel_rfl) (by kernel_rfl) (by kernel_rfl)) ?_
  intro W base args ds gs before hval0 hW hcnd _
  have hval : ∀ (j : Nat) t v, Try.f9.params[j]? = some t → args[j]? = some v → Value.okWide Try.prog W .any base t v := hval0
  have hW' := hW
  obtain ⟨p, q, hA0, hV, rfl, hfz, hnd⟩ := hW
  have hA : DataW.TrodAll enc Try.prog W 0 (fun _ => true) true Try.f9.params.toList args.toList ds p := hA0
  rw [Try.params9] at hA hval
  obtain ⟨v0, vs0, d0, ds0, p0, q0, hargs, rfl, rfl, h0, r0⟩ := trodAll_cons hA
  obtain ⟨rfl, rfl, rfl⟩ := trodAll_nil r0
  obtain rfl : args = #[v0] := by cases args; simp_all
  obtain ⟨rfl, rfl⟩ := trodVars_none hV
  have k0 := h0
  have lt0 : ∀ x ∈ p0, x.block < W.heap.size := by obtain ⟨m, hm⟩ := k0; exact DataW.trod_lt m _ _ _ hm
  obtain ⟨a0, len0, cap0, rfl⟩ := okWide_slice Try.underlying22 (hval 0 22 v0 rfl rfl)
  obtain ⟨fuel0, hf0⟩ := h0
  obtain ⟨hb0, hc0⟩ := open_bytes hf0
  clear hA0 hval0
  refine (walk a0 len0 cap0 W hb0 hc0).mono fun e W' ⟨he, bel⟩ => ?_
  subst he
  exact ⟨_, rfl, _, _, _, [], _, [], hW', trodAll_mk1 (shut_bool Try.underlying4 _), (trodAll_cons_mk (Below.trod laidOut (by kernel_rfl) (of_decide_eq_true (by kernel_rfl)) k0 bel.below lt0) trodAll_mk0), rfl, bel.below.frame _, fun h => by cases h⟩

theorem over : Rows.fnNodeNewRow.holds Try.pinned (OpenSpec.ofChange Rows.fnNodeNewSpec) :=
  OpenClaim.holds_of_wide 9 Try.f9 rfl rfl rfl rfl rfl rfl rfl ⟨rfl, rfl, rfl, rfl, rfl⟩ rfl rfl rfl rfl rfl (by kernel_rfl) Try.func9 (by kernel_rfl)
    (of_decide_eq_true (by kernel_rfl)) (by unfold Func.isWrapper; first | (rw [if_pos (by decide +kernel)]; kernel_rfl) | (rw [if_neg (by decide +kernel)]; exact ⟨rfl, rfl⟩))
    (fun os started H enc _ => lifted os started H enc)
end Go.Proofs.Ytkegdjfpeocndaa.FnNodeNew
namespace Go.Proofs.Ytkegdjfpeocndaa
theorem fnNodeNew_holds : Rows.FnNodeNewSaid := FnNodeNew.over
#print axioms fnNodeNew_holds
end Go.Proofs.Ytkegdjfpeocndaa
