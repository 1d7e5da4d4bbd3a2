/-
  FnExactNodeNew returns true at every argument and leaves its argument as it was: what the statement says; no condition.
-/
import Derived.Test.YtpimbbfcmgpckaaNod2
import Derived.Test.YtpimbbfcmgpckaaOpen
import Derived.Lib.SmallJoins
import Derived.JoinedOf
import Derived.JoinedAt
import Derived.RowKit3
namespace Go.Proofs.Ytpimbbfcmgpckaa.FnExactNodeNew
set_option linter.unusedVariables false
open Go.ChangeShapes Go.WideShapes Go.ChangeAt Go.RowKit Go.Joins

set_option maxHeartbeats 4000000 in
theorem walk (id : Int) (w : World) :
    Calls Try.prog 5 #[.int .i64 id] w fun e w' => e = .returned (.bool true) ∧ Grew w w' := by
  obtain ⟨m, hm⟩ : ∃ m, (newN id).id = m := ⟨_, rfl⟩
  obtain ⟨b, hb⟩ : ∃ b, inB id 1 4 = b := ⟨_, rfl⟩
  have HS := fun W => hide (specNodeNew id W)
  have HI := fun W => hide (implNodeNew id W)
  rw [hm, hb] at HS HI
  clear hm hb
  have E : ∀ (a c : Option Addr) W, Calls Try.prog 31 #[.agg #[.int .i64 m, .int .i64 0, .int .i64 0, .slice a 0 0], .agg #[.int .i64 m, .int .i64 0, .int .i64 0, .slice c 0 0]] W fun r w' => r = .returned (.bool true) ∧ Grew W w' := fun a c W => by
    have := eqNode_any ⟨m, 0, 0, []⟩ ⟨m, 0, 0, []⟩ (.agg #[.int .i64 m, .int .i64 0, .int .i64 0, .slice a 0 0]) (.agg #[.int .i64 m, .int .i64 0, .int .i64 0, .slice c 0 0]) W ⟨_, rfl, a, 0, rfl, Nat.le_refl _, .inl rfl⟩ ⟨_, rfl, c, 0, rfl, Nat.le_refl _, .inl rfl⟩ (fun x hx => by cases hx) (fun x hx => by cases hx) (by simp) (by simp)
    rw [(sameN_iff _ _).2 rfl] at this
    exact this
  have M : ∀ W, Calls Try.prog 32 #[.agg #[.int .i64 m, .int .i64 0, .int .i64 0, .slice none 0 0], .int .i64 1] W fun r w' => r = .returned (.int .i64 1) ∧ Grew W w' := fun W => by
    refine (markNode_any ⟨m, 0, 0, []⟩ 1 W (base := 0) (hs := []) (.inl ⟨rfl, rfl, rfl⟩) (by simp [cntV, sumC]) (by omega) (by omega)).mono ?_
    rintro r w' ⟨rfl, _, h⟩
    exact ⟨rfl, h.from ((Grew.refl _).alloc _) (fun b hb => by simp [ansB, Value.ownBlock] at hb)⟩
  have D : ∀ W, Calls Try.prog 33 #[.agg #[.int .i64 m, .int .i64 0, .int .i64 0, .slice none 0 0], .int .i64 1] W fun r w' => r = .returned (.int .i64 1) ∧ Grew W w' := fun W => 
    heldNode_any ⟨m, 0, 0, []⟩ 1 W ⟨none, 0, rfl, Nat.le_refl _, .inl rfl⟩ (by simp [cntV, sumC]) (by omega) (by omega)
  have HE := hide E
  have HM := hide M
  have HD := hide D
  clear E M D
  cases b
  all_goals
    go_enter Try.func5, Try.ntmps5
    go_wp2_with fail
    refine (unhide (HS _)).mono ?_
    rintro e w1 ⟨sa, rfl, g1⟩
    go_wp2_with fail
    refine (unhide (HI _)).mono ?_
    rintro e w2 ⟨rfl, g2⟩
    have A2 := (NdAt.box w1 m 0 0 (.slice sa 0 0) _).grew g2
    have a0 := fun o => ((Grew.refl w2).alloc o).keep A2.1
    have a1 := fun o => ((Grew.refl w2).alloc o).keep A2.2.1
    have a2 := fun o => ((Grew.refl w2).alloc o).keep A2.2.2.1
    have a3 := fun o => ((Grew.refl w2).alloc o).keep A2.2.2.2
    have HA2 := hide A2
    clear A2
    go_wp2_with fail
    refine (unhide HE _ _ _).mono ?_
    rintro e w3 ⟨rfl, g3⟩
    have A3 := hide ((unhide HA2).grew (((Grew.refl w2).alloc _).trans g3))
    have B3 := (NdAt.box w2 m 0 0 (.slice none 0 0) _).grew g3
    obtain ⟨b0, b1, b2, b3⟩ := B3
    have B3 := hide ((NdAt.box w2 m 0 0 (.slice none 0 0) _).grew g3)
    clear a0 a1 a2 a3
    go_wp2_with fail
    refine (unhide HM _).mono ?_
    rintro e w4 ⟨rfl, g4⟩
    have b0 := g4.keep b0
    have b1 := g4.keep b1
    have b2 := g4.keep b2
    have b3 := g4.keep b3
    go_wp2_with fail
    refine (unhide HD _).mono ?_
    rintro e w5 ⟨rfl, g5⟩
    go_wp2_with fail
    refine (unhide (HI _)).mono ?_
    rintro e w6 ⟨rfl, g6⟩
    have G36 := hide ((g4.trans g5).trans g6)
    obtain ⟨p0, p1, p2, p3⟩ := (unhide A3).grew (unhide G36)
    have a0 := fun o => ((Grew.refl w6).alloc o).keep p0
    have a1 := fun o => ((Grew.refl w6).alloc o).keep p1
    have a2 := fun o => ((Grew.refl w6).alloc o).keep p2
    have a3 := fun o => ((Grew.refl w6).alloc o).keep p3
    clear p0 p1 p2 p3 b0 b1 b2 b3
    go_wp2_with fail
    refine (unhide HE _ _ _).mono ?_
    rintro e w7 ⟨rfl, g7⟩
    have G37 := hide ((unhide G36).trans (((Grew.refl w6).alloc _).trans g7))
    obtain ⟨b0, b1, b2, b3⟩ := (unhide B3).grew (unhide G37)
    clear a0 a1 a2 a3
    go_wp2_with fail
    refine (unhide HD _).mono ?_
    rintro e w8 ⟨rfl, g8⟩
    have G38 := hide ((unhide G37).trans g8)
    have G03 := hide (((g1.alloc _).trans g2).alloc _ |>.trans g3)
    clear g1 g2 g3 g4 g5 g6 g7 g8 b0 b1 b2 b3
    go_wp2
    go_ret
    exact ⟨rfl, (unhide G03).trans (unhide G38)⟩

set_option maxRecDepth 100000 in
theorem lifted (os : Os) (started : os.Started) (H : Type) (enc : TypeId × Value → H) :
    ReturnsInHanded {} Try.checked os 5 .any (Rows.fnExactNodeNewSpec.pre6 enc Try.prog Try.f5 Rows.fnExactNodeNewRow.domain false) (Rows.fnExactNodeNewSpec.post enc Try.prog Try.f5 false true false false) := by
  refine returnsInHanded_of_change (C := Try.checked) own started (by kernel_rfl) Try.func5
    (ChangeSpec.witness6 (enc := enc) (C := Try.checked) false ⟨#[], #[.int .i64 0], []⟩ 8 (by kernel_rfl) (by kernel_rfl) (by kernel_rfl) (by kernel_rfl)) ?_
  intro W base args ds gs before hval0 hW hcnd _
  have hval : ∀ (j : Nat) t v, Try.f5.params[j]? = some t → args[j]? = some v → Value.okWide Try.prog W .any base t v := hval0
  have hW' := hW
  obtain ⟨p, q, hA0, hV, rfl, hfz, hnd⟩ := hW
  have hA : DataW.TrodAll enc Try.prog W 0 (fun _ => true) true Try.f5.params.toList args.toList ds p := hA0
  rw [Try.params5] at hA hval
  obtain ⟨v0, vs0, d0, ds0, p0, q0, hargs, rfl, rfl, h0, r0⟩ := trodAll_cons hA
  obtain ⟨rfl, rfl, rfl⟩ := trodAll_nil r0
  obtain rfl : args = #[v0] := by cases args; simp_all
  obtain ⟨rfl, rfl⟩ := trodVars_none hV
  have k0 := h0
  have lt0 : ∀ x ∈ p0, x.block < W.heap.size := by obtain ⟨m, hm⟩ := k0; exact DataW.trod_lt m _ _ _ hm
  obtain ⟨s0, rfl, rfl, rfl, hm0⟩ := open_int Try.underlying3 (hval 0 3 v0 rfl rfl) h0
  clear hA0 hval0
  refine (walk s0 W ).mono fun e W' ⟨he, bel⟩ => ?_
  subst he
  exact ⟨_, rfl, _, _, _, [], _, [], hW', trodAll_mk1 (shut_bool Try.underlying4 _), (trodAll_cons_mk (Below.trod laidOut (by kernel_rfl) (of_decide_eq_true (by kernel_rfl)) k0 bel.below lt0) trodAll_mk0), rfl, bel.below.frame _, fun h => by cases h⟩

theorem over : Rows.fnExactNodeNewRow.holds Try.pinned (OpenSpec.ofChange Rows.fnExactNodeNewSpec) :=
  OpenClaim.holds_of_wide 5 Try.f5 rfl rfl rfl rfl rfl rfl rfl ⟨rfl, rfl, rfl, rfl, rfl⟩ rfl rfl rfl rfl rfl (by kernel_rfl) Try.func5 (by kernel_rfl)
    (of_decide_eq_true (by kernel_rfl)) (by unfold Func.isWrapper; first | (rw [if_pos (by decide +kernel)]; kernel_rfl) | (rw [if_neg (by decide +kernel)]; exact ⟨rfl, rfl⟩))
    (fun os started H enc _ => lifted os started H enc)
end Go.Proofs.Ytpimbbfcmgpckaa.FnExactNodeNew
namespace Go.Proofs.Ytpimbbfcmgpckaa
theorem fnExactNodeNew_holds : Rows.FnExactNodeNewSaid := FnExactNodeNew.over
#print axioms fnExactNodeNew_holds
end Go.Proofs.Ytpimbbfcmgpckaa
