/-
  FnExactTreeLong returns true at every row of votes and leaves its argument as it was: what the statement says; no condition.
-/
import Derived.Test.YtibhfiamibccnacVOpen
import Derived.Test.YtibhfiamibccnacTForms
import Derived.Test.YtibhfiamibccnacTSpec6
import Derived.Lib.SmallJoins
import Derived.JoinedOf
import Derived.JoinedAt
import Derived.RowKit3
namespace Go.Proofs.Ytibhfiamibccnac.FnExactTreeLong
set_option linter.unusedVariables false
open Go.ChangeShapes Go.WideShapes Go.ChangeAt Go.RowKit Go.Joins

set_option maxHeartbeats 2000000 in
theorem walk (a : Option Addr) (cap : Nat) (l : List Vt) (w : World) (hl : Vts w a l) (hn : l.length ≤ maxLen) (hm : ∀ x ∈ l, x.c.length ≤ maxLen) :
    Calls Try.prog 6 #[.slice a l.length cap] w fun e w' => e = .returned (.bool true) ∧ Grew w w' := by
  have hz := szVoteS_any a cap l 1048576 w hl (by omega) (by omega) (by unfold maxLen at hn; omega) (fun x hx => by have := hm x hx; unfold maxLen at this; omega)
  have HZ := hide hz
  have HL := hide hl
  clear hz hm hl hn
  by_cases ht : (1048576 : Int) < totV l
  · have hx := szR_neg ht
    go_enter Try.func6, Try.ntmps6
    go_wp2_with fail
    refine (unhide HZ).mono ?_
    rw [hx]
    rintro e w0 ⟨rfl, g0⟩
    clear hx
    go_wp2
    go_ret
    exact ⟨rfl, g0⟩
  · have ht' : totV l ≤ 1048576 := by omega
    have hnn : ¬ szR 1048576 (totV l) < 0 := by rw [szR_pos ht]; omega
    have hs := hide (totV_short ht')
    have hn := totV_len ht'
    go_enter Try.func6, Try.ntmps6
    go_wp2_with fail
    refine (unhide HZ).mono ?_
    rintro e w0 ⟨rfl, g0⟩
    go_wp2_with fail
    refine (toVoteS_any a cap l _ ((unhide HL).grew g0) (unhide hs) hn).mono ?_
    rintro e w1 ⟨v1, hs1, rfl, o1, g1⟩
    have G1 := hide (g0.trans g1)
    clear g0 g1
    go_wp2_with fail
    obtain ⟨gv, cv, rfl, hcv, _, _⟩ := o1.shape
    have hroom : Room w1 (some ⟨gv, 0, none⟩) l := fun b off e i hi u n cp hc => by
      simp only [Option.some.injEq, Addr.mk.injEq, and_true] at e
      obtain ⟨rfl, rfl⟩ := e
      rw [Nat.zero_add] at hc
      exact o1.cap hi hc
    refine (specTreeLong _ cv l w1 o1.vts hcv hroom (unhide hs) hn).mono ?_
    rintro e w2 ⟨rfl, g2⟩
    have G2 := hide ((unhide G1).trans g2)
    clear g2 G1 o1 hroom
    go_wp2_with fail
    refine (toVoteS_any a cap l _ ((unhide HL).grew (unhide G2)) (unhide hs) hn).mono ?_
    rintro e w3 ⟨v3, hs3, rfl, o3, g3⟩
    have O3 := hide o3
    have G3 := hide ((unhide G2).trans g3)
    clear o3 g3 G2
    go_wp2_with fail
    refine (implTreeLong_v _ (unhide O3).vtsV (unhide hs) hn).mono ?_
    rintro e w4 ⟨rfl, g4⟩
    have O4 := hide ((unhide O3).grew g4)
    have G4 := hide ((unhide G3).trans g4)
    clear g4 G3 O3
    obtain ⟨z, hz⟩ : ∃ z, Hid (z = longL l) := ⟨_, hide rfl⟩
    rw [← hz.out]
    have hne : (z != z) = false := by simp
    go_wp2_with fail
    refine (toVoteS_any a cap l _ ((unhide HL).grew (unhide G4)) (unhide hs) hn).mono ?_
    rintro e w5 ⟨v5, hs5, rfl, o5, g5⟩
    have O5 := hide o5
    have O4 := hide ((unhide O4).grew g5)
    have G5 := hide ((unhide G4).trans g5)
    clear o5 g5
    go_wp2_with fail
    refine (eqVoteS_v _ (unhide O4).vtsV (unhide O5).vtsV (unhide hs) (unhide hs) (by omega) (by omega)).mono ?_
    rintro e w6 ⟨rfl, g6⟩
    rw [(sameVs_iff l l).2 rfl]
    have G6 := hide ((unhide G5).trans g6)
    clear g6
    go_wp2
    go_ret
    exact ⟨rfl, unhide G6⟩

set_option maxRecDepth 100000 in
theorem lifted (os : Os) (started : os.Started) (H : Type) (enc : TypeId × Value → H) :
    ReturnsInHanded {} Try.checked os 6 .any (Rows.fnExactTreeLongSpec.pre6 enc Try.prog Try.f6 Rows.fnExactTreeLongRow.domain false) (Rows.fnExactTreeLongSpec.post enc Try.prog Try.f6 false true false false) := by
  refine returnsInHanded_of_change (C := Try.checked) own started (by kernel_rfl) Try.func6
    (ChangeSpec.witness6 (enc := enc) (C := Try.checked) false ⟨#[], #[.slice none 0 0], []⟩ 8 (by kernel_rfl) (by kernel_rfl) (by kernel_rfl) (by kernel_rfl)) ?_
  intro W base args ds gs before hval0 hW hcnd _
  have hval : ∀ (j : Nat) t v, Try.f6.params[j]? = some t → args[j]? = some v → Value.okWide Try.prog W .any base t v := hval0
  have hW' := hW
  obtain ⟨p, q, hA0, hV, rfl, hfz, hnd⟩ := hW
  have hA : DataW.TrodAll enc Try.prog W 0 (fun _ => true) true Try.f6.params.toList args.toList ds p := hA0
  rw [Try.params6] at hA hval
  obtain ⟨v0, vs0, d0, ds0, p0, q0, hargs, rfl, rfl, h0, r0⟩ := trodAll_cons hA
  obtain ⟨rfl, rfl, rfl⟩ := trodAll_nil r0
  obtain rfl : args = #[v0] := by cases args; simp_all
  obtain ⟨rfl, rfl⟩ := trodVars_none hV
  have k0 := h0
  have lt0 : ∀ x ∈ p0, x.block < W.heap.size := by obtain ⟨m, hm⟩ := k0; exact DataW.trod_lt m _ _ _ hm
  obtain ⟨x0, y0, z0, rfl⟩ := okWide_slice Try.underlying34 (hval 0 34 v0 rfl rfl)
  obtain ⟨fuel0, hf0⟩ := h0
  obtain ⟨a0, cap0, l0, hv0, hl0, hn0, hm0⟩ := open_votes hf0
  simp [Value.cells] at hv0
  obtain ⟨rfl, rfl, rfl⟩ := hv0
  clear hA0 hval0
  refine (walk x0 z0 l0 W hl0 hn0 hm0).mono fun e W' ⟨he, bel⟩ => ?_
  subst he
  exact ⟨_, rfl, _, _, _, [], _, [], hW', trodAll_mk1 (shut_bool Try.underlying4 _), (trodAll_cons_mk (Below.trod laidOut (by kernel_rfl) (of_decide_eq_true (by kernel_rfl)) k0 bel.below lt0) trodAll_mk0), rfl, bel.below.frame _, fun h => by cases h⟩

theorem over : Rows.fnExactTreeLongRow.holds Try.pinned (OpenSpec.ofChange Rows.fnExactTreeLongSpec) :=
  OpenClaim.holds_of_wide 6 Try.f6 rfl rfl rfl rfl rfl rfl rfl ⟨rfl, rfl, rfl, rfl, rfl⟩ rfl rfl rfl rfl rfl (by kernel_rfl) Try.func6 (by kernel_rfl)
    (of_decide_eq_true (by kernel_rfl)) (by unfold Func.isWrapper; first | (rw [if_pos (by decide +kernel)]; kernel_rfl) | (rw [if_neg (by decide +kernel)]; exact ⟨rfl, rfl⟩))
    (fun os started H enc _ => lifted os started H enc)
end Go.Proofs.Ytibhfiamibccnac.FnExactTreeLong
namespace Go.Proofs.Ytibhfiamibccnac
theorem fnExactTreeLong_holds : Rows.FnExactTreeLongSaid := FnExactTreeLong.over
#print axioms fnExactTreeLong_holds
end Go.Proofs.Ytibhfiamibccnac
