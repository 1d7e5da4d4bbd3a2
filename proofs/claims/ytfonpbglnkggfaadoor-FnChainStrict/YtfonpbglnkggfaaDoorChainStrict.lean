/-
  FnChainStrict returns true at every row of bytes and leaves its argument as it was, errors.errorType being as the program's text lays it (the card ties it): what the statement says; no other condition.
-/
import Derived.Test.YtfonpbglnkggfaaDoorDrawS
import Derived.Test.YtfonpbglnkggfaaDoorRead6
import Derived.Test.YtfonpbglnkggfaaDoorDoor
import Derived.Test.YtfonpbglnkggfaaDoorCards
import Derived.Test.YtfonpbglnkggfaaDoorTie
import Derived.SevenTiedAt
import Derived.Test.YtfonpbglnkggfaaDoorSame
namespace Go.Proofs.YtfonpbglnkggfaaDoor.FnChainStrict
set_option linter.unusedVariables false
open Go.ChangeShapes Go.WideShapes Go.ChangeAt Go.RowKit

theorem bt_of (X : ByteArray) : bt X.data.toList = X := by cases X; simp
theorem textB_bt (l : List It) : textB l = bt (textL l) := by
  rw [← textB_data]

set_option maxHeartbeats 2000000 in
theorem walk (a : Option Addr) (n cap : Nat) (w : World) (hL : ErrLaid w) (hb : Byt w a w.heap.size n) (hc : n ≤ cap) :
    Calls Tryd.prog 3 #[.slice a n cap] w fun e w' => e = .returned (.bool true) ∧ Grew w w' := by
  have HLd := hide hL
  clear hL
  by_cases hn : n ≤ 1048576
  · have hn1 : decide ((1048576 : Int) < (n : Int)) = false := by simp; omega
    go_enter Tryd.func3, Tryd.ntmps3
    go_wp2_with fail
    refine (drawChainRead_any a n cap _ hb hc hn).mono ?_
    rintro e w1 ⟨X, rfl, hX, g1⟩
    obtain ⟨T, hT⟩ : ∃ T, T = X.data.toList := ⟨_, rfl⟩
    have hXT : X = bt T := by rw [hT]
    have hTl : T.length ≤ 1048576 := by rw [hT]; show X.data.toList.length ≤ _; have : X.data.toList.length = X.size := rfl; omega
    clear hT
    subst hXT
    obtain ⟨lc, b, hR⟩ := readP_ex T
    have hlc := hR.len
    have HR := hide hR
    have G1 := hide g1
    have HTL := hide hTl
    obtain ⟨Y, hY⟩ : ∃ Y, Y = bt T := ⟨_, rfl⟩
    have HS := hide (fun w => specRead hR w hTl)
    have HI := hide (fun w h => implRead hR w hTl h)
    rw [← hY] at HS HI
    rw [← hY]
    have HY := hide hY
    clear hX g1 hTl hR hY
    go_wp2_with fail
    refine (unhide HS w1).mono ?_
    rintro e w2 ⟨gs, cs, rfl, is2, _, g2⟩
    have IS := hide is2
    have G2 := hide ((unhide G1).trans g2)
    clear is2 g2 G1
    go_wp2_with fail
    refine (unhide HI w2 ((unhide HLd).grew (unhide G2))).mono ?_
    rintro e w3 ⟨x, cx, rfl, ix3, _, g3⟩
    have IX := hide ix3
    have IS := hide ((unhide IS).grew g3)
    have G3 := hide ((unhide G2).trans g3)
    clear ix3 g3 G2
    cases b with
    | true =>
      go_wp2_with fail
      refine (lwSame_any _ _ _ _ lc lc _ (unhide IX) (unhide IS) (by omega) (by omega)).mono ?_
      rintro e w4 ⟨rfl, g4⟩
      rw [(sameB_iff lc lc).2 rfl]
      have IX := hide ((unhide IX).grew g4)
      have G4 := hide ((unhide G3).trans g4)
      clear g4 G3
      have hok : okB lc = true ∧ T = textL lc := by
        rcases unhide HR with ⟨_, h1, h2⟩ | ⟨h, _⟩
        · exact ⟨h1, h2⟩
        · cases h
      have HOK := hide hok
      clear hok
      go_wp2_with fail
      refine (implChainOk _ _ lc _ (unhide IX) (by omega)).mono ?_
      rintro e w5 ⟨rfl, g5⟩
      rw [(unhide HOK).1]
      have IX := hide ((unhide IX).grew g5)
      have G5 := hide ((unhide G4).trans g5)
      clear g5 G4
      go_wp2_with fail
      refine (implChainText _ _ lc _ (unhide IX) (by omega)).mono ?_
      rintro e w6 ⟨rfl, g6⟩
      rw [if_pos (unhide HOK).1, textB_bt, ← (unhide HOK).2, ← unhide HY]
      have G6 := hide ((unhide G5).trans g6)
      clear g6 G5
      go_wp2
      go_ret
      exact ⟨rfl, unhide G6⟩
    | false =>
      go_wp2_with fail
      refine (lwSame_any _ _ _ _ lc lc _ (unhide IX) (unhide IS) (by omega) (by omega)).mono ?_
      rintro e w4 ⟨rfl, g4⟩
      rw [(sameB_iff lc lc).2 rfl]
      have IX := hide ((unhide IX).grew g4)
      have IS := hide ((unhide IS).grew g4)
      have G4 := hide ((unhide G3).trans g4)
      clear g4 G3
      go_wp2_with fail
      refine (lwSame_any _ _ _ _ lc lc _ (unhide IX) (unhide IS) (by omega) (by omega)).mono ?_
      rintro e w5 ⟨rfl, g5⟩
      rw [(sameB_iff lc lc).2 rfl]
      have G5 := hide ((unhide G4).trans g5)
      clear g5 G4
      go_wp2
      go_ret
      exact ⟨rfl, unhide G5⟩
  · have hn1 : decide ((1048576 : Int) < (n : Int)) = true := by simp; omega
    clear hn
    go_enter Tryd.func3, Tryd.ntmps3
    go_wp2
    go_ret
    exact ⟨rfl, Grew.refl _⟩

set_option maxRecDepth 100000 in
theorem lifted (os : Os) (started : os.Started) (H : Type) (enc : TypeId × Value → H) :
    ReturnsInHanded {} Tryd.checked os 3 .any (fun w args => (Rows.fnChainStrictSpec.pre enc Tryd.prog Tryd.f3 [] false w args ∧ laidMetH Tryd.prog laidE w) ∧ sizedMet enc Tryd.prog Tryd.f3 (OpenSpec.ofChange Rows.fnChainStrictSpec) false w args) (Rows.fnChainStrictSpec.post enc Tryd.prog Tryd.f3 false true false false) := by
  refine returnsInHanded_of_change_and (C := Tryd.checked) (X := fun w _ => laidMetH Tryd.prog laidE w) (fun _ _ _ hh h => h.of_heap hh) own started (by kernel_rfl) Tryd.func3
    (ChangeSpec.witness_at (enc := enc) (C := Tryd.checked) (os := os) (X := fun w _ => laidMetH Tryd.prog laidE w) false (laidWorld os) #[.slice none 0 0] 8 rfl (by kernel_rfl) (by kernel_rfl) (by kernel_rfl) (by kernel_rfl) (by kernel_rfl) (laidWorld_met os _)) ?_
  intro W base args ds gs before hval0 hW _ _ hL0 _
  have hL : ErrLaid W := errLaid_of hL0
  have hval : ∀ (j : Nat) t v, Tryd.f3.params[j]? = some t → args[j]? = some v → Value.okWide Tryd.prog W .any base t v := hval0
  have hW' := hW
  obtain ⟨p, q, hA0, hV, rfl, hfz, hnd⟩ := hW
  have hA : DataW.TrodAll enc Tryd.prog W 0 (fun _ => true) true Tryd.f3.params.toList args.toList ds p := hA0
  rw [Tryd.params3] at hA hval
  obtain ⟨v0, vs0, d0, ds0, p0, q0, hargs, rfl, rfl, h0, r0⟩ := trodAll_cons hA
  obtain ⟨rfl, rfl, rfl⟩ := trodAll_nil r0
  obtain rfl : args = #[v0] := by cases args; simp_all
  obtain ⟨rfl, rfl⟩ := trodVars_none hV
  have k0 := h0
  have lt0 : ∀ x ∈ p0, x.block < W.heap.size := by obtain ⟨m, hm⟩ := k0; exact DataW.trod_lt m _ _ _ hm
  obtain ⟨a0, len0, cap0, rfl⟩ := okWide_slice Tryd.underlying22 (hval 0 22 v0 rfl rfl)
  obtain ⟨fuel0, hf0⟩ := h0
  obtain ⟨hb0, hc0⟩ := open_bytes hf0
  clear hA0 hval0
  refine (walk a0 len0 cap0 W hL hb0 hc0).mono fun e W' ⟨he, bel⟩ => ?_
  subst he
  exact ⟨_, rfl, _, _, _, [], _, [], hW', trodAll_mk1 (shut_bool Tryd.underlying4 _), (trodAll_cons_mk (Below.trod laidOut (by kernel_rfl) (of_decide_eq_true (by kernel_rfl)) k0 bel.below lt0) trodAll_mk0), rfl, bel.below.frame _, fun h => by cases h⟩

theorem over : Rows.fnChainStrictRow.holds Tryd.pinned (OpenSpec.ofChange Rows.fnChainStrictSpec) :=
  OpenClaim.holds_of_wide 3 Tryd.f3 rfl rfl rfl rfl rfl rfl rfl ⟨rfl, rfl, rfl, rfl, rfl⟩ rfl rfl rfl rfl rfl (by kernel_rfl) Tryd.func3 (by kernel_rfl)
    (of_decide_eq_true (by kernel_rfl)) (by unfold Func.isWrapper; first | (rw [if_pos (by decide +kernel)]; kernel_rfl) | (rw [if_neg (by decide +kernel)]; exact ⟨rfl, rfl⟩))
    (fun os started H enc _ => lifted os started H enc)
end Go.Proofs.YtfonpbglnkggfaaDoor.FnChainStrict
namespace Go.Proofs.YtfonpbglnkggfaaDoor
theorem fnChainStrict_holds : Rows.FnChainStrictSaid := FnChainStrict.over
theorem fnChainStrict_card : Rows.FnChainStrictCardSaid :=
  Claim7.holds_tied_plain_at .later [] [.handle] true Rows.fnChainStrictCard.stood.harness true
    fnChainStrict_holds (fun _ h => by cases h) (by kernel_rfl) (fun _ h => by cases h) fnChainStrict_row_tie rfl ⟨rfl, rfl⟩ (by kernel_rfl) rfl
    (fun f fn hf hfn => by
      obtain rfl : f = 3 := Option.some.inj ((show Tryd.prog.funcNamed "loop.example/witan/laws.FnChainStrict" = some 3 by kernel_rfl).symm.trans hf) |>.symm
      obtain rfl : fn = Tryd.f3 := (Option.some.inj (Tryd.func3.symm.trans hfn)).symm
      exact ⟨by kernel_rfl, fun j t ht => by
        rw [Tryd.params3] at ht
        have hall : ∀ t ∈ #[22], Tryd.prog.wantsStandIn t = false := by intro t h; simp at h; rcases h with rfl <;> kernel_rfl
        exact hall t (Array.mem_of_getElem? ht)⟩)
    (by kernel_rfl)
#print axioms fnChainStrict_card
end Go.Proofs.YtfonpbglnkggfaaDoor
