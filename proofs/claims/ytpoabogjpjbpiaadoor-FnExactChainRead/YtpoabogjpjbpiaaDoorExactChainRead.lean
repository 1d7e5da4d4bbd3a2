/-
  FnExactChainRead returns true at every string, errors.errorType being as the program's text lays it (the card ties it): what the statement says; no other condition.
-/
import Derived.Test.YtpoabogjpjbpiaaDoorDoor
import Derived.Test.YtpoabogjpjbpiaaDoorCards
import Derived.Test.YtpoabogjpjbpiaaDoorTie
import Derived.SevenTiedAt
import Derived.Test.YtpoabogjpjbpiaaDoorRead6
import Derived.ChangeMaps5
namespace Go.Proofs.YtpoabogjpjbpiaaDoor.FnExactChainRead
set_option linter.unusedVariables false
open Go.ChangeShapes Go.WideShapes Go.ChangeAt Go.RowKit Go.ChangeMaps

set_option maxHeartbeats 4000000 in
theorem walk (S : ByteArray) (w : World) (hL : ErrLaid w) (hlen : S.size ≤ maxLen) : Calls Tryd.prog 5 #[.string S] w fun e w' => e = .returned (.bool true) ∧ Grew w w' := by
  unfold maxLen at hlen
  by_cases hs : S.size ≤ 1048576
  · have hn1 : decide ((1048576 : Int) < (S.size : Int)) = false := by simp; omega
    obtain ⟨T, hT⟩ : ∃ T, T = S.data.toList := ⟨_, rfl⟩
    have eS : S = bt T := by rw [hT]
    have hTl : T.length ≤ 1048576 := by rw [hT]; exact hs
    obtain ⟨lc, b, hR⟩ := readP_ex T
    have hlc := hR.len
    have hsp := fun W => specRead hR W hTl
    have him := fun W => implRead hR W hTl
    rw [← eS] at hsp him
    have HSP := hide hsp
    have HIM := hide him
    clear hsp him eS hT hR hTl
    go_enter Tryd.func5, Tryd.ntmps5
    go_wp2_with fail
    refine (unhide HSP _).mono ?_
    rintro e w1 ⟨gs, cs, rfl, is1, hgs, g1⟩
    go_wp2_with fail
    refine (unhide HIM _ (hL.grew g1)).mono ?_
    rintro e w2 ⟨x, cx, rfl, ix, hox, g2⟩
    have G2 := g1.trans g2
    go_wp2_with fail
    refine (eqItemS_any _ _ _ _ lc lc _ ix (is1.grew g2) (by omega) (by omega)).mono ?_
    rintro e w3 ⟨rfl, g3⟩
    rw [(sameB_iff lc lc).2 rfl]
    have G3 := G2.trans g3
    have z1 := g1.size
    have hxb : ∀ y, x = some y → w1.heap.size ≤ y.block := fun y hy => by
      rcases hox with ⟨_, h⟩ | ⟨g, N, hx, _, hg, _⟩
      · rw [h] at hy; cases hy
      · rw [hx] at hy; cases hy; exact hg
    have hox3 : lc.length = 0 ∧ x = none ∨ ∃ g N, x = some ⟨g, 0, none⟩ ∧ lc.length ≤ N ∧ Own w3 g N := by
      rcases hox with h | ⟨g, N, hx, hN, _, ho⟩
      · exact .inl h
      · exact .inr ⟨g, N, hx, hN, ho.grew g3⟩
    have HXB := hide hxb
    have HOX := hide hox3
    have hk1 : decide (1 + 4 * (lc.length : Int) < 0) = false := by simp; omega
    have hk2 : ((1 + 4 * (lc.length : Int)) < 0) = False := by simp; omega
    clear hxb hox3 hox ix
    cases b
    all_goals
      go_wp2_with fail
      refine (mark_wx x lc.length _ 1 _ (unhide HOX) (by omega) (by omega) (by omega)).mono ?_
      rintro e w4 ⟨rfl, im4, q4⟩
      have G4 := q4.from G3 (fun y hy => by have := unhide HXB y hy; omega)
      have is4 := q4.its (is1.grew (g2.trans g3)) (fun hp y z hy hz => by have := unhide HXB y hy; cases hz; show y.block ≠ gs; omega)
      go_wp2_with fail
      refine (held_any x lc.length _ 1 _ im4 (by omega) (by omega) (by omega)).mono ?_
      rintro e w5 ⟨rfl, g5⟩
      have G5 := G4.trans g5
      go_wp2_with fail
      refine (unhide HIM _ (hL.grew G5)).mono ?_
      rintro e w6 ⟨y, cy, rfl, iy, _, g6⟩
      go_wp2_with fail
      refine (eqItemS_any _ _ _ _ lc lc _ iy (is4.grew (g5.trans g6)) (by omega) (by omega)).mono ?_
      rintro e w7 ⟨rfl, g7⟩
      rw [(sameB_iff lc lc).2 rfl]
      go_wp2_with fail
      refine (held_any x lc.length _ 1 _ (im4.grew ((g5.trans g6).trans g7)) (by omega) (by omega) (by omega)).mono ?_
      rintro e w8 ⟨rfl, g8⟩
      go_wp2
      go_ret
      exact ⟨rfl, ((G5.trans g6).trans g7).trans g8⟩
  · have hn1 : decide ((1048576 : Int) < (S.size : Int)) = true := by simp; omega
    go_enter Tryd.func5, Tryd.ntmps5
    go_wp2
    go_ret
    exact ⟨rfl, Grew.refl _⟩

set_option maxRecDepth 100000 in
theorem lifted (os : Os) (started : os.Started) (H : Type) (enc : TypeId × Value → H) :
    ReturnsInHanded {} Tryd.checked os 5 .any (fun w args => (Rows.fnExactChainReadSpec.pre enc Tryd.prog Tryd.f5 [] false w args ∧ laidMetH Tryd.prog laidE w) ∧ sizedMet enc Tryd.prog Tryd.f5 (OpenSpec.ofChange Rows.fnExactChainReadSpec) false w args) (Rows.fnExactChainReadSpec.post enc Tryd.prog Tryd.f5 false true false false) := by
  refine returnsInHanded_of_change_and (C := Tryd.checked) (X := fun w _ => laidMetH Tryd.prog laidE w) (fun _ _ _ hh h => h.of_heap hh) own started (by kernel_rfl) Tryd.func5
    (ChangeSpec.witness_at (enc := enc) (C := Tryd.checked) (os := os) (X := fun w _ => laidMetH Tryd.prog laidE w) false (laidWorld os) #[.string ⟨#[]⟩] 8 rfl (by kernel_rfl) (by kernel_rfl) (by kernel_rfl) (by kernel_rfl) (by kernel_rfl) (laidWorld_met os _)) ?_
  intro W base args ds gs before hval0 hW _ _ hL0 _
  have hL : ErrLaid W := errLaid_of hL0
  have hval : ∀ (j : Nat) t v, Tryd.f5.params[j]? = some t → args[j]? = some v → Value.okWide Tryd.prog W .any base t v := hval0
  have hW' := hW
  obtain ⟨p, q, hA0, hV, rfl, hfz, hnd⟩ := hW
  have hA : DataW.TrodAll enc Tryd.prog W 0 (fun _ => true) true Tryd.f5.params.toList args.toList ds p := hA0
  rw [Tryd.params5] at hA hval
  obtain ⟨v0, vs0, d0, ds0, p0, q0, hargs, rfl, rfl, h0, r0⟩ := trodAll_cons hA
  obtain ⟨rfl, rfl, rfl⟩ := trodAll_nil r0
  obtain rfl : args = #[v0] := by cases args; simp_all
  obtain ⟨rfl, rfl⟩ := trodVars_none hV
  have k0 := h0
  have lt0 : ∀ x ∈ p0, x.block < W.heap.size := by obtain ⟨m, hm⟩ := k0; exact DataW.trod_lt m _ _ _ hm
  obtain ⟨s0, rfl, rfl, rfl, hm0⟩ := open_string Tryd.underlying9 (hval 0 9 v0 rfl rfl) h0
  clear hA0 hval0
  refine (walk s0 W hL hm0).mono fun e W' ⟨he, bel⟩ => ?_
  subst he
  exact ⟨_, rfl, _, _, _, [], _, [], hW', trodAll_mk1 (shut_bool Tryd.underlying4 _), (trodAll_cons_mk (Below.trod laidOut (by kernel_rfl) (of_decide_eq_true (by kernel_rfl)) k0 bel.below lt0) trodAll_mk0), rfl, bel.below.frame _, fun h => by cases h⟩

theorem over : Rows.fnExactChainReadRow.holds Tryd.pinned (OpenSpec.ofChange Rows.fnExactChainReadSpec) :=
  OpenClaim.holds_of_wide 5 Tryd.f5 rfl rfl rfl rfl rfl rfl rfl ⟨rfl, rfl, rfl, rfl, rfl⟩ rfl rfl rfl rfl rfl (by kernel_rfl) Tryd.func5 (by kernel_rfl)
    (of_decide_eq_true (by kernel_rfl)) (by unfold Func.isWrapper; first | (rw [if_pos (by decide +kernel)]; kernel_rfl) | (rw [if_neg (by decide +kernel)]; exact ⟨rfl, rfl⟩))
    (fun os started H enc _ => lifted os started H enc)
end Go.Proofs.YtpoabogjpjbpiaaDoor.FnExactChainRead
namespace Go.Proofs.YtpoabogjpjbpiaaDoor
theorem fnExactChainRead_holds : Rows.FnExactChainReadSaid := FnExactChainRead.over
theorem fnExactChainRead_card : Rows.FnExactChainReadCardSaid :=
  Claim7.holds_tied_plain_at .later [] [.handle] true Rows.fnExactChainReadCard.stood.harness true
    fnExactChainRead_holds (fun _ h => by cases h) (by kernel_rfl) (fun _ h => by cases h) fnExactChainRead_row_tie rfl ⟨rfl, rfl⟩ (by kernel_rfl) rfl
    (fun f fn hf hfn => by
      obtain rfl : f = 5 := Option.some.inj ((show Tryd.prog.funcNamed "loop.example/witan/laws.FnExactChainRead" = some 5 by kernel_rfl).symm.trans hf) |>.symm
      obtain rfl : fn = Tryd.f5 := (Option.some.inj (Tryd.func5.symm.trans hfn)).symm
      exact ⟨by kernel_rfl, fun j t ht => by
        rw [Tryd.params5] at ht
        have hall : ∀ t ∈ #[9], Tryd.prog.wantsStandIn t = false := by intro t h; simp at h; rcases h with rfl <;> kernel_rfl
        exact hall t (Array.mem_of_getElem? ht)⟩)
    (by kernel_rfl)
#print axioms fnExactChainRead_card
end Go.Proofs.YtpoabogjpjbpiaaDoor
