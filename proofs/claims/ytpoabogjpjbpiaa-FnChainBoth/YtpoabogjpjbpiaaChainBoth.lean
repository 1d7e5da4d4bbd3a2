/-
  FnChainBoth returns true at every row of bytes and leaves its argument as it was: what the statement says; no condition.
-/
import Derived.Test.YtpoabogjpjbpiaaBytes
import Derived.Test.YtpoabogjpjbpiaaBoth3
namespace Go.Proofs.Ytpoabogjpjbpiaa.FnChainBoth
set_option linter.unusedVariables false
open Go.ChangeShapes Go.WideShapes Go.ChangeAt Go.RowKit
attribute [local simp] far_const

set_option maxHeartbeats 8000000 in
theorem walk (a : Option Addr) (n cap : Nat) (w : World) (hb : Byt w a w.heap.size n) (hc : n ≤ cap) :
    Calls Try.prog 4 #[.slice a n cap] w fun e w' => e = .returned (.bool true) ∧ Grew w w' := by
  by_cases hn : n ≤ 1048576
  · have hn1 : ((1048576 : Int) < (n : Int)) = False := by simp; omega
    go_enter Try.func4, Try.ntmps4
    go_wp2_with fail
    refine (drawChainBoth_any a n cap _ hb hc hn).mono ?_
    rintro e w1 ⟨ga, ca, la, gb, cb, lb, rfl, ia, ib, h1, h2, h3, h4, g1⟩
    go_wp2_with fail
    refine (implBoth _ _ _ _ la lb _ ia ib (by omega) (by omega)).mono ?_
    rintro e w2 ⟨x, cx, rfl, ic, g2, _⟩
    go_wp2_with fail
    refine (specBoth _ _ _ _ la lb _ (ia.grew g2) (ib.grew g2) (by omega) (by omega) h3).mono ?_
    rintro e w3 ⟨gs, cs, rfl, is, g3, _⟩
    have hlc := (bothC_len la lb).1
    obtain ⟨lc, hlcc⟩ : ∃ lc, lc = bothC la lb := ⟨_, rfl⟩
    rw [← hlcc] at ic is hlc ⊢
    have HC := hide hlcc
    clear hlcc
    have ic3 := ic.grew g3
    go_wp2_with fail
    refine (lwSame_any _ _ _ _ lc lc _ ic3 is (by omega) (by omega)).mono ?_
    rintro e w4 ⟨rfl, g4⟩
    rw [(sameB_iff lc lc).2 rfl]
    have ia4 := ia.grew ((g2.trans g3).trans g4)
    have ib4 := ib.grew ((g2.trans g3).trans g4)
    have ic4 := ic3.grew g4
    have G4 := ((g1.trans g2).trans g3).trans g4
    clear ia ib ic ic3 is
    cases hoka : okB la with
    | false =>
      go_wp2_with fail
      refine (specChainOk _ _ la _ ia4 (by omega)).mono ?_
      rintro e w5 ⟨rfl, g5⟩
      rw [hoka]
      go_wp2_with fail
      refine (specBoth _ _ _ _ la lb _ (ia4.grew g5) (ib4.grew g5) (by omega) (by omega) h3).mono ?_
      rintro e w6 ⟨gt, ct, rfl, is, g6, _⟩
      rw [← unhide HC] at is ⊢
      go_wp2_with fail
      refine (lwSame_any _ _ _ _ lc lc _ (ic4.grew (g5.trans g6)) is (by omega) (by omega)).mono ?_
      rintro e w7 ⟨rfl, g7⟩
      rw [(sameB_iff lc lc).2 rfl]
      go_wp2
      go_ret
      exact ⟨rfl, ((G4.trans g5).trans g6).trans g7⟩
    | true =>
      go_wp2_with fail
      refine (specChainOk _ _ la _ ia4 (by omega)).mono ?_
      rintro e w5 ⟨rfl, g5⟩
      rw [hoka]
      go_wp2_with fail
      refine (specChainOk _ _ lb _ (ib4.grew g5) (by omega)).mono ?_
      rintro e w6 ⟨rfl, g6⟩
      have ia6 := ia4.grew (g5.trans g6)
      have ib6 := ib4.grew (g5.trans g6)
      have ic6 := ic4.grew (g5.trans g6)
      have G6 := (G4.trans g5).trans g6
      clear ia4 ib4 ic4
      cases hokb : okB lb with
      | false =>
        go_wp2_with fail
        refine (specBoth _ _ _ _ la lb _ ia6 ib6 (by omega) (by omega) h3).mono ?_
        rintro e w7 ⟨gt, ct, rfl, is, g7, _⟩
        rw [← unhide HC] at is ⊢
        go_wp2_with fail
        refine (lwSame_any _ _ _ _ lc lc _ (ic6.grew g7) is (by omega) (by omega)).mono ?_
        rintro e w8 ⟨rfl, g8⟩
        rw [(sameB_iff lc lc).2 rfl]
        go_wp2
        go_ret
        exact ⟨rfl, (G6.trans g7).trans g8⟩
      | true =>
        have hcp : lc = cp la lb := by rw [unhide HC, bothC_ok hoka hokb]
        have f1 : inC lc la = true := by rw [hcp]; exact cp_in hoka
        have f2 : inC lc lb = true := by rw [hcp]; exact cp_in' hokb
        have f3 : bothC lb la = lc := by rw [bothC_ok hokb hoka, hcp, cp_comm]
        have f4 : sameB lc la = inC la lb := by rw [hcp]; exact cp_same hoka hokb
        have f5 : lc.length = la.length ∨ lc.length = lb.length ∨ ∃ (h1 : lc.length < la.length) (h2 : lc.length < lb.length), eqB la[lc.length] lb[lc.length] = false := by
          subst hcp; exact cp_part la lb
        have F := hide (And.intro f1 (And.intro f2 (And.intro f3 f4)))
        have F5 := hide f5
        clear f1 f2 f3 f4 f5 hcp HC
        go_wp2_with fail
        refine (implChainIn _ _ _ _ lc la _ ic6 ia6 (by omega) (by omega)).mono ?_
        rintro e w7 ⟨rfl, g7⟩
        rw [(unhide F).1]
        go_wp2_with fail
        refine (implChainIn _ _ _ _ lc lb _ (ic6.grew g7) (ib6.grew g7) (by omega) (by omega)).mono ?_
        rintro e w8 ⟨rfl, g8⟩
        rw [(unhide F).2.1]
        go_wp2_with fail
        refine (implBoth _ _ _ _ lb la _ (ib6.grew (g7.trans g8)) (ia6.grew (g7.trans g8)) (by omega) (by omega)).mono ?_
        rintro e w9 ⟨y, cy, rfl, iy, g9, _⟩
        rw [(unhide F).2.2.1] at iy ⊢
        go_wp2_with fail
        refine (lwSame_any _ _ _ _ lc lc _ (ic6.grew ((g7.trans g8).trans g9)) iy (by omega) (by omega)).mono ?_
        rintro e w10 ⟨rfl, g10⟩
        rw [(sameB_iff lc lc).2 rfl]
        have g610 := ((g7.trans g8).trans g9).trans g10
        have ia10 := ia6.grew g610
        have ib10 := ib6.grew g610
        have ic10 := ic6.grew g610
        have G10 := G6.trans g610
        clear ia6 ib6 ic6 iy
        have f4 := (unhide F).2.2.2
        rcases unhide F5 with e1 | e2 | ⟨q1, q2, hne⟩
        · have hb1 : ((lc.length : Int) == (la.length : Int)) = true := by simp [e1]
          have hb2 : (lc.length == la.length) = true := by simp [e1]
          clear e1
          cases hin : inC la lb
          all_goals
            rw [hin] at f4
            go_wp2_with fail
            refine quietly (by kernel_rfl) (by kernel_rfl) ?_
            repeat (go_big_quiet_step (first | (go_at_call 16; exact Calls.far (lwSame_any _ _ _ _ lc la _ (ic10.grew ⟨_, _, rfl⟩) (ia10.grew ⟨_, _, rfl⟩) (by omega) (by omega))) | (go_at_call 13; exact Calls.far (implChainIn _ _ _ _ la lb _ (ia10.grew ⟨_, _, rfl⟩) (ib10.grew ⟨_, _, rfl⟩) (by omega) (by omega)))))
            refine wpQuiet_nil ?_
            intro _ hw'
            obtain ⟨⟨nq, osq⟩, hw''⟩ := hw'
            subst hw''
            go_wp2
            go_ret
            exact ⟨rfl, G10.trans ⟨_, _, rfl⟩⟩
        · have hle : lc.length ≤ la.length := hlc
          by_cases e1 : lc.length = la.length
          · have hb1 : ((lc.length : Int) == (la.length : Int)) = true := by simp [e1]
            have hb2 : (lc.length == la.length) = true := by simp [e1]
            clear e1 e2
            cases hin : inC la lb
            all_goals
              rw [hin] at f4
              go_wp2_with fail
              refine quietly (by kernel_rfl) (by kernel_rfl) ?_
              repeat (go_big_quiet_step (first | (go_at_call 16; exact Calls.far (lwSame_any _ _ _ _ lc la _ (ic10.grew ⟨_, _, rfl⟩) (ia10.grew ⟨_, _, rfl⟩) (by omega) (by omega))) | (go_at_call 13; exact Calls.far (implChainIn _ _ _ _ la lb _ (ia10.grew ⟨_, _, rfl⟩) (ib10.grew ⟨_, _, rfl⟩) (by omega) (by omega)))))
              refine wpQuiet_nil ?_
              intro _ hw'
              obtain ⟨⟨nq, osq⟩, hw''⟩ := hw'
              subst hw''
              go_wp2
              go_ret
              exact ⟨rfl, G10.trans ⟨_, _, rfl⟩⟩
          · have hb1 : ((lc.length : Int) == (la.length : Int)) = false := by simp; omega
            have hb2 : (lc.length == la.length) = false := by simp; omega
            have hb3 : ((lc.length : Int) == (lb.length : Int)) = true := by simp [e2]
            have hb4 : (lc.length == lb.length) = true := by simp [e2]
            clear e1 e2
            cases hin : inC la lb
            all_goals
              rw [hin] at f4
              go_wp2_with fail
              refine quietly (by kernel_rfl) (by kernel_rfl) ?_
              repeat (go_big_quiet_step (first | (go_at_call 16; exact Calls.far (lwSame_any _ _ _ _ lc la _ (ic10.grew ⟨_, _, rfl⟩) (ia10.grew ⟨_, _, rfl⟩) (by omega) (by omega))) | (go_at_call 13; exact Calls.far (implChainIn _ _ _ _ la lb _ (ia10.grew ⟨_, _, rfl⟩) (ib10.grew ⟨_, _, rfl⟩) (by omega) (by omega)))))
              refine wpQuiet_nil ?_
              intro _ hw'
              obtain ⟨⟨nq, osq⟩, hw''⟩ := hw'
              subst hw''
              go_wp2
              go_ret
              exact ⟨rfl, G10.trans ⟨_, _, rfl⟩⟩
        · have hb1 : ((lc.length : Int) == (la.length : Int)) = false := by simp; omega
          have hb2 : (lc.length == la.length) = false := by simp; omega
          have hb3 : ((lc.length : Int) == (lb.length : Int)) = false := by simp; omega
          have hb4 : (lc.length == lb.length) = false := by simp; omega
          obtain ⟨b1, o1, hx1, c0, c1, c2, c3⟩ := ia10.at q1
          obtain ⟨b2, o2, hx2, d0, d1, d2, d3⟩ := ib10.at q2
          simp only [Option.some.injEq, Addr.mk.injEq, and_true] at hx1 hx2
          obtain ⟨rfl, rfl⟩ := hx1
          obtain ⟨rfl, rfl⟩ := hx2
          simp only [Nat.zero_add] at c0 c1 c2 c3 d0 d1 d2 d3
          have e0 := Grew.gcell c0
          have e1 := Grew.gcell c1
          have e2 := Grew.gcell c2
          have e3 := Grew.gcell c3
          have f0 := Grew.gcell d0
          have f1 := Grew.gcell d1
          have f2 := Grew.gcell d2
          have f3 := Grew.gcell d3
          have heq := equal_item la[lc.length] lb[lc.length]
          rw [hne] at heq
          cases hin : inC la lb
          all_goals
            rw [hin] at f4
            go_wp2_with fail
            refine quietly (by kernel_rfl) (by kernel_rfl) ?_
            repeat (go_big_quiet_step (first | (go_at_call 16; exact Calls.far (lwSame_any _ _ _ _ lc la _ (ic10.grew ⟨_, _, rfl⟩) (ia10.grew ⟨_, _, rfl⟩) (by omega) (by omega))) | (go_at_call 13; exact Calls.far (implChainIn _ _ _ _ la lb _ (ia10.grew ⟨_, _, rfl⟩) (ib10.grew ⟨_, _, rfl⟩) (by omega) (by omega)))))
            refine wpQuiet_nil ?_
            intro _ hw'
            obtain ⟨⟨nq, osq⟩, hw''⟩ := hw'
            subst hw''
            go_wp2
            go_ret
            exact ⟨rfl, G10.trans ⟨_, _, rfl⟩⟩
  · have hn1 : (1048576 : Int) < (n : Int) := by omega
    go_enter Try.func4, Try.ntmps4
    go_wp2
    go_ret
    exact ⟨rfl, Grew.refl _⟩

set_option maxRecDepth 100000 in
theorem lifted (os : Os) (started : os.Started) (H : Type) (enc : TypeId × Value → H) :
    ReturnsInHanded {} Try.checked os 4 .any (Rows.fnChainBothSpec.pre6 enc Try.prog Try.f4 Rows.fnChainBothRow.domain false) (Rows.fnChainBothSpec.post enc Try.prog Try.f4 false true false false) := by
  refine returnsInHanded_of_change (C := Try.checked) own started (by kernel_rfl) Try.func4
    (ChangeSpec.witness6 (enc := enc) (C := Try.checked) false ⟨#[], #[.slice none 0 0], []⟩ 8 (by kernel_rfl) (by kernel_rfl) (by kernel_rfl) (by kernel_rfl)) ?_
  intro W base args ds gs before hval0 hW hcnd _
  have hval : ∀ (j : Nat) t v, Try.f4.params[j]? = some t → args[j]? = some v → Value.okWide Try.prog W .any base t v := hval0
  have hW' := hW
  obtain ⟨p, q, hA0, hV, rfl, hfz, hnd⟩ := hW
  have hA : DataW.TrodAll enc Try.prog W 0 (fun _ => true) true Try.f4.params.toList args.toList ds p := hA0
  rw [Try.params4] at hA hval
  obtain ⟨v0, vs0, d0, ds0, p0, q0, hargs, rfl, rfl, h0, r0⟩ := trodAll_cons hA
  obtain ⟨rfl, rfl, rfl⟩ := trodAll_nil r0
  obtain rfl : args = #[v0] := by cases args; simp_all
  obtain ⟨rfl, rfl⟩ := trodVars_none hV
  have k0 := h0
  have lt0 : ∀ x ∈ p0, x.block < W.heap.size := by obtain ⟨m, hm⟩ := k0; exact DataW.trod_lt m _ _ _ hm
  obtain ⟨a0, len0, cap0, rfl⟩ := okWide_slice Try.underlying22 (hval 0 22 v0 rfl rfl)
  obtain ⟨fuel0, hf0⟩ := h0
  obtain ⟨hb0, hc0⟩ := open_bytes hf0
  clear hA0 hval0
  refine (walk a0 len0 cap0 W hb0 hc0).mono fun e W' ⟨he, bel⟩ => ?_
  subst he
  exact ⟨_, rfl, _, _, _, [], _, [], hW', trodAll_mk1 (shut_bool Try.underlying4 _), (trodAll_cons_mk (Below.trod laidOut (by kernel_rfl) (of_decide_eq_true (by kernel_rfl)) k0 bel.below lt0) trodAll_mk0), rfl, bel.below.frame _, fun h => by cases h⟩

theorem over : Rows.fnChainBothRow.holds Try.pinned (OpenSpec.ofChange Rows.fnChainBothSpec) :=
  OpenClaim.holds_of_wide 4 Try.f4 rfl rfl rfl rfl rfl rfl rfl ⟨rfl, rfl, rfl, rfl, rfl⟩ rfl rfl rfl rfl rfl (by kernel_rfl) Try.func4 (by kernel_rfl)
    (of_decide_eq_true (by kernel_rfl)) (by unfold Func.isWrapper; first | (rw [if_pos (by decide +kernel)]; kernel_rfl) | (rw [if_neg (by decide +kernel)]; exact ⟨rfl, rfl⟩))
    (fun os started H enc _ => lifted os started H enc)
end Go.Proofs.Ytpoabogjpjbpiaa.FnChainBoth
namespace Go.Proofs.Ytpoabogjpjbpiaa
theorem fnChainBoth_holds : Rows.FnChainBothSaid := FnChainBoth.over
#print axioms fnChainBoth_holds
end Go.Proofs.Ytpoabogjpjbpiaa
