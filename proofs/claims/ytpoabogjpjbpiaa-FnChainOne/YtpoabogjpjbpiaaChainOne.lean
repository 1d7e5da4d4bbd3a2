/-
  FnChainOne returns true at every two rows of bytes and leaves its arguments as they were: what the statement says; no condition.
-/
import Derived.Test.YtpoabogjpjbpiaaBytes
import Derived.Test.YtpoabogjpjbpiaaText3
namespace Go.Proofs.Ytpoabogjpjbpiaa.FnChainOne
set_option linter.unusedVariables false
open Go.ChangeShapes Go.WideShapes Go.ChangeAt Go.RowKit

set_option maxHeartbeats 8000000 in
theorem walk (a : Option Addr) (n cap : Nat) (b : Option Addr) (m capb : Nat) (w : World) (hb : Byt w a w.heap.size n) (hc : n ≤ cap) (hb2 : Byt w b w.heap.size m) (hc2 : m ≤ capb) :
    Calls Try.prog 5 #[.slice a n cap, .slice b m capb] w fun e w' => e = .returned (.bool true) ∧ Grew w w' := by
  by_cases hn : n ≤ 1048576
  · have hn1 : decide ((1048576 : Int) < (n : Int)) = false := by simp; omega
    by_cases hm : m ≤ 1048576
    · have hm1 : decide ((1048576 : Int) < (m : Int)) = false := by simp; omega
      go_enter Try.func5, Try.ntmps5
      go_wp2_with fail
      refine (drawChainText_any a n cap _ hb hc hn).mono ?_
      rintro e w1 ⟨ga, ca, la, rfl, ia, h1, h2, g1⟩
      have hb3 : Byt w1 b w1.heap.size m := by
        rcases hb2 with h | ⟨q, off, hq, hlt, h⟩
        · exact .inl h
        · exact .inr ⟨q, off, hq, Nat.lt_of_lt_of_le hlt g1.size, fun i hi => by obtain ⟨z, z0, z1, hz⟩ := h i hi; exact ⟨z, z0, z1, g1.keep hz⟩⟩
      go_wp2_with fail
      refine (drawChainText_any b m capb _ hb3 hc2 hm).mono ?_
      rintro e w2 ⟨gb, cb, lb, rfl, ib, h3, h4, g2⟩
      obtain ⟨S, hS⟩ : ∃ S, (if okB la = true then textB la else ⟨#[]⟩) = S := ⟨_, rfl⟩
      obtain ⟨T, hT⟩ : ∃ T, (if okB lb = true then textB lb else ⟨#[]⟩) = T := ⟨_, rfl⟩
      have HS := hide hS
      have HT := hide hT
      clear hS hT
      go_wp2_with fail
      refine (implChainText _ _ la _ (ia.grew g2) (by omega)).mono ?_
      rintro e w3 ⟨rfl, g3⟩
      rw [unhide HS]
      go_wp2_with fail
      refine (implChainText _ _ lb _ (ib.grew g3) (by omega)).mono ?_
      rintro e w4 ⟨rfl, g4⟩
      rw [unhide HT]
      have ia4 := ia.grew ((g2.trans g3).trans g4)
      have ib4 := ib.grew (g3.trans g4)
      have G4 := ((g1.trans g2).trans g3).trans g4
      clear ia ib hb3
      go_wp2_with fail
      refine (specChainText _ _ la _ ia4 (by omega)).mono ?_
      rintro e w5 ⟨rfl, g5⟩
      rw [unhide HS]
      go_wp2_with fail
      refine (specChainText _ _ lb _ (ib4.grew g5) (by omega)).mono ?_
      rintro e w6 ⟨rfl, g6⟩
      rw [unhide HT]
      go_wp2_with fail
      refine (specChainOk _ _ la _ (ia4.grew (g5.trans g6)) (by omega)).mono ?_
      rintro e w7 ⟨rfl, g7⟩
      have ia7 := ia4.grew ((g5.trans g6).trans g7)
      have ib7 := ib4.grew ((g5.trans g6).trans g7)
      have G7 := G4.trans ((g5.trans g6).trans g7)
      clear ia4 ib4
      cases hoka : okB la with
      | false =>
        go_wp2_with fail
        refine (specChainText _ _ la _ ia7 (by omega)).mono ?_
        rintro e w8 ⟨rfl, g8⟩
        rw [unhide HS]
        go_wp2_with fail
        refine (specChainText _ _ lb _ (ib7.grew g8) (by omega)).mono ?_
        rintro e w9 ⟨rfl, g9⟩
        rw [unhide HT]
        go_wp2
        go_ret
        exact ⟨rfl, (G7.trans g8).trans g9⟩
      | true =>
        go_wp2_with fail
        refine (specChainOk _ _ lb _ ib7 (by omega)).mono ?_
        rintro e w8 ⟨rfl, g8⟩
        have ia8 := ia7.grew g8
        have ib8 := ib7.grew g8
        have G8 := G7.trans g8
        clear ia7 ib7
        cases hokb : okB lb with
        | false =>
          go_wp2_with fail
          refine (specChainText _ _ la _ ia8 (by omega)).mono ?_
          rintro e w9 ⟨rfl, g9⟩
          rw [unhide HS]
          go_wp2_with fail
          refine (specChainText _ _ lb _ (ib8.grew g9) (by omega)).mono ?_
          rintro e w10 ⟨rfl, g10⟩
          rw [unhide HT]
          go_wp2
          go_ret
          exact ⟨rfl, (G8.trans g9).trans g10⟩
        | true =>
          have eS : S = textB la := by have := unhide HS; rw [if_pos hoka] at this; exact this.symm
          have eT : T = textB lb := by have := unhide HT; rw [if_pos hokb] at this; exact this.symm
          have hsame : (S.toList == T.toList) = sameB la lb := by rw [eS, eT]; exact textB_same hoka hokb
          have hyes : inC la lb = true → S.size ≤ T.size ∧ ((T.extract 0 S.size).toList == S.toList) = true := by rw [eS, eT]; exact textB_yes hoka hokb
          have hnot : inC la lb = false → S.size ≤ T.size → ((T.extract 0 S.size).toList == S.toList) = false := by rw [eS, eT]; exact textB_not hoka hokb
          have HY := hide hyes
          have HN := hide hnot
          clear hyes hnot eS eT HS HT
          cases hsm : sameB la lb
          all_goals
            rw [hsm] at hsame
            go_wp2_with fail
            refine (lwSame_any _ _ _ _ la lb _ ia8 ib8 (by omega) (by omega)).mono ?_
            rintro e w9 ⟨rfl, g9⟩
            rw [hsm]
            go_wp2_with fail
            refine (implChainIn _ _ _ _ la lb _ (ia8.grew g9) (ib8.grew g9) (by omega) (by omega)).mono ?_
            rintro e w10 ⟨rfl, g10⟩
            cases hin : inC la lb with
            | true =>
              obtain ⟨y1, y2⟩ := unhide HY hin
              go_wp2
              go_ret
              exact ⟨rfl, (G8.trans g9).trans g10⟩
            | false =>
              by_cases y1 : S.size ≤ T.size
              · have y2 := unhide HN hin y1
                go_wp2
                go_ret
                exact ⟨rfl, (G8.trans g9).trans g10⟩
              · have y2 : decide ((S.size : Int) ≤ (T.size : Int)) = false := by simp; omega
                have y3 : decide (S.size ≤ T.size) = false := by simp; omega
                go_wp2
                go_ret
                exact ⟨rfl, (G8.trans g9).trans g10⟩
    · have hm1 : decide ((1048576 : Int) < (m : Int)) = true := by simp; omega
      go_enter Try.func5, Try.ntmps5
      go_wp2
      go_ret
      exact ⟨rfl, Grew.refl _⟩
  · have hn1 : decide ((1048576 : Int) < (n : Int)) = true := by simp; omega
    go_enter Try.func5, Try.ntmps5
    go_wp2
    go_ret
    exact ⟨rfl, Grew.refl _⟩

set_option maxRecDepth 100000 in
theorem lifted (os : Os) (started : os.Started) (H : Type) (enc : TypeId × Value → H) :
    ReturnsInHanded {} Try.checked os 5 .any (Rows.fnChainOneSpec.pre6 enc Try.prog Try.f5 Rows.fnChainOneRow.domain false) (Rows.fnChainOneSpec.post enc Try.prog Try.f5 false true false false) := by
  refine returnsInHanded_of_change (C := Try.checked) own started (by kernel_rfl) Try.func5
    (ChangeSpec.witness6 (enc := enc) (C := Try.checked) false ⟨#[], #[.slice none 0 0, .slice none 0 0], []⟩ 8 (by kernel_rfl) (by kernel_rfl) (by kernel_rfl) (by kernel_rfl)) ?_
  intro W base args ds gs before hval0 hW hcnd _
  have hval : ∀ (j : Nat) t v, Try.f5.params[j]? = some t → args[j]? = some v → Value.okWide Try.prog W .any base t v := hval0
  have hW' := hW
  obtain ⟨p, q, hA0, hV, rfl, hfz, hnd⟩ := hW
  have hA : DataW.TrodAll enc Try.prog W 0 (fun _ => true) true Try.f5.params.toList args.toList ds p := hA0
  rw [Try.params5] at hA hval
  obtain ⟨v0, vs0, d0, ds0, p0, q0, hargs, rfl, rfl, h0, r0⟩ := trodAll_cons hA
  obtain ⟨v1, vs1, d1, ds1, p1, q1, rfl, rfl, rfl, h1, r1⟩ := trodAll_cons r0
  obtain ⟨rfl, rfl, rfl⟩ := trodAll_nil r1
  obtain rfl : args = #[v0, v1] := by cases args; simp_all
  obtain ⟨rfl, rfl⟩ := trodVars_none hV
  have k0 := h0
  have lt0 : ∀ x ∈ p0, x.block < W.heap.size := by obtain ⟨m, hm⟩ := k0; exact DataW.trod_lt m _ _ _ hm
  obtain ⟨a0, len0, cap0, rfl⟩ := okWide_slice Try.underlying22 (hval 0 22 v0 rfl rfl)
  obtain ⟨fuel0, hf0⟩ := h0
  obtain ⟨hb0, hc0⟩ := open_bytes hf0
  have k1 := h1
  have lt1 : ∀ x ∈ p1, x.block < W.heap.size := by obtain ⟨m, hm⟩ := k1; exact DataW.trod_lt m _ _ _ hm
  obtain ⟨a1, len1, cap1, rfl⟩ := okWide_slice Try.underlying22 (hval 1 22 v1 rfl rfl)
  obtain ⟨fuel1, hf1⟩ := h1
  obtain ⟨hb1, hc1⟩ := open_bytes hf1
  clear hA0 hval0
  refine (walk a0 len0 cap0 a1 len1 cap1 W hb0 hc0 hb1 hc1).mono fun e W' ⟨he, bel⟩ => ?_
  subst he
  exact ⟨_, rfl, _, _, _, [], _, [], hW', trodAll_mk1 (shut_bool Try.underlying4 _), (trodAll_cons_mk (Below.trod laidOut (by kernel_rfl) (of_decide_eq_true (by kernel_rfl)) k0 bel.below lt0) (trodAll_cons_mk (Below.trod laidOut (by kernel_rfl) (of_decide_eq_true (by kernel_rfl)) k1 bel.below lt1) trodAll_mk0)), rfl, bel.below.frame _, fun h => by cases h⟩

theorem over : Rows.fnChainOneRow.holds Try.pinned (OpenSpec.ofChange Rows.fnChainOneSpec) :=
  OpenClaim.holds_of_wide 5 Try.f5 rfl rfl rfl rfl rfl rfl rfl ⟨rfl, rfl, rfl, rfl, rfl⟩ rfl rfl rfl rfl rfl (by kernel_rfl) Try.func5 (by kernel_rfl)
    (of_decide_eq_true (by kernel_rfl)) (by unfold Func.isWrapper; first | (rw [if_pos (by decide +kernel)]; kernel_rfl) | (rw [if_neg (by decide +kernel)]; exact ⟨rfl, rfl⟩))
    (fun os started H enc _ => lifted os started H enc)
end Go.Proofs.Ytpoabogjpjbpiaa.FnChainOne
namespace Go.Proofs.Ytpoabogjpjbpiaa
theorem fnChainOne_holds : Rows.FnChainOneSaid := FnChainOne.over
#print axioms fnChainOne_holds
end Go.Proofs.Ytpoabogjpjbpiaa
