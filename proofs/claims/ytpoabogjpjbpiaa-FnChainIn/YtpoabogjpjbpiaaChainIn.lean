/-
  FnChainIn returns true at every two rows of bytes and leaves its arguments as they were: what the statement says; no condition.
-/
import Derived.Test.YtpoabogjpjbpiaaBytes
import Derived.Test.YtpoabogjpjbpiaaSame
namespace Go.Proofs.Ytpoabogjpjbpiaa.FnChainIn
set_option linter.unusedVariables false
open Go.ChangeShapes Go.WideShapes Go.ChangeAt Go.RowKit

set_option maxHeartbeats 4000000 in
theorem walk (a : Option Addr) (n cap : Nat) (b : Option Addr) (m capb : Nat) (w : World) (hb : Byt w a w.heap.size n) (hc : n ≤ cap) (hb2 : Byt w b w.heap.size m) (hc2 : m ≤ capb) :
    Calls Try.prog 3 #[.slice a n cap, .slice b m capb] w fun e w' => e = .returned (.bool true) ∧ Grew w w' := by
  by_cases hn : n ≤ 1048576
  · have hn1 : decide ((1048576 : Int) < (n : Int)) = false := by simp; omega
    by_cases hm : m ≤ 1048576
    · have hm1 : decide ((1048576 : Int) < (m : Int)) = false := by simp; omega
      go_enter Try.func3, Try.ntmps3
      go_wp2_with fail
      refine (drawChainIn_any a n cap _ hb hc hn).mono ?_
      rintro e w1 ⟨ga, ca, na, la, gb, cb, lb, rfl, hna, ia, ib, h1, h2, h3, h4, g1⟩
      have HA := hide hna
      clear hna
      go_wp2_with fail
      refine (implChainIn_n _ _ _ _ la lb _ ia ib na _ (unhide HA) rfl (by omega) (by omega)).mono ?_
      rintro e w2 ⟨rfl, g2⟩
      have ia2 := ia.grew g2
      have ib2 := ib.grew g2
      clear ia ib
      go_wp2_with fail
      refine (specChainIn_n _ _ _ _ la lb _ ia2 ib2 na _ (unhide HA) rfl (by omega) (by omega)).mono ?_
      rintro e w3 ⟨rfl, g3⟩
      have ia3 := ia2.grew g3
      have ib3 := ib2.grew g3
      have G3 := (g1.trans g2).trans g3
      clear ia2 ib2
      cases hoka : okB la with
      | false =>
        have hin : inC la lb = false := by unfold inC; rw [hoka]; rfl
        go_wp2_with fail
        refine (specChainOk_n _ _ la _ ia3 na (unhide HA) (by omega)).mono ?_
        rintro e w4 ⟨rfl, g4⟩
        rw [hoka]
        go_wp2_with fail
        refine (specChainIn_n _ _ _ _ la lb _ (ia3.grew g4) (ib3.grew g4) na _ (unhide HA) rfl (by omega) (by omega)).mono ?_
        rintro e w5 ⟨rfl, g5⟩
        rw [hin]
        go_wp2
        go_ret
        exact ⟨rfl, (G3.trans g4).trans g5⟩
      | true =>
        cases hokb : okB lb with
        | false =>
          have hin : inC la lb = false := by unfold inC; rw [hoka, hokb]; rfl
          go_wp2_with fail
          refine (specChainOk_n _ _ la _ ia3 na (unhide HA) (by omega)).mono ?_
          rintro e w4 ⟨rfl, g4⟩
          rw [hoka]
          go_wp2_with fail
          refine (specChainOk_n _ _ lb _ (ib3.grew g4) _ rfl (by omega)).mono ?_
          rintro e w5 ⟨rfl, g5⟩
          rw [hokb]
          go_wp2_with fail
          refine (specChainIn_n _ _ _ _ la lb _ (ia3.grew (g4.trans g5)) (ib3.grew (g4.trans g5)) na _ (unhide HA) rfl (by omega) (by omega)).mono ?_
          rintro e w6 ⟨rfl, g6⟩
          rw [hin]
          go_wp2
          go_ret
          exact ⟨rfl, ((G3.trans g4).trans g5).trans g6⟩
        | true =>
          have self := inC_self hoka
          have nil := inC_nil hoka
          obtain ⟨K, hK⟩ : ∃ K : Nat, K = m % (lb.length + 1) := ⟨_, rfl⟩
          have hKle : K ≤ lb.length := by have := Nat.mod_lt m (show 0 < lb.length + 1 by omega); omega
          have hKi : (m : Int) % ((lb.length : Int) + 1) = (K : Int) := by rw [hK]; simp
          have hKc : K ≤ cb := by omega
          have cut := fun h => inC_cut (a := la) (b := lb) h K
          have anti := fun h => inC_anti (a := la) (b := lb) h
          have HS := hide (And.intro self (And.intro nil (And.intro cut anti)))
          clear self nil cut anti hK
          have hlK : (lb.take K).length = K := by rw [List.length_take]; omega
          have HLK := hide hlK
          clear hlK
          cases hin : inC la lb with
          | false =>
            go_wp2_with fail
            refine (specChainOk_n _ _ la _ ia3 na (unhide HA) (by omega)).mono ?_
            rintro e w4 ⟨rfl, g4⟩
            rw [hoka]
            go_wp2_with fail
            refine (specChainOk_n _ _ lb _ (ib3.grew g4) _ rfl (by omega)).mono ?_
            rintro e w5 ⟨rfl, g5⟩
            rw [hokb]
            go_wp2_with fail
            refine (implChainIn_n _ _ _ _ la la _ (ia3.grew (g4.trans g5)) (ia3.grew (g4.trans g5)) na na (unhide HA) (unhide HA) (by omega) (by omega)).mono ?_
            rintro e w6 ⟨rfl, g6⟩
            rw [(unhide HS).1]
            go_wp2_with fail
            refine (implChainIn_n _ _ _ _ [] la _ (.inl rfl) (ia3.grew ((g4.trans g5).trans g6)) 0 na rfl (unhide HA) (by omega) (by omega)).mono ?_
            rintro e w7 ⟨rfl, g7⟩
            rw [(unhide HS).2.1]
            go_wp2
            go_ret
            exact ⟨rfl, (((G3.trans g4).trans g5).trans g6).trans g7⟩
          | true =>
            go_wp2_with fail
            refine (specChainOk_n _ _ la _ ia3 na (unhide HA) (by omega)).mono ?_
            rintro e w4 ⟨rfl, g4⟩
            rw [hoka]
            go_wp2_with fail
            refine (specChainOk_n _ _ lb _ (ib3.grew g4) _ rfl (by omega)).mono ?_
            rintro e w5 ⟨rfl, g5⟩
            rw [hokb]
            go_wp2_with fail
            refine (implChainIn_n _ _ _ _ la la _ (ia3.grew (g4.trans g5)) (ia3.grew (g4.trans g5)) na na (unhide HA) (unhide HA) (by omega) (by omega)).mono ?_
            rintro e w6 ⟨rfl, g6⟩
            rw [(unhide HS).1]
            go_wp2_with fail
            refine (implChainIn_n _ _ _ _ [] la _ (.inl rfl) (ia3.grew ((g4.trans g5).trans g6)) 0 na rfl (unhide HA) (by omega) (by omega)).mono ?_
            rintro e w7 ⟨rfl, g7⟩
            rw [(unhide HS).2.1]
            go_wp2_with fail
            refine (implChainIn_n _ _ _ _ lb la _ (ib3.grew (((g4.trans g5).trans g6).trans g7)) (ia3.grew (((g4.trans g5).trans g6).trans g7)) _ na rfl (unhide HA) (by omega) (by omega)).mono ?_
            rintro e w8 ⟨rfl, g8⟩
            have g48 := (((g4.trans g5).trans g6).trans g7).trans g8
            have ia8 := ia3.grew g48
            have ib8 := ib3.grew g48
            have G8 := G3.trans g48
            clear ia3 ib3
            cases hba : inC lb la with
            | true =>
              have hsame := (unhide HS).2.2.2 hin hba
              go_wp2_with fail
              refine (lwSame_n _ _ _ _ la lb _ ia8 ib8 na _ (unhide HA) rfl (by omega) (by omega)).mono ?_
              rintro e w9 ⟨rfl, g9⟩
              rw [hsame]
              have ia9 := ia8.grew g9
              have ib9 := ib8.grew g9
              have G9 := G8.trans g9
              clear ia8 ib8 hsame
              have hcut := (unhide HS).2.2.1 hin
              go_wp2_with fail
              refine (implChainIn_n _ _ _ _ la (lb.take K) _ ia9 (ib9.take K) na K (unhide HA) (unhide HLK) (by omega) (by omega)).mono ?_
              rintro e w10 ⟨rfl, g10⟩
              cases hac : inC la (lb.take K) with
              | true =>
                go_wp2
                go_ret
                exact ⟨rfl, G9.trans g10⟩
              | false =>
                rw [hac, Bool.false_or] at hcut
                go_wp2_with fail
                refine (implChainIn_n _ _ _ _ (lb.take K) la _ ((ib9.take K).grew g10) (ia9.grew g10) K na (unhide HLK) (unhide HA) (by omega) (by omega)).mono ?_
                rintro e w11 ⟨rfl, g11⟩
                rw [hcut]
                go_wp2
                go_ret
                exact ⟨rfl, (G9.trans g10).trans g11⟩
            | false =>
              have ia9 := ia8
              have ib9 := ib8
              have G9 := G8
              clear ia8 ib8
              have hcut := (unhide HS).2.2.1 hin
              go_wp2_with fail
              refine (implChainIn_n _ _ _ _ la (lb.take K) _ ia9 (ib9.take K) na K (unhide HA) (unhide HLK) (by omega) (by omega)).mono ?_
              rintro e w10 ⟨rfl, g10⟩
              cases hac : inC la (lb.take K) with
              | true =>
                go_wp2
                go_ret
                exact ⟨rfl, G9.trans g10⟩
              | false =>
                rw [hac, Bool.false_or] at hcut
                go_wp2_with fail
                refine (implChainIn_n _ _ _ _ (lb.take K) la _ ((ib9.take K).grew g10) (ia9.grew g10) K na (unhide HLK) (unhide HA) (by omega) (by omega)).mono ?_
                rintro e w11 ⟨rfl, g11⟩
                rw [hcut]
                go_wp2
                go_ret
                exact ⟨rfl, (G9.trans g10).trans g11⟩
    · have hm1 : decide ((1048576 : Int) < (m : Int)) = true := by simp; omega
      go_enter Try.func3, Try.ntmps3
      go_wp2
      go_ret
      exact ⟨rfl, Grew.refl _⟩
  · have hn1 : decide ((1048576 : Int) < (n : Int)) = true := by simp; omega
    go_enter Try.func3, Try.ntmps3
    go_wp2
    go_ret
    exact ⟨rfl, Grew.refl _⟩

set_option maxRecDepth 100000 in
theorem lifted (os : Os) (started : os.Started) (H : Type) (enc : TypeId × Value → H) :
    ReturnsInHanded {} Try.checked os 3 .any (Rows.fnChainInSpec.pre6 enc Try.prog Try.f3 Rows.fnChainInRow.domain false) (Rows.fnChainInSpec.post enc Try.prog Try.f3 false true false false) := by
  refine returnsInHanded_of_change (C := Try.checked) own started (by kernel_rfl) Try.func3
    (ChangeSpec.witness6 (enc := enc) (C := Try.checked) false ⟨#[], #[.slice none 0 0, .slice none 0 0], []⟩ 8 (by kernel_rfl) (by kernel_rfl) (by kernel_rfl) (by kernel_rfl)) ?_
  intro W base args ds gs before hval0 hW hcnd _
  have hval : ∀ (j : Nat) t v, Try.f3.params[j]? = some t → args[j]? = some v → Value.okWide Try.prog W .any base t v := hval0
  have hW' := hW
  obtain ⟨p, q, hA0, hV, rfl, hfz, hnd⟩ := hW
  have hA : DataW.TrodAll enc Try.prog W 0 (fun _ => true) true Try.f3.params.toList args.toList ds p := hA0
  rw [Try.params3] at hA hval
  obtain ⟨v0, vs0, d0, ds0, p0, q0, hargs, rfl, rfl, h0, r0⟩ := trodAll_cons hA
  obtain ⟨v1, vs1, d1, ds1, p1, q1, rfl, rfl, rfl, h1, r1⟩ := trodAll_cons r0
  obtain ⟨rfl, rfl, rfl⟩ := trodAll_nil r1
  obtain rfl : args = #[v0, v1] := by cases args; simp_all
  obtain ⟨rfl, rfl⟩ := trodVars_none hV
  have k0 := h0
  have lt0 : ∀ x ∈ p0, x.block < W.heap.size := by obtain ⟨m, hm⟩ := k0; exact DataW.trod_lt m _ _ _ hm
  obtain ⟨a0, len0, cap0, rfl⟩ := okWide_slice Try.underlying22 (hval 0 22 v0 rfl rfl)
  obtain ⟨fuel0, hf0⟩ := h0
  obtain ⟨hb0, hc0⟩ := open_bytes hf0
  have k1 := h1
  have lt1 : ∀ x ∈ p1, x.block < W.heap.size := by obtain ⟨m, hm⟩ := k1; exact DataW.trod_lt m _ _ _ hm
  obtain ⟨a1, len1, cap1, rfl⟩ := okWide_slice Try.underlying22 (hval 1 22 v1 rfl rfl)
  obtain ⟨fuel1, hf1⟩ := h1
  obtain ⟨hb1, hc1⟩ := open_bytes hf1
  clear hA0 hval0
  refine (walk a0 len0 cap0 a1 len1 cap1 W hb0 hc0 hb1 hc1).mono fun e W' ⟨he, bel⟩ => ?_
  subst he
  exact ⟨_, rfl, _, _, _, [], _, [], hW', trodAll_mk1 (shut_bool Try.underlying4 _), (trodAll_cons_mk (Below.trod laidOut (by kernel_rfl) (of_decide_eq_true (by kernel_rfl)) k0 bel.below lt0) (trodAll_cons_mk (Below.trod laidOut (by kernel_rfl) (of_decide_eq_true (by kernel_rfl)) k1 bel.below lt1) trodAll_mk0)), rfl, bel.below.frame _, fun h => by cases h⟩

theorem over : Rows.fnChainInRow.holds Try.pinned (OpenSpec.ofChange Rows.fnChainInSpec) :=
  OpenClaim.holds_of_wide 3 Try.f3 rfl rfl rfl rfl rfl rfl rfl ⟨rfl, rfl, rfl, rfl, rfl⟩ rfl rfl rfl rfl rfl (by kernel_rfl) Try.func3 (by kernel_rfl)
    (of_decide_eq_true (by kernel_rfl)) (by unfold Func.isWrapper; first | (rw [if_pos (by decide +kernel)]; kernel_rfl) | (rw [if_neg (by decide +kernel)]; exact ⟨rfl, rfl⟩))
    (fun os started H enc _ => lifted os started H enc)
end Go.Proofs.Ytpoabogjpjbpiaa.FnChainIn
namespace Go.Proofs.Ytpoabogjpjbpiaa
theorem fnChainIn_holds : Rows.FnChainInSaid := FnChainIn.over
#print axioms fnChainIn_holds
end Go.Proofs.Ytpoabogjpjbpiaa
