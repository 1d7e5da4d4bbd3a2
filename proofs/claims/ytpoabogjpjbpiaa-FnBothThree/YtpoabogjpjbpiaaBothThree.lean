/-
  FnBothThree returns true at every two rows of bytes and leaves its arguments as they were: what the statement says; no condition.
-/
import Derived.Test.YtpoabogjpjbpiaaBytes
import Derived.Test.YtpoabogjpjbpiaaBoth3
namespace Go.Proofs.Ytpoabogjpjbpiaa.FnBothThree
set_option linter.unusedVariables false
open Go.ChangeShapes Go.WideShapes Go.ChangeAt Go.RowKit

set_option maxHeartbeats 8000000 in
theorem walk (a : Option Addr) (n cap : Nat) (b : Option Addr) (m capb : Nat) (w : World) (hb : Byt w a w.heap.size n) (hc : n ≤ cap) (hb2 : Byt w b w.heap.size m) (hc2 : m ≤ capb) :
    Calls Try.prog 6 #[.slice a n cap, .slice b m capb] w fun e w' => e = .returned (.bool true) ∧ Grew w w' := by
  by_cases hn : n ≤ 1048576
  · have hn1 : decide ((1048576 : Int) < (n : Int)) = false := by simp; omega
    by_cases hm : m ≤ 1048576
    · have hm1 : decide ((1048576 : Int) < (m : Int)) = false := by simp; omega
      go_enter Try.func6, Try.ntmps6
      go_wp2_with fail
      refine (drawChainBoth_any a n cap _ hb hc hn).mono ?_
      rintro e w1 ⟨ga, ca, la, gb, cb, lb, rfl, ia, ib, h1, h2, h3, h4, g1⟩
      go_wp2_with fail
      refine (implBoth _ _ _ _ la lb _ ia ib (by omega) (by omega)).mono ?_
      rintro e w2 ⟨x, cx, rfl, ic, g2, _⟩
      go_wp2_with fail
      refine (specBoth _ _ _ _ la lb _ (ia.grew g2) (ib.grew g2) (by omega) (by omega) h3).mono ?_
      rintro e w3 ⟨gs, cs, rfl, is, g3, _⟩
      have hlc := (bothC_len la lb).1
      obtain ⟨lc, hlcc⟩ : ∃ lc, lc = bothC la lb := ⟨_, rfl⟩
      rw [← hlcc] at ic is hlc ⊢
      have HC := hide hlcc
      clear hlcc
      have ic3 := ic.grew g3
      go_wp2_with fail
      refine (lwSame_any _ _ _ _ lc lc _ ic3 is (by omega) (by omega)).mono ?_
      rintro e w4 ⟨rfl, g4⟩
      rw [(sameB_iff lc lc).2 rfl]
      have ia4 := ia.grew ((g2.trans g3).trans g4)
      have ib4 := ib.grew ((g2.trans g3).trans g4)
      have ic4 := ic3.grew g4
      have G4 := ((g1.trans g2).trans g3).trans g4
      clear ia ib ic ic3 is
      go_wp2_with fail
      refine (specChainOk _ _ la _ ia4 (by omega)).mono ?_
      rintro e w5 ⟨rfl, g5⟩
      cases hoka : okB la with
      | false =>
        go_wp2_with fail
        refine (specBoth _ _ _ _ la lb _ (ia4.grew g5) (ib4.grew g5) (by omega) (by omega) h3).mono ?_
        rintro e w6 ⟨gt, ct, rfl, is, g6, _⟩
        rw [← unhide HC] at is ⊢
        go_wp2_with fail
        refine (lwSame_any _ _ _ _ lc lc _ (ic4.grew (g5.trans g6)) is (by omega) (by omega)).mono ?_
        rintro e w7 ⟨rfl, g7⟩
        rw [(sameB_iff lc lc).2 rfl]
        go_wp2
        go_ret
        exact ⟨rfl, ((G4.trans g5).trans g6).trans g7⟩
      | true =>
        go_wp2_with fail
        refine (specChainOk _ _ lb _ (ib4.grew g5) (by omega)).mono ?_
        rintro e w6 ⟨rfl, g6⟩
        have ia6 := ia4.grew (g5.trans g6)
        have ib6 := ib4.grew (g5.trans g6)
        have ic6 := ic4.grew (g5.trans g6)
        have G6 := (G4.trans g5).trans g6
        clear ia4 ib4 ic4
        cases hokb : okB lb with
        | false =>
          go_wp2_with fail
          refine (specBoth _ _ _ _ la lb _ ia6 ib6 (by omega) (by omega) h3).mono ?_
          rintro e w7 ⟨gt, ct, rfl, is, g7, _⟩
          rw [← unhide HC] at is ⊢
          go_wp2_with fail
          refine (lwSame_any _ _ _ _ lc lc _ (ic6.grew g7) is (by omega) (by omega)).mono ?_
          rintro e w8 ⟨rfl, g8⟩
          rw [(sameB_iff lc lc).2 rfl]
          go_wp2
          go_ret
          exact ⟨rfl, (G6.trans g7).trans g8⟩
        | true =>
          obtain ⟨K, hK⟩ : ∃ K : Nat, K = m % (la.length + 1) := ⟨_, rfl⟩
          have hKle : K ≤ la.length := by have := Nat.mod_lt m (show 0 < la.length + 1 by omega); omega
          have hKi : (m : Int) % ((la.length : Int) + 1) = (K : Int) := by rw [hK]; simp
          have hKc : K ≤ ca := by omega
          obtain ⟨ld, hld⟩ : ∃ ld, ld = la.take K := ⟨_, rfl⟩
          have hldl : ld.length = K := by rw [hld, List.length_take]; omega
          have hokd : okB ld = true := by rw [hld]; exact okB_take hoka K
          have id6 : Its w6 (some ⟨ga, 0, none⟩) ld := by rw [hld]; exact ia6.take K
          have th := three hoka hokb hokd
          rw [← unhide HC] at th
          have T := hide th
          have HD := hide hldl
          clear th hldl hld hK
          go_wp2_with fail
          refine (implBoth_n _ _ _ _ lc ld _ ic6 id6 _ K rfl (unhide HD) (by omega) (by omega)).mono ?_
          rintro e w7 ⟨y, cy, rfl, iy, g7, _⟩
          have hly := (bothC_len lc ld).1
          obtain ⟨ly, hlyy⟩ : ∃ ly, ly = bothC lc ld := ⟨_, rfl⟩
          rw [← hlyy] at iy hly ⊢
          have HY := hide hlyy
          clear hlyy
          go_wp2_with fail
          refine (implBoth_n _ _ _ _ ld la _ (id6.grew g7) (ia6.grew g7) K _ (unhide HD) rfl (by omega) (by omega)).mono ?_
          rintro e w8 ⟨z, cz, rfl, iz, g8, _⟩
          have hlz := (bothC_len ld la).2
          have g78 := g7.trans g8
          go_wp2_with fail
          refine (implBoth _ _ _ _ (bothC ld la) lb _ iz (ib6.grew g78) (by omega) (by omega)).mono ?_
          rintro e w9 ⟨u, cu, rfl, iu, g9, _⟩
          rw [← (unhide T).1, ← unhide HY] at iu ⊢
          go_wp2_with fail
          refine (lwSame_any _ _ _ _ ly ly _ (iy.grew (g8.trans g9)) iu (by omega) (by omega)).mono ?_
          rintro e w10 ⟨rfl, g10⟩
          rw [(sameB_iff ly ly).2 rfl]
          have g610 := (g78.trans g9).trans g10
          go_wp2_with fail
          refine (implBoth_n _ _ _ _ ld lb _ (id6.grew g610) (ib6.grew g610) K _ (unhide HD) rfl (by omega) (by omega)).mono ?_
          rintro e w11 ⟨z2, cz2, rfl, iz2, g11, _⟩
          have hlz2 := (bothC_len ld lb).2
          have g611 := g610.trans g11
          go_wp2_with fail
          refine (implBoth _ _ _ _ (bothC ld lb) la _ iz2 (ia6.grew g611) (by omega) (by omega)).mono ?_
          rintro e w12 ⟨u2, cu2, rfl, iu2, g12, _⟩
          rw [← (unhide T).2.1, ← unhide HY] at iu2 ⊢
          go_wp2_with fail
          refine (lwSame_any _ _ _ _ ly ly _ (iy.grew ((((g8.trans g9).trans g10).trans g11).trans g12)) iu2 (by omega) (by omega)).mono ?_
          rintro e w13 ⟨rfl, g13⟩
          rw [(sameB_iff ly ly).2 rfl]
          have g613 := (g611.trans g12).trans g13
          go_wp2_with fail
          refine (implBoth _ _ _ _ la la _ (ia6.grew g613) (ia6.grew g613) (by omega) (by omega)).mono ?_
          rintro e w14 ⟨u3, cu3, rfl, iu3, g14, _⟩
          rw [(unhide T).2.2] at iu3 ⊢
          go_wp2_with fail
          refine (lwSame_any _ _ _ _ la la _ iu3 (ia6.grew (g613.trans g14)) (by omega) (by omega)).mono ?_
          rintro e w15 ⟨rfl, g15⟩
          rw [(sameB_iff la la).2 rfl]
          go_wp2
          go_ret
          exact ⟨rfl, ((G6.trans g613).trans g14).trans g15⟩
    · have hm1 : decide ((1048576 : Int) < (m : Int)) = true := by simp; omega
      go_enter Try.func6, Try.ntmps6
      go_wp2
      go_ret
      exact ⟨rfl, Grew.refl _⟩
  · have hn1 : decide ((1048576 : Int) < (n : Int)) = true := by simp; omega
    go_enter Try.func6, Try.ntmps6
    go_wp2
    go_ret
    exact ⟨rfl, Grew.refl _⟩

set_option maxRecDepth 100000 in
theorem lifted (os : Os) (started : os.Started) (H : Type) (enc : TypeId × Value → H) :
    ReturnsInHanded {} Try.checked os 6 .any (Rows.fnBothThreeSpec.pre6 enc Try.prog Try.f6 Rows.fnBothThreeRow.domain false) (Rows.fnBothThreeSpec.post enc Try.prog Try.f6 false true false false) := by
  refine returnsInHanded_of_change (C := Try.checked) own started (by kernel_rfl) Try.func6
    (ChangeSpec.witness6 (enc := enc) (C := Try.checked) false ⟨#[], #[.slice none 0 0, .slice none 0 0], []⟩ 8 (by kernel_rfl) (by kernel_rfl) (by kernel_rfl) (by kernel_rfl)) ?_
  intro W base args ds gs before hval0 hW hcnd _
  have hval : ∀ (j : Nat) t v, Try.f6.params[j]? = some t → args[j]? = some v → Value.okWide Try.prog W .any base t v := hval0
  have hW' := hW
  obtain ⟨p, q, hA0, hV, rfl, hfz, hnd⟩ := hW
  have hA : DataW.TrodAll enc Try.prog W 0 (fun _ => true) true Try.f6.params.toList args.toList ds p := hA0
  rw [Try.params6] at hA hval
  obtain ⟨v0, vs0, d0, ds0, p0, q0, hargs, rfl, rfl, h0, r0⟩ := trodAll_cons hA
  obtain ⟨v1, vs1, d1, ds1, p1, q1, rfl, rfl, rfl, h1, r1⟩ := trodAll_cons r0
  obtain ⟨rfl, rfl, rfl⟩ := trodAll_nil r1
  obtain rfl : args = #[v0, v1] := by cases args; simp_all
  obtain ⟨rfl, rfl⟩ := trodVars_none hV
  have k0 := h0
  have lt0 : ∀ x ∈ p0, x.block < W.heap.size := by obtain ⟨m, hm⟩ := k0; exact DataW.trod_lt m _ _ _ hm
  obtain ⟨a0, len0, cap0, rfl⟩ := okWide_slice Try.underlying22 (hval 0 22 v0 rfl rfl)
  obtain ⟨fuel0, hf0⟩ := h0
  obtain ⟨hb0, hc0⟩ := open_bytes hf0
  have k1 := h1
  have lt1 : ∀ x ∈ p1, x.block < W.heap.size := by obtain ⟨m, hm⟩ := k1; exact DataW.trod_lt m _ _ _ hm
  obtain ⟨a1, len1, cap1, rfl⟩ := okWide_slice Try.underlying22 (hval 1 22 v1 rfl rfl)
  obtain ⟨fuel1, hf1⟩ := h1
  obtain ⟨hb1, hc1⟩ := open_bytes hf1
  clear hA0 hval0
  refine (walk a0 len0 cap0 a1 len1 cap1 W hb0 hc0 hb1 hc1).mono fun e W' ⟨he, bel⟩ => ?_
  subst he
  exact ⟨_, rfl, _, _, _, [], _, [], hW', trodAll_mk1 (shut_bool Try.underlying4 _), (trodAll_cons_mk (Below.trod laidOut (by kernel_rfl) (of_decide_eq_true (by kernel_rfl)) k0 bel.below lt0) (trodAll_cons_mk (Below.trod laidOut (by kernel_rfl) (of_decide_eq_true (by kernel_rfl)) k1 bel.below lt1) trodAll_mk0)), rfl, bel.below.frame _, fun h => by cases h⟩

theorem over : Rows.fnBothThreeRow.holds Try.pinned (OpenSpec.ofChange Rows.fnBothThreeSpec) :=
  OpenClaim.holds_of_wide 6 Try.f6 rfl rfl rfl rfl rfl rfl rfl ⟨rfl, rfl, rfl, rfl, rfl⟩ rfl rfl rfl rfl rfl (by kernel_rfl) Try.func6 (by kernel_rfl)
    (of_decide_eq_true (by kernel_rfl)) (by unfold Func.isWrapper; first | (rw [if_pos (by decide +kernel)]; kernel_rfl) | (rw [if_neg (by decide +kernel)]; exact ⟨rfl, rfl⟩))
    (fun os started H enc _ => lifted os started H enc)
end Go.Proofs.Ytpoabogjpjbpiaa.FnBothThree
namespace Go.Proofs.Ytpoabogjpjbpiaa
theorem fnBothThree_holds : Rows.FnBothThreeSaid := FnBothThree.over
#print axioms fnBothThree_holds
end Go.Proofs.Ytpoabogjpjbpiaa
