/-
  FnSureLess returns true at every two rows of bytes and leaves its arguments as they were: what the statement says; no condition.
-/
import Derived.Test.YtibhfiamibccnaaVDraw4
import Derived.Test.YtibhfiamibccnaaVShare
import Derived.Test.YtibhfiamibccnaaNumsV
import Derived.Test.YtibhfiamibccnaaVote3
import Derived.Test.YtibhfiamibccnaaOpen
import Derived.Test.YtibhfiamibccnaaTDraw
import Derived.Test.YtibhfiamibccnaaTreeS
import Derived.Lib.SmallJoins
import Derived.JoinedOf
import Derived.JoinedAt
import Derived.RowKit3
import Derived.Deep.RegionHeldLaw
import Derived.Deep.DeepFit
namespace Go.Proofs.Ytibhfiamibccnaa.FnSureLess
set_option linter.unusedVariables false
open Go.ChangeShapes Go.WideShapes Go.ChangeAt Go.RowKit Go.Joins
attribute [local simp] far_const

theorem sure_pre {l : List Vt} {c : List It} (h : sureF (cnt l) c = true) (k : Nat) : sureF (cnt l) (c.take k) = true := by
  unfold sureF at h ⊢
  rw [List.all_eq_true] at h ⊢
  intro i hi
  simp only [List.mem_range, List.length_take] at hi
  have := h i (by simp; omega)
  rwa [List.take_take, Nat.min_eq_left (by omega)]
theorem goB_take (c : List It) : ∀ (last : Int) (k : Nat), goB last c = true → goB last (c.take k) = true := by
  induction c with
  | nil => intro last k h; simp [goB]
  | cons x r ih =>
    intro last k h
    cases k with
    | zero => simp [goB]
    | succ k =>
      simp only [goB, Bool.and_eq_true, List.take_succ_cons] at h ⊢
      exact ⟨h.1, ih _ k h.2⟩
theorem ok_take {c : List It} (h : okB c = true) (k : Nat) : okB (c.take k) = true := by
  simp only [okB, Bool.and_eq_true, decide_eq_true_eq] at h ⊢
  exact ⟨by simp; omega, goB_take c 0 k h.2⟩
theorem for_cnt {l : List Vt} (h : votesB l = true) (c : List It) : (forL l c).length = cnt l c := by
  unfold forL
  rw [if_pos h]
  exact forN_count l.length l c rfl h
theorem for_len (l : List Vt) (c : List It) : (forL l c).length ≤ 4 := by
  unfold forL; split
  · exact forN_len l c
  · simp
set_option maxRecDepth 20000 in
set_option maxHeartbeats 16000000 in
theorem walk (a : Option Addr) (n cap : Nat) (a2 : Option Addr) (n2 cap2 : Nat) (w : World) (hb : Byt w a w.heap.size n) (hc : n ≤ cap) (hb2 : Byt w a2 w.heap.size n2) (hc2 : n2 ≤ cap2) :
    Calls Try.prog 3 #[.slice a n cap, .slice a2 n2 cap2] w fun e w' => e = .returned (.bool true) ∧ Grew w w' := by
  by_cases hn : n ≤ 1048576
  · have hn1 : decide ((1048576 : Int) < (n : Int)) = false := by simp; omega
    by_cases hn2 : n2 ≤ 1048576
    · have hn3 : decide ((1048576 : Int) < (n2 : Int)) = false := by simp; omega
      go_enter Try.func3, Try.ntmps3
      go_wp2_with fail
      refine (drawTreeSure_any a n cap _ hb hc hn).mono ?_
      rintro e w1 ⟨v, l, b, cb, c, rfl, vl, hl, hlw, ic, hcc, hcb, gg⟩
      have HS := hide (hlw.short (by omega))
      have hxx : c.length ≤ 1048576 := by omega
      have hll : l.length ≤ 1048576 := by omega
      have V1 := hide vl
      have I1 := hide ic
      clear ic vl hlw
      have S0 := hide (show Grew w w1 from gg)
      clear gg
      go_wp2_with fail
      refine (implTreeSure_v _ _ c _ ((unhide V1).grew (Grew.refl _)) (unhide HS) hll ((unhide I1).grew (Grew.refl _)) hxx).mono ?_
      rintro e w2 ⟨rfl, gg⟩
      have S1 := hide (show Grew w1 w2 from gg)
      clear gg
      go_wp2_with fail
      refine (specTreeSure_v _ _ c _ ((unhide V1).grew (unhide S1)) (unhide HS) hll ((unhide I1).grew (unhide S1)) hcb hxx).mono ?_
      rintro e w3 ⟨rfl, gg⟩
      have S2 := hide (show Grew w2 w3 from gg)
      clear gg
      obtain ⟨ok, hok⟩ : ∃ ok, Hid (ok = sureL l c) := ⟨_, hide rfl⟩
      rw [← hok.out]
      have hne : (ok != ok) = false := by cases ok <;> rfl
      have heq : (ok == ok) = true := by cases ok <;> rfl
      cases hv : ok with
      | false =>
        rw [hv] at hok
        go_wp2_with fail
        refine (specTreeSure_v _ _ c _ ((unhide V1).grew ((unhide S1).trans (unhide S2))) (unhide HS) hll ((unhide I1).grew ((unhide S1).trans (unhide S2))) hcb hxx).mono ?_
        rw [← hok.out]
        rintro e w4 ⟨rfl, gg⟩
        have S3 := hide (show Grew w3 w4 from gg)
        clear gg
        go_wp2
        go_ret
        exact ⟨rfl, ((((unhide S0).trans (unhide S1)).trans (unhide S2)).trans (unhide S3))⟩
      | true =>
        rw [hv] at hok
        have h0 := hok.out.symm
        simp only [sureL, Bool.and_eq_true] at h0
        obtain ⟨hvo, hko, hso⟩ := h0
        obtain ⟨N, hNN⟩ : ∃ N : Nat, Hid (N = n2 % (c.length + 1)) := ⟨_, hide rfl⟩
        have hNl : N ≤ c.length := by rw [hNN.out]; exact Nat.lt_succ_iff.1 (Nat.mod_lt _ (by omega))
        have hrem : ((n2 : Int).tmod ((c.length : Int) + 1)) = (N : Int) := by rw [hNN.out]; rw [Int.tmod_eq_emod_of_nonneg (by omega)]; rfl
        have hT1 : Hid (sureL l (c.take N) = true) := hide (by simp only [sureL, Bool.and_eq_true]; exact ⟨hvo, ok_take hko N, sure_pre hso N⟩)
        have hT2 : Hid (sureL l [] = true) := hide (by simp only [sureL, Bool.and_eq_true]; exact ⟨hvo, rfl, rfl⟩)
        have hcut : (N : Int) ≤ (cb : Int) := by omega
        have e1 : ((N : Int)).toNat = N := by omega
        have hlN : (c.take N).length = N := by simp; omega
        have HLN := hide hlN
        have HF : Hid (0 < N → 3 ≤ (forL l (c.take N)).length) := hide (fun h0 => by
          rw [for_cnt hvo]
          unfold sureF at hso
          rw [List.all_eq_true] at hso
          have := hso (N - 1) (by simp; omega)
          rw [show N - 1 + 1 = N by omega] at this
          exact of_decide_eq_true this)
        clear hvo hko hso hv hlN
        by_cases hN0 : 0 < N
        · have hd0 : decide ((0 : Int) < (N : Int)) = true := by simp; omega
          have hX := hide (implVotesFor_v (some ⟨b, 0, none⟩) cb (c.take N) w3 ((unhide V1).grew ((unhide S1).trans (unhide S2))) (unhide HS) hll (((unhide I1).grew ((unhide S1).trans (unhide S2))).take N) (by rw [HLN.out]; omega))
          rw [HLN.out] at hX
          go_wp2_with fail
          refine hX.out.mono ?_
          clear hX
          rintro e w4 ⟨u, rfl, o7, gg⟩
          obtain ⟨ua, ucap, rfl, _⟩ := o7.num
          obtain ⟨Q, hQ⟩ : ∃ Q, Hid (Q = (forL l (c.take N)).length) := ⟨_, hide rfl⟩
          rw [← hQ.out]
          have hQ3 : 3 ≤ Q := by rw [hQ.out]; exact HF.out hN0
          have hQ4 : Q ≤ 4 := by rw [hQ.out]; exact for_len _ _
          have hdq : decide ((Q : Int) < 3) = false := by simp; omega
          clear o7
          have S3 := hide (show Grew w3 w4 from gg)
          clear gg
          have hX := hide (implTreeSure_v (some ⟨b, 0, none⟩) cb (c.take N) w4 ((unhide V1).grew (((unhide S1).trans (unhide S2)).trans (unhide S3))) (unhide HS) hll (((unhide I1).grew (((unhide S1).trans (unhide S2)).trans (unhide S3))).take N) (by rw [HLN.out]; omega))
          rw [HLN.out, hT1.out] at hX
          go_wp2_with fail
          refine hX.out.mono ?_
          clear hX
          rintro e w5 ⟨rfl, gg⟩
          have S4 := hide (show Grew w4 w5 from gg)
          clear gg
          go_wp2_with fail
          refine (implTreeSure_v none 0 [] _ ((unhide V1).grew ((((unhide S1).trans (unhide S2)).trans (unhide S3)).trans (unhide S4))) (unhide HS) hll (.inl rfl) (by simp)).mono ?_
          rw [hT2.out]
          rintro e w6 ⟨rfl, gg⟩
          have S5 := hide (show Grew w5 w6 from gg)
          clear gg
          go_wp2
          go_ret
          exact ⟨rfl, ((((((unhide S0).trans (unhide S1)).trans (unhide S2)).trans (unhide S3)).trans (unhide S4)).trans (unhide S5))⟩
        · have hd0 : decide ((0 : Int) < (N : Int)) = false := by simp; omega
          have hX := hide (implTreeSure_v (some ⟨b, 0, none⟩) cb (c.take N) w3 ((unhide V1).grew ((unhide S1).trans (unhide S2))) (unhide HS) hll (((unhide I1).grew ((unhide S1).trans (unhide S2))).take N) (by rw [HLN.out]; omega))
          rw [HLN.out, hT1.out] at hX
          go_wp2_with fail
          refine hX.out.mono ?_
          clear hX
          rintro e w4 ⟨rfl, gg⟩
          have S3 := hide (show Grew w3 w4 from gg)
          clear gg
          go_wp2_with fail
          refine (implTreeSure_v none 0 [] _ ((unhide V1).grew (((unhide S1).trans (unhide S2)).trans (unhide S3))) (unhide HS) hll (.inl rfl) (by simp)).mono ?_
          rw [hT2.out]
          rintro e w5 ⟨rfl, gg⟩
          have S4 := hide (show Grew w4 w5 from gg)
          clear gg
          go_wp2
          go_ret
          exact ⟨rfl, (((((unhide S0).trans (unhide S1)).trans (unhide S2)).trans (unhide S3)).trans (unhide S4))⟩
    · have hn3 : decide ((1048576 : Int) < (n2 : Int)) = true := by simp; omega
      clear hn2
      go_enter Try.func3, Try.ntmps3
      go_wp2
      go_ret
      exact ⟨rfl, Grew.refl _⟩
  · have hn1 : decide ((1048576 : Int) < (n : Int)) = true := by simp; omega
    clear hn
    go_enter Try.func3, Try.ntmps3
    go_wp2
    go_ret
    exact ⟨rfl, Grew.refl _⟩

set_option maxRecDepth 100000 in
theorem lifted (os : Os) (started : os.Started) (H : Type) (enc : TypeId × Value → H) :
    ReturnsInHanded {} Try.checked os 3 .any (Rows.fnSureLessSpec.pre6 enc Try.prog Try.f3 Rows.fnSureLessRow.domain false) (Rows.fnSureLessSpec.post enc Try.prog Try.f3 false true false false) := by
  refine returnsInHanded_of_change (C := Try.checked) own started (by kernel_rfl) Try.func3
    (ChangeSpec.witness6 (enc := enc) (C := Try.checked) false ⟨#[], #[.slice none 0 0, .slice none 0 0], []⟩ 8 (by kernel_rfl) (by kernel_rfl) (by kernel_rfl) (by kernel_rfl)) ?_
  intro W base args ds gs before hval0 hW hcnd _
  have hval : ∀ (j : Nat) t v, Try.f3.params[j]? = some t → args[j]? = some v → Value.okWide Try.prog W .any base t v := hval0
  have hW' := hW
  obtain ⟨p, q, hA0, hV, rfl, hfz, hnd⟩ := hW
  have hA : DataW.TrodAll enc Try.prog W 0 (fun _ => true) true Try.f3.params.toList args.toList ds p := hA0
  rw [Try.params3] at hA hval
  obtain ⟨v0, vs0, d0, ds0, p0, q0, hargs, rfl, rfl, h0, r0⟩ := trodAll_cons hA
  obtain ⟨v1, vs1, d1, ds1, p1, q1, rfl, rfl, rfl, h1, r1⟩ := trodAll_cons r0
  obtain ⟨rfl, rfl, rfl⟩ := trodAll_nil r1
  obtain rfl : args = #[v0, v1] := by cases args; simp_all
  obtain ⟨rfl, rfl⟩ := trodVars_none hV
  have k0 := h0
  have lt0 : ∀ x ∈ p0, x.block < W.heap.size := by obtain ⟨m, hm⟩ := k0; exact DataW.trod_lt m _ _ _ hm
  obtain ⟨a0, len0, cap0, rfl⟩ := okWide_slice Try.underlying22 (hval 0 22 v0 rfl rfl)
  obtain ⟨fuel0, hf0⟩ := h0
  obtain ⟨hb0, hc0⟩ := open_bytes hf0
  have k1 := h1
  have lt1 : ∀ x ∈ p1, x.block < W.heap.size := by obtain ⟨m, hm⟩ := k1; exact DataW.trod_lt m _ _ _ hm
  obtain ⟨a1, len1, cap1, rfl⟩ := okWide_slice Try.underlying22 (hval 1 22 v1 rfl rfl)
  obtain ⟨fuel1, hf1⟩ := h1
  obtain ⟨hb1, hc1⟩ := open_bytes hf1
  clear hA0 hval0
  refine (walk a0 len0 cap0 a1 len1 cap1 W hb0 hc0 hb1 hc1).mono fun e W' ⟨he, bel⟩ => ?_
  subst he
  exact ⟨_, rfl, _, _, _, [], _, [], hW', trodAll_mk1 (shut_bool Try.underlying4 _), (trodAll_cons_mk (Below.trod laidOut (by kernel_rfl) (of_decide_eq_true (by kernel_rfl)) k0 bel.below lt0) (trodAll_cons_mk (Below.trod laidOut (by kernel_rfl) (of_decide_eq_true (by kernel_rfl)) k1 bel.below lt1) trodAll_mk0)), rfl, bel.below.frame _, fun h => by cases h⟩

theorem over : Rows.fnSureLessRow.holds Try.pinned (OpenSpec.ofChange Rows.fnSureLessSpec) :=
  OpenClaim.holds_of_wide 3 Try.f3 rfl rfl rfl rfl rfl rfl rfl ⟨rfl, rfl, rfl, rfl, rfl⟩ rfl rfl rfl rfl rfl (by kernel_rfl) Try.func3 (by kernel_rfl)
    (of_decide_eq_true (by kernel_rfl)) (by unfold Func.isWrapper; first | (rw [if_pos (by decide +kernel)]; kernel_rfl) | (rw [if_neg (by decide +kernel)]; exact ⟨rfl, rfl⟩))
    (fun os started H enc _ => lifted os started H enc)
end Go.Proofs.Ytibhfiamibccnaa.FnSureLess
namespace Go.Proofs.Ytibhfiamibccnaa
theorem fnSureLess_holds : Rows.FnSureLessSaid := FnSureLess.over
#print axioms fnSureLess_holds
end Go.Proofs.Ytibhfiamibccnaa
