/-
  FnSureCount returns true at every row of bytes and leaves its argument as it was: what the statement says; no condition.
-/
import Derived.Test.YtibhfiamibccnaaVDraw4
import Derived.Test.YtibhfiamibccnaaVShare
import Derived.Test.YtibhfiamibccnaaNumsV
import Derived.Test.YtibhfiamibccnaaVote3
import Derived.Test.YtibhfiamibccnaaOpen
import Derived.Test.YtibhfiamibccnaaTDraw
import Derived.Test.YtibhfiamibccnaaTreeS
import Derived.Lib.SmallJoins
import Derived.JoinedOf
import Derived.JoinedAt
import Derived.RowKit3
import Derived.Deep.RegionHeldLaw
import Derived.Deep.DeepFit
namespace Go.Proofs.Ytibhfiamibccnaa.FnSureCount
set_option linter.unusedVariables false
open Go.ChangeShapes Go.WideShapes Go.ChangeAt Go.RowKit Go.Joins
attribute [local simp] far_const

theorem sure_pre {l : List Vt} {c : List It} (h : sureF (cnt l) c = true) (k : Nat) : sureF (cnt l) (c.take k) = true := by
  unfold sureF at h ⊢
  rw [List.all_eq_true] at h ⊢
  intro i hi
  simp only [List.mem_range, List.length_take] at hi
  have := h i (by simp; omega)
  rwa [List.take_take, Nat.min_eq_left (by omega)]
theorem goB_take (c : List It) : ∀ (last : Int) (k : Nat), goB last c = true → goB last (c.take k) = true := by
  induction c with
  | nil => intro last k h; simp [goB]
  | cons x r ih =>
    intro last k h
    cases k with
    | zero => simp [goB]
    | succ k =>
      simp only [goB, Bool.and_eq_true, List.take_succ_cons] at h ⊢
      exact ⟨h.1, ih _ k h.2⟩
theorem ok_take {c : List It} (h : okB c = true) (k : Nat) : okB (c.take k) = true := by
  simp only [okB, Bool.and_eq_true, decide_eq_true_eq] at h ⊢
  exact ⟨by simp; omega, goB_take c 0 k h.2⟩
theorem for_cnt {l : List Vt} (h : votesB l = true) (c : List It) : (forL l c).length = cnt l c := by
  unfold forL
  rw [if_pos h]
  exact forN_count l.length l c rfl h
theorem for_len (l : List Vt) (c : List It) : (forL l c).length ≤ 4 := by
  unfold forL; split
  · exact forN_len l c
  · simp
set_option maxRecDepth 20000 in
set_option maxHeartbeats 16000000 in
theorem walk (a : Option Addr) (n cap : Nat) (w : World) (hb : Byt w a w.heap.size n) (hc : n ≤ cap) :
    Calls Try.prog 5 #[.slice a n cap] w fun e w' => e = .returned (.bool true) ∧ Grew w w' := by
  by_cases hn : n ≤ 1048576
  · have hn1 : decide ((1048576 : Int) < (n : Int)) = false := by simp; omega
    go_enter Try.func5, Try.ntmps5
    go_wp2_with fail
    refine (drawTreeSure_any a n cap _ hb hc hn).mono ?_
    rintro e w1 ⟨v, l, b, cb, c, rfl, vl, hl, hlw, ic, hcc, hcb, gg⟩
    have HS := hide (hlw.short (by omega))
    have hxx : c.length ≤ 1048576 := by omega
    have hll : l.length ≤ 1048576 := by omega
    have V1 := hide vl
    have I1 := hide ic
    clear ic vl hlw
    have S0 := hide (show Grew w w1 from gg)
    clear gg
    go_wp2_with fail
    refine (implTreeSure_v _ _ c _ ((unhide V1).grew (Grew.refl _)) (unhide HS) hll ((unhide I1).grew (Grew.refl _)) hxx).mono ?_
    rintro e w2 ⟨rfl, gg⟩
    have S1 := hide (show Grew w1 w2 from gg)
    clear gg
    go_wp2_with fail
    refine (specTreeSure_v _ _ c _ ((unhide V1).grew (unhide S1)) (unhide HS) hll ((unhide I1).grew (unhide S1)) hcb hxx).mono ?_
    rintro e w3 ⟨rfl, gg⟩
    have S2 := hide (show Grew w2 w3 from gg)
    clear gg
    obtain ⟨ok, hok⟩ : ∃ ok, Hid (ok = sureL l c) := ⟨_, hide rfl⟩
    rw [← hok.out]
    have hne : (ok != ok) = false := by cases ok <;> rfl
    have heq : (ok == ok) = true := by cases ok <;> rfl
    go_wp2_with fail
    refine (specVotesOk_v _ ((unhide V1).grew ((unhide S1).trans (unhide S2))) (unhide HS) hll).mono ?_
    rintro e w4 ⟨rfl, gg⟩
    have S3 := hide (show Grew w3 w4 from gg)
    clear gg
    cases hv : votesB l with
    | false =>
      go_wp2_with fail
      refine (specTreeSure_v _ _ c _ ((unhide V1).grew (((unhide S1).trans (unhide S2)).trans (unhide S3))) (unhide HS) hll ((unhide I1).grew (((unhide S1).trans (unhide S2)).trans (unhide S3))) hcb hxx).mono ?_
      rw [← hok.out]
      rintro e w5 ⟨rfl, gg⟩
      have S4 := hide (show Grew w4 w5 from gg)
      clear gg
      go_wp2
      go_ret
      exact ⟨rfl, (((((unhide S0).trans (unhide S1)).trans (unhide S2)).trans (unhide S3)).trans (unhide S4))⟩
    | true =>
      go_wp2_with fail
      refine (specChainOk _ _ c _ ((unhide I1).grew (((unhide S1).trans (unhide S2)).trans (unhide S3))) hxx).mono ?_
      rintro e w5 ⟨rfl, gg⟩
      have S4 := hide (show Grew w4 w5 from gg)
      clear gg
      cases hk : okB c with
      | false =>
        go_wp2_with fail
        refine (specTreeSure_v _ _ c _ ((unhide V1).grew ((((unhide S1).trans (unhide S2)).trans (unhide S3)).trans (unhide S4))) (unhide HS) hll ((unhide I1).grew ((((unhide S1).trans (unhide S2)).trans (unhide S3)).trans (unhide S4))) hcb hxx).mono ?_
        rw [← hok.out]
        rintro e w6 ⟨rfl, gg⟩
        have S5 := hide (show Grew w5 w6 from gg)
        clear gg
        go_wp2
        go_ret
        exact ⟨rfl, ((((((unhide S0).trans (unhide S1)).trans (unhide S2)).trans (unhide S3)).trans (unhide S4)).trans (unhide S5))⟩
      | true =>
        have HE : Hid (ok = sureF (cnt l) c) := hide (by rw [hok.out]; simp [sureL, hv, hk])
        have HF := hide (for_cnt hv)
        have W0 := hide (((((unhide S0).trans (unhide S1)).trans (unhide S2)).trans (unhide S3)).trans (unhide S4))
        have W1 := hide ((((unhide S1).trans (unhide S2)).trans (unhide S3)).trans (unhide S4))
        clear hv hk
        go_wp2_with fail
        go_loopw [6, 7] (fun cn i wr => ∃ (k : Nat) (t : Bool), k ≤ c.length ∧ i = .int .i64 ((k : Int) + 1) ∧ cn = .bool t ∧ Hid (t = (List.range k).all (fun j => decide (3 ≤ cnt l (c.take (j + 1))))) ∧ Grew w5 wr) (fun _ i _ => c.length + 1 - (intOf i).toNat)
        case atStart => exact ⟨0, true, Nat.zero_le _, rfl, rfl, hide rfl, Grew.refl _⟩
        case round =>
          obtain ⟨k, t, hk, rfl, rfl, ht, hg⟩ := hrel
          by_cases hlt : k < c.length
          · have hle : ((k : Int) + 1) ≤ (c.length : Int) := by omega
            have hcut : (k : Int) + 1 ≤ (cb : Int) := by omega
            have hst : (List.range (k + 1)).all (fun j => decide (3 ≤ cnt l (c.take (j + 1)))) = (t && decide (3 ≤ cnt l (c.take (k + 1)))) := by rw [List.range_succ, List.all_append, ← ht.out]; simp
            have HST := hide hst
            clear hst
            cases t with
            | false =>
              go_wp2
              go_roundw
              case rel => exact ⟨k + 1, false, by omega, by go_num, rfl, hide (by rw [HST.out]; rfl), hg⟩
              case measure => simp [intOf]; omega
            | true =>
              have hX := hide (implVotesFor_v (some ⟨b, 0, none⟩) cb (c.take (k + 1)) wr ((unhide V1).grew ((unhide W1).trans hg)) (unhide HS) hll (((unhide I1).grew ((unhide W1).trans hg)).take (k + 1)) (by simp; omega))
              rw [show (c.take (k + 1)).length = k + 1 by simp; omega] at hX
              have e1 : ((k : Int) + 1).toNat = k + 1 := by omega
              go_wp2_with fail
              refine hX.out.mono ?_
              clear hX
              rintro e w7 ⟨u, rfl, o7, g7⟩
              obtain ⟨ua, ucap, rfl, _⟩ := o7.num
              rw [HF.out]
              obtain ⟨N, hN⟩ : ∃ N, Hid (N = cnt l (c.take (k + 1))) := ⟨_, hide rfl⟩
              rw [← hN.out] at HST ⊢
              have hN4 : N ≤ 4 := by rw [hN.out, ← HF.out]; exact for_len _ _
              have hd : decide ((3 : Int) ≤ (N : Int)) = decide (3 ≤ N) := by congr 1; simp; omega
              clear o7
              go_wp2
              go_roundw
              case rel => exact ⟨k + 1, decide (3 ≤ N), by omega, by go_num, by first | rfl | (simp; omega), hide (by rw [HST.out, Bool.true_and]), hg.trans g7⟩
              case measure => simp [intOf]; omega
          · have hkl : k = c.length := by omega
            have hle : (c.length : Int) < (k : Int) + 1 := by omega
            have hd : decide ((k : Int) + 1 ≤ (c.length : Int)) = false := by simp; omega
            have htt : t = ok := by rw [ht.out, HE.out, hkl]; rfl
            clear hkl
            subst htt
            go_wp2
            go_ret
            exact ⟨rfl, (unhide W0).trans hg⟩
  · have hn1 : decide ((1048576 : Int) < (n : Int)) = true := by simp; omega
    clear hn
    go_enter Try.func5, Try.ntmps5
    go_wp2
    go_ret
    exact ⟨rfl, Grew.refl _⟩

set_option maxRecDepth 100000 in
theorem lifted (os : Os) (started : os.Started) (H : Type) (enc : TypeId × Value → H) :
    ReturnsInHanded {} Try.checked os 5 .any (Rows.fnSureCountSpec.pre6 enc Try.prog Try.f5 Rows.fnSureCountRow.domain false) (Rows.fnSureCountSpec.post enc Try.prog Try.f5 false true false false) := by
  refine returnsInHanded_of_change (C := Try.checked) own started (by kernel_rfl) Try.func5
    (ChangeSpec.witness6 (enc := enc) (C := Try.checked) false ⟨#[], #[.slice none 0 0], []⟩ 8 (by kernel_rfl) (by kernel_rfl) (by kernel_rfl) (by kernel_rfl)) ?_
  intro W base args ds gs before hval0 hW hcnd _
  have hval : ∀ (j : Nat) t v, Try.f5.params[j]? = some t → args[j]? = some v → Value.okWide Try.prog W .any base t v := hval0
  have hW' := hW
  obtain ⟨p, q, hA0, hV, rfl, hfz, hnd⟩ := hW
  have hA : DataW.TrodAll enc Try.prog W 0 (fun _ => true) true Try.f5.params.toList args.toList ds p := hA0
  rw [Try.params5] at hA hval
  obtain ⟨v0, vs0, d0, ds0, p0, q0, hargs, rfl, rfl, h0, r0⟩ := trodAll_cons hA
  obtain ⟨rfl, rfl, rfl⟩ := trodAll_nil r0
  obtain rfl : args = #[v0] := by cases args; simp_all
  obtain ⟨rfl, rfl⟩ := trodVars_none hV
  have k0 := h0
  have lt0 : ∀ x ∈ p0, x.block < W.heap.size := by obtain ⟨m, hm⟩ := k0; exact DataW.trod_lt m _ _ _ hm
  obtain ⟨a0, len0, cap0, rfl⟩ := okWide_slice Try.underlying22 (hval 0 22 v0 rfl rfl)
  obtain ⟨fuel0, hf0⟩ := h0
  obtain ⟨hb0, hc0⟩ := open_bytes hf0
  clear hA0 hval0
  refine (walk a0 len0 cap0 W hb0 hc0).mono fun e W' ⟨he, bel⟩ => ?_
  subst he
  exact ⟨_, rfl, _, _, _, [], _, [], hW', trodAll_mk1 (shut_bool Try.underlying4 _), (trodAll_cons_mk (Below.trod laidOut (by kernel_rfl) (of_decide_eq_true (by kernel_rfl)) k0 bel.below lt0) trodAll_mk0), rfl, bel.below.frame _, fun h => by cases h⟩

theorem over : Rows.fnSureCountRow.holds Try.pinned (OpenSpec.ofChange Rows.fnSureCountSpec) :=
  OpenClaim.holds_of_wide 5 Try.f5 rfl rfl rfl rfl rfl rfl rfl ⟨rfl, rfl, rfl, rfl, rfl⟩ rfl rfl rfl rfl rfl (by kernel_rfl) Try.func5 (by kernel_rfl)
    (of_decide_eq_true (by kernel_rfl)) (by unfold Func.isWrapper; first | (rw [if_pos (by decide +kernel)]; kernel_rfl) | (rw [if_neg (by decide +kernel)]; exact ⟨rfl, rfl⟩))
    (fun os started H enc _ => lifted os started H enc)
end Go.Proofs.Ytibhfiamibccnaa.FnSureCount
namespace Go.Proofs.Ytibhfiamibccnaa
theorem fnSureCount_holds : Rows.FnSureCountSaid := FnSureCount.over
#print axioms fnSureCount_holds
end Go.Proofs.Ytibhfiamibccnaa
