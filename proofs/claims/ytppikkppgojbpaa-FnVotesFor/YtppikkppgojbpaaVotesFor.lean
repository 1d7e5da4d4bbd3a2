/-
  FnVotesFor returns true at every row of bytes and leaves its argument as it was: what the statement says; no condition.
-/
import Derived.Test.YtppikkppgojbpaaVDraw4
import Derived.Test.YtppikkppgojbpaaVShare
import Derived.Test.YtppikkppgojbpaaNumsV
import Derived.Test.YtppikkppgojbpaaVote3
import Derived.Test.YtppikkppgojbpaaOpen
import Derived.Lib.SmallJoins
import Derived.JoinedOf
import Derived.JoinedAt
import Derived.RowKit3
import Derived.Deep.RegionHeldLaw
import Derived.Deep.DeepFit
namespace Go.Proofs.Ytppikkppgojbpaa.FnVotesFor
set_option linter.unusedVariables false
open Go.ChangeShapes Go.WideShapes Go.ChangeAt Go.RowKit Go.Joins
attribute [local simp] far_const

theorem forUp_more (l : List Vt) (c : List It) (q : Nat) : ∀ m, ∃ r, forUp l c (q + m) = forUp l c q ++ r
  | 0 => ⟨[], by simp⟩
  | m + 1 => by
    obtain ⟨r, hr⟩ := forUp_more l c q m
    cases h : hasB l ⟨((q + m : Nat) : Int) + 1, c⟩ with
    | true => exact ⟨r ++ [((q + m : Nat) : Int) + 1], by rw [← Nat.add_assoc, forUp_in h, hr, List.append_assoc]⟩
    | false => exact ⟨r, by rw [← Nat.add_assoc, forUp_out h, hr]⟩
theorem forUp_get {l : List Vt} {c : List It} {q : Nat} (hq : q < 4) (h : hasB l ⟨(q : Int) + 1, c⟩ = true) : ∃ hk : (forUp l c q).length < (forUp l c 4).length, (forUp l c 4)[(forUp l c q).length] = (q : Int) + 1 := by
  obtain ⟨r, hr⟩ := forUp_more l c (q + 1) (3 - q)
  rw [show q + 1 + (3 - q) = 4 by omega, forUp_in h] at hr
  refine ⟨by rw [hr]; simp, ?_⟩
  simp [hr]

set_option maxRecDepth 20000 in
set_option maxHeartbeats 16000000 in
theorem walk (a : Option Addr) (n cap : Nat) (w : World) (hb : Byt w a w.heap.size n) (hc : n ≤ cap) :
    Calls Try.prog 6 #[.slice a n cap] w fun e w' => e = .returned (.bool true) ∧ Grew w w' := by
  by_cases hn : n ≤ 1048576
  · have hn1 : decide ((1048576 : Int) < (n : Int)) = false := by simp; omega
    go_enter Try.func6, Try.ntmps6
    go_wp2_with fail
    refine (drawVotesFor_any a n cap _ hb hc hn).mono ?_
    rintro e w1 ⟨v, l, b, cb, c, rfl, vl, hl, hlw, ic, hcc, gg⟩
    have V1 := hide vl
    have I1 := hide ic
    have HS := hide (hlw.short (by omega))
    have hxx : c.length ≤ 1048576 := by omega
    have hll : l.length ≤ 1048576 := by omega
    have S0 := hide (show Grew w w1 from gg)
    clear gg ic vl hlw
    obtain ⟨L, hL⟩ : ∃ L, forL l c = L := ⟨_, rfl⟩
    have hLn : L.length ≤ 4 := by rw [← hL]; unfold forL; split; exact forN_len l c; simp
    have HL := hide hL
    clear hL
    go_wp2_with fail
    refine (implVotesFor_v _ _ c _ ((unhide V1).grew (Grew.refl _)) (unhide HS) hll ((unhide I1).grew (Grew.refl _)) hxx).mono ?_
    rintro e w2 ⟨u2, rfl, o2, gg⟩
    have S1 := hide (show Grew w1 w2 from gg)
    rw [unhide HL] at o2
    have N2 := hide o2.num
    clear gg o2
    go_wp2_with fail
    refine (specVotesFor_v _ _ c _ ((unhide V1).grew (unhide S1)) (unhide HS) hll ((unhide I1).grew (unhide S1)) hxx).mono ?_
    rintro e w3 ⟨u3, rfl, o3, gg⟩
    have S2 := hide (show Grew w2 w3 from gg)
    rw [unhide HL] at o3
    have N3 := hide o3.num
    clear gg o3
    go_wp2_with fail
    refine (lwInts_v _ ((unhide N2).grew (unhide S2)) ((unhide N3).grew (Grew.refl _)) (by omega) (by omega)).mono ?_
    rintro e w4 ⟨rfl, gg⟩
    have S3 := hide (show Grew w3 w4 from gg)
    rw [decide_eq_true rfl]
    clear gg
    go_wp2_with fail
    refine (specVotesOk_v _ ((unhide V1).grew (((unhide S1).trans (unhide S2)).trans (unhide S3))) (unhide HS) hll).mono ?_
    rintro e w5 ⟨rfl, gg⟩
    have S4 := hide (show Grew w4 w5 from gg)
    clear gg
    cases hv : votesB l with
    | false =>
      go_wp2_with fail
      refine (specVotesFor_v _ _ c _ ((unhide V1).grew ((((unhide S1).trans (unhide S2)).trans (unhide S3)).trans (unhide S4))) (unhide HS) hll ((unhide I1).grew ((((unhide S1).trans (unhide S2)).trans (unhide S3)).trans (unhide S4))) hxx).mono ?_
      rintro e w6 ⟨u6, rfl, o6, gg⟩
      have S5 := hide (show Grew w5 w6 from gg)
      rw [unhide HL] at o6
      have N6 := hide o6.num
      clear gg o6
      go_wp2_with fail
      refine (lwInts_v _ ((unhide N2).grew ((((unhide S2).trans (unhide S3)).trans (unhide S4)).trans (unhide S5))) (unhide N6) (by omega) (by omega)).mono ?_
      rintro e w7 ⟨rfl, gg⟩
      have S6 := hide (show Grew w6 w7 from gg)
      rw [decide_eq_true rfl]
      clear gg
      go_wp2
      go_ret
      exact ⟨rfl, (((((((unhide S0).trans (unhide S1)).trans (unhide S2)).trans (unhide S3)).trans (unhide S4)).trans (unhide S5)).trans (unhide S6))⟩
    | true =>
      have hF : Hid (L = forUp l c 4) := by show L = forUp l c 4; rw [← unhide HL]; unfold forL; rw [hv]; rfl
      have hR : Hid (forL l.reverse c = L) := by show forL l.reverse c = L; rw [← unhide HL]; exact forL_perm (List.reverse_perm l) c
      have HSR : Hid (Short l.reverse) := fun x hx => unhide HS x (List.mem_reverse.1 hx)
      have hlr : l.reverse.length ≤ 1048576 := by simp; omega
      have W0 := hide (((((unhide S0).trans (unhide S1)).trans (unhide S2)).trans (unhide S3)).trans (unhide S4))
      have W1 := hide ((((unhide S1).trans (unhide S2)).trans (unhide S3)).trans (unhide S4))
      have W2 := hide (((unhide S2).trans (unhide S3)).trans (unhide S4))
      obtain ⟨ab, capb, hub, ib⟩ := unhide N2
      subst hub
      have IB := hide ib
      clear ib
      go_wp2_with fail
      go_loopw [6, 7] (fun kk id wr => ∃ q : Nat, q ≤ 4 ∧ id = .int .i64 ((q : Int) + 1) ∧ kk = .int .i64 (forUp l c q).length ∧ Grew w5 wr) (fun _ id _ => 5 - (intOf id).toNat)
      case atStart => exact ⟨0, by omega, rfl, rfl, Grew.refl _⟩
      case round =>
        obtain ⟨q, hq, rfl, rfl, hg⟩ := hrel
        by_cases hq4 : q < 4
        · have hq4' : (q : Int) + 1 ≤ 4 := by omega
          go_wp2_with fail
          refine (lwHas_v ⟨(q : Int) + 1, c⟩ _ _ ((unhide V1).grew ((unhide W1).trans hg)) ⟨_, _, rfl, (unhide I1).grew ((unhide W1).trans hg)⟩ (unhide HS) hxx hll).mono ?_
          rintro e w7 ⟨rfl, g7⟩
          have hg7 := hg.trans g7
          cases hh : hasB l ⟨(q : Int) + 1, c⟩ with
          | true =>
            obtain ⟨hk4, hkv⟩ := forUp_get hq4 hh
            have hin := hide (forUp_in hh)
            rw [← unhide hF] at hk4
            have hkv' : L[(forUp l c q).length] = (q : Int) + 1 := by
              have := hkv
              simp only [← unhide hF] at this
              exact this
            obtain ⟨bb, off, hab, hcell⟩ := ((unhide IB).grew ((unhide W2).trans hg7)).at hk4
            subst hab
            rw [hkv'] at hcell
            have hge : ¬ (L.length : Int) ≤ ((forUp l c q).length : Int) := by omega
            have hge' : decide ((L.length : Int) ≤ ((forUp l c q).length : Int)) = false := by simpa using hge
            have hlt' : ((forUp l c q).length : Int) < (L.length : Int) := by omega
            have hneq : ((q : Int) + 1 != (q : Int) + 1) = false := by simp
            have hln := forUp_len l c q
            have hnx : Hid (((forUp l c q).length : Int) + 1 = ((forUp l c (q + 1)).length : Int)) := by
              show ((forUp l c q).length : Int) + 1 = ((forUp l c (q + 1)).length : Int)
              rw [unhide hin]; simp
            clear hkv hkv' hk4
            go_wp2
            go_roundw
            case rel => exact ⟨q + 1, by omega, by go_num, by rw [hnx.out], hg7⟩
            case measure => simp [intOf]; omega
          | false =>
            have hout := hide (forUp_out hh)
            go_wp2
            go_roundw
            case rel => exact ⟨q + 1, by omega, by go_num, by rw [unhide hout], hg7⟩
            case measure => simp [intOf]; omega
        · have hq5 : q = 4 := by omega
          subst hq5
          have hkl : (((forUp l c 4).length : Int) == (L.length : Int)) = true := by rw [← unhide hF]; simp
          go_wp2_with fail
          refine (lwBack_v _ ((unhide V1).grew ((unhide W1).trans hg)) hll).mono ?_
          rintro e w7 ⟨u7, rfl, v7, g7⟩
          have V7 := hide v7
          have hg7 := hg.trans g7
          clear v7 g7
          go_wp2_with fail
          refine (implVotesFor_v _ _ c _ (unhide V7) (unhide HSR) hlr ((unhide I1).grew ((unhide W1).trans hg7)) hxx).mono ?_
          rintro e w8 ⟨u8, rfl, o8, g8⟩
          rw [unhide hR] at o8
          have N8 := hide o8.num
          have hg8 := hg7.trans g8
          clear o8 g8
          go_wp2_with fail
          refine (lwInts_v _ (unhide N8) ((unhide N2).grew ((unhide W2).trans hg8)) (by omega) (by omega)).mono ?_
          rintro e w9 ⟨rfl, g9⟩
          rw [decide_eq_true rfl]
          have hg9 := hg8.trans g9
          go_wp2
          go_ret
          exact ⟨rfl, (unhide W0).trans hg9⟩
  · have hn1 : decide ((1048576 : Int) < (n : Int)) = true := by simp; omega
    clear hn
    go_enter Try.func6, Try.ntmps6
    go_wp2
    go_ret
    exact ⟨rfl, Grew.refl _⟩

set_option maxRecDepth 100000 in
theorem lifted (os : Os) (started : os.Started) (H : Type) (enc : TypeId × Value → H) :
    ReturnsInHanded {} Try.checked os 6 .any (Rows.fnVotesForSpec.pre6 enc Try.prog Try.f6 Rows.fnVotesForRow.domain false) (Rows.fnVotesForSpec.post enc Try.prog Try.f6 false true false false) := by
  refine returnsInHanded_of_change (C := Try.checked) own started (by kernel_rfl) Try.func6
    (ChangeSpec.witness6 (enc := enc) (C := Try.checked) false ⟨#[], #[.slice none 0 0], []⟩ 8 (by kernel_rfl) (by kernel_rfl) (by kernel_rfl) (by kernel_rfl)) ?_
  intro W base args ds gs before hval0 hW hcnd _
  have hval : ∀ (j : Nat) t v, Try.f6.params[j]? = some t → args[j]? = some v → Value.okWide Try.prog W .any base t v := hval0
  have hW' := hW
  obtain ⟨p, q, hA0, hV, rfl, hfz, hnd⟩ := hW
  have hA : DataW.TrodAll enc Try.prog W 0 (fun _ => true) true Try.f6.params.toList args.toList ds p := hA0
  rw [Try.params6] at hA hval
  obtain ⟨v0, vs0, d0, ds0, p0, q0, hargs, rfl, rfl, h0, r0⟩ := trodAll_cons hA
  obtain ⟨rfl, rfl, rfl⟩ := trodAll_nil r0
  obtain rfl : args = #[v0] := by cases args; simp_all
  obtain ⟨rfl, rfl⟩ := trodVars_none hV
  have k0 := h0
  have lt0 : ∀ x ∈ p0, x.block < W.heap.size := by obtain ⟨m, hm⟩ := k0; exact DataW.trod_lt m _ _ _ hm
  obtain ⟨a0, len0, cap0, rfl⟩ := okWide_slice Try.underlying22 (hval 0 22 v0 rfl rfl)
  obtain ⟨fuel0, hf0⟩ := h0
  obtain ⟨hb0, hc0⟩ := open_bytes hf0
  clear hA0 hval0
  refine (walk a0 len0 cap0 W hb0 hc0).mono fun e W' ⟨he, bel⟩ => ?_
  subst he
  exact ⟨_, rfl, _, _, _, [], _, [], hW', trodAll_mk1 (shut_bool Try.underlying4 _), (trodAll_cons_mk (Below.trod laidOut (by kernel_rfl) (of_decide_eq_true (by kernel_rfl)) k0 bel.below lt0) trodAll_mk0), rfl, bel.below.frame _, fun h => by cases h⟩

theorem over : Rows.fnVotesForRow.holds Try.pinned (OpenSpec.ofChange Rows.fnVotesForSpec) :=
  OpenClaim.holds_of_wide 6 Try.f6 rfl rfl rfl rfl rfl rfl rfl ⟨rfl, rfl, rfl, rfl, rfl⟩ rfl rfl rfl rfl rfl (by kernel_rfl) Try.func6 (by kernel_rfl)
    (of_decide_eq_true (by kernel_rfl)) (by unfold Func.isWrapper; first | (rw [if_pos (by decide +kernel)]; kernel_rfl) | (rw [if_neg (by decide +kernel)]; exact ⟨rfl, rfl⟩))
    (fun os started H enc _ => lifted os started H enc)
end Go.Proofs.Ytppikkppgojbpaa.FnVotesFor
namespace Go.Proofs.Ytppikkppgojbpaa
theorem fnVotesFor_holds : Rows.FnVotesForSaid := FnVotesFor.over
#print axioms fnVotesFor_holds
end Go.Proofs.Ytppikkppgojbpaa
