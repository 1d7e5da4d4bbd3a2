/-
  FnVotesAdd returns true at every row of bytes and leaves its argument as it was: what the statement says; no condition.
-/
import Derived.Test.YtppikkppgojbpaaVDraw4
import Derived.Test.YtppikkppgojbpaaVShare
import Derived.Test.YtppikkppgojbpaaNumsV
import Derived.Test.YtppikkppgojbpaaVote3
import Derived.Test.YtppikkppgojbpaaOpen
import Derived.Lib.SmallJoins
import Derived.JoinedOf
import Derived.JoinedAt
import Derived.RowKit3
import Derived.Deep.RegionHeldLaw
import Derived.Deep.DeepFit
namespace Go.Proofs.Ytppikkppgojbpaa.FnVotesAdd
set_option linter.unusedVariables false
open Go.ChangeShapes Go.WideShapes Go.ChangeAt Go.RowKit Go.Joins
attribute [local simp] far_const

theorem addV_votes {l : List Vt} {x : Vt} (h : (addV l x).2 = true) : votesB (addV l x).1 = true := by
  obtain ⟨h1, h2, h3, h4⟩ := addV_true h
  rw [h4]; exact votesB_snoc h1 h2 h3
theorem addV_again {l : List Vt} {x : Vt} (h : (addV l x).2 = true) : (addV (addV l x).1 x).2 = false := by
  obtain ⟨h1, h2, h3, h4⟩ := addV_true h
  rw [h4, addV_old (votesB_snoc h1 h2 h3) h2 ((hasB_iff _ _).2 (by simp))]
theorem addV_false {l : List Vt} {x : Vt} (h : (addV l x).2 = false) (h1 : votesB l = true) (h2 : vokB x = true) : hasB l x = true ∧ (addV l x).1 = l := by
  cases h3 : hasB l x with
  | true => exact ⟨rfl, by rw [addV_old h1 h2 h3]⟩
  | false => rw [addV_new h1 h2 h3] at h; cases h

set_option maxRecDepth 20000 in
set_option maxHeartbeats 16000000 in
theorem walk (a : Option Addr) (n cap : Nat) (w : World) (hb : Byt w a w.heap.size n) (hc : n ≤ cap) :
    Calls Try.prog 5 #[.slice a n cap] w fun e w' => e = .returned (.bool true) ∧ Grew w w' := by
  by_cases hn : n ≤ 1048576
  · have hn1 : decide ((1048576 : Int) < (n : Int)) = false := by simp; omega
    go_enter Try.func5, Try.ntmps5
    go_wp2_with fail
    refine (drawVotesAdd_any a n cap _ hb hc hn).mono ?_
    rintro e w1 ⟨v, l, x, ax, cx, rfl, vl, hl, hlw, ix, hx, gg⟩
    have V1 := hide vl
    obtain ⟨av, capv, rfl, hcapv, _⟩ := vl
    have I1 := hide ix
    have HS := hide (hlw.short (by omega))
    have hxx : x.c.length ≤ 1048576 := by omega
    have hll : l.length ≤ 1048576 := by omega
    have S0 := hide (show Grew w w1 from gg)
    clear gg ix hlw
    go_wp2_with fail
    refine (specVotesAdd_v x _ _ ((unhide V1).grew ((Grew.refl _).alloc _)) (unhide HS) hll ⟨_, _, rfl, (unhide I1).grew ((Grew.refl _).alloc _)⟩ hxx).mono ?_
    rintro e w2 ⟨u2, rfl, o2, gg⟩
    have x0 := gg.keep (p := ⟨w1.heap.size, 0, none⟩) (v := .int .i64 x.n) (by simp [go_sem])
    have x1 := gg.keep (p := ⟨w1.heap.size, 1, none⟩) (v := .slice ax x.c.length cx) (by simp [go_sem])
    have U2 := hide o2.vtsV
    have S1 := hide (show Grew w1 w2 from ((Grew.refl _).alloc _).trans gg)
    clear gg o2
    go_wp2_with fail
    refine (implVotesAdd_v x _ _ ((unhide V1).grew (unhide S1)) (unhide HS) hll ⟨_, _, rfl, (unhide I1).grew (unhide S1)⟩ hxx).mono ?_
    rintro e w3 ⟨u3, hu3, rfl, o3, gg⟩
    have S2 := hide (show Grew w2 w3 from gg)
    have U3 := hide o3.vtsV
    have x0 := gg.keep x0
    have x1 := gg.keep x1
    clear gg o3
    obtain ⟨L, hL⟩ : ∃ L, (addV l x).1 = L := ⟨_, rfl⟩
    have hLs : Short L := by rw [← hL]; exact addV_short (unhide HS) hxx
    have hLn : L.length ≤ 194 := by have := addV_len l x; rw [← hL]; omega
    rw [hL] at U2 U3
    have HL := hide hL
    have HLS := hide hLs
    clear hL hLs
    cases hb2 : (addV l x).2
    case false =>
      go_wp2_with fail
      refine (lwVotes_v _ ((unhide U3).grew (Grew.refl _)) ((unhide U2).grew (unhide S2)) (unhide HLS) (unhide HLS) (by omega) (by omega)).mono ?_
      rintro e w4 ⟨rfl, gg⟩
      have S3 := hide (show Grew w3 w4 from gg)
      rw [(sameVs_iff L L).2 rfl]
      have x0 := gg.keep x0
      have x1 := gg.keep x1
      clear gg
      go_wp2_with fail
      refine (specVotesOk_v _ ((unhide V1).grew (((unhide S1).trans (unhide S2)).trans (unhide S3))) (unhide HS) hll).mono ?_
      rintro e w5 ⟨rfl, gg⟩
      have S4 := hide (show Grew w4 w5 from gg)
      have x0 := gg.keep x0
      have x1 := gg.keep x1
      clear gg
      cases hvl : votesB l with
      | false =>
        go_wp2_with fail
        refine (lwVotes_v _ ((unhide U3).grew ((unhide S3).trans (unhide S4))) ((unhide U2).grew (((unhide S2).trans (unhide S3)).trans (unhide S4))) (unhide HLS) (unhide HLS) (by omega) (by omega)).mono ?_
        rintro e w6 ⟨rfl, gg⟩
        have S5 := hide (show Grew w5 w6 from gg)
        rw [(sameVs_iff L L).2 rfl]
        clear gg
        go_wp2
        go_ret
        exact ⟨rfl, ((((((unhide S0).trans (unhide S1)).trans (unhide S2)).trans (unhide S3)).trans (unhide S4)).trans (unhide S5))⟩
      | true =>
        go_wp2_with fail
        refine (specVoteOk x _ _ ⟨_, _, rfl, (unhide I1).grew ((((unhide S1).trans (unhide S2)).trans (unhide S3)).trans (unhide S4))⟩ hxx).mono ?_
        rintro e w6 ⟨rfl, gg⟩
        have S5 := hide (show Grew w5 w6 from gg)
        have x0 := gg.keep x0
        have x1 := gg.keep x1
        clear gg
        cases hvx : vokB x with
        | false =>
          go_wp2_with fail
          refine (lwVotes_v _ ((unhide U3).grew (((unhide S3).trans (unhide S4)).trans (unhide S5))) ((unhide U2).grew ((((unhide S2).trans (unhide S3)).trans (unhide S4)).trans (unhide S5))) (unhide HLS) (unhide HLS) (by omega) (by omega)).mono ?_
          rintro e w7 ⟨rfl, gg⟩
          have S6 := hide (show Grew w6 w7 from gg)
          rw [(sameVs_iff L L).2 rfl]
          clear gg
          go_wp2
          go_ret
          exact ⟨rfl, (((((((unhide S0).trans (unhide S1)).trans (unhide S2)).trans (unhide S3)).trans (unhide S4)).trans (unhide S5)).trans (unhide S6))⟩
        | true =>
          obtain ⟨hh, hLl⟩ := addV_false hb2 hvl hvx
          have hLl2 := hide ((unhide HL).symm.trans hLl)
          clear hLl
          go_wp2_with fail
          refine (lwHas_v x _ _ ((unhide V1).grew (((((unhide S1).trans (unhide S2)).trans (unhide S3)).trans (unhide S4)).trans (unhide S5))) ⟨_, _, rfl, (unhide I1).grew (((((unhide S1).trans (unhide S2)).trans (unhide S3)).trans (unhide S4)).trans (unhide S5))⟩ (unhide HS) hxx hll).mono ?_
          rw [hh]
          rintro e w7 ⟨rfl, gg⟩
          have S6 := hide (show Grew w6 w7 from gg)
          clear gg
          go_wp2_with fail
          refine (lwVotes_v _ ((unhide U3).grew ((((unhide S3).trans (unhide S4)).trans (unhide S5)).trans (unhide S6))) ((unhide V1).grew ((((((unhide S1).trans (unhide S2)).trans (unhide S3)).trans (unhide S4)).trans (unhide S5)).trans (unhide S6))) (unhide HLS) (unhide HS) (by omega) (by omega)).mono ?_
          rintro e w8 ⟨rfl, gg⟩
          have S7 := hide (show Grew w7 w8 from gg)
          rw [(sameVs_iff L l).2 (unhide hLl2)]
          clear gg
          go_wp2
          go_ret
          exact ⟨rfl, ((((((((unhide S0).trans (unhide S1)).trans (unhide S2)).trans (unhide S3)).trans (unhide S4)).trans (unhide S5)).trans (unhide S6)).trans (unhide S7))⟩
    case true =>
      go_wp2_with fail
      refine (lwVotes_v _ ((unhide U3).grew (Grew.refl _)) ((unhide U2).grew (unhide S2)) (unhide HLS) (unhide HLS) (by omega) (by omega)).mono ?_
      rintro e w4 ⟨rfl, gg⟩
      have S3 := hide (show Grew w3 w4 from gg)
      rw [(sameVs_iff L L).2 rfl]
      have x0 := gg.keep x0
      have x1 := gg.keep x1
      clear gg
      go_wp2_with fail
      refine (specVotesOk_v _ ((unhide V1).grew (((unhide S1).trans (unhide S2)).trans (unhide S3))) (unhide HS) hll).mono ?_
      rintro e w5 ⟨rfl, gg⟩
      have S4 := hide (show Grew w4 w5 from gg)
      have x0 := gg.keep x0
      have x1 := gg.keep x1
      clear gg
      cases hvl : votesB l with
      | false =>
        go_wp2_with fail
        refine (lwVotes_v _ ((unhide U3).grew ((unhide S3).trans (unhide S4))) ((unhide U2).grew (((unhide S2).trans (unhide S3)).trans (unhide S4))) (unhide HLS) (unhide HLS) (by omega) (by omega)).mono ?_
        rintro e w6 ⟨rfl, gg⟩
        have S5 := hide (show Grew w5 w6 from gg)
        rw [(sameVs_iff L L).2 rfl]
        clear gg
        go_wp2
        go_ret
        exact ⟨rfl, ((((((unhide S0).trans (unhide S1)).trans (unhide S2)).trans (unhide S3)).trans (unhide S4)).trans (unhide S5))⟩
      | true =>
        go_wp2_with fail
        refine (specVoteOk x _ _ ⟨_, _, rfl, (unhide I1).grew ((((unhide S1).trans (unhide S2)).trans (unhide S3)).trans (unhide S4))⟩ hxx).mono ?_
        rintro e w6 ⟨rfl, gg⟩
        have S5 := hide (show Grew w5 w6 from gg)
        have x0 := gg.keep x0
        have x1 := gg.keep x1
        clear gg
        cases hvx : vokB x with
        | false =>
          go_wp2_with fail
          refine (lwVotes_v _ ((unhide U3).grew (((unhide S3).trans (unhide S4)).trans (unhide S5))) ((unhide U2).grew ((((unhide S2).trans (unhide S3)).trans (unhide S4)).trans (unhide S5))) (unhide HLS) (unhide HLS) (by omega) (by omega)).mono ?_
          rintro e w7 ⟨rfl, gg⟩
          have S6 := hide (show Grew w6 w7 from gg)
          rw [(sameVs_iff L L).2 rfl]
          clear gg
          go_wp2
          go_ret
          exact ⟨rfl, (((((((unhide S0).trans (unhide S1)).trans (unhide S2)).trans (unhide S3)).trans (unhide S4)).trans (unhide S5)).trans (unhide S6))⟩
        | true =>
          obtain ⟨_, _, hno, hLl⟩ := addV_true hb2
          have hLl2 := hide ((unhide HL).symm.trans hLl)
          have hag := hide (addV_again hb2)
          have hvo := hide (addV_votes hb2)
          rw [unhide HL] at hag hvo
          clear hLl
          go_wp2_with fail
          refine (implVotesAdd_v x _ _ ((unhide U3).grew (((unhide S3).trans (unhide S4)).trans (unhide S5))) (unhide HLS) (by omega) ⟨_, _, rfl, (unhide I1).grew (((((unhide S1).trans (unhide S2)).trans (unhide S3)).trans (unhide S4)).trans (unhide S5))⟩ hxx).mono ?_
          rw [unhide hag]
          rintro e w7 ⟨u9, hu9, rfl, _, gg⟩
          have S6 := hide (show Grew w6 w7 from gg)
          have x0 := gg.keep x0
          have x1 := gg.keep x1
          clear gg
          have hLlen : L.length = l.length + 1 := by rw [unhide hLl2]; simp
          obtain ⟨b3, o3, c3, hu3v, hat3⟩ := VtsV.at ((unhide U3).grew ((((unhide S3).trans (unhide S4)).trans (unhide S5)).trans (unhide S6))) (show l.length < L.length by omega)
          have hvts := ((unhide V1).grew ((((((unhide S1).trans (unhide S2)).trans (unhide S3)).trans (unhide S4)).trans (unhide S5)).trans (unhide S6))).vts.1
          subst hu3v
          have hcap3 : L.length ≤ c3 := (unhide U3).vts.2.2
          have eL : L[l.length]'(by omega) = x := by simp [unhide hLl2]
          rw [eL] at hat3
          have v3 : Vts w7 (some ⟨b3, o3, none⟩) L := ((unhide U3).grew ((((unhide S3).trans (unhide S4)).trans (unhide S5)).trans (unhide S6))).vts.1
          have V3 := hide v3
          have T3 : Hid (L.take l.length = l) := by show L.take l.length = l; rw [unhide hLl2]; simp
          have HVT := hide hvts
          obtain ⟨d0, a3, cap3, d1, i3⟩ := hat3
          have hLi : ((L.length : Int) == (l.length : Int) + 1) = true := by simp; omega
          have e0 := Grew.gcell x0
          have e1 := Grew.gcell x1
          have f0 := Grew.gcell d0
          have f1 := Grew.gcell d1
          have I3 := hide i3
          have hsl : l.length ≤ c3 := by omega
          have hil : (l.length : Int) < (L.length : Int) := by omega
          have q1 : sameVs (L.take l.length) l = true := by rw [unhide T3]; exact (sameVs_iff l l).2 rfl
          have q2 : sameV x x = true := (sameV_iff x x).2 rfl
          have q3 : votesB L = true := unhide hvo
          have HS1 := hide ((unhide HLS).take l.length)
          have hw1 : IntKind.i64.wrap ((l.length : Int) + 1) = (l.length : Int) + 1 := by rw [IntKind.wrap_i64]; omega
          clear x0 x1 d0 d1 i3 v3 eL hvts hLlen
          go_wp2_with fail
          refine quietly (by kernel_rfl) (by kernel_rfl) ?_
          repeat (go_big_quiet_step (first | (go_at_call 26; exact Calls.far (lwVotes_any _ _ _ _ (L.take l.length) l l.length l.length _ (by rw [List.length_take]; omega) rfl (((unhide V3).take l.length).grew ⟨_, _, rfl⟩) ((unhide HVT).grew ⟨_, _, rfl⟩) (unhide HS1) (unhide HS) (by omega) (by omega))) | (go_at_call 29; exact Calls.far (lwVote_any x x _ _ _ ⟨_, _, rfl, (unhide I3).grew ⟨_, _, rfl⟩⟩ ⟨_, _, rfl, (unhide I1).grew (((((((unhide S1).trans (unhide S2)).trans (unhide S3)).trans (unhide S4)).trans (unhide S5)).trans (unhide S6)).trans ⟨_, _, rfl⟩)⟩ hxx hxx)) | (go_at_call 30; exact Calls.far (implVotesOk _ _ L _ ((unhide V3).grew ⟨_, _, rfl⟩) (unhide HLS) (by omega))) | (go_at_call 28; exact Calls.far (lwHas_any _ _ _ l x _ _ rfl ((unhide HVT).grew ⟨_, _, rfl⟩) ⟨_, _, rfl, (unhide I1).grew (((((((unhide S1).trans (unhide S2)).trans (unhide S3)).trans (unhide S4)).trans (unhide S5)).trans (unhide S6)).trans ⟨_, _, rfl⟩)⟩ (unhide HS) hxx hll))))
          refine wpQuiet_nil ?_
          intro _ hw'
          obtain ⟨⟨nq, osq⟩, hw''⟩ := hw'
          subst hw''
          go_wp2
          go_ret
          exact ⟨rfl, (((((((unhide S0).trans (unhide S1)).trans (unhide S2)).trans (unhide S3)).trans (unhide S4)).trans (unhide S5)).trans (unhide S6)).trans ⟨_, _, rfl⟩⟩
  · have hn1 : decide ((1048576 : Int) < (n : Int)) = true := by simp; omega
    clear hn
    go_enter Try.func5, Try.ntmps5
    go_wp2
    go_ret
    exact ⟨rfl, Grew.refl _⟩

set_option maxRecDepth 100000 in
theorem lifted (os : Os) (started : os.Started) (H : Type) (enc : TypeId × Value → H) :
    ReturnsInHanded {} Try.checked os 5 .any (Rows.fnVotesAddSpec.pre6 enc Try.prog Try.f5 Rows.fnVotesAddRow.domain false) (Rows.fnVotesAddSpec.post enc Try.prog Try.f5 false true false false) := by
  refine returnsInHanded_of_change (C := Try.checked) own started (by kernel_rfl) Try.func5
    (ChangeSpec.witness6 (enc := enc) (C := Try.checked) false ⟨#[], #[.slice none 0 0], []⟩ 8 (by kernel_rfl) (by kernel_rfl) (by kernel_rfl) (by kernel_rfl)) ?_
  intro W base args ds gs before hval0 hW hcnd _
  have hval : ∀ (j : Nat) t v, Try.f5.params[j]? = some t → args[j]? = some v → Value.okWide Try.prog W .any base t v := hval0
  have hW' := hW
  obtain ⟨p, q, hA0, hV, rfl, hfz, hnd⟩ := hW
  have hA : DataW.TrodAll enc Try.prog W 0 (fun _ => true) true Try.f5.params.toList args.toList ds p := hA0
  rw [Try.params5] at hA hval
  obtain ⟨v0, vs0, d0, ds0, p0, q0, hargs, rfl, rfl, h0, r0⟩ := trodAll_cons hA
  obtain ⟨rfl, rfl, rfl⟩ := trodAll_nil r0
  obtain rfl : args = #[v0] := by cases args; simp_all
  obtain ⟨rfl, rfl⟩ := trodVars_none hV
  have k0 := h0
  have lt0 : ∀ x ∈ p0, x.block < W.heap.size := by obtain ⟨m, hm⟩ := k0; exact DataW.trod_lt m _ _ _ hm
  obtain ⟨a0, len0, cap0, rfl⟩ := okWide_slice Try.underlying22 (hval 0 22 v0 rfl rfl)
  obtain ⟨fuel0, hf0⟩ := h0
  obtain ⟨hb0, hc0⟩ := open_bytes hf0
  clear hA0 hval0
  refine (walk a0 len0 cap0 W hb0 hc0).mono fun e W' ⟨he, bel⟩ => ?_
  subst he
  exact ⟨_, rfl, _, _, _, [], _, [], hW', trodAll_mk1 (shut_bool Try.underlying4 _), (trodAll_cons_mk (Below.trod laidOut (by kernel_rfl) (of_decide_eq_true (by kernel_rfl)) k0 bel.below lt0) trodAll_mk0), rfl, bel.below.frame _, fun h => by cases h⟩

theorem over : Rows.fnVotesAddRow.holds Try.pinned (OpenSpec.ofChange Rows.fnVotesAddSpec) :=
  OpenClaim.holds_of_wide 5 Try.f5 rfl rfl rfl rfl rfl rfl rfl ⟨rfl, rfl, rfl, rfl, rfl⟩ rfl rfl rfl rfl rfl (by kernel_rfl) Try.func5 (by kernel_rfl)
    (of_decide_eq_true (by kernel_rfl)) (by unfold Func.isWrapper; first | (rw [if_pos (by decide +kernel)]; kernel_rfl) | (rw [if_neg (by decide +kernel)]; exact ⟨rfl, rfl⟩))
    (fun os started H enc _ => lifted os started H enc)
end Go.Proofs.Ytppikkppgojbpaa.FnVotesAdd
namespace Go.Proofs.Ytppikkppgojbpaa
theorem fnVotesAdd_holds : Rows.FnVotesAddSaid := FnVotesAdd.over
#print axioms fnVotesAdd_holds
end Go.Proofs.Ytppikkppgojbpaa
