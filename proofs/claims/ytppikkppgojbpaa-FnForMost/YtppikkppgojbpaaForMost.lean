/-
  FnForMost returns true at every row of bytes and leaves its argument as it was: what the statement says; no condition.
-/
import Derived.Test.YtppikkppgojbpaaVDraw4
import Derived.Test.YtppikkppgojbpaaVShare
import Derived.Test.YtppikkppgojbpaaNumsV
import Derived.Test.YtppikkppgojbpaaVote3
import Derived.Test.YtppikkppgojbpaaOpen
import Derived.Lib.SmallJoins
import Derived.JoinedOf
import Derived.JoinedAt
import Derived.RowKit3
import Derived.Deep.RegionHeldLaw
import Derived.Deep.DeepFit
namespace Go.Proofs.Ytppikkppgojbpaa.FnForMost
set_option linter.unusedVariables false
open Go.ChangeShapes Go.WideShapes Go.ChangeAt Go.RowKit Go.Joins
attribute [local simp] far_const

/-- No vote ahead of place j is for the chain. -/
def freshB (l : List Vt) (c : List It) (j : Nat) : Bool := !(l.take j).any (fun y => sameB c y.c)
theorem freshB_old {l : List Vt} {c : List It} {j : Nat} (hj : j < l.length) (h : freshB l c j = false) : freshB l c (j + 1) = false := by
  unfold freshB at *
  rw [any_take l _ j hj]
  rw [Bool.not_eq_false'] at h ⊢
  rw [h]; rfl
theorem freshB_step {l : List Vt} {c : List It} {j : Nat} (hj : j < l.length) (h : freshB l c j = true) : freshB l c (j + 1) = !sameB l[j].c c := by
  unfold freshB at *
  rw [any_take l _ j hj]
  rw [Bool.not_eq_true'] at h
  rw [h, Bool.false_or]
  congr 1
  rw [Bool.eq_iff_iff, sameB_iff, sameB_iff]; exact eq_comm
theorem upTo_fresh {l : List Vt} (h : votesB l = true) (k : Nat) (hk : k < l.length) (hf : freshB l l[k].c k = true) : upTo l (k + 1) = upTo l k + (forN l l[k].c).length :=
  upTo_first h k hk (by unfold freshB at hf; rw [Bool.not_eq_true'] at hf; exact hf)
theorem upTo_stale {l : List Vt} (k : Nat) (hk : k < l.length) (hf : freshB l l[k].c k = false) : upTo l (k + 1) = upTo l k :=
  upTo_more k hk (by unfold freshB at hf; rw [Bool.not_eq_false'] at hf; exact hf)
theorem upTo_le (l : List Vt) (k : Nat) : upTo l k ≤ l.length := by unfold upTo; exact List.length_filter_le _ _

set_option maxRecDepth 20000 in
set_option maxHeartbeats 16000000 in
theorem walk (a : Option Addr) (n cap : Nat) (w : World) (hb : Byt w a w.heap.size n) (hc : n ≤ cap) :
    Calls Try.prog 10 #[.slice a n cap] w fun e w' => e = .returned (.bool true) ∧ Grew w w' := by
  by_cases hn : n ≤ 1048576
  · have hn1 : decide ((1048576 : Int) < (n : Int)) = false := by simp; omega
    go_enter Try.func10, Try.ntmps10
    go_wp2_with fail
    refine (drawVotesFor_any a n cap _ hb hc hn).mono ?_
    rintro e w1 ⟨v, l, b, cb, c, rfl, vl, hl, hlw, ic, hcc, gg⟩
    have V1 := hide vl
    obtain ⟨av, capv, rfl, hcapv, hvts⟩ := vl
    have I1 := hide ic
    have HVT := hide hvts
    have HS := hide (hlw.short (by omega))
    have hxx : c.length ≤ 1048576 := by omega
    have hll : l.length ≤ 1048576 := by omega
    have S0 := hide (show Grew w w1 from gg)
    clear gg ic hvts hlw
    obtain ⟨L, hL⟩ : ∃ L, forL l c = L := ⟨_, rfl⟩
    have hLn : L.length ≤ 4 := by rw [← hL]; unfold forL; split; exact forN_len l c; simp
    have HL := hide hL
    clear hL
    go_wp2_with fail
    refine (implVotesFor_v _ _ c _ ((unhide V1).grew (Grew.refl _)) (unhide HS) hll ((unhide I1).grew (Grew.refl _)) hxx).mono ?_
    rintro e w2 ⟨u2, rfl, o2, gg⟩
    have S1 := hide (show Grew w1 w2 from gg)
    rw [unhide HL] at o2
    have N2 := hide o2.num
    clear gg o2
    go_wp2_with fail
    refine (specVotesFor_v _ _ c _ ((unhide V1).grew (unhide S1)) (unhide HS) hll ((unhide I1).grew (unhide S1)) hxx).mono ?_
    rintro e w3 ⟨u3, rfl, o3, gg⟩
    have S2 := hide (show Grew w2 w3 from gg)
    rw [unhide HL] at o3
    have N3 := hide o3.num
    clear gg o3
    go_wp2_with fail
    refine (lwInts_v _ ((unhide N2).grew (unhide S2)) ((unhide N3).grew (Grew.refl _)) (by omega) (by omega)).mono ?_
    rintro e w4 ⟨rfl, gg⟩
    have S3 := hide (show Grew w3 w4 from gg)
    rw [decide_eq_true rfl]
    clear gg
    go_wp2_with fail
    refine (specVotesOk_v _ ((unhide V1).grew (((unhide S1).trans (unhide S2)).trans (unhide S3))) (unhide HS) hll).mono ?_
    rintro e w5 ⟨rfl, gg⟩
    have S4 := hide (show Grew w4 w5 from gg)
    clear gg
    cases hv : votesB l with
    | false =>
      go_wp2_with fail
      refine (specVotesFor_v _ _ c _ ((unhide V1).grew ((((unhide S1).trans (unhide S2)).trans (unhide S3)).trans (unhide S4))) (unhide HS) hll ((unhide I1).grew ((((unhide S1).trans (unhide S2)).trans (unhide S3)).trans (unhide S4))) hxx).mono ?_
      rintro e w6 ⟨u6, rfl, o6, gg⟩
      have S5 := hide (show Grew w5 w6 from gg)
      rw [unhide HL] at o6
      have N6 := hide o6.num
      clear gg o6
      go_wp2_with fail
      refine (lwInts_v _ ((unhide N2).grew ((((unhide S2).trans (unhide S3)).trans (unhide S4)).trans (unhide S5))) (unhide N6) (by omega) (by omega)).mono ?_
      rintro e w7 ⟨rfl, gg⟩
      have S6 := hide (show Grew w6 w7 from gg)
      rw [decide_eq_true rfl]
      clear gg
      go_wp2
      go_ret
      exact ⟨rfl, (((((((unhide S0).trans (unhide S1)).trans (unhide S2)).trans (unhide S3)).trans (unhide S4)).trans (unhide S5)).trans (unhide S6))⟩
    | true =>
      have W0 := hide (((((unhide S0).trans (unhide S1)).trans (unhide S2)).trans (unhide S3)).trans (unhide S4))
      have W1 := hide ((((unhide S1).trans (unhide S2)).trans (unhide S3)).trans (unhide S4))
      have HV := hide hv
      go_wp2_with fail
      go_loopw [6, 7] (fun nn i wr => ∃ q : Nat, q ≤ l.length ∧ i = .int .i64 (q : Int) ∧ nn = .int .i64 (upTo l q) ∧ Grew w5 wr) (fun _ i _ => l.length - (intOf i).toNat)
      case atStart => exact ⟨0, Nat.zero_le _, rfl, (by rw [upTo_zero]; rfl), Grew.refl _⟩
      case round =>
        obtain ⟨q, hq, rfl, rfl, hg⟩ := hrel
        have hup : upTo l q ≤ 193 := Nat.le_trans (upTo_le l q) hl
        by_cases hql : q < l.length
        · obtain ⟨bb, off, rfl, hat⟩ := (unhide HVT).at hql
          have HAT := hide hat
          clear hat
          go_wp2_with fail
          go_loopw [8, 9] (fun fi kk wr => ∃ j : Nat, j ≤ q ∧ kk = .int .i64 (j : Int) ∧ fi = .bool (freshB l l[q].c j) ∧ Grew w5 wr) (fun _ kk _ => q - (intOf kk).toNat)
          case atStart => exact ⟨0, Nat.zero_le _, rfl, rfl, hg⟩
          case round =>
            obtain ⟨j, hj, rfl, rfl, hgj⟩ := hrel
            by_cases hjq : j < q
            · have hjl : j < l.length := by omega
              have hjq' : (j : Int) < (q : Int) := by omega
              have hat2 : VtAt w1 bb (off + j * 2) l[j] := by
                obtain ⟨b', o', e, h⟩ := (unhide HVT).at hjl
                simp only [Option.some.injEq, Addr.mk.injEq, and_true] at e
                obtain ⟨rfl, rfl⟩ := e
                exact h
              obtain ⟨_, a1, cap1, c1, i1⟩ := (unhide HAT).grew ((unhide W1).trans hgj)
              obtain ⟨_, a2, cap2, d1, i2⟩ := hat2.grew ((unhide W1).trans hgj)
              have e1 := Grew.gcell c1
              have f1 := Grew.gcell d1
              have s1 := (unhide HS).at hql
              have s2 := (unhide HS).at hjl
              clear hat2
              cases hfi : freshB l l[q].c j with
              | false =>
                have hnx := hide (freshB_old hjl hfi)
                go_wp2_with fail
                refine quietly (by kernel_rfl) (by kernel_rfl) ?_
                repeat (go_big_quiet_step (first | fail))
                refine wpQuiet_nil ?_
                intro _ hw'
                obtain ⟨⟨nq, osq⟩, hw''⟩ := hw'
                subst hw''
                go_wp2
                go_roundw
                case rel => exact ⟨j + 1, by omega, by go_num, by rw [unhide hnx], hgj.trans ⟨_, _, rfl⟩⟩
                case measure => simp [intOf]; omega
              | true =>
                cases hsm : sameB l[j].c l[q].c
                all_goals
                  have hnx := freshB_step hjl hfi
                  rw [hsm] at hnx
                  have HNX := hide hnx
                  clear hnx
                  go_wp2_with fail
                  refine quietly (by kernel_rfl) (by kernel_rfl) ?_
                  repeat (go_big_quiet_step (first | (go_at_call 37; exact Calls.far (lwSame_any _ _ _ _ l[j].c l[q].c _ (i2.grew ⟨_, _, rfl⟩) (i1.grew ⟨_, _, rfl⟩) s2 s1))))
                  refine wpQuiet_nil ?_
                  intro _ hw'
                  obtain ⟨⟨nq, osq⟩, hw''⟩ := hw'
                  subst hw''
                  go_wp2
                  go_roundw
                  case rel => exact ⟨j + 1, by omega, by go_num, by rw [unhide HNX]; rfl, hgj.trans ⟨_, _, rfl⟩⟩
                  case measure => simp [intOf]; omega
            · have hjq1 : j = q := by omega
              subst hjq1
              have hlt0 : ¬ (j : Int) < (j : Int) := by omega
              obtain ⟨_, a1, cap1, c1, i1⟩ := (unhide HAT).grew ((unhide W1).trans hgj)
              have s1 := (unhide HS).at hql
              cases hfi : freshB l l[j].c j with
              | false =>
                have hnx := hide (upTo_stale j hql hfi)
                go_wp2
                go_roundw
                case rel => exact ⟨j + 1, by omega, by go_num, by rw [unhide hnx], hgj⟩
                case measure => simp [intOf]; omega
              | true =>
                have hnx := hide (upTo_fresh (unhide HV) j hql hfi)
                have hpos := forN_pos (unhide HV) (List.getElem_mem hql)
                have hfour := forN_len l l[j].c
                have hfl : Hid (forL l l[j].c = forN l l[j].c) := by show forL l l[j].c = forN l l[j].c; unfold forL; rw [unhide HV]; rfl
                go_wp2_with fail
                refine (implVotesFor_v a1 cap1 l[j].c _ ((unhide V1).grew ((unhide W1).trans hgj)) (unhide HS) hll i1 s1).mono ?_
                rintro e w7 ⟨u7, rfl, o7, g7⟩
                rw [unhide hfl] at o7
                obtain ⟨a7, c7, hu7, _⟩ := o7.num
                subst hu7
                have hg7 := hgj.trans g7
                have t1 : ¬ ((forN l l[j].c).length : Int) < 1 := by omega
                have t2 : decide (((forN l l[j].c).length : Int) < 1) = false := by simpa using t1
                have t3 : ¬ (4 : Int) < ((forN l l[j].c).length : Int) := by omega
                have hsum : Hid ((upTo l j : Int) + (forN l l[j].c).length = (upTo l (j + 1) : Int)) := by
                  show (upTo l j : Int) + (forN l l[j].c).length = (upTo l (j + 1) : Int)
                  rw [unhide hnx]; omega
                clear o7 g7
                go_wp2
                go_roundw
                case rel => exact ⟨j + 1, by omega, by go_num, by rw [hsum.out], hg7⟩
                case measure => simp [intOf]; omega
        · have hql2 : q = l.length := by omega
          subst hql2
          have hend : ((upTo l l.length : Int) == (l.length : Int)) = true := by rw [upTo_all]; simp
          go_wp2
          go_ret
          exact ⟨rfl, (unhide W0).trans hg⟩
  · have hn1 : decide ((1048576 : Int) < (n : Int)) = true := by simp; omega
    clear hn
    go_enter Try.func10, Try.ntmps10
    go_wp2
    go_ret
    exact ⟨rfl, Grew.refl _⟩

set_option maxRecDepth 100000 in
theorem lifted (os : Os) (started : os.Started) (H : Type) (enc : TypeId × Value → H) :
    ReturnsInHanded {} Try.checked os 10 .any (Rows.fnForMostSpec.pre6 enc Try.prog Try.f10 Rows.fnForMostRow.domain false) (Rows.fnForMostSpec.post enc Try.prog Try.f10 false true false false) := by
  refine returnsInHanded_of_change (C := Try.checked) own started (by kernel_rfl) Try.func10
    (ChangeSpec.witness6 (enc := enc) (C := Try.checked) false ⟨#[], #[.slice none 0 0], []⟩ 8 (by kernel_rfl) (by kernel_rfl) (by kernel_rfl) (by kernel_rfl)) ?_
  intro W base args ds gs before hval0 hW hcnd _
  have hval : ∀ (j : Nat) t v, Try.f10.params[j]? = some t → args[j]? = some v → Value.okWide Try.prog W .any base t v := hval0
  have hW' := hW
  obtain ⟨p, q, hA0, hV, rfl, hfz, hnd⟩ := hW
  have hA : DataW.TrodAll enc Try.prog W 0 (fun _ => true) true Try.f10.params.toList args.toList ds p := hA0
  rw [Try.params10] at hA hval
  obtain ⟨v0, vs0, d0, ds0, p0, q0, hargs, rfl, rfl, h0, r0⟩ := trodAll_cons hA
  obtain ⟨rfl, rfl, rfl⟩ := trodAll_nil r0
  obtain rfl : args = #[v0] := by cases args; simp_all
  obtain ⟨rfl, rfl⟩ := trodVars_none hV
  have k0 := h0
  have lt0 : ∀ x ∈ p0, x.block < W.heap.size := by obtain ⟨m, hm⟩ := k0; exact DataW.trod_lt m _ _ _ hm
  obtain ⟨a0, len0, cap0, rfl⟩ := okWide_slice Try.underlying22 (hval 0 22 v0 rfl rfl)
  obtain ⟨fuel0, hf0⟩ := h0
  obtain ⟨hb0, hc0⟩ := open_bytes hf0
  clear hA0 hval0
  refine (walk a0 len0 cap0 W hb0 hc0).mono fun e W' ⟨he, bel⟩ => ?_
  subst he
  exact ⟨_, rfl, _, _, _, [], _, [], hW', trodAll_mk1 (shut_bool Try.underlying4 _), (trodAll_cons_mk (Below.trod laidOut (by kernel_rfl) (of_decide_eq_true (by kernel_rfl)) k0 bel.below lt0) trodAll_mk0), rfl, bel.below.frame _, fun h => by cases h⟩

theorem over : Rows.fnForMostRow.holds Try.pinned (OpenSpec.ofChange Rows.fnForMostSpec) :=
  OpenClaim.holds_of_wide 10 Try.f10 rfl rfl rfl rfl rfl rfl rfl ⟨rfl, rfl, rfl, rfl, rfl⟩ rfl rfl rfl rfl rfl (by kernel_rfl) Try.func10 (by kernel_rfl)
    (of_decide_eq_true (by kernel_rfl)) (by unfold Func.isWrapper; first | (rw [if_pos (by decide +kernel)]; kernel_rfl) | (rw [if_neg (by decide +kernel)]; exact ⟨rfl, rfl⟩))
    (fun os started H enc _ => lifted os started H enc)
end Go.Proofs.Ytppikkppgojbpaa.FnForMost
namespace Go.Proofs.Ytppikkppgojbpaa
theorem fnForMost_holds : Rows.FnForMostSaid := FnForMost.over
#print axioms fnForMost_holds
end Go.Proofs.Ytppikkppgojbpaa
