/-
  FnFinalMost returns true at every row of bytes and leaves its argument as it was: what the statement says; no condition.
-/
import Derived.Test.YtjcnbacbnfmkjabVDraw34
import Derived.Test.YtjcnbacbnfmkjabVLwA
import Derived.Test.YtjcnbacbnfmkjabNumsA
import Derived.Test.YtjcnbacbnfmkjabVote3
import Derived.Test.YtjcnbacbnfmkjabOpen
import Derived.Test.YtjcnbacbnfmkjabTDrawA
import Derived.Test.YtjcnbacbnfmkjabTFormsA
import Derived.Test.YtjcnbacbnfmkjabTMath2
import Derived.Test.YtjcnbacbnfmkjabTMark
import Derived.Lib.SmallJoins
import Derived.JoinedOf
import Derived.JoinedAt
import Derived.RowKit3
import Derived.Deep.RegionHeldLaw
import Derived.Deep.DeepFit
namespace Go.Proofs.Ytjcnbacbnfmkjab.FnFinalMost
set_option linter.unusedVariables false
open Go.ChangeShapes Go.WideShapes Go.ChangeAt Go.RowKit Go.Joins
attribute [local simp] far_const

set_option maxRecDepth 20000 in
set_option maxHeartbeats 4000000 in
theorem walk (a : Option Addr) (n cap : Nat) (w : World) (hb : Byt w a w.heap.size n) (hc : n ≤ cap) :
    Calls Try.prog 7 #[.slice a n cap] w fun e w' => e = .returned (.bool true) ∧ Grew w w' := by
  by_cases hn : n ≤ 1048576
  · have hn1 : decide ((1048576 : Int) < (n : Int)) = false := by simp; omega
    go_enter Try.func7, Try.ntmps7
    go_wp2_with fail
    refine (drawTreeFinal_any a n cap _ hb hc hn).mono ?_
    rintro e w1 ⟨v, l, base, rfl, ol, hl, hlw, gg⟩
    have HS := hide (hlw.short (by omega))
    have hll : l.length ≤ 1048576 := by omega
    have R1 := hide ol
    have V1 := hide ol.vtsV
    obtain ⟨gv, capv, rfl, hcapv, _, _, hvts⟩ := ol.shape
    have VT := hide hvts
    clear ol hlw hvts
    have S0 := hide (show Grew w w1 from gg)
    clear gg
    obtain ⟨f, hf⟩ : ∃ f, Hid (finalL l = f) := ⟨_, hide rfl⟩
    have hfl : f.length ≤ 1048576 := by rw [← hf.out]; exact finalL_short (unhide HS)
    have hsame : Hid (sameB f f = true) := hide ((sameB_iff f f).2 rfl)
    go_wp2_with fail
    refine (implTreeFinal_v _ ((unhide V1).grew (Grew.refl _)) (unhide HS) hll).mono ?_
    rw [hf.out]
    rintro e w2 ⟨vf, rfl, hvf, gg⟩
    have S1 := hide (show Grew w1 w2 from gg)
    obtain ⟨fa, fcap, rfl, hfc, hif, _⟩ := hvf.shape
    have IF := hide hif
    clear hif hvf
    clear gg
    go_wp2_with fail
    refine (specTreeFinal_r _ ((unhide R1).grew (unhide S1)) (unhide HS) hll).mono ?_
    rw [hf.out]
    rintro e w3 ⟨vs, rfl, ⟨sa2, sc2, hvs2, _, his⟩, gg⟩
    have S2 := hide (show Grew w2 w3 from gg)
    subst hvs2
    have IS := hide his
    clear his
    clear gg
    go_wp2_with fail
    refine (lwSame_any _ _ _ _ f f _ ((unhide IF).grew (unhide S2)) (unhide IS) hfl hfl).mono ?_
    rw [hsame.out]
    rintro e w4 ⟨rfl, gg⟩
    have S3 := hide (show Grew w3 w4 from gg)
    clear gg
    go_wp2_with fail
    refine (specVotesOk_v _ ((unhide V1).grew (((unhide S1).trans (unhide S2)).trans (unhide S3))) (unhide HS) hll).mono ?_
    rintro e w5 ⟨rfl, gg⟩
    have S4 := hide (show Grew w4 w5 from gg)
    clear gg
    cases hv : votesB l with
    | false =>
      go_wp2_with fail
      refine (specTreeFinal_r _ ((unhide R1).grew ((((unhide S1).trans (unhide S2)).trans (unhide S3)).trans (unhide S4))) (unhide HS) hll).mono ?_
      rw [hf.out]
      rintro e w6 ⟨vs, rfl, ⟨sa5, sc5, hvs5, _, his⟩, gg⟩
      have S5 := hide (show Grew w5 w6 from gg)
      subst hvs5
      have IS := hide his
      clear his
      clear gg
      go_wp2_with fail
      refine (lwSame_any _ _ _ _ f f _ ((unhide IF).grew ((((unhide S2).trans (unhide S3)).trans (unhide S4)).trans (unhide S5))) (unhide IS) hfl hfl).mono ?_
      rw [hsame.out]
      rintro e w7 ⟨rfl, gg⟩
      have S6 := hide (show Grew w6 w7 from gg)
      clear gg
      go_wp2
      go_ret
      exact ⟨rfl, (((((((unhide S0).trans (unhide S1)).trans (unhide S2)).trans (unhide S3)).trans (unhide S4)).trans (unhide S5)).trans (unhide S6))⟩
    | true =>
      obtain ⟨cs, hcs⟩ : ∃ cs, Hid (allL l = cs) := ⟨_, hide rfl⟩
      have hcl : cs.length ≤ 1048577 := by have := allL_len l; rw [hcs.out] at this; omega
      have HSh : Hid (∀ d ∈ cs, d.length ≤ 1048576) := hide (by rw [← hcs.out]; exact allL_short (unhide HS))
      have HCI : Hid ((if votesB l = true then allS l else []) = cs) := hide hcs.out
      have HCA : Hid (votesB l = true → cs = allS l) := hide (fun h => by rw [← hcs.out]; exact allL_yes h)
      have HCN : Hid (votesB l = false → cs = []) := hide (fun h => by rw [← hcs.out]; exact allL_no h)
      have hlne : (((cs.length : Nat) : Int) != ((cs.length : Nat) : Int)) = false := by simp
      have hleq : (((cs.length : Nat) : Int) == ((cs.length : Nat) : Int)) = true := by simp
      go_wp2_with fail
      refine (implTreeAll_v _ ((unhide V1).grew ((((unhide S1).trans (unhide S2)).trans (unhide S3)).trans (unhide S4))) (unhide HS) hll).mono ?_
      rw [HCI.out]
      rintro e w6 ⟨va, ha, rfl, hka, gg⟩
      have S5 := hide (show Grew w5 w6 from gg)
      obtain ⟨aa, acap, rfl, hac, hax⟩ := hka.chsV
      have HA : Hid (ChsV w6 (.slice aa cs.length acap) cs) := hide ⟨aa, acap, rfl, hac, hax⟩
      have HAX := hide hax
      clear hka hax
      clear gg
      have HGE : Hid (∀ c ∈ cs, ∀ p, p + 2 < c.length → endsB (c.take (p + 2 + 1)) = true → p + 2 ≤ f.length) := hide (fun c hc p hp he => by rw [← hf.out]; exact final_ge hv (by rw [← HCA.out hv]; exact hc) hp he)
      have W0 := hide ((((((unhide S0).trans (unhide S1)).trans (unhide S2)).trans (unhide S3)).trans (unhide S4)).trans (unhide S5))
      clear hv
      go_wp2_with fail
      go_loopw [6] (fun i wr => ∃ k : Nat, k ≤ cs.length ∧ i = .int .i64 k ∧ Grew w6 wr) (fun i _ => cs.length - (intOf i).toNat)
      case atStart => exact ⟨0, Nat.zero_le _, rfl, Grew.refl _⟩
      case round =>
        obtain ⟨k, hk, rfl, hg⟩ := hrel
        by_cases hlt : k < cs.length
        · obtain ⟨b1, off, ai, ci, rfl, c1, hci, hi⟩ := HAX.out k hlt
          have e1 := hg.keep c1
          have hs1 := HSh.out _ (List.getElem_mem hlt)
          have HI := hide (hi.grew hg)
          have HG := hide (HGE.out _ (List.getElem_mem hlt))
          obtain ⟨d, hd⟩ : ∃ d, d = cs[k] := ⟨_, rfl⟩
          rw [← hd] at e1 hs1 HI HG
          clear hd c1 hi hci
          obtain ⟨wo, rfl⟩ : ∃ wo, wo = wr := ⟨wr, rfl⟩
          go_wp2_with fail
          go_loopw [8] (fun i wq => ∃ (p : Nat) (z : Int), i = .int .i64 z ∧ z = (p : Int) + 2 ∧ p ≤ d.length ∧ Grew wo wq) (fun i _ => d.length + 2 - (intOf i).toNat)
          case atStart => exact ⟨0, 2, rfl, rfl, Nat.zero_le _, Grew.refl _⟩
          case round =>
            obtain ⟨p, z, rfl, rfl, hp, hgq⟩ := hrel
            by_cases hpl : p + 2 < d.length
            · have hdp : decide ((p : Int) + 2 < (d.length : Int)) = true := by simp; omega
              obtain ⟨b0, o0, rfl, hat0⟩ := ((unhide HI).grew hgq).at (i := p) (by omega)
              obtain ⟨b2, o1, ex1, hat1⟩ := ((unhide HI).grew hgq).at (i := p + 1) (by omega)
              obtain ⟨b3, o2, ex2, hat2⟩ := ((unhide HI).grew hgq).at (i := p + 2) hpl
              simp only [Option.some.injEq, Addr.mk.injEq, and_true] at ex1 ex2
              obtain ⟨rfl, rfl⟩ := ex1
              obtain ⟨rfl, rfl⟩ := ex2
              have f0 := Grew.gcell hat0.1
              have f1 := Grew.gcell hat1.1
              have f2 := Grew.gcell hat2.1
              have hE := endsB_at hpl
              have q2 : wrap64 ((p : Int) + 2 - 2) = (p : Int) := by rw [show (p : Int) + 2 - 2 = (p : Int) by omega]; unfold wrap64; omega
              have q1 : wrap64 ((p : Int) + 2 - 1) = ((p + 1 : Nat) : Int) := by rw [show (p : Int) + 2 - 1 = ((p + 1 : Nat) : Int) by omega]; unfold wrap64; omega
              clear hat0 hat1 hat2
              cases hb1 : (wrap64 (d[p].e + 1) == d[p + 1].e) with
              | false =>
                clear hE
                go_wp2_with fail
                refine quietly (by kernel_rfl) (by kernel_rfl) ?_
                repeat (go_big_quiet_step (first | fail))
                refine wpQuiet_nil ?_
                intro _ hw'
                obtain ⟨⟨nq, osq⟩, hw''⟩ := hw'
                subst hw''
                have g7 : Grew wr (far wr nq osq) := ⟨_, _, rfl⟩
                obtain ⟨w7, hw7⟩ : ∃ w7, Hid (w7 = far wr nq osq) := ⟨_, hide rfl⟩
                rw [← hw7.out] at g7 ⊢
                go_wp2
                go_roundw
                case rel => exact ⟨p + 1, (p : Int) + 2 + 1, by first | rfl | go_num | (simp; omega), by omega, by omega, hgq.trans g7⟩
                case measure => simp [intOf]; omega
              | true =>
                cases hb2 : (wrap64 (d[p + 1].e + 1) == d[p + 2].e) with
                | false =>
                  clear hE
                  go_wp2_with fail
                  refine quietly (by kernel_rfl) (by kernel_rfl) ?_
                  repeat (go_big_quiet_step (first | fail))
                  refine wpQuiet_nil ?_
                  intro _ hw'
                  obtain ⟨⟨nq, osq⟩, hw''⟩ := hw'
                  subst hw''
                  have g7 : Grew wr (far wr nq osq) := ⟨_, _, rfl⟩
                  obtain ⟨w7, hw7⟩ : ∃ w7, Hid (w7 = far wr nq osq) := ⟨_, hide rfl⟩
                  rw [← hw7.out] at g7 ⊢
                  go_wp2
                  go_roundw
                  case rel => exact ⟨p + 1, (p : Int) + 2 + 1, by first | rfl | go_num | (simp; omega), by omega, by omega, hgq.trans g7⟩
                  case measure => simp [intOf]; omega
                | true =>
                  have hle := HG.out p hpl (by rw [hE, hb1, hb2]; rfl)
                  have hgt : decide ((f.length : Int) < (p : Int) + 2) = false := by simp; omega
                  have hgt2 : ¬ ((f.length : Int) < (p : Int) + 2) := by omega
                  clear hE hle
                  go_wp2_with fail
                  refine quietly (by kernel_rfl) (by kernel_rfl) ?_
                  repeat (go_big_quiet_step (first | fail))
                  refine wpQuiet_nil ?_
                  intro _ hw'
                  obtain ⟨⟨nq, osq⟩, hw''⟩ := hw'
                  subst hw''
                  have g7 : Grew wr (far wr nq osq) := ⟨_, _, rfl⟩
                  obtain ⟨w7, hw7⟩ : ∃ w7, Hid (w7 = far wr nq osq) := ⟨_, hide rfl⟩
                  rw [← hw7.out] at g7 ⊢
                  go_wp2
                  go_roundw
                  case rel => exact ⟨p + 1, (p : Int) + 2 + 1, by first | rfl | go_num | (simp; omega), by omega, by omega, hgq.trans g7⟩
                  case measure => simp [intOf]; omega
            · have hdp : decide ((p : Int) + 2 < (d.length : Int)) = false := by simp; omega
              have hdq : (d.length : Int) ≤ (p : Int) + 2 := by omega
              go_wp2
              go_roundw
              case rel => exact ⟨k + 1, by omega, by go_num, hg.trans hgq⟩
              case measure => simp [intOf]; omega
        · have hle : (cs.length : Int) ≤ (k : Int) := by omega
          have hdk : decide ((k : Int) < (cs.length : Int)) = false := by simp; omega
          go_wp2
          go_ret
          exact ⟨rfl, (unhide W0).trans hg⟩
  · have hn1 : decide ((1048576 : Int) < (n : Int)) = true := by simp; omega
    clear hn
    go_enter Try.func7, Try.ntmps7
    go_wp2
    go_ret
    exact ⟨rfl, Grew.refl _⟩

set_option maxRecDepth 100000 in
theorem lifted (os : Os) (started : os.Started) (H : Type) (enc : TypeId × Value → H) :
    ReturnsInHanded {} Try.checked os 7 .any (Rows.fnFinalMostSpec.pre6 enc Try.prog Try.f7 Rows.fnFinalMostRow.domain false) (Rows.fnFinalMostSpec.post enc Try.prog Try.f7 false true false false) := by
  refine returnsInHanded_of_change (C := Try.checked) own started (by kernel_rfl) Try.func7
    (ChangeSpec.witness6 (enc := enc) (C := Try.checked) false ⟨#[], #[.slice none 0 0], []⟩ 8 (by kernel_rfl) (by kernel_rfl) (by kernel_rfl) (by kernel_rfl)) ?_
  intro W base args ds gs before hval0 hW hcnd _
  have hval : ∀ (j : Nat) t v, Try.f7.params[j]? = some t → args[j]? = some v → Value.okWide Try.prog W .any base t v := hval0
  have hW' := hW
  obtain ⟨p, q, hA0, hV, rfl, hfz, hnd⟩ := hW
  have hA : DataW.TrodAll enc Try.prog W 0 (fun _ => true) true Try.f7.params.toList args.toList ds p := hA0
  rw [Try.params7] at hA hval
  obtain ⟨v0, vs0, d0, ds0, p0, q0, hargs, rfl, rfl, h0, r0⟩ := trodAll_cons hA
  obtain ⟨rfl, rfl, rfl⟩ := trodAll_nil r0
  obtain rfl : args = #[v0] := by cases args; simp_all
  obtain ⟨rfl, rfl⟩ := trodVars_none hV
  have k0 := h0
  have lt0 : ∀ x ∈ p0, x.block < W.heap.size := by obtain ⟨m, hm⟩ := k0; exact DataW.trod_lt m _ _ _ hm
  obtain ⟨a0, len0, cap0, rfl⟩ := okWide_slice Try.underlying22 (hval 0 22 v0 rfl rfl)
  obtain ⟨fuel0, hf0⟩ := h0
  obtain ⟨hb0, hc0⟩ := open_bytes hf0
  clear hA0 hval0
  refine (walk a0 len0 cap0 W hb0 hc0).mono fun e W' ⟨he, bel⟩ => ?_
  subst he
  exact ⟨_, rfl, _, _, _, [], _, [], hW', trodAll_mk1 (shut_bool Try.underlying4 _), (trodAll_cons_mk (Below.trod laidOut (by kernel_rfl) (of_decide_eq_true (by kernel_rfl)) k0 bel.below lt0) trodAll_mk0), rfl, bel.below.frame _, fun h => by cases h⟩

theorem over : Rows.fnFinalMostRow.holds Try.pinned (OpenSpec.ofChange Rows.fnFinalMostSpec) :=
  OpenClaim.holds_of_wide 7 Try.f7 rfl rfl rfl rfl rfl rfl rfl ⟨rfl, rfl, rfl, rfl, rfl⟩ rfl rfl rfl rfl rfl (by kernel_rfl) Try.func7 (by kernel_rfl)
    (of_decide_eq_true (by kernel_rfl)) (by unfold Func.isWrapper; first | (rw [if_pos (by decide +kernel)]; kernel_rfl) | (rw [if_neg (by decide +kernel)]; exact ⟨rfl, rfl⟩))
    (fun os started H enc _ => lifted os started H enc)
end Go.Proofs.Ytjcnbacbnfmkjab.FnFinalMost
namespace Go.Proofs.Ytjcnbacbnfmkjab
theorem fnFinalMost_holds : Rows.FnFinalMostSaid := FnFinalMost.over
#print axioms fnFinalMost_holds
end Go.Proofs.Ytjcnbacbnfmkjab
