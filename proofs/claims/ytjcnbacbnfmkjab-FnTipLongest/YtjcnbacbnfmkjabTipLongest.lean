/-
  FnTipLongest returns true at every row of bytes and leaves its argument as it was: what the statement says; no condition.
-/
import Derived.Test.YtjcnbacbnfmkjabVDraw34
import Derived.Test.YtjcnbacbnfmkjabVLwA
import Derived.Test.YtjcnbacbnfmkjabNumsA
import Derived.Test.YtjcnbacbnfmkjabVote3
import Derived.Test.YtjcnbacbnfmkjabOpen
import Derived.Test.YtjcnbacbnfmkjabTDrawA
import Derived.Test.YtjcnbacbnfmkjabTFormsA
import Derived.Test.YtjcnbacbnfmkjabTMath2
import Derived.Test.YtjcnbacbnfmkjabTMark
import Derived.Lib.SmallJoins
import Derived.JoinedOf
import Derived.JoinedAt
import Derived.RowKit3
import Derived.Deep.RegionHeldLaw
import Derived.Deep.DeepFit
namespace Go.Proofs.Ytjcnbacbnfmkjab.FnTipLongest
set_option linter.unusedVariables false
open Go.ChangeShapes Go.WideShapes Go.ChangeAt Go.RowKit Go.Joins
attribute [local simp] far_const

set_option maxRecDepth 20000 in
set_option maxHeartbeats 4000000 in
theorem walk (a : Option Addr) (n cap : Nat) (w : World) (hb : Byt w a w.heap.size n) (hc : n ≤ cap) :
    Calls Try.prog 4 #[.slice a n cap] w fun e w' => e = .returned (.bool true) ∧ Grew w w' := by
  by_cases hn : n ≤ 1048576
  · have hn1 : decide ((1048576 : Int) < (n : Int)) = false := by simp; omega
    go_enter Try.func4, Try.ntmps4
    go_wp2_with fail
    refine (drawTreeTip_any a n cap _ hb hc hn).mono ?_
    rintro e w1 ⟨v, l, base, rfl, ol, hl, hlw, gg⟩
    have HS := hide (hlw.short (by omega))
    have hll : l.length ≤ 1048576 := by omega
    have R1 := hide ol
    have V1 := hide ol.vtsV
    obtain ⟨gv, capv, rfl, hcapv, _, _, hvts⟩ := ol.shape
    have VT := hide hvts
    clear ol hlw hvts
    have S0 := hide (show Grew w w1 from gg)
    clear gg
    obtain ⟨f, hf⟩ : ∃ f, Hid (tipL l = f) := ⟨_, hide rfl⟩
    have hfl : f.length ≤ 1048576 := by rw [← hf.out]; exact tipL_short (unhide HS)
    have hsame : Hid (sameB f f = true) := hide ((sameB_iff f f).2 rfl)
    go_wp2_with fail
    refine (implTreeTip_v _ ((unhide V1).grew (Grew.refl _)) (unhide HS) hll).mono ?_
    rw [hf.out]
    rintro e w2 ⟨vf, rfl, hvf, gg⟩
    have S1 := hide (show Grew w1 w2 from gg)
    obtain ⟨fa, fcap, rfl, hfc, hif, _⟩ := hvf.shape
    have IF := hide hif
    clear hif hvf
    clear gg
    go_wp2_with fail
    refine (specTreeTip_r _ ((unhide R1).grew (unhide S1)) (unhide HS) hll).mono ?_
    rw [hf.out]
    rintro e w3 ⟨vs, rfl, ⟨sa2, sc2, hvs2, _, his⟩, gg⟩
    have S2 := hide (show Grew w2 w3 from gg)
    subst hvs2
    have IS := hide his
    clear his
    clear gg
    go_wp2_with fail
    refine (lwSame_any _ _ _ _ f f _ ((unhide IF).grew (unhide S2)) (unhide IS) hfl hfl).mono ?_
    rw [hsame.out]
    rintro e w4 ⟨rfl, gg⟩
    have S3 := hide (show Grew w3 w4 from gg)
    clear gg
    go_wp2_with fail
    refine (specVotesOk_v _ ((unhide V1).grew (((unhide S1).trans (unhide S2)).trans (unhide S3))) (unhide HS) hll).mono ?_
    rintro e w5 ⟨rfl, gg⟩
    have S4 := hide (show Grew w4 w5 from gg)
    clear gg
    cases hv : votesB l with
    | false =>
      go_wp2_with fail
      refine (specTreeTip_r _ ((unhide R1).grew ((((unhide S1).trans (unhide S2)).trans (unhide S3)).trans (unhide S4))) (unhide HS) hll).mono ?_
      rw [hf.out]
      rintro e w6 ⟨vs, rfl, ⟨sa5, sc5, hvs5, _, his⟩, gg⟩
      have S5 := hide (show Grew w5 w6 from gg)
      subst hvs5
      have IS := hide his
      clear his
      clear gg
      go_wp2_with fail
      refine (lwSame_any _ _ _ _ f f _ ((unhide IF).grew ((((unhide S2).trans (unhide S3)).trans (unhide S4)).trans (unhide S5))) (unhide IS) hfl hfl).mono ?_
      rw [hsame.out]
      rintro e w7 ⟨rfl, gg⟩
      have S6 := hide (show Grew w6 w7 from gg)
      clear gg
      go_wp2
      go_ret
      exact ⟨rfl, (((((((unhide S0).trans (unhide S1)).trans (unhide S2)).trans (unhide S3)).trans (unhide S4)).trans (unhide S5)).trans (unhide S6))⟩
    | true =>
      obtain ⟨cs, hcs⟩ : ∃ cs, Hid (allL l = cs) := ⟨_, hide rfl⟩
      have hcl : cs.length ≤ 1048577 := by have := allL_len l; rw [hcs.out] at this; omega
      have HSh : Hid (∀ d ∈ cs, d.length ≤ 1048576) := hide (by rw [← hcs.out]; exact allL_short (unhide HS))
      have HCI : Hid ((if votesB l = true then allS l else []) = cs) := hide hcs.out
      have HCA : Hid (votesB l = true → cs = allS l) := hide (fun h => by rw [← hcs.out]; exact allL_yes h)
      have HCN : Hid (votesB l = false → cs = []) := hide (fun h => by rw [← hcs.out]; exact allL_no h)
      have hlne : (((cs.length : Nat) : Int) != ((cs.length : Nat) : Int)) = false := by simp
      have hleq : (((cs.length : Nat) : Int) == ((cs.length : Nat) : Int)) = true := by simp
      go_wp2_with fail
      refine (implTreeAll_v _ ((unhide V1).grew ((((unhide S1).trans (unhide S2)).trans (unhide S3)).trans (unhide S4))) (unhide HS) hll).mono ?_
      rw [HCI.out]
      rintro e w6 ⟨va, ha, rfl, hka, gg⟩
      have S5 := hide (show Grew w5 w6 from gg)
      obtain ⟨aa, acap, rfl, hac, hax⟩ := hka.chsV
      have HA : Hid (ChsV w6 (.slice aa cs.length acap) cs) := hide ⟨aa, acap, rfl, hac, hax⟩
      have HAX := hide hax
      clear hka hax
      clear gg
      have HL : Hid (f = longest cs) := hide (by rw [HCA.out hv, ← hf.out, tipL_of hv])
      have HIN : Hid (f ∈ cs) := hide (by rw [HL.out, HCA.out hv]; exact longest_all)
      have HSU : Hid (sureL l f = true) := hide (all_sure hv (by rw [← HCA.out hv]; exact HIN.out))
      have HLO : Hid (longL l = (f.length : Nat)) := hide (by rw [longL_of hv, HL.out, HCA.out hv])
      have W0 := hide ((((((unhide S0).trans (unhide S1)).trans (unhide S2)).trans (unhide S3)).trans (unhide S4)).trans (unhide S5))
      have W1 := hide (((((unhide S1).trans (unhide S2)).trans (unhide S3)).trans (unhide S4)).trans (unhide S5))
      have WF := hide ((((unhide S2).trans (unhide S3)).trans (unhide S4)).trans (unhide S5))
      clear hv
      go_wp2_with fail
      go_loopw [6, 7] (fun s i wr => ∃ (k : Nat) (sn : Bool), k ≤ cs.length ∧ i = .int .i64 k ∧ s = .bool sn ∧ Hid (sn = amongB (cs.take k) f) ∧ Grew w6 wr) (fun _ i _ => cs.length - (intOf i).toNat)
      case atStart => exact ⟨0, false, Nat.zero_le _, rfl, rfl, hide rfl, Grew.refl _⟩
      case round =>
        obtain ⟨k, sn, hk, rfl, rfl, hsn, hg⟩ := hrel
        by_cases hlt : k < cs.length
        · obtain ⟨b1, off, ai, ci, rfl, c1, hci, hi⟩ := HAX.out k hlt
          have e1 := hg.keep c1
          have hs1 := HSh.out _ (List.getElem_mem hlt)
          have HI := hide (hi.grew hg)
          have hge : cs[k].length ≤ f.length := by rw [HL.out]; exact longest_ge cs _ (List.getElem_mem hlt)
          have hfst : cs[k].length = f.length → sn = false → cs[k] = f := fun h1 h2 => by
            have h3 := hsn.out
            rw [h2, HL.out] at h3
            rw [HL.out] at h1 ⊢
            exact longest_first hlt h1 h3.symm
          have hstp : amongB (cs.take (k + 1)) f = (sn || sameB cs[k] f) := by rw [hsn.out]; exact any_take cs (fun d => sameB d f) k hlt
          have hX := hide (lwSame_any ai fa ci fcap cs[k] f wr (unhide HI) ((unhide IF).grew ((unhide WF).trans hg)) hs1 hfl)
          have hsb : sameB cs[k] f = true ↔ cs[k] = f := sameB_iff _ _
          obtain ⟨d, hd⟩ : ∃ d, d = cs[k] := ⟨_, rfl⟩
          rw [← hd] at e1 hs1 HI hge hfst hstp hX hsb
          have hdd : decide (f.length < d.length) = false := by simp; omega
          have hdi : decide ((f.length : Int) < (d.length : Int)) = false := by simp; omega
          clear hd c1 hi hci
          cases sn with
          | true =>
            have HST : Hid (true = amongB (cs.take (k + 1)) f) := hide (by rw [hstp]; rfl)
            clear hstp hfst hsb
            go_wp2
            go_roundw
            case rel => exact ⟨k + 1, true, by omega, by go_num, rfl, HST, hg⟩
            case measure => simp [intOf]; omega
          | false =>
            by_cases hle : d.length = f.length
            · have hee := hfst hle rfl
              have hb := hsb.2 hee
              have HST : Hid (true = amongB (cs.take (k + 1)) f) := hide (by rw [hstp, hb]; rfl)
              rw [hb] at hX
              have hb2 := hide hb
              have hq : ((d.length : Int) == (f.length : Int)) = true := by simp; omega
              clear hstp hfst hsb hee hb hle
              go_wp2_with fail
              refine hX.out.mono ?_
              rintro e w8 ⟨rfl, g8⟩
              have hX := hide (lwSame_any ai fa ci fcap d f w8 ((unhide HI).grew g8) ((unhide IF).grew ((unhide WF).trans (hg.trans g8))) hs1 hfl)
              rw [hb2.out] at hX
              have e2 := g8.keep e1
              go_wp2_with fail
              refine hX.out.mono ?_
              rintro e w9 ⟨rfl, g9⟩
              go_wp2
              go_roundw
              case rel => exact ⟨k + 1, true, by omega, by go_num, rfl, HST, (hg.trans g8).trans g9⟩
              case measure => simp [intOf]; omega
            · have hb : sameB d f = false := by
                cases h : sameB d f with
                | false => rfl
                | true => exact absurd (by rw [hsb.1 h]) hle
              have HST : Hid (false = amongB (cs.take (k + 1)) f) := hide (by rw [hstp, hb]; rfl)
              rw [hb] at hX
              have hq : ((d.length : Int) == (f.length : Int)) = false := by simp; omega
              clear hstp hfst hsb hb hle
              go_wp2_with fail
              refine hX.out.mono ?_
              rintro e w8 ⟨rfl, g8⟩
              go_wp2
              go_roundw
              case rel => exact ⟨k + 1, false, by omega, by go_num, rfl, HST, hg.trans g8⟩
              case measure => simp [intOf]; omega
        · have hkl : k = cs.length := by omega
          have hle : (cs.length : Int) ≤ (k : Int) := by omega
          have hdk : decide ((k : Int) < (cs.length : Int)) = false := by simp; omega
          have hst : sn = true := by rw [hsn.out, hkl, List.take_length]; exact (among_iff _ _).2 HIN.out
          subst hst
          clear hkl
          have hX := hide (implTreeSure_v fa fcap f wr ((unhide V1).grew ((unhide W1).trans hg)) (unhide HS) hll ((unhide IF).grew ((unhide WF).trans hg)) hfl)
          rw [HSU.out] at hX
          go_wp2_with fail
          refine hX.out.mono ?_
          clear hX
          rintro e w8 ⟨rfl, g8⟩
          have hX := hide (implTreeLong_v w8 ((unhide V1).grew ((unhide W1).trans (hg.trans g8))) (unhide HS) hll)
          rw [HLO.out] at hX
          have hq : (((f.length : Nat) : Int) == ((f.length : Nat) : Int)) = true := by simp
          go_wp2_with fail
          refine hX.out.mono ?_
          clear hX
          rintro e w9 ⟨rfl, g9⟩
          go_wp2
          go_ret
          exact ⟨by first | rfl | simp [hq], (unhide W0).trans ((hg.trans g8).trans g9)⟩
  · have hn1 : decide ((1048576 : Int) < (n : Int)) = true := by simp; omega
    clear hn
    go_enter Try.func4, Try.ntmps4
    go_wp2
    go_ret
    exact ⟨rfl, Grew.refl _⟩

set_option maxRecDepth 100000 in
theorem lifted (os : Os) (started : os.Started) (H : Type) (enc : TypeId × Value → H) :
    ReturnsInHanded {} Try.checked os 4 .any (Rows.fnTipLongestSpec.pre6 enc Try.prog Try.f4 Rows.fnTipLongestRow.domain false) (Rows.fnTipLongestSpec.post enc Try.prog Try.f4 false true false false) := by
  refine returnsInHanded_of_change (C := Try.checked) own started (by kernel_rfl) Try.func4
    (ChangeSpec.witness6 (enc := enc) (C := Try.checked) false ⟨#[], #[.slice none 0 0], []⟩ 8 (by kernel_rfl) (by kernel_rfl) (by kernel_rfl) (by kernel_rfl)) ?_
  intro W base args ds gs before hval0 hW hcnd _
  have hval : ∀ (j : Nat) t v, Try.f4.params[j]? = some t → args[j]? = some v → Value.okWide Try.prog W .any base t v := hval0
  have hW' := hW
  obtain ⟨p, q, hA0, hV, rfl, hfz, hnd⟩ := hW
  have hA : DataW.TrodAll enc Try.prog W 0 (fun _ => true) true Try.f4.params.toList args.toList ds p := hA0
  rw [Try.params4] at hA hval
  obtain ⟨v0, vs0, d0, ds0, p0, q0, hargs, rfl, rfl, h0, r0⟩ := trodAll_cons hA
  obtain ⟨rfl, rfl, rfl⟩ := trodAll_nil r0
  obtain rfl : args = #[v0] := by cases args; simp_all
  obtain ⟨rfl, rfl⟩ := trodVars_none hV
  have k0 := h0
  have lt0 : ∀ x ∈ p0, x.block < W.heap.size := by obtain ⟨m, hm⟩ := k0; exact DataW.trod_lt m _ _ _ hm
  obtain ⟨a0, len0, cap0, rfl⟩ := okWide_slice Try.underlying22 (hval 0 22 v0 rfl rfl)
  obtain ⟨fuel0, hf0⟩ := h0
  obtain ⟨hb0, hc0⟩ := open_bytes hf0
  clear hA0 hval0
  refine (walk a0 len0 cap0 W hb0 hc0).mono fun e W' ⟨he, bel⟩ => ?_
  subst he
  exact ⟨_, rfl, _, _, _, [], _, [], hW', trodAll_mk1 (shut_bool Try.underlying4 _), (trodAll_cons_mk (Below.trod laidOut (by kernel_rfl) (of_decide_eq_true (by kernel_rfl)) k0 bel.below lt0) trodAll_mk0), rfl, bel.below.frame _, fun h => by cases h⟩

theorem over : Rows.fnTipLongestRow.holds Try.pinned (OpenSpec.ofChange Rows.fnTipLongestSpec) :=
  OpenClaim.holds_of_wide 4 Try.f4 rfl rfl rfl rfl rfl rfl rfl ⟨rfl, rfl, rfl, rfl, rfl⟩ rfl rfl rfl rfl rfl (by kernel_rfl) Try.func4 (by kernel_rfl)
    (of_decide_eq_true (by kernel_rfl)) (by unfold Func.isWrapper; first | (rw [if_pos (by decide +kernel)]; kernel_rfl) | (rw [if_neg (by decide +kernel)]; exact ⟨rfl, rfl⟩))
    (fun os started H enc _ => lifted os started H enc)
end Go.Proofs.Ytjcnbacbnfmkjab.FnTipLongest
namespace Go.Proofs.Ytjcnbacbnfmkjab
theorem fnTipLongest_holds : Rows.FnTipLongestSaid := FnTipLongest.over
#print axioms fnTipLongest_holds
end Go.Proofs.Ytjcnbacbnfmkjab
