/-
  FnFinalSure returns true at every row of bytes and leaves its argument as it was: what the statement says; no condition.
-/
import Derived.Test.YtjcnbacbnfmkjabVDraw34
import Derived.Test.YtjcnbacbnfmkjabVLwA
import Derived.Test.YtjcnbacbnfmkjabNumsA
import Derived.Test.YtjcnbacbnfmkjabVote3
import Derived.Test.YtjcnbacbnfmkjabOpen
import Derived.Test.YtjcnbacbnfmkjabTDrawA
import Derived.Test.YtjcnbacbnfmkjabTFormsA
import Derived.Test.YtjcnbacbnfmkjabTMath2
import Derived.Test.YtjcnbacbnfmkjabTMark
import Derived.Lib.SmallJoins
import Derived.JoinedOf
import Derived.JoinedAt
import Derived.RowKit3
import Derived.Deep.RegionHeldLaw
import Derived.Deep.DeepFit
namespace Go.Proofs.Ytjcnbacbnfmkjab.FnFinalSure
set_option linter.unusedVariables false
open Go.ChangeShapes Go.WideShapes Go.ChangeAt Go.RowKit Go.Joins
attribute [local simp] far_const

theorem ends_of {c : List It} {n p : Nat} (hn : n = p + 2) (h : n < c.length) : endsB (c.take (n + 1)) = ((wrap64 ((c[p]'(by omega)).e + 1) == (c[p + 1]'(by omega)).e) && (wrap64 ((c[p + 1]'(by omega)).e + 1) == c[n].e)) := by subst hn; exact endsB_at h
theorem inC_takeK {l : List It} (h : okB l = true) (k : Nat) : inC (l.take k) l = true := by
  unfold inC
  rw [ok_take h k, h, decide_eq_true ((shareN_all _ _).2 ⟨l.drop k, (List.take_append_drop k l).symm⟩)]
  rfl
def condB (f c : List It) : Bool := decide (f.length < c.length) && inC f c && endsB (c.take (f.length + 1))
set_option maxRecDepth 20000 in
set_option maxHeartbeats 4000000 in
theorem walk (a : Option Addr) (n cap : Nat) (w : World) (hb : Byt w a w.heap.size n) (hc : n ≤ cap) :
    Calls Try.prog 6 #[.slice a n cap] w fun e w' => e = .returned (.bool true) ∧ Grew w w' := by
  by_cases hn : n ≤ 1048576
  · have hn1 : decide ((1048576 : Int) < (n : Int)) = false := by simp; omega
    go_enter Try.func6, Try.ntmps6
    go_wp2_with fail
    refine (drawTreeFinal_any a n cap _ hb hc hn).mono ?_
    rintro e w1 ⟨v, l, base, rfl, ol, hl, hlw, gg⟩
    have HS := hide (hlw.short (by omega))
    have hll : l.length ≤ 1048576 := by omega
    have R1 := hide ol
    have V1 := hide ol.vtsV
    obtain ⟨gv, capv, rfl, hcapv, _, _, hvts⟩ := ol.shape
    have VT := hide hvts
    clear ol hlw hvts
    have S0 := hide (show Grew w w1 from gg)
    clear gg
    obtain ⟨f, hf⟩ : ∃ f, Hid (finalL l = f) := ⟨_, hide rfl⟩
    have hfl : f.length ≤ 1048576 := by rw [← hf.out]; exact finalL_short (unhide HS)
    have hsame : Hid (sameB f f = true) := hide ((sameB_iff f f).2 rfl)
    go_wp2_with fail
    refine (implTreeFinal_v _ ((unhide V1).grew (Grew.refl _)) (unhide HS) hll).mono ?_
    rw [hf.out]
    rintro e w2 ⟨vf, rfl, hvf, gg⟩
    have S1 := hide (show Grew w1 w2 from gg)
    obtain ⟨fa, fcap, rfl, hfc, hif, _⟩ := hvf.shape
    have IF := hide hif
    clear hif hvf
    clear gg
    go_wp2_with fail
    refine (specTreeFinal_r _ ((unhide R1).grew (unhide S1)) (unhide HS) hll).mono ?_
    rw [hf.out]
    rintro e w3 ⟨vs, rfl, ⟨sa2, sc2, hvs2, _, his⟩, gg⟩
    have S2 := hide (show Grew w2 w3 from gg)
    subst hvs2
    have IS := hide his
    clear his
    clear gg
    go_wp2_with fail
    refine (lwSame_any _ _ _ _ f f _ ((unhide IF).grew (unhide S2)) (unhide IS) hfl hfl).mono ?_
    rw [hsame.out]
    rintro e w4 ⟨rfl, gg⟩
    have S3 := hide (show Grew w3 w4 from gg)
    clear gg
    by_cases hf0 : f.length = 0
    · have hz0 : (((f.length : Nat) : Int) == 0) = true := by rw [hf0]; rfl
      clear hf0
      go_wp2_with fail
      refine (specTreeFinal_r _ ((unhide R1).grew (((unhide S1).trans (unhide S2)).trans (unhide S3))) (unhide HS) hll).mono ?_
      rw [hf.out]
      rintro e w5 ⟨vs, rfl, ⟨sa4, sc4, hvs4, _, his⟩, gg⟩
      have S4 := hide (show Grew w4 w5 from gg)
      subst hvs4
      have IS := hide his
      clear his
      clear gg
      go_wp2_with fail
      refine (lwSame_any _ _ _ _ f f _ ((unhide IF).grew (((unhide S2).trans (unhide S3)).trans (unhide S4))) (unhide IS) hfl hfl).mono ?_
      rw [hsame.out]
      rintro e w6 ⟨rfl, gg⟩
      have S5 := hide (show Grew w5 w6 from gg)
      clear gg
      go_wp2
      go_ret
      exact ⟨rfl, ((((((unhide S0).trans (unhide S1)).trans (unhide S2)).trans (unhide S3)).trans (unhide S4)).trans (unhide S5))⟩
    · have hz0 : (((f.length : Nat) : Int) == 0) = false := by simp; exact fun e => hf0 (by rw [e]; rfl)
      have hv : votesB l = true := by
        cases h : votesB l with
        | true => rfl
        | false => exact absurd (by rw [← hf.out]; simp [finalL, h]) hf0
      obtain ⟨cs, hcs⟩ : ∃ cs, Hid (allL l = cs) := ⟨_, hide rfl⟩
      have hcl : cs.length ≤ 1048577 := by have := allL_len l; rw [hcs.out] at this; omega
      have HSh : Hid (∀ d ∈ cs, d.length ≤ 1048576) := hide (by rw [← hcs.out]; exact allL_short (unhide HS))
      have HCI : Hid ((if votesB l = true then allS l else []) = cs) := hide hcs.out
      have HCA : Hid (votesB l = true → cs = allS l) := hide (fun h => by rw [← hcs.out]; exact allL_yes h)
      have HCN : Hid (votesB l = false → cs = []) := hide (fun h => by rw [← hcs.out]; exact allL_no h)
      have hlne : (((cs.length : Nat) : Int) != ((cs.length : Nat) : Int)) = false := by simp
      have hleq : (((cs.length : Nat) : Int) == ((cs.length : Nat) : Int)) = true := by simp
      go_wp2_with fail
      refine (implTreeAll_v _ ((unhide V1).grew (((unhide S1).trans (unhide S2)).trans (unhide S3))) (unhide HS) hll).mono ?_
      rw [HCI.out]
      rintro e w5 ⟨va, ha, rfl, hka, gg⟩
      have S4 := hide (show Grew w4 w5 from gg)
      obtain ⟨aa, acap, rfl, hac, hax⟩ := hka.chsV
      have HA : Hid (ChsV w5 (.slice aa cs.length acap) cs) := hide ⟨aa, acap, rfl, hac, hax⟩
      have HAX := hide hax
      clear hka hax
      clear gg
      obtain ⟨mm, hm1, hm2, hm3, hm4, hm5, hm6⟩ := final_is hv (by rw [hf.out]; omega)
      rw [hf.out] at hm2 hm3
      have hf2 : 2 ≤ f.length := by omega
      have hmo : okB mm = true := all_ok hv hm1
      have HM : Hid (∃ j, ∃ h : j < cs.length, condB f cs[j] = true) := hide (by
        rw [← HCA.out hv] at hm1
        obtain ⟨j, h, e⟩ := List.mem_iff_getElem.1 hm1
        refine ⟨j, h, ?_⟩
        rw [e]; unfold condB
        have h1 : f.length < mm.length := by omega
        have h2 : inC f mm = true := by rw [hm3]; exact inC_takeK hmo _
        have h3 : endsB (mm.take (f.length + 1)) = true := by rw [← hm2]; exact hm6
        rw [decide_eq_true h1, h2, h3]; rfl)
      have HSU : Hid (sureL l f = true) := hide (by rw [hm3]; exact all_sure hv (all_take hm1 _))
      have hlong : longL l = ((longest (allS l)).length : Nat) := longL_of hv
      have hlong2 := longest_ge _ _ hm1
      obtain ⟨L, hL⟩ : ∃ L : Nat, Hid ((longest (allS l)).length = L) := ⟨_, hide rfl⟩
      rw [hL.out] at hlong hlong2
      have hLf : f.length < L := by omega
      have HLO := hide hlong
      obtain ⟨p, hp⟩ : ∃ p, Hid (f.length = p + 2) := ⟨f.length - 2, hide (by omega)⟩
      have hpl : p + 2 ≤ f.length := by have := hp.out; omega
      have q2 : wrap64 ((f.length : Int) - 2) = (p : Int) := by rw [show (f.length : Int) - 2 = (p : Int) by have := hp.out; omega]; have := hp.out; unfold wrap64; omega
      have q1 : wrap64 ((f.length : Int) - 1) = ((p + 1 : Nat) : Int) := by rw [show (f.length : Int) - 1 = ((p + 1 : Nat) : Int) by have := hp.out; omega]; have := hp.out; unfold wrap64; omega
      have q3 : (f.length : Int) - 2 = (p : Int) := by have := hp.out; omega
      have q4 : (f.length : Int) - 1 = ((p + 1 : Nat) : Int) := by have := hp.out; omega
      have q5 : f.length - 2 = p := by have := hp.out; omega
      have q6 : f.length - 1 = p + 1 := by have := hp.out; omega
      have hg2 : decide ((2 : Int) ≤ (f.length : Int)) = true := by simp; omega
      have W0 := hide (((((unhide S0).trans (unhide S1)).trans (unhide S2)).trans (unhide S3)).trans (unhide S4))
      have WV := hide ((((unhide S1).trans (unhide S2)).trans (unhide S3)).trans (unhide S4))
      have WA := hide (show Grew w5 w5 from (Grew.refl _))
      have WF := hide (((unhide S2).trans (unhide S3)).trans (unhide S4))
      clear hv hm1 hm2 hm3 hm4 hm5 hm6 hmo hlong hlong2
      go_wp2_with fail
      go_loopw [7] (fun i wr => ∃ k : Nat, k ≤ cs.length ∧ i = .int .i64 k ∧ Hid (∀ j, j < k → ∀ h : j < cs.length, condB f cs[j] = false) ∧ Grew w5 wr) (fun i _ => cs.length - (intOf i).toNat)
      case atStart => exact ⟨0, Nat.zero_le _, rfl, hide (fun j h => absurd h (Nat.not_lt_zero _)), Grew.refl _⟩
      case round =>
        obtain ⟨k, hk, rfl, hno, hg⟩ := hrel
        by_cases hlt : k < cs.length
        · obtain ⟨b1, off, ai, ci, rfl, c1, hci, hi⟩ := HAX.out k hlt
          have e1 := hg.keep ((unhide WA).keep c1)
          have hs1 := HSh.out _ (List.getElem_mem hlt)
          have HI := hide (hi.grew ((unhide WA).trans hg))
          obtain ⟨d, hd⟩ : ∃ d, Hid (d = cs[k]) := ⟨_, hide rfl⟩
          rw [← hd.out] at e1 hs1 HI
          have hX1 : ∀ W, Grew wr W → Hid (Calls Try.prog 31 #[.slice fa f.length fcap, .slice ai d.length ci] W fun r w' => r = .returned (.bool (inC f d)) ∧ Grew W w') := fun W g =>
            hide (implChainIn fa ai fcap ci f d W ((unhide IF).grew ((unhide WF).trans (hg.trans g))) ((unhide HI).grew g) hfl hs1)
          clear c1 hi hci
          by_cases hfd : f.length < d.length
          · have hdd : decide ((f.length : Int) < (d.length : Int)) = true := by simp; omega
            have hE := ends_of hp.out hfd
            obtain ⟨b0, o0, rfl, hat0⟩ := (unhide HI).at (i := p) (by omega)
            obtain ⟨b2, o1, ex1, hat1⟩ := (unhide HI).at (i := p + 1) (by omega)
            obtain ⟨b3, o2, ex2, hat2⟩ := (unhide HI).at (i := f.length) hfd
            simp only [Option.some.injEq, Addr.mk.injEq, and_true] at ex1 ex2
            obtain ⟨rfl, rfl⟩ := ex1
            obtain ⟨rfl, rfl⟩ := ex2
            have f0 := Grew.gcell hat0.1
            have f1 := Grew.gcell hat1.1
            have f2 := Grew.gcell hat2.1
            have hb5 : (p : Int) < (d.length : Int) := by omega
            have hb6 : ((p + 1 : Nat) : Int) < (d.length : Int) := by omega
            clear hat0 hat1 hat2
            cases hin : inC f d with
            | false =>
              rw [hin] at hX1
              have HST : Hid (∀ j, j < k + 1 → ∀ h : j < cs.length, condB f cs[j] = false) := hide (fun j h1 h2 => by
                by_cases e : j = k
                · subst e; rw [← hd.out]; unfold condB; rw [hin, Bool.and_false, Bool.false_and]
                · exact hno.out j (by omega) h2)
              
              clear hE
              go_wp2_with fail
              refine quietly (by kernel_rfl) (by kernel_rfl) ?_
              repeat (go_big_quiet_step (first | (go_at_call 31; exact Calls.far (hX1 _ ⟨_, _, rfl⟩).out)))
              refine wpQuiet_nil ?_
              intro _ hw'
              obtain ⟨⟨nq, osq⟩, hw''⟩ := hw'
              subst hw''
              have g7 : Grew wr (far wr nq osq) := ⟨_, _, rfl⟩
              obtain ⟨w7, hw7⟩ : ∃ w7, Hid (w7 = far wr nq osq) := ⟨_, hide rfl⟩
              rw [← hw7.out] at g7 ⊢        
              go_wp2
              go_roundw
              case rel => exact ⟨k + 1, by omega, by go_num, HST, hg.trans g7⟩
              case measure => simp [intOf]; omega
            | true =>
              rw [hin] at hX1
              cases hb1 : (wrap64 ((d[p]'(by omega)).e + 1) == (d[p + 1]'(by omega)).e) with
              | false =>
                have HST : Hid (∀ j, j < k + 1 → ∀ h : j < cs.length, condB f cs[j] = false) := hide (fun j h1 h2 => by
                  by_cases e : j = k
                  · subst e; rw [← hd.out]; unfold condB; rw [hE, hb1, Bool.false_and, Bool.and_false]
                  · exact hno.out j (by omega) h2)
                
                clear hE
                go_wp2_with fail
                refine quietly (by kernel_rfl) (by kernel_rfl) ?_
                repeat (go_big_quiet_step (first | (go_at_call 31; exact Calls.far (hX1 _ ⟨_, _, rfl⟩).out)))
                refine wpQuiet_nil ?_
                intro _ hw'
                obtain ⟨⟨nq, osq⟩, hw''⟩ := hw'
                subst hw''
                have g7 : Grew wr (far wr nq osq) := ⟨_, _, rfl⟩
                obtain ⟨w7, hw7⟩ : ∃ w7, Hid (w7 = far wr nq osq) := ⟨_, hide rfl⟩
                rw [← hw7.out] at g7 ⊢          
                go_wp2
                go_roundw
                case rel => exact ⟨k + 1, by omega, by go_num, HST, hg.trans g7⟩
                case measure => simp [intOf]; omega
              | true =>
                cases hb2 : (wrap64 ((d[p + 1]'(by omega)).e + 1) == d[f.length].e) with
                | false =>
                  have HST : Hid (∀ j, j < k + 1 → ∀ h : j < cs.length, condB f cs[j] = false) := hide (fun j h1 h2 => by
                    by_cases e : j = k
                    · subst e; rw [← hd.out]; unfold condB; rw [hE, hb1, hb2, Bool.and_false, Bool.and_false]
                    · exact hno.out j (by omega) h2)
                  
                  clear hE
                  go_wp2_with fail
                  refine quietly (by kernel_rfl) (by kernel_rfl) ?_
                  repeat (go_big_quiet_step (first | (go_at_call 31; exact Calls.far (hX1 _ ⟨_, _, rfl⟩).out)))
                  refine wpQuiet_nil ?_
                  intro _ hw'
                  obtain ⟨⟨nq, osq⟩, hw''⟩ := hw'
                  subst hw''
                  have g7 : Grew wr (far wr nq osq) := ⟨_, _, rfl⟩
                  obtain ⟨w7, hw7⟩ : ∃ w7, Hid (w7 = far wr nq osq) := ⟨_, hide rfl⟩
                  rw [← hw7.out] at g7 ⊢            
                  go_wp2
                  go_roundw
                  case rel => exact ⟨k + 1, by omega, by go_num, HST, hg.trans g7⟩
                  case measure => simp [intOf]; omega
                | true =>
                  clear hE
                  go_wp2_with fail
                  refine quietly (by kernel_rfl) (by kernel_rfl) ?_
                  repeat (go_big_quiet_step (first | (go_at_call 31; exact Calls.far (hX1 _ ⟨_, _, rfl⟩).out)))
                  refine wpQuiet_nil ?_
                  intro _ hw'
                  obtain ⟨⟨nq, osq⟩, hw''⟩ := hw'
                  subst hw''
                  have g7 : Grew wr (far wr nq osq) := ⟨_, _, rfl⟩
                  obtain ⟨w7, hw7⟩ : ∃ w7, Hid (w7 = far wr nq osq) := ⟨_, hide rfl⟩
                  rw [← hw7.out] at g7 ⊢
                  have hg7 := hg.trans g7
                  have hX := hide (implTreeSure_v fa fcap f w7 ((unhide V1).grew ((unhide WV).trans hg7)) (unhide HS) hll ((unhide IF).grew ((unhide WF).trans hg7)) hfl)
                  rw [HSU.out] at hX
                  go_wp2_with fail
                  refine hX.out.mono ?_
                  clear hX
                  rintro e w8 ⟨rfl, g8⟩
                  have hX := hide (implTreeLong_v w8 ((unhide V1).grew ((unhide WV).trans (hg7.trans g8))) (unhide HS) hll)
                  rw [HLO.out] at hX
                  have hq : decide ((f.length : Int) < (L : Int)) = true := by simp; omega
                  go_wp2_with fail
                  refine hX.out.mono ?_
                  clear hX
                  rintro e w9 ⟨rfl, g9⟩
                  go_wp2
                  go_ret
                  exact ⟨by first | rfl | simp [hq] | (simp; omega), (unhide W0).trans ((hg7.trans g8).trans g9)⟩
          · have hdd : decide ((f.length : Int) < (d.length : Int)) = false := by simp; omega
            have HST : Hid (∀ j, j < k + 1 → ∀ h : j < cs.length, condB f cs[j] = false) := hide (fun j h1 h2 => by
              by_cases e : j = k
              · subst e; rw [← hd.out]; unfold condB; rw [decide_eq_false hfd, Bool.false_and, Bool.false_and]
              · exact hno.out j (by omega) h2)
            
            go_wp2_with fail
            refine quietly (by kernel_rfl) (by kernel_rfl) ?_
            repeat (go_big_quiet_step (first | (go_at_call 31; exact Calls.far (hX1 _ ⟨_, _, rfl⟩).out)))
            refine wpQuiet_nil ?_
            intro _ hw'
            obtain ⟨⟨nq, osq⟩, hw''⟩ := hw'
            subst hw''
            have g7 : Grew wr (far wr nq osq) := ⟨_, _, rfl⟩
            obtain ⟨w7, hw7⟩ : ∃ w7, Hid (w7 = far wr nq osq) := ⟨_, hide rfl⟩
            rw [← hw7.out] at g7 ⊢      
            go_wp2
            go_roundw
            case rel => exact ⟨k + 1, by omega, by go_num, HST, hg.trans g7⟩
            case measure => simp [intOf]; omega
        · have hle : (cs.length : Int) ≤ (k : Int) := by omega
          obtain ⟨j, h1, h2⟩ := HM.out
          have h3 := hno.out j (by omega) h1
          rw [h2] at h3
          cases h3
  · have hn1 : decide ((1048576 : Int) < (n : Int)) = true := by simp; omega
    clear hn
    go_enter Try.func6, Try.ntmps6
    go_wp2
    go_ret
    exact ⟨rfl, Grew.refl _⟩

set_option maxRecDepth 100000 in
theorem lifted (os : Os) (started : os.Started) (H : Type) (enc : TypeId × Value → H) :
    ReturnsInHanded {} Try.checked os 6 .any (Rows.fnFinalSureSpec.pre6 enc Try.prog Try.f6 Rows.fnFinalSureRow.domain false) (Rows.fnFinalSureSpec.post enc Try.prog Try.f6 false true false false) := by
  refine returnsInHanded_of_change (C := Try.checked) own started (by kernel_rfl) Try.func6
    (ChangeSpec.witness6 (enc := enc) (C := Try.checked) false ⟨#[], #[.slice none 0 0], []⟩ 8 (by kernel_rfl) (by kernel_rfl) (by kernel_rfl) (by kernel_rfl)) ?_
  intro W base args ds gs before hval0 hW hcnd _
  have hval : ∀ (j : Nat) t v, Try.f6.params[j]? = some t → args[j]? = some v → Value.okWide Try.prog W .any base t v := hval0
  have hW' := hW
  obtain ⟨p, q, hA0, hV, rfl, hfz, hnd⟩ := hW
  have hA : DataW.TrodAll enc Try.prog W 0 (fun _ => true) true Try.f6.params.toList args.toList ds p := hA0
  rw [Try.params6] at hA hval
  obtain ⟨v0, vs0, d0, ds0, p0, q0, hargs, rfl, rfl, h0, r0⟩ := trodAll_cons hA
  obtain ⟨rfl, rfl, rfl⟩ := trodAll_nil r0
  obtain rfl : args = #[v0] := by cases args; simp_all
  obtain ⟨rfl, rfl⟩ := trodVars_none hV
  have k0 := h0
  have lt0 : ∀ x ∈ p0, x.block < W.heap.size := by obtain ⟨m, hm⟩ := k0; exact DataW.trod_lt m _ _ _ hm
  obtain ⟨a0, len0, cap0, rfl⟩ := okWide_slice Try.underlying22 (hval 0 22 v0 rfl rfl)
  obtain ⟨fuel0, hf0⟩ := h0
  obtain ⟨hb0, hc0⟩ := open_bytes hf0
  clear hA0 hval0
  refine (walk a0 len0 cap0 W hb0 hc0).mono fun e W' ⟨he, bel⟩ => ?_
  subst he
  exact ⟨_, rfl, _, _, _, [], _, [], hW', trodAll_mk1 (shut_bool Try.underlying4 _), (trodAll_cons_mk (Below.trod laidOut (by kernel_rfl) (of_decide_eq_true (by kernel_rfl)) k0 bel.below lt0) trodAll_mk0), rfl, bel.below.frame _, fun h => by cases h⟩

theorem over : Rows.fnFinalSureRow.holds Try.pinned (OpenSpec.ofChange Rows.fnFinalSureSpec) :=
  OpenClaim.holds_of_wide 6 Try.f6 rfl rfl rfl rfl rfl rfl rfl ⟨rfl, rfl, rfl, rfl, rfl⟩ rfl rfl rfl rfl rfl (by kernel_rfl) Try.func6 (by kernel_rfl)
    (of_decide_eq_true (by kernel_rfl)) (by unfold Func.isWrapper; first | (rw [if_pos (by decide +kernel)]; kernel_rfl) | (rw [if_neg (by decide +kernel)]; exact ⟨rfl, rfl⟩))
    (fun os started H enc _ => lifted os started H enc)
end Go.Proofs.Ytjcnbacbnfmkjab.FnFinalSure
namespace Go.Proofs.Ytjcnbacbnfmkjab
theorem fnFinalSure_holds : Rows.FnFinalSureSaid := FnFinalSure.over
#print axioms fnFinalSure_holds
end Go.Proofs.Ytjcnbacbnfmkjab
