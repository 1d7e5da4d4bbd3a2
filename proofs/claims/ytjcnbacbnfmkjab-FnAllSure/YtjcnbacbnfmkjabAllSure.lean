/-
  FnAllSure returns true at every row of bytes and leaves its argument as it was: what the statement says; no condition.
-/
import Derived.Test.YtjcnbacbnfmkjabVDraw34
import Derived.Test.YtjcnbacbnfmkjabVLwA
import Derived.Test.YtjcnbacbnfmkjabNumsA
import Derived.Test.YtjcnbacbnfmkjabVote3
import Derived.Test.YtjcnbacbnfmkjabOpen
import Derived.Test.YtjcnbacbnfmkjabTDrawA
import Derived.Test.YtjcnbacbnfmkjabTFormsA
import Derived.Test.YtjcnbacbnfmkjabTMath2
import Derived.Test.YtjcnbacbnfmkjabTMark
import Derived.Lib.SmallJoins
import Derived.JoinedOf
import Derived.JoinedAt
import Derived.RowKit3
import Derived.Deep.RegionHeldLaw
import Derived.Deep.DeepFit
namespace Go.Proofs.Ytjcnbacbnfmkjab.FnAllSure
set_option linter.unusedVariables false
open Go.ChangeShapes Go.WideShapes Go.ChangeAt Go.RowKit Go.Joins
attribute [local simp] far_const

theorem chs_take {w : World} {a : Option Addr} {cap : Nat} {cs : List (List It)} (h : ChsV w (.slice a cs.length cap) cs) (k : Nat) (hk : k ≤ cs.length) : ChsV w (.slice a k cap) (cs.take k) := by
  obtain ⟨a', cap', e, hc, hx⟩ := h
  simp only [Value.slice.injEq, true_and] at e
  obtain ⟨rfl, rfl⟩ := e
  refine ⟨a, cap, by rw [List.length_take, Nat.min_eq_left hk], by rw [List.length_take]; omega, fun i hi => ?_⟩
  rw [List.length_take] at hi
  obtain ⟨b, off, ai, ci, h1, h2, h3, h4⟩ := hx i (by omega)
  exact ⟨b, off, ai, ci, h1, by rw [List.getElem_take]; exact h2, by rw [List.getElem_take]; exact h3, by rw [List.getElem_take]; exact h4⟩
set_option maxRecDepth 20000 in
set_option maxHeartbeats 4000000 in
theorem walk (a : Option Addr) (n cap : Nat) (w : World) (hb : Byt w a w.heap.size n) (hc : n ≤ cap) :
    Calls Try.prog 3 #[.slice a n cap] w fun e w' => e = .returned (.bool true) ∧ Grew w w' := by
  by_cases hn : n ≤ 1048576
  · have hn1 : decide ((1048576 : Int) < (n : Int)) = false := by simp; omega
    go_enter Try.func3, Try.ntmps3
    go_wp2_with fail
    refine (drawTreeAll_any a n cap _ hb hc hn).mono ?_
    rintro e w1 ⟨v, l, base, rfl, ol, hl, hlw, gg⟩
    have HS := hide (hlw.short (by omega))
    have hll : l.length ≤ 1048576 := by omega
    have R1 := hide ol
    have V1 := hide ol.vtsV
    obtain ⟨gv, capv, rfl, hcapv, _, _, hvts⟩ := ol.shape
    have VT := hide hvts
    clear ol hlw hvts
    have S0 := hide (show Grew w w1 from gg)
    clear gg
    obtain ⟨cs, hcs⟩ : ∃ cs, Hid (allL l = cs) := ⟨_, hide rfl⟩
    have hcl : cs.length ≤ 1048577 := by have := allL_len l; rw [hcs.out] at this; omega
    have HSh : Hid (∀ d ∈ cs, d.length ≤ 1048576) := hide (by rw [← hcs.out]; exact allL_short (unhide HS))
    have HCI : Hid ((if votesB l = true then allS l else []) = cs) := hide hcs.out
    have HCA : Hid (votesB l = true → cs = allS l) := hide (fun h => by rw [← hcs.out]; exact allL_yes h)
    have HCN : Hid (votesB l = false → cs = []) := hide (fun h => by rw [← hcs.out]; exact allL_no h)
    have hlne : (((cs.length : Nat) : Int) != ((cs.length : Nat) : Int)) = false := by simp
    have hleq : (((cs.length : Nat) : Int) == ((cs.length : Nat) : Int)) = true := by simp
    go_wp2_with fail
    refine (implTreeAll_v _ ((unhide V1).grew (Grew.refl _)) (unhide HS) hll).mono ?_
    rw [HCI.out]
    rintro e w2 ⟨va, ha, rfl, hka, gg⟩
    have S1 := hide (show Grew w1 w2 from gg)
    obtain ⟨aa, acap, rfl, hac, hax⟩ := hka.chsV
    have HA : Hid (ChsV w2 (.slice aa cs.length acap) cs) := hide ⟨aa, acap, rfl, hac, hax⟩
    have HAX := hide hax
    clear hka hax
    clear gg
    go_wp2_with fail
    refine (specTreeAll_r _ ((unhide R1).grew (unhide S1)) (unhide HS) hll).mono ?_
    rw [hcs.out]
    rintro e w3 ⟨vw, rfl, hw0, gg⟩
    have S2 := hide (show Grew w2 w3 from gg)
    obtain ⟨wa, wcap, rfl, hwc, hwx⟩ := hw0
    have HWX := hide hwx
    clear hwx
    clear gg
    go_wp2_with fail
    refine (specVotesOk_v _ ((unhide V1).grew ((unhide S1).trans (unhide S2))) (unhide HS) hll).mono ?_
    rintro e w4 ⟨rfl, gg⟩
    have S3 := hide (show Grew w3 w4 from gg)
    clear gg
    cases hv : votesB l with
    | false =>
      go_wp2
      go_ret
      exact ⟨rfl, ((((unhide S0).trans (unhide S1)).trans (unhide S2)).trans (unhide S3))⟩
    | true =>
      have hca := HCA.out hv
      have HSU : Hid (∀ c ∈ cs, sureL l c = true) := hide (fun c hc => all_sure hv (by rw [← hca]; exact hc))
      have HND : Hid (∀ k (h : k < cs.length), amongB (cs.take k) cs[k] = false) := hide (fun k h => nodup_take (by rw [hca]; exact allS_nodup l) h)
      have HAM : Hid (∀ c, amongB cs c = sureL l c) := hide (fun c => by rw [hca]; exact among_all hv c)
      obtain ⟨rest, hrest⟩ := allS_head l
      have hcp : 0 < cs.length := by rw [hca, hrest]; simp
      have hc0 : Hid (∀ h : 0 < cs.length, cs[0] = []) := hide (fun h => by simp [hca, hrest])
      have W0 := hide ((((unhide S0).trans (unhide S1)).trans (unhide S2)).trans (unhide S3))
      have WV := hide (((unhide S1).trans (unhide S2)).trans (unhide S3))
      have WA := hide ((unhide S2).trans (unhide S3))
      clear hca hv hrest
      go_wp2_with fail
      go_loopw [6] (fun i wr => ∃ k : Nat, k ≤ cs.length ∧ i = .int .i64 k ∧ Grew w4 wr) (fun i _ => cs.length - (intOf i).toNat)
      case atStart => exact ⟨0, Nat.zero_le _, rfl, Grew.refl _⟩
      case round =>
        obtain ⟨k, hk, rfl, hg⟩ := hrel
        by_cases hlt : k < cs.length
        · obtain ⟨b1, off, ai, ci, rfl, c1, hci, hi⟩ := HAX.out k hlt
          have f1 := Grew.gcell (hg.keep ((unhide WA).keep c1))
          have hs1 := HSh.out _ (List.getElem_mem hlt)
          have hsu := HSU.out _ (List.getElem_mem hlt)
          have hnd := HND.out k hlt
          have hka : k ≤ acap := by omega
          have hX1 : ∀ W, Grew wr W → Hid (Calls Try.prog 18 #[.slice (some ⟨gv, 0, none⟩) l.length capv, .slice ai cs[k].length ci] W fun r w' => r = .returned (.bool true) ∧ Grew W w') := fun W g => by
            have := implTreeSure_v ai ci cs[k] W ((unhide V1).grew ((unhide WV).trans (hg.trans g))) (unhide HS) hll (hi.grew ((unhide WA).trans (hg.trans g))) hs1
            rw [hsu] at this
            exact hide this
          have hX2 : ∀ W, Grew wr W → Hid (Calls Try.prog 19 #[.slice (some ⟨b1, off, none⟩) k acap, .slice ai cs[k].length ci] W fun r w' => r = .returned (.bool false) ∧ Grew W w') := fun W g => by
            have := lwAmong_v ai ci cs[k] W (chs_take ((unhide HA).grew ((unhide WA).trans (hg.trans g))) k (by omega)) (fun d hd => HSh.out d (List.mem_of_mem_take hd)) (by rw [List.length_take]; omega) (hi.grew ((unhide WA).trans (hg.trans g))) hs1
            rw [hnd] at this
            exact hide this
          clear c1 hi hsu hnd
          go_wp2_with fail
          refine quietly (by kernel_rfl) (by kernel_rfl) ?_
          repeat (go_big_quiet_step (first | (go_at_call 18; exact Calls.far (hX1 _ ⟨_, _, rfl⟩).out) | (go_at_call 19; exact Calls.far (hX2 _ ⟨_, _, rfl⟩).out)))
          refine wpQuiet_nil ?_
          intro _ hw'
          obtain ⟨⟨nq, osq⟩, hw''⟩ := hw'
          subst hw''
          have g7 : Grew wr (far wr nq osq) := ⟨_, _, rfl⟩
          obtain ⟨w7, hw7⟩ : ∃ w7, Hid (w7 = far wr nq osq) := ⟨_, hide rfl⟩
          rw [← hw7.out] at g7 ⊢
          go_wp2
          go_roundw
          case rel => exact ⟨k + 1, by omega, by go_num, hg.trans g7⟩
          case measure => simp [intOf]; omega
        · have hkl : k = cs.length := by omega
          have hle : (cs.length : Int) ≤ (k : Int) := by omega
          have hdk : decide ((k : Int) < (cs.length : Int)) = false := by simp; omega
          clear hkl
          obtain ⟨wo, hwo⟩ : ∃ wo, wo = wr := ⟨_, rfl⟩
          have hgo : Grew w4 wo := by rw [hwo]; exact hg
          go_wp2_with fail
          go_loopw [7] (fun i wq => ∃ j : Nat, j ≤ l.length ∧ i = .int .i64 j ∧ Grew wo wq) (fun i _ => l.length - (intOf i).toNat)
          case atStart => exact ⟨0, Nat.zero_le _, rfl, by rw [hwo]; exact Grew.refl _⟩
          case round =>
            obtain ⟨j, hj, rfl, hgq⟩ := hrel
            have hg := hgo.trans hgq
            by_cases hlt : j < l.length
            · obtain ⟨b1, off, ex, hat0⟩ := ((unhide VT).grew ((unhide WV).trans hg)).at hlt
              simp only [Option.some.injEq, Addr.mk.injEq, and_true] at ex
              obtain ⟨rfl, rfl⟩ := ex
              obtain ⟨c0, a1, cap1, c1, hi⟩ := hat0
              simp only [Nat.zero_add] at c0 c1
              have f0 := Grew.gcell c0
              have f1 := Grew.gcell c1
              have hs1 := (unhide HS).at hlt
              have ham := HAM.out l[j].c
              have hX1 : ∀ W, Grew wr W → Hid (Calls Try.prog 18 #[.slice (some ⟨gv, 0, none⟩) l.length capv, .slice a1 l[j].c.length cap1] W fun r w' => r = .returned (.bool (sureL l l[j].c)) ∧ Grew W w') := fun W g => by
                exact hide (implTreeSure_v a1 cap1 l[j].c W ((unhide V1).grew ((unhide WV).trans (hg.trans g))) (unhide HS) hll (hi.grew g) hs1)
              have hX2 : ∀ W, Grew wr W → Hid (Calls Try.prog 19 #[.slice aa cs.length acap, .slice a1 l[j].c.length cap1] W fun r w' => r = .returned (.bool (sureL l l[j].c)) ∧ Grew W w') := fun W g => by
                have := lwAmong_v a1 cap1 l[j].c W ((unhide HA).grew ((unhide WA).trans (hg.trans g))) HSh.out hcl (hi.grew g) hs1
                rw [ham] at this
                exact hide this
              obtain ⟨ok, hok⟩ : ∃ ok, Hid (ok = sureL l l[j].c) := ⟨_, hide rfl⟩
              simp only [← hok.out] at hX1 hX2
              have hne : (ok != ok) = false := by cases ok <;> rfl
              clear c0 c1 hi ham
              go_wp2_with fail
              refine quietly (by kernel_rfl) (by kernel_rfl) ?_
              repeat (go_big_quiet_step (first | (go_at_call 18; exact Calls.far (hX1 _ ⟨_, _, rfl⟩).out) | (go_at_call 19; exact Calls.far (hX2 _ ⟨_, _, rfl⟩).out)))
              refine wpQuiet_nil ?_
              intro _ hw'
              obtain ⟨⟨nq, osq⟩, hw''⟩ := hw'
              subst hw''
              have g7 : Grew wr (far wr nq osq) := ⟨_, _, rfl⟩
              obtain ⟨w7, hw7⟩ : ∃ w7, Hid (w7 = far wr nq osq) := ⟨_, hide rfl⟩
              rw [← hw7.out] at g7 ⊢
              go_wp2
              go_roundw
              case rel => exact ⟨j + 1, by omega, by go_num, hgq.trans g7⟩
              case measure => simp [intOf]; omega
            · have hle2 : (l.length : Int) ≤ (j : Int) := by omega
              have hdk2 : decide ((j : Int) < (l.length : Int)) = false := by simp; omega
              obtain ⟨b1, off, ai, ci, rfl, c1, hci, hi⟩ := HAX.out 0 hcp
              have f1 := hg.keep ((unhide WA).keep c1)
              rw [hc0.out hcp] at f1
              simp only [Nat.add_zero] at f1
              have hcpi : decide ((0 : Int) < (cs.length : Int)) = true := by simp; omega
              have hcpj : (0 : Int) < (cs.length : Int) := by omega
              clear c1 hi
              go_wp2
              go_ret
              exact ⟨rfl, (unhide W0).trans hg⟩
  · have hn1 : decide ((1048576 : Int) < (n : Int)) = true := by simp; omega
    clear hn
    go_enter Try.func3, Try.ntmps3
    go_wp2
    go_ret
    exact ⟨rfl, Grew.refl _⟩

set_option maxRecDepth 100000 in
theorem lifted (os : Os) (started : os.Started) (H : Type) (enc : TypeId × Value → H) :
    ReturnsInHanded {} Try.checked os 3 .any (Rows.fnAllSureSpec.pre6 enc Try.prog Try.f3 Rows.fnAllSureRow.domain false) (Rows.fnAllSureSpec.post enc Try.prog Try.f3 false true false false) := by
  refine returnsInHanded_of_change (C := Try.checked) own started (by kernel_rfl) Try.func3
    (ChangeSpec.witness6 (enc := enc) (C := Try.checked) false ⟨#[], #[.slice none 0 0], []⟩ 8 (by kernel_rfl) (by kernel_rfl) (by kernel_rfl) (by kernel_rfl)) ?_
  intro W base args ds gs before hval0 hW hcnd _
  have hval : ∀ (j : Nat) t v, Try.f3.params[j]? = some t → args[j]? = some v → Value.okWide Try.prog W .any base t v := hval0
  have hW' := hW
  obtain ⟨p, q, hA0, hV, rfl, hfz, hnd⟩ := hW
  have hA : DataW.TrodAll enc Try.prog W 0 (fun _ => true) true Try.f3.params.toList args.toList ds p := hA0
  rw [Try.params3] at hA hval
  obtain ⟨v0, vs0, d0, ds0, p0, q0, hargs, rfl, rfl, h0, r0⟩ := trodAll_cons hA
  obtain ⟨rfl, rfl, rfl⟩ := trodAll_nil r0
  obtain rfl : args = #[v0] := by cases args; simp_all
  obtain ⟨rfl, rfl⟩ := trodVars_none hV
  have k0 := h0
  have lt0 : ∀ x ∈ p0, x.block < W.heap.size := by obtain ⟨m, hm⟩ := k0; exact DataW.trod_lt m _ _ _ hm
  obtain ⟨a0, len0, cap0, rfl⟩ := okWide_slice Try.underlying22 (hval 0 22 v0 rfl rfl)
  obtain ⟨fuel0, hf0⟩ := h0
  obtain ⟨hb0, hc0⟩ := open_bytes hf0
  clear hA0 hval0
  refine (walk a0 len0 cap0 W hb0 hc0).mono fun e W' ⟨he, bel⟩ => ?_
  subst he
  exact ⟨_, rfl, _, _, _, [], _, [], hW', trodAll_mk1 (shut_bool Try.underlying4 _), (trodAll_cons_mk (Below.trod laidOut (by kernel_rfl) (of_decide_eq_true (by kernel_rfl)) k0 bel.below lt0) trodAll_mk0), rfl, bel.below.frame _, fun h => by cases h⟩

theorem over : Rows.fnAllSureRow.holds Try.pinned (OpenSpec.ofChange Rows.fnAllSureSpec) :=
  OpenClaim.holds_of_wide 3 Try.f3 rfl rfl rfl rfl rfl rfl rfl ⟨rfl, rfl, rfl, rfl, rfl⟩ rfl rfl rfl rfl rfl (by kernel_rfl) Try.func3 (by kernel_rfl)
    (of_decide_eq_true (by kernel_rfl)) (by unfold Func.isWrapper; first | (rw [if_pos (by decide +kernel)]; kernel_rfl) | (rw [if_neg (by decide +kernel)]; exact ⟨rfl, rfl⟩))
    (fun os started H enc _ => lifted os started H enc)
end Go.Proofs.Ytjcnbacbnfmkjab.FnAllSure
namespace Go.Proofs.Ytjcnbacbnfmkjab
theorem fnAllSure_holds : Rows.FnAllSureSaid := FnAllSure.over
#print axioms fnAllSure_holds
end Go.Proofs.Ytjcnbacbnfmkjab
