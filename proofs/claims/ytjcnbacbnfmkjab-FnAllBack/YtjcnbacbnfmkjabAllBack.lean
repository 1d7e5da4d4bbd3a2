/-
  FnAllBack returns true at every row of bytes and leaves its argument as it was: what the statement says; no condition.
-/
import Derived.Test.YtjcnbacbnfmkjabVDraw34
import Derived.Test.YtjcnbacbnfmkjabVLwA
import Derived.Test.YtjcnbacbnfmkjabNumsA
import Derived.Test.YtjcnbacbnfmkjabVote3
import Derived.Test.YtjcnbacbnfmkjabOpen
import Derived.Test.YtjcnbacbnfmkjabTDrawA
import Derived.Test.YtjcnbacbnfmkjabTFormsA
import Derived.Test.YtjcnbacbnfmkjabTMath2
import Derived.Test.YtjcnbacbnfmkjabTMark
import Derived.Lib.SmallJoins
import Derived.JoinedOf
import Derived.JoinedAt
import Derived.RowKit3
import Derived.Deep.RegionHeldLaw
import Derived.Deep.DeepFit
namespace Go.Proofs.Ytjcnbacbnfmkjab.FnAllBack
set_option linter.unusedVariables false
open Go.ChangeShapes Go.WideShapes Go.ChangeAt Go.RowKit Go.Joins
attribute [local simp] far_const

set_option maxRecDepth 20000 in
set_option maxHeartbeats 4000000 in
theorem walk (a : Option Addr) (n cap : Nat) (w : World) (hb : Byt w a w.heap.size n) (hc : n ≤ cap) :
    Calls Try.prog 10 #[.slice a n cap] w fun e w' => e = .returned (.bool true) ∧ Grew w w' := by
  by_cases hn : n ≤ 1048576
  · have hn1 : decide ((1048576 : Int) < (n : Int)) = false := by simp; omega
    go_enter Try.func10, Try.ntmps10
    go_wp2_with fail
    refine (drawTreeAll_any a n cap _ hb hc hn).mono ?_
    rintro e w1 ⟨v, l, base, rfl, ol, hl, hlw, gg⟩
    have HS := hide (hlw.short (by omega))
    have hll : l.length ≤ 1048576 := by omega
    have R1 := hide ol
    have V1 := hide ol.vtsV
    obtain ⟨gv, capv, rfl, hcapv, _, _, hvts⟩ := ol.shape
    have VT := hide hvts
    clear ol hlw hvts
    have S0 := hide (show Grew w w1 from gg)
    clear gg
    obtain ⟨cs, hcs⟩ : ∃ cs, Hid (allL l = cs) := ⟨_, hide rfl⟩
    have hcl : cs.length ≤ 1048577 := by have := allL_len l; rw [hcs.out] at this; omega
    have HSh : Hid (∀ d ∈ cs, d.length ≤ 1048576) := hide (by rw [← hcs.out]; exact allL_short (unhide HS))
    have HCI : Hid ((if votesB l = true then allS l else []) = cs) := hide hcs.out
    have HCA : Hid (votesB l = true → cs = allS l) := hide (fun h => by rw [← hcs.out]; exact allL_yes h)
    have HCN : Hid (votesB l = false → cs = []) := hide (fun h => by rw [← hcs.out]; exact allL_no h)
    have hlne : (((cs.length : Nat) : Int) != ((cs.length : Nat) : Int)) = false := by simp
    have hleq : (((cs.length : Nat) : Int) == ((cs.length : Nat) : Int)) = true := by simp
    go_wp2_with fail
    refine (implTreeAll_v _ ((unhide V1).grew (Grew.refl _)) (unhide HS) hll).mono ?_
    rw [HCI.out]
    rintro e w2 ⟨va, ha, rfl, hka, gg⟩
    have S1 := hide (show Grew w1 w2 from gg)
    obtain ⟨aa, acap, rfl, hac, hax⟩ := hka.chsV
    have HA : Hid (ChsV w2 (.slice aa cs.length acap) cs) := hide ⟨aa, acap, rfl, hac, hax⟩
    have HAX := hide hax
    clear hka hax
    clear gg
    go_wp2_with fail
    refine (specTreeAll_r _ ((unhide R1).grew (unhide S1)) (unhide HS) hll).mono ?_
    rw [hcs.out]
    rintro e w3 ⟨vw, rfl, hw0, gg⟩
    have S2 := hide (show Grew w2 w3 from gg)
    obtain ⟨wa, wcap, rfl, hwc, hwx⟩ := hw0
    have HWX := hide hwx
    clear hwx
    clear gg
    have HSR : Hid (Short l.reverse) := fun y hy => unhide HS y (List.mem_reverse.1 hy)
    obtain ⟨ds, hds⟩ : ∃ ds, Hid (allL l.reverse = ds) := ⟨_, hide rfl⟩
    have hdl0 : ds.length = cs.length := by
      rw [← hds.out, ← hcs.out]
      cases h : votesB l with
      | true => rw [allL_yes h, allL_yes (back_votes h)]; exact allS_perm_len (List.reverse_perm l)
      | false => rw [allL_no h, allL_no (by rw [votesB_perm (List.reverse_perm l)]; exact h)]
    have hdn : ds.length ≤ 1048577 := by omega
    have HDL := hide hdl0
    clear hdl0
    have HDS : Hid (∀ d ∈ ds, d.length ≤ 1048576) := hide (by rw [← hds.out]; exact allL_short (unhide HSR))
    have HDI : Hid ((if votesB l.reverse = true then allS l.reverse else []) = ds) := hide hds.out
    have HIN : Hid (∀ c ∈ cs, amongB ds c = true) := hide (fun c hc => (among_iff _ _).2 (by
      cases h : votesB l with
      | true =>
        rw [HCA.out h] at hc
        rw [← hds.out, allL_yes (back_votes h)]
        exact all_perm (List.reverse_perm l).symm c hc
      | false => rw [HCN.out h] at hc; cases hc))
    go_wp2_with fail
    refine (lwBack_v _ ((unhide V1).grew ((unhide S1).trans (unhide S2))) hll).mono ?_
    rintro e w4 ⟨ub, rfl, ob, gg⟩
    have S3 := hide (show Grew w3 w4 from gg)
    have OB := hide ob
    clear ob
    clear gg
    go_wp2_with fail
    refine (implTreeAll_v _ (unhide OB) (unhide HSR) (by simp; omega)).mono ?_
    rw [HDI.out]
    rintro e w5 ⟨vb, hbk, rfl, hkb, gg⟩
    have S4 := hide (show Grew w4 w5 from gg)
    have HB := hide hkb.chsV
    obtain ⟨ba, bcap, rfl, _, _⟩ := hkb.chsV
    clear hkb
    clear gg
    have W0 := hide (((((unhide S0).trans (unhide S1)).trans (unhide S2)).trans (unhide S3)).trans (unhide S4))
    have WA := hide (((unhide S2).trans (unhide S3)).trans (unhide S4))
    have WW := hide ((unhide S3).trans (unhide S4))
    go_wp2_with fail
    go_loopw [7] (fun i wr => ∃ k : Nat, k ≤ cs.length ∧ i = .int .i64 k ∧ Grew w5 wr) (fun i _ => cs.length - (intOf i).toNat)
    case atStart => exact ⟨0, Nat.zero_le _, rfl, Grew.refl _⟩
    case round =>
      obtain ⟨k, hk, rfl, hg⟩ := hrel
      by_cases hlt : k < cs.length
      · obtain ⟨b1, off, ai, ci, rfl, c1, hci, hi⟩ := HAX.out k hlt
        obtain ⟨b2, off2, ai2, ci2, rfl, c2, hci2, hi2⟩ := HWX.out k hlt
        have f1 := Grew.gcell (hg.keep ((unhide WA).keep c1))
        have f2 := Grew.gcell (hg.keep ((unhide WW).keep c2))
        have hs1 := HSh.out _ (List.getElem_mem hlt)
        have hin := HIN.out _ (List.getElem_mem hlt)
        have hX1 : ∀ W, Grew wr W → Hid (Calls Try.prog 19 #[.slice ba ds.length bcap, .slice ai cs[k].length ci] W fun r w' => r = .returned (.bool true) ∧ Grew W w') := fun W g => by
          have := lwAmong_v ai ci cs[k] W ((unhide HB).grew (hg.trans g)) HDS.out hdn (hi.grew ((unhide WA).trans (hg.trans g))) hs1
          rw [hin] at this
          exact hide this
        have hX2 : ∀ W, Grew wr W → Hid (Calls Try.prog 22 #[.slice ai cs[k].length ci, .slice ai2 cs[k].length ci2] W fun r w' => r = .returned (.bool true) ∧ Grew W w') := fun W g => by
          have := lwSame_any ai ai2 ci ci2 cs[k] cs[k] W (hi.grew ((unhide WA).trans (hg.trans g))) (hi2.grew ((unhide WW).trans (hg.trans g))) hs1 hs1
          rw [(sameB_iff cs[k] cs[k]).2 rfl] at this
          exact hide this
        clear c1 c2 hi hi2 hin
        go_wp2_with fail
        refine quietly (by kernel_rfl) (by kernel_rfl) ?_
        repeat (go_big_quiet_step (first | (go_at_call 19; exact Calls.far (hX1 _ ⟨_, _, rfl⟩).out) | (go_at_call 22; exact Calls.far (hX2 _ ⟨_, _, rfl⟩).out)))
        refine wpQuiet_nil ?_
        intro _ hw'
        obtain ⟨⟨nq, osq⟩, hw''⟩ := hw'
        subst hw''
        have g7 : Grew wr (far wr nq osq) := ⟨_, _, rfl⟩
        obtain ⟨w7, hw7⟩ : ∃ w7, Hid (w7 = far wr nq osq) := ⟨_, hide rfl⟩
        rw [← hw7.out] at g7 ⊢
        go_wp2
        go_roundw
        case rel => exact ⟨k + 1, by omega, by go_num, hg.trans g7⟩
        case measure => simp [intOf]; omega
      · have hkl : k = cs.length := by omega
        have hle : (cs.length : Int) ≤ (k : Int) := by omega
        have hdk : decide ((k : Int) < (cs.length : Int)) = false := by simp; omega
        have hq : (((ds.length : Nat) : Int) == ((cs.length : Nat) : Int)) = true := by rw [HDL.out]; simp
        clear hkl
        go_wp2
        go_ret
        exact ⟨by first | rfl | simp [hq], (unhide W0).trans hg⟩
  · have hn1 : decide ((1048576 : Int) < (n : Int)) = true := by simp; omega
    clear hn
    go_enter Try.func10, Try.ntmps10
    go_wp2
    go_ret
    exact ⟨rfl, Grew.refl _⟩

set_option maxRecDepth 100000 in
theorem lifted (os : Os) (started : os.Started) (H : Type) (enc : TypeId × Value → H) :
    ReturnsInHanded {} Try.checked os 10 .any (Rows.fnAllBackSpec.pre6 enc Try.prog Try.f10 Rows.fnAllBackRow.domain false) (Rows.fnAllBackSpec.post enc Try.prog Try.f10 false true false false) := by
  refine returnsInHanded_of_change (C := Try.checked) own started (by kernel_rfl) Try.func10
    (ChangeSpec.witness6 (enc := enc) (C := Try.checked) false ⟨#[], #[.slice none 0 0], []⟩ 8 (by kernel_rfl) (by kernel_rfl) (by kernel_rfl) (by kernel_rfl)) ?_
  intro W base args ds gs before hval0 hW hcnd _
  have hval : ∀ (j : Nat) t v, Try.f10.params[j]? = some t → args[j]? = some v → Value.okWide Try.prog W .any base t v := hval0
  have hW' := hW
  obtain ⟨p, q, hA0, hV, rfl, hfz, hnd⟩ := hW
  have hA : DataW.TrodAll enc Try.prog W 0 (fun _ => true) true Try.f10.params.toList args.toList ds p := hA0
  rw [Try.params10] at hA hval
  obtain ⟨v0, vs0, d0, ds0, p0, q0, hargs, rfl, rfl, h0, r0⟩ := trodAll_cons hA
  obtain ⟨rfl, rfl, rfl⟩ := trodAll_nil r0
  obtain rfl : args = #[v0] := by cases args; simp_all
  obtain ⟨rfl, rfl⟩ := trodVars_none hV
  have k0 := h0
  have lt0 : ∀ x ∈ p0, x.block < W.heap.size := by obtain ⟨m, hm⟩ := k0; exact DataW.trod_lt m _ _ _ hm
  obtain ⟨a0, len0, cap0, rfl⟩ := okWide_slice Try.underlying22 (hval 0 22 v0 rfl rfl)
  obtain ⟨fuel0, hf0⟩ := h0
  obtain ⟨hb0, hc0⟩ := open_bytes hf0
  clear hA0 hval0
  refine (walk a0 len0 cap0 W hb0 hc0).mono fun e W' ⟨he, bel⟩ => ?_
  subst he
  exact ⟨_, rfl, _, _, _, [], _, [], hW', trodAll_mk1 (shut_bool Try.underlying4 _), (trodAll_cons_mk (Below.trod laidOut (by kernel_rfl) (of_decide_eq_true (by kernel_rfl)) k0 bel.below lt0) trodAll_mk0), rfl, bel.below.frame _, fun h => by cases h⟩

theorem over : Rows.fnAllBackRow.holds Try.pinned (OpenSpec.ofChange Rows.fnAllBackSpec) :=
  OpenClaim.holds_of_wide 10 Try.f10 rfl rfl rfl rfl rfl rfl rfl ⟨rfl, rfl, rfl, rfl, rfl⟩ rfl rfl rfl rfl rfl (by kernel_rfl) Try.func10 (by kernel_rfl)
    (of_decide_eq_true (by kernel_rfl)) (by unfold Func.isWrapper; first | (rw [if_pos (by decide +kernel)]; kernel_rfl) | (rw [if_neg (by decide +kernel)]; exact ⟨rfl, rfl⟩))
    (fun os started H enc _ => lifted os started H enc)
end Go.Proofs.Ytjcnbacbnfmkjab.FnAllBack
namespace Go.Proofs.Ytjcnbacbnfmkjab
theorem fnAllBack_holds : Rows.FnAllBackSaid := FnAllBack.over
#print axioms fnAllBack_holds
end Go.Proofs.Ytjcnbacbnfmkjab
