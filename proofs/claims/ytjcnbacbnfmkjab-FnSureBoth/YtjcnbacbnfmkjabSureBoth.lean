/-
  FnSureBoth returns true at every two rows of bytes and leaves its arguments as they were: what the statement says; no condition.
-/
import Derived.Test.YtjcnbacbnfmkjabVDraw34
import Derived.Test.YtjcnbacbnfmkjabVLwA
import Derived.Test.YtjcnbacbnfmkjabNumsA
import Derived.Test.YtjcnbacbnfmkjabVote3
import Derived.Test.YtjcnbacbnfmkjabOpen
import Derived.Test.YtjcnbacbnfmkjabTDrawA
import Derived.Test.YtjcnbacbnfmkjabTFormsA
import Derived.Test.YtjcnbacbnfmkjabTMath2
import Derived.Test.YtjcnbacbnfmkjabTMark
import Derived.Test.YtjcnbacbnfmkjabBothA
import Derived.Lib.SmallJoins
import Derived.JoinedOf
import Derived.JoinedAt
import Derived.RowKit3
import Derived.Deep.RegionHeldLaw
import Derived.Deep.DeepFit
namespace Go.Proofs.Ytjcnbacbnfmkjab.FnSureBoth
set_option linter.unusedVariables false
open Go.ChangeShapes Go.WideShapes Go.ChangeAt Go.RowKit Go.Joins
attribute [local simp] far_const

set_option maxRecDepth 20000 in
set_option maxHeartbeats 4000000 in
theorem walk (a : Option Addr) (n cap : Nat) (a2 : Option Addr) (n2 cap2 : Nat) (w : World) (hb : Byt w a w.heap.size n) (hc : n ≤ cap) (hb2 : Byt w a2 w.heap.size n2) (hc2 : n2 ≤ cap2) :
    Calls Try.prog 9 #[.slice a n cap, .slice a2 n2 cap2] w fun e w' => e = .returned (.bool true) ∧ Grew w w' := by
  by_cases hn : n ≤ 1048576
  · have hn1 : decide ((1048576 : Int) < (n : Int)) = false := by simp; omega
    by_cases hn2 : n2 ≤ 1048576
    · have hn3 : decide ((1048576 : Int) < (n2 : Int)) = false := by simp; omega
      go_enter Try.func9, Try.ntmps9
      go_wp2_with fail
      refine (drawTreeAll_any a n cap _ hb hc hn).mono ?_
      rintro e w1 ⟨v, l, base, rfl, ol, hl, hlw, gg⟩
      have HS := hide (hlw.short (by omega))
      have hll : l.length ≤ 1048576 := by omega
      have R1 := hide ol
      have V1 := hide ol.vtsV
      obtain ⟨gv, capv, rfl, hcapv, _, _, hvts⟩ := ol.shape
      have VT := hide hvts
      clear ol hlw hvts
      have S0 := hide (show Grew w w1 from gg)
      clear gg
      obtain ⟨cs, hcs⟩ : ∃ cs, Hid (allL l = cs) := ⟨_, hide rfl⟩
      have hcl : cs.length ≤ 1048577 := by have := allL_len l; rw [hcs.out] at this; omega
      have HSh : Hid (∀ d ∈ cs, d.length ≤ 1048576) := hide (by rw [← hcs.out]; exact allL_short (unhide HS))
      have HCI : Hid ((if votesB l = true then allS l else []) = cs) := hide hcs.out
      have HCA : Hid (votesB l = true → cs = allS l) := hide (fun h => by rw [← hcs.out]; exact allL_yes h)
      have HCN : Hid (votesB l = false → cs = []) := hide (fun h => by rw [← hcs.out]; exact allL_no h)
      have hlne : (((cs.length : Nat) : Int) != ((cs.length : Nat) : Int)) = false := by simp
      have hleq : (((cs.length : Nat) : Int) == ((cs.length : Nat) : Int)) = true := by simp
      go_wp2_with fail
      refine (implTreeAll_v _ ((unhide V1).grew (Grew.refl _)) (unhide HS) hll).mono ?_
      rw [HCI.out]
      rintro e w2 ⟨va, ha, rfl, hka, gg⟩
      have S1 := hide (show Grew w1 w2 from gg)
      obtain ⟨aa, acap, rfl, hac, hax⟩ := hka.chsV
      have HA : Hid (ChsV w2 (.slice aa cs.length acap) cs) := hide ⟨aa, acap, rfl, hac, hax⟩
      have HAX := hide hax
      clear hka hax
      clear gg
      go_wp2_with fail
      refine (specTreeAll_r _ ((unhide R1).grew (unhide S1)) (unhide HS) hll).mono ?_
      rw [hcs.out]
      rintro e w3 ⟨vw, rfl, hw0, gg⟩
      have S2 := hide (show Grew w2 w3 from gg)
      obtain ⟨wa, wcap, rfl, hwc, hwx⟩ := hw0
      have HWX := hide hwx
      clear hwx
      clear gg
      by_cases hc0 : cs.length = 0
      · have hz0 : (((cs.length : Nat) : Int) == 0) = true := by rw [hc0]; rfl
        clear hc0
        go_wp2
        go_ret
        exact ⟨rfl, (((unhide S0).trans (unhide S1)).trans (unhide S2))⟩
      · have hz0 : (((cs.length : Nat) : Int) == 0) = false := by simp; exact fun e => hc0 (by rw [e]; rfl)
        have hv : votesB l = true := by
          cases h : votesB l with
          | true => rfl
          | false => exact absurd (by rw [HCN.out h]; rfl) hc0
        have hca := HCA.out hv
        have hcp : 0 < cs.length := by omega
        obtain ⟨i, hi0⟩ : ∃ i : Nat, Hid (i = n2 % cs.length) := ⟨_, hide rfl⟩
        obtain ⟨j, hj0⟩ : ∃ j : Nat, Hid (j = n2 / 3 % cs.length) := ⟨_, hide rfl⟩
        have hil : i < cs.length := by rw [hi0.out]; exact Nat.mod_lt _ hcp
        have hjl : j < cs.length := by rw [hj0.out]; exact Nat.mod_lt _ hcp
        have hr1 : (n2 : Int) % (cs.length : Int) = (i : Int) := by rw [hi0.out]; rfl
        have hr1' : (n2 : Int).tmod (cs.length : Int) = (i : Int) := by rw [hi0.out, Int.tmod_eq_emod_of_nonneg (by omega)]; rfl
        have hr2 : ((n2 : Int) / 3) % (cs.length : Int) = (j : Int) := by rw [hj0.out]; rfl
        have hr2' : ((n2 : Int) / 3).tmod (cs.length : Int) = (j : Int) := by rw [hj0.out, Int.tmod_eq_emod_of_nonneg (by omega)]; rfl
        have hr3 : ((n2 : Int).tdiv 3).tmod (cs.length : Int) = (j : Int) := by rw [Int.tdiv_eq_ediv_of_nonneg (by omega)]; exact hr2'
        have hr4 : ((n2 : Int).tdiv 3) % (cs.length : Int) = (j : Int) := by rw [Int.tdiv_eq_ediv_of_nonneg (by omega)]; exact hr2
        have hii : (i : Int) < (cs.length : Int) := by omega
        have hjj : (j : Int) < (cs.length : Int) := by omega
        obtain ⟨b1, off, ai, ci, rfl, c1, hci, hia⟩ := HAX.out i hil
        obtain ⟨b2, off2, aj, cj, ex, c2, hcj, hja⟩ := HAX.out j hjl
        simp only [Option.some.injEq, Addr.mk.injEq, and_true] at ex
        obtain ⟨rfl, rfl⟩ := ex
        have d1 := (unhide S2).keep c1
        have d2 := (unhide S2).keep c2
        have hsi := HSh.out _ (List.getElem_mem hil)
        have hsj := HSh.out _ (List.getElem_mem hjl)
        obtain ⟨A, hA⟩ : ∃ A, Hid (cs[i] = A) := ⟨_, hide rfl⟩
        obtain ⟨B, hB⟩ : ∃ B, Hid (cs[j] = B) := ⟨_, hide rfl⟩
        have hAm : A ∈ allS l := by rw [← hA.out, ← hca]; exact List.getElem_mem hil
        have HB1 : Hid (amongB cs (bothC A B) = true) := hide ((among_iff _ _).2 (by
          rw [hca]; unfold bothC; split
          · exact all_take hAm _
          · exact nil_all l))
        have HB2 : Hid (amongB cs (A.take (A.length / 2)) = true) := hide ((among_iff _ _).2 (by rw [hca]; exact all_take hAm _))
        rw [hA.out] at d1 hsi hia hci
        rw [hB.out] at d2 hsj hja hcj
        have IA := hide (hia.grew (unhide S2))
        have IB := hide (hja.grew (unhide S2))
        have hbl := (bothC_len A B).1
        obtain ⟨C, hC⟩ : ∃ C, Hid (bothC A B = C) := ⟨_, hide rfl⟩
        rw [hC.out] at hbl HB1
        obtain ⟨K, hK⟩ : ∃ K : Nat, Hid (K = A.length / 2) := ⟨_, hide rfl⟩
        have hk1 : (A.length : Int) / 2 = (K : Int) := by rw [hK.out]; rfl
        have hk2 : (A.length : Int).tdiv 2 = (K : Int) := by rw [Int.tdiv_eq_ediv_of_nonneg (by omega)]; exact hk1
        have hkl : K ≤ A.length := by rw [hK.out]; omega
        have hkc : (K : Int) ≤ (ci : Int) := by omega
        have hk3 : ((K : Int)).toNat = K := by omega
        have HLK : Hid ((A.take K).length = K) := hide (by simp; omega)
        rw [← hK.out] at HB2
        clear c1 c2 hia hja hca hv hAm
        go_wp2_with fail
        refine (implBoth _ _ _ _ A B _ (unhide IA) (unhide IB) hsi hsj).mono ?_
        rintro e w4 ⟨xx, cxx, rfl, ix, gg, _⟩
        rw [hC.out] at ix ⊢
        have IX := hide ix
        clear ix
        have S3 := hide (show Grew w3 w4 from gg)
        clear gg
        go_wp2_with fail
        refine (lwAmong_v _ _ C _ ((unhide HA).grew ((unhide S2).trans (unhide S3))) HSh.out hcl (unhide IX) (by omega)).mono ?_
        rw [HB1.out]
        rintro e w5 ⟨rfl, gg⟩
        have S4 := hide (show Grew w4 w5 from gg)
        clear gg
        have hX := hide (lwAmong_v ai ci (A.take K) w5 ((unhide HA).grew (((unhide S2).trans (unhide S3)).trans (unhide S4))) HSh.out hcl (((unhide IA).grew ((unhide S3).trans (unhide S4))).take K) (by rw [HLK.out]; omega))
        rw [HLK.out, HB2.out] at hX
        go_wp2_with fail
        refine hX.out.mono ?_
        clear hX
        rintro e w6 ⟨rfl, gg⟩
        have S5 := hide (show Grew w5 w6 from gg)
        clear gg
        go_wp2
        go_ret
        exact ⟨rfl, ((((((unhide S0).trans (unhide S1)).trans (unhide S2)).trans (unhide S3)).trans (unhide S4)).trans (unhide S5))⟩
    · have hn3 : decide ((1048576 : Int) < (n2 : Int)) = true := by simp; omega
      clear hn2
      go_enter Try.func9, Try.ntmps9
      go_wp2
      go_ret
      exact ⟨rfl, Grew.refl _⟩
  · have hn1 : decide ((1048576 : Int) < (n : Int)) = true := by simp; omega
    clear hn
    go_enter Try.func9, Try.ntmps9
    go_wp2
    go_ret
    exact ⟨rfl, Grew.refl _⟩

set_option maxRecDepth 100000 in
theorem lifted (os : Os) (started : os.Started) (H : Type) (enc : TypeId × Value → H) :
    ReturnsInHanded {} Try.checked os 9 .any (Rows.fnSureBothSpec.pre6 enc Try.prog Try.f9 Rows.fnSureBothRow.domain false) (Rows.fnSureBothSpec.post enc Try.prog Try.f9 false true false false) := by
  refine returnsInHanded_of_change (C := Try.checked) own started (by kernel_rfl) Try.func9
    (ChangeSpec.witness6 (enc := enc) (C := Try.checked) false ⟨#[], #[.slice none 0 0, .slice none 0 0], []⟩ 8 (by kernel_rfl) (by kernel_rfl) (by kernel_rfl) (by kernel_rfl)) ?_
  intro W base args ds gs before hval0 hW hcnd _
  have hval : ∀ (j : Nat) t v, Try.f9.params[j]? = some t → args[j]? = some v → Value.okWide Try.prog W .any base t v := hval0
  have hW' := hW
  obtain ⟨p, q, hA0, hV, rfl, hfz, hnd⟩ := hW
  have hA : DataW.TrodAll enc Try.prog W 0 (fun _ => true) true Try.f9.params.toList args.toList ds p := hA0
  rw [Try.params9] at hA hval
  obtain ⟨v0, vs0, d0, ds0, p0, q0, hargs, rfl, rfl, h0, r0⟩ := trodAll_cons hA
  obtain ⟨v1, vs1, d1, ds1, p1, q1, rfl, rfl, rfl, h1, r1⟩ := trodAll_cons r0
  obtain ⟨rfl, rfl, rfl⟩ := trodAll_nil r1
  obtain rfl : args = #[v0, v1] := by cases args; simp_all
  obtain ⟨rfl, rfl⟩ := trodVars_none hV
  have k0 := h0
  have lt0 : ∀ x ∈ p0, x.block < W.heap.size := by obtain ⟨m, hm⟩ := k0; exact DataW.trod_lt m _ _ _ hm
  obtain ⟨a0, len0, cap0, rfl⟩ := okWide_slice Try.underlying22 (hval 0 22 v0 rfl rfl)
  obtain ⟨fuel0, hf0⟩ := h0
  obtain ⟨hb0, hc0⟩ := open_bytes hf0
  have k1 := h1
  have lt1 : ∀ x ∈ p1, x.block < W.heap.size := by obtain ⟨m, hm⟩ := k1; exact DataW.trod_lt m _ _ _ hm
  obtain ⟨a1, len1, cap1, rfl⟩ := okWide_slice Try.underlying22 (hval 1 22 v1 rfl rfl)
  obtain ⟨fuel1, hf1⟩ := h1
  obtain ⟨hb1, hc1⟩ := open_bytes hf1
  clear hA0 hval0
  refine (walk a0 len0 cap0 a1 len1 cap1 W hb0 hc0 hb1 hc1).mono fun e W' ⟨he, bel⟩ => ?_
  subst he
  exact ⟨_, rfl, _, _, _, [], _, [], hW', trodAll_mk1 (shut_bool Try.underlying4 _), (trodAll_cons_mk (Below.trod laidOut (by kernel_rfl) (of_decide_eq_true (by kernel_rfl)) k0 bel.below lt0) (trodAll_cons_mk (Below.trod laidOut (by kernel_rfl) (of_decide_eq_true (by kernel_rfl)) k1 bel.below lt1) trodAll_mk0)), rfl, bel.below.frame _, fun h => by cases h⟩

theorem over : Rows.fnSureBothRow.holds Try.pinned (OpenSpec.ofChange Rows.fnSureBothSpec) :=
  OpenClaim.holds_of_wide 9 Try.f9 rfl rfl rfl rfl rfl rfl rfl ⟨rfl, rfl, rfl, rfl, rfl⟩ rfl rfl rfl rfl rfl (by kernel_rfl) Try.func9 (by kernel_rfl)
    (of_decide_eq_true (by kernel_rfl)) (by unfold Func.isWrapper; first | (rw [if_pos (by decide +kernel)]; kernel_rfl) | (rw [if_neg (by decide +kernel)]; exact ⟨rfl, rfl⟩))
    (fun os started H enc _ => lifted os started H enc)
end Go.Proofs.Ytjcnbacbnfmkjab.FnSureBoth
namespace Go.Proofs.Ytjcnbacbnfmkjab
theorem fnSureBoth_holds : Rows.FnSureBothSaid := FnSureBoth.over
#print axioms fnSureBoth_holds
end Go.Proofs.Ytjcnbacbnfmkjab
