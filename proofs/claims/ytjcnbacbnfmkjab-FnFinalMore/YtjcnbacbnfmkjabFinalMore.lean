/-
  FnFinalMore returns true at every two rows of bytes and leaves its arguments as they were: what the statement says; no condition.
-/
import Derived.Test.YtjcnbacbnfmkjabVDraw34
import Derived.Test.YtjcnbacbnfmkjabVLwA
import Derived.Test.YtjcnbacbnfmkjabNumsA
import Derived.Test.YtjcnbacbnfmkjabVote3
import Derived.Test.YtjcnbacbnfmkjabOpen
import Derived.Test.YtjcnbacbnfmkjabTDrawA
import Derived.Test.YtjcnbacbnfmkjabTFormsA
import Derived.Lib.SmallJoins
import Derived.JoinedOf
import Derived.JoinedAt
import Derived.RowKit3
import Derived.Deep.RegionHeldLaw
import Derived.Deep.DeepFit
namespace Go.Proofs.Ytjcnbacbnfmkjab.FnFinalMore
set_option linter.unusedVariables false
open Go.ChangeShapes Go.WideShapes Go.ChangeAt Go.RowKit Go.Joins
attribute [local simp] far_const

set_option maxRecDepth 20000 in
set_option maxHeartbeats 16000000 in
theorem walk (a : Option Addr) (n cap : Nat) (a2 : Option Addr) (n2 cap2 : Nat) (w : World) (hb : Byt w a w.heap.size n) (hc : n ≤ cap) (hb2 : Byt w a2 w.heap.size n2) (hc2 : n2 ≤ cap2) :
    Calls Try.prog 8 #[.slice a n cap, .slice a2 n2 cap2] w fun e w' => e = .returned (.bool true) ∧ Grew w w' := by
  by_cases hn : n ≤ 1048576
  · have hn1 : decide ((1048576 : Int) < (n : Int)) = false := by simp; omega
    by_cases hn2 : n2 ≤ 1048576
    · have hn3 : decide ((1048576 : Int) < (n2 : Int)) = false := by simp; omega
      go_enter Try.func8, Try.ntmps8
      go_wp2_with fail
      refine (drawTreeFinal_any a n cap _ hb hc hn).mono ?_
      rintro e w1 ⟨v, l, base, rfl, ol, hl, hlw, gg⟩
      have HS := hide (hlw.short (by omega))
      have hll : l.length ≤ 1048576 := by omega
      have R1 := hide ol
      have V1 := hide ol.vtsV
      obtain ⟨gv, capv, rfl, hcapv, _, _, hvts⟩ := ol.shape
      have VT := hide hvts
      clear ol hlw hvts
      have S0 := hide (show Grew w w1 from gg)
      clear gg
      obtain ⟨f, hf⟩ : ∃ f, Hid (finalL l = f) := ⟨_, hide rfl⟩
      have hfl : f.length ≤ 1048576 := by rw [← hf.out]; exact finalL_short (unhide HS)
      have hsame : Hid (sameB f f = true) := hide ((sameB_iff f f).2 rfl)
      go_wp2_with fail
      refine (implTreeFinal_v _ ((unhide V1).grew (Grew.refl _)) (unhide HS) hll).mono ?_
      rw [hf.out]
      rintro e w2 ⟨vf, rfl, hvf, gg⟩
      have S1 := hide (show Grew w1 w2 from gg)
      obtain ⟨fa, fcap, rfl, hfc, hif, _⟩ := hvf.shape
      have IF := hide hif
      clear hif hvf
      clear gg
      go_wp2_with fail
      refine (specTreeFinal_r _ ((unhide R1).grew (unhide S1)) (unhide HS) hll).mono ?_
      rw [hf.out]
      rintro e w3 ⟨vs, rfl, ⟨sa2, sc2, hvs2, _, his⟩, gg⟩
      have S2 := hide (show Grew w2 w3 from gg)
      subst hvs2
      have IS := hide his
      clear his
      clear gg
      go_wp2_with fail
      refine (lwSame_any _ _ _ _ f f _ ((unhide IF).grew (unhide S2)) (unhide IS) hfl hfl).mono ?_
      rw [hsame.out]
      rintro e w4 ⟨rfl, gg⟩
      have S3 := hide (show Grew w3 w4 from gg)
      clear gg
      go_wp2_with fail
      refine (specVotesOk_v _ ((unhide V1).grew (((unhide S1).trans (unhide S2)).trans (unhide S3))) (unhide HS) hll).mono ?_
      rintro e w5 ⟨rfl, gg⟩
      have S4 := hide (show Grew w4 w5 from gg)
      clear gg
      cases hv : votesB l with
      | false =>
        go_wp2_with fail
        refine (specTreeFinal_r _ ((unhide R1).grew ((((unhide S1).trans (unhide S2)).trans (unhide S3)).trans (unhide S4))) (unhide HS) hll).mono ?_
        rw [hf.out]
        rintro e w6 ⟨vs, rfl, ⟨sa5, sc5, hvs5, _, his⟩, gg⟩
        have S5 := hide (show Grew w5 w6 from gg)
        subst hvs5
        have IS := hide his
        clear his
        clear gg
        go_wp2_with fail
        refine (lwSame_any _ _ _ _ f f _ ((unhide IF).grew ((((unhide S2).trans (unhide S3)).trans (unhide S4)).trans (unhide S5))) (unhide IS) hfl hfl).mono ?_
        rw [hsame.out]
        rintro e w7 ⟨rfl, gg⟩
        have S6 := hide (show Grew w6 w7 from gg)
        clear gg
        go_wp2
        go_ret
        exact ⟨rfl, (((((((unhide S0).trans (unhide S1)).trans (unhide S2)).trans (unhide S3)).trans (unhide S4)).trans (unhide S5)).trans (unhide S6))⟩
      | true =>
        obtain ⟨N, hNN⟩ : ∃ N : Nat, Hid (N = n2 % (l.length + 1)) := ⟨_, hide rfl⟩
        have hNl : N ≤ l.length := by rw [hNN.out]; exact Nat.lt_succ_iff.1 (Nat.mod_lt _ (by omega))
        have hrem : ((n2 : Int).tmod ((l.length : Int) + 1)) = (N : Int) := by rw [hNN.out]; rw [Int.tmod_eq_emod_of_nonneg (by omega)]; rfl
        have hcut : (N : Int) ≤ (capv : Int) := by omega
        have e1 : ((N : Int)).toNat = N := by omega
        have HLN : Hid ((l.take N).length = N) := hide (by simp; omega)
        have HSN : Hid (Short (l.take N)) := fun y hy => unhide HS y (List.mem_of_mem_take hy)
        have HSR : Hid (Short l.reverse) := fun y hy => unhide HS y (List.mem_reverse.1 hy)
        have hle : (finalL (l.take N)).length ≤ f.length := by rw [← hf.out]; exact final_less hv N
        have HBK : Hid ((finalL l.reverse).length = f.length) := hide (by rw [← hf.out]; exact final_back hv)
        obtain ⟨y, hy⟩ : ∃ y, Hid (finalL (l.take N) = y) := ⟨_, hide rfl⟩
        obtain ⟨u, hu⟩ : ∃ u, Hid (finalL l.reverse = u) := ⟨_, hide rfl⟩
        rw [hy.out] at hle
        rw [hu.out] at HBK
        have hd1 : decide ((y.length : Int) ≤ (f.length : Int)) = true := by simpa using hle
        have hd2 : ((u.length : Int) == (f.length : Int)) = true := by rw [HBK.out]; simp
        clear hv
        have hX := hide (implTreeFinal (some ⟨gv, 0, none⟩) capv (l.take N) w5 (((unhide VT).grew ((((unhide S1).trans (unhide S2)).trans (unhide S3)).trans (unhide S4))).take N) (unhide HSN) (by simp; omega))
        rw [HLN.out, hy.out] at hX
        go_wp2_with fail
        refine hX.out.mono ?_
        clear hX
        rintro e w6 ⟨vy, rfl, ay, gg⟩
        obtain ⟨ya, yc, rfl, _, _, _⟩ := ay.shape
        clear ay
        have S5 := hide (show Grew w5 w6 from gg)
        clear gg
        have hX := hide (implTreeFinal none 0 [] w6 (.inl rfl) (fun _ h => by cases h) (by simp))
        rw [final_none] at hX
        go_wp2_with fail
        refine hX.out.mono ?_
        clear hX
        rintro e w7 ⟨vz, rfl, az, gg⟩
        obtain ⟨za, zc, rfl, _, _, _⟩ := az.shape
        clear az
        have S6 := hide (show Grew w6 w7 from gg)
        clear gg
        go_wp2_with fail
        refine (lwBack_v _ ((unhide V1).grew ((((((unhide S1).trans (unhide S2)).trans (unhide S3)).trans (unhide S4)).trans (unhide S5)).trans (unhide S6))) hll).mono ?_
        rintro e w8 ⟨ub, rfl, ob, gg⟩
        have S7 := hide (show Grew w7 w8 from gg)
        have OB := hide ob
        clear ob
        clear gg
        go_wp2_with fail
        refine (implTreeFinal_v _ (unhide OB) (unhide HSR) (by simp; omega)).mono ?_
        rw [hu.out]
        rintro e w9 ⟨vu, rfl, au, gg⟩
        have S8 := hide (show Grew w8 w9 from gg)
        obtain ⟨ua, uc, rfl, _, _, _⟩ := au.shape
        clear au
        clear gg
        go_wp2
        go_ret
        exact ⟨by first | rfl | simp [hd1, hd2] | (simp; omega), (((((((((unhide S0).trans (unhide S1)).trans (unhide S2)).trans (unhide S3)).trans (unhide S4)).trans (unhide S5)).trans (unhide S6)).trans (unhide S7)).trans (unhide S8))⟩
    · have hn3 : decide ((1048576 : Int) < (n2 : Int)) = true := by simp; omega
      clear hn2
      go_enter Try.func8, Try.ntmps8
      go_wp2
      go_ret
      exact ⟨rfl, Grew.refl _⟩
  · have hn1 : decide ((1048576 : Int) < (n : Int)) = true := by simp; omega
    clear hn
    go_enter Try.func8, Try.ntmps8
    go_wp2
    go_ret
    exact ⟨rfl, Grew.refl _⟩

set_option maxRecDepth 100000 in
theorem lifted (os : Os) (started : os.Started) (H : Type) (enc : TypeId × Value → H) :
    ReturnsInHanded {} Try.checked os 8 .any (Rows.fnFinalMoreSpec.pre6 enc Try.prog Try.f8 Rows.fnFinalMoreRow.domain false) (Rows.fnFinalMoreSpec.post enc Try.prog Try.f8 false true false false) := by
  refine returnsInHanded_of_change (C := Try.checked) own started (by kernel_rfl) Try.func8
    (ChangeSpec.witness6 (enc := enc) (C := Try.checked) false ⟨#[], #[.slice none 0 0, .slice none 0 0], []⟩ 8 (by kernel_rfl) (by kernel_rfl) (by kernel_rfl) (by kernel_rfl)) ?_
  intro W base args ds gs before hval0 hW hcnd _
  have hval : ∀ (j : Nat) t v, Try.f8.params[j]? = some t → args[j]? = some v → Value.okWide Try.prog W .any base t v := hval0
  have hW' := hW
  obtain ⟨p, q, hA0, hV, rfl, hfz, hnd⟩ := hW
  have hA : DataW.TrodAll enc Try.prog W 0 (fun _ => true) true Try.f8.params.toList args.toList ds p := hA0
  rw [Try.params8] at hA hval
  obtain ⟨v0, vs0, d0, ds0, p0, q0, hargs, rfl, rfl, h0, r0⟩ := trodAll_cons hA
  obtain ⟨v1, vs1, d1, ds1, p1, q1, rfl, rfl, rfl, h1, r1⟩ := trodAll_cons r0
  obtain ⟨rfl, rfl, rfl⟩ := trodAll_nil r1
  obtain rfl : args = #[v0, v1] := by cases args; simp_all
  obtain ⟨rfl, rfl⟩ := trodVars_none hV
  have k0 := h0
  have lt0 : ∀ x ∈ p0, x.block < W.heap.size := by obtain ⟨m, hm⟩ := k0; exact DataW.trod_lt m _ _ _ hm
  obtain ⟨a0, len0, cap0, rfl⟩ := okWide_slice Try.underlying22 (hval 0 22 v0 rfl rfl)
  obtain ⟨fuel0, hf0⟩ := h0
  obtain ⟨hb0, hc0⟩ := open_bytes hf0
  have k1 := h1
  have lt1 : ∀ x ∈ p1, x.block < W.heap.size := by obtain ⟨m, hm⟩ := k1; exact DataW.trod_lt m _ _ _ hm
  obtain ⟨a1, len1, cap1, rfl⟩ := okWide_slice Try.underlying22 (hval 1 22 v1 rfl rfl)
  obtain ⟨fuel1, hf1⟩ := h1
  obtain ⟨hb1, hc1⟩ := open_bytes hf1
  clear hA0 hval0
  refine (walk a0 len0 cap0 a1 len1 cap1 W hb0 hc0 hb1 hc1).mono fun e W' ⟨he, bel⟩ => ?_
  subst he
  exact ⟨_, rfl, _, _, _, [], _, [], hW', trodAll_mk1 (shut_bool Try.underlying4 _), (trodAll_cons_mk (Below.trod laidOut (by kernel_rfl) (of_decide_eq_true (by kernel_rfl)) k0 bel.below lt0) (trodAll_cons_mk (Below.trod laidOut (by kernel_rfl) (of_decide_eq_true (by kernel_rfl)) k1 bel.below lt1) trodAll_mk0)), rfl, bel.below.frame _, fun h => by cases h⟩

theorem over : Rows.fnFinalMoreRow.holds Try.pinned (OpenSpec.ofChange Rows.fnFinalMoreSpec) :=
  OpenClaim.holds_of_wide 8 Try.f8 rfl rfl rfl rfl rfl rfl rfl ⟨rfl, rfl, rfl, rfl, rfl⟩ rfl rfl rfl rfl rfl (by kernel_rfl) Try.func8 (by kernel_rfl)
    (of_decide_eq_true (by kernel_rfl)) (by unfold Func.isWrapper; first | (rw [if_pos (by decide +kernel)]; kernel_rfl) | (rw [if_neg (by decide +kernel)]; exact ⟨rfl, rfl⟩))
    (fun os started H enc _ => lifted os started H enc)
end Go.Proofs.Ytjcnbacbnfmkjab.FnFinalMore
namespace Go.Proofs.Ytjcnbacbnfmkjab
theorem fnFinalMore_holds : Rows.FnFinalMoreSaid := FnFinalMore.over
#print axioms fnFinalMore_holds
end Go.Proofs.Ytjcnbacbnfmkjab
