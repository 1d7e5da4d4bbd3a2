/-
  FnTreeNone returns true at every two rows of bytes and leaves its arguments as they were: what the statement says; no condition.
-/
import Derived.Test.YtjcnbacbnfmkjabVDraw34
import Derived.Test.YtjcnbacbnfmkjabVLwA
import Derived.Test.YtjcnbacbnfmkjabNumsA
import Derived.Test.YtjcnbacbnfmkjabVote3
import Derived.Test.YtjcnbacbnfmkjabOpen
import Derived.Test.YtjcnbacbnfmkjabTDrawA
import Derived.Test.YtjcnbacbnfmkjabTFormsA
import Derived.Test.YtjcnbacbnfmkjabTMath2
import Derived.Test.YtjcnbacbnfmkjabTMark
import Derived.Test.YtjcnbacbnfmkjabVLess
import Derived.Lib.SmallJoins
import Derived.JoinedOf
import Derived.JoinedAt
import Derived.RowKit3
import Derived.Deep.RegionHeldLaw
import Derived.Deep.DeepFit
namespace Go.Proofs.Ytjcnbacbnfmkjab.FnTreeNone
set_option linter.unusedVariables false
open Go.ChangeShapes Go.WideShapes Go.ChangeAt Go.RowKit Go.Joins
attribute [local simp] far_const

def twoL (l : List Vt) (A B : Int) (k : Nat) : List Vt := (l.take k).filter (fun y => y.n == A || y.n == B)
theorem two_in {l : List Vt} {A B : Int} {k : Nat} (hk : k < l.length) (h : (l[k].n == A || l[k].n == B) = true) : twoL l A B (k + 1) = twoL l A B k ++ [l[k]] := by
  unfold twoL; rw [List.take_succ_eq_append_getElem hk, List.filter_append, List.filter_cons, if_pos h]; rfl
theorem two_out {l : List Vt} {A B : Int} {k : Nat} (hk : k < l.length) (h : (l[k].n == A || l[k].n == B) = false) : twoL l A B (k + 1) = twoL l A B k := by
  unfold twoL; rw [List.take_succ_eq_append_getElem hk, List.filter_append, List.filter_cons, if_neg (by rw [h]; decide)]; simp
theorem two_le (l : List Vt) (A B : Int) (k : Nat) : (twoL l A B k).length ≤ l.length := by
  unfold twoL
  have h1 := List.length_filter_le (fun y : Vt => y.n == A || y.n == B) (l.take k)
  have h2 : (l.take k).length ≤ l.length := by simp; omega
  omega
theorem two_cnt {l : List Vt} (hv : votesB l = true) (A B : Int) (c : List It) : cnt (twoL l A B l.length) c ≤ 2 := by
  unfold cnt twoL
  rw [List.take_length]
  have hnd := ((votesB_iff l).1 hv).2
  have h : ((l.filter (fun y => y.n == A || y.n == B)).filter (fun y => sameB y.c c)).Nodup := (hnd.filter _).filter _
  have := List.Nodup.length_le_of_subset (l₂ := [⟨A, c⟩, ⟨B, c⟩]) h (fun y hy => by
    simp only [List.mem_filter, Bool.or_eq_true, beq_iff_eq] at hy
    have hc := (sameB_iff _ _).1 hy.2
    obtain ⟨yn, yc⟩ := y
    simp only at hy hc
    subst hc
    rcases hy.1.2 with e | e
    · rw [e]; simp
    · rw [e]; simp)
  simpa using this
theorem two_all {m : List Vt} (h : ∀ c, cnt m c ≤ 2) : allS m = [[]] := by
  obtain ⟨r, hr⟩ := allS_head m
  have hmem : ∀ c ∈ allS m, c = [] := fun c hc => by
    have hs := (allS_mem.1 hc).2
    by_cases h0 : c.length = 0
    · exact List.eq_nil_of_length_eq_zero h0
    · have h1 := sureF_at hs (k := 1) (by omega) (by omega)
      have h2 := h (c.take 1)
      omega
  have hnd := allS_nodup m
  cases r with
  | nil => exact hr
  | cons x r =>
    rw [hr] at hmem hnd
    have hx := hmem x (by simp)
    subst hx
    simp at hnd
set_option maxRecDepth 20000 in
set_option maxHeartbeats 4000000 in
theorem walk (a : Option Addr) (n cap : Nat) (a2 : Option Addr) (n2 cap2 : Nat) (w : World) (hb : Byt w a w.heap.size n) (hc : n ≤ cap) (hb2 : Byt w a2 w.heap.size n2) (hc2 : n2 ≤ cap2) :
    Calls Try.prog 13 #[.slice a n cap, .slice a2 n2 cap2] w fun e w' => e = .returned (.bool true) ∧ Grew w w' := by
  by_cases hn : n ≤ 1048576
  · have hn1 : decide ((1048576 : Int) < (n : Int)) = false := by simp; omega
    by_cases hn2 : n2 ≤ 1048576
    · have hn3 : decide ((1048576 : Int) < (n2 : Int)) = false := by simp; omega
      go_enter Try.func13, Try.ntmps13
      go_wp2_with fail
      refine (drawTreeAll_any a n cap _ hb hc hn).mono ?_
      rintro e w1 ⟨v, l, base, rfl, ol, hl, hlw, gg⟩
      have HS := hide (hlw.short (by omega))
      have hll : l.length ≤ 1048576 := by omega
      have R1 := hide ol
      have V1 := hide ol.vtsV
      obtain ⟨gv, capv, rfl, hcapv, _, _, hvts⟩ := ol.shape
      have VT := hide hvts
      clear ol hlw hvts
      have S0 := hide (show Grew w w1 from gg)
      clear gg
      obtain ⟨cs, hcs⟩ : ∃ cs, Hid (allL l = cs) := ⟨_, hide rfl⟩
      have hcl : cs.length ≤ 1048577 := by have := allL_len l; rw [hcs.out] at this; omega
      have HSh : Hid (∀ d ∈ cs, d.length ≤ 1048576) := hide (by rw [← hcs.out]; exact allL_short (unhide HS))
      have HCI : Hid ((if votesB l = true then allS l else []) = cs) := hide hcs.out
      have HCA : Hid (votesB l = true → cs = allS l) := hide (fun h => by rw [← hcs.out]; exact allL_yes h)
      have HCN : Hid (votesB l = false → cs = []) := hide (fun h => by rw [← hcs.out]; exact allL_no h)
      have hlne : (((cs.length : Nat) : Int) != ((cs.length : Nat) : Int)) = false := by simp
      have hleq : (((cs.length : Nat) : Int) == ((cs.length : Nat) : Int)) = true := by simp
      go_wp2_with fail
      refine (implTreeAll_v _ ((unhide V1).grew (Grew.refl _)) (unhide HS) hll).mono ?_
      rw [HCI.out]
      rintro e w2 ⟨va, ha, rfl, hka, gg⟩
      have S1 := hide (show Grew w1 w2 from gg)
      obtain ⟨aa, acap, rfl, hac, hax⟩ := hka.chsV
      have HA : Hid (ChsV w2 (.slice aa cs.length acap) cs) := hide ⟨aa, acap, rfl, hac, hax⟩
      have HAX := hide hax
      clear hka hax
      clear gg
      go_wp2_with fail
      refine (specTreeAll_r _ ((unhide R1).grew (unhide S1)) (unhide HS) hll).mono ?_
      rw [hcs.out]
      rintro e w3 ⟨vw, rfl, hw0, gg⟩
      have S2 := hide (show Grew w2 w3 from gg)
      obtain ⟨wa, wcap, rfl, hwc, hwx⟩ := hw0
      have HWX := hide hwx
      clear hwx
      clear gg
      go_wp2_with fail
      refine (specVotesOk_v _ ((unhide V1).grew ((unhide S1).trans (unhide S2))) (unhide HS) hll).mono ?_
      rintro e w4 ⟨rfl, gg⟩
      have S3 := hide (show Grew w3 w4 from gg)
      clear gg
      cases hv : votesB l with
      | false =>
        go_wp2
        go_ret
        exact ⟨rfl, ((((unhide S0).trans (unhide S1)).trans (unhide S2)).trans (unhide S3))⟩
      | true =>
        obtain ⟨A, hA⟩ : ∃ A : Int, Hid (A = (1 : Int) + (n2 : Int) % 4) := ⟨_, hide rfl⟩
        obtain ⟨B, hB⟩ : ∃ B : Int, Hid (B = (1 : Int) + (n2 : Int) / 2 % 4) := ⟨_, hide rfl⟩
        have ha1 : (1 : Int) + (n2 : Int) % 4 = A := hA.out.symm
        have ha2 : (1 : Int) + (n2 : Int).tmod 4 = A := by rw [Int.tmod_eq_emod_of_nonneg (by omega)]; exact ha1
        have hb1 : (1 : Int) + (n2 : Int) / 2 % 4 = B := hB.out.symm
        have hb2 : (1 : Int) + ((n2 : Int) / 2).tmod 4 = B := by rw [Int.tmod_eq_emod_of_nonneg (by omega)]; exact hb1
        have hb3 : (1 : Int) + ((n2 : Int).tdiv 2).tmod 4 = B := by rw [Int.tdiv_eq_ediv_of_nonneg (by omega)]; exact hb2
        have hb4 : (1 : Int) + ((n2 : Int).tdiv 2) % 4 = B := by rw [Int.tdiv_eq_ediv_of_nonneg (by omega)]; exact hb1
        have HVT : Hid (votesB (twoL l A B l.length) = true) := hide (votesB_sub hv (by unfold twoL; rw [List.take_length]; exact List.filter_sublist))
        have hal := two_all (two_cnt hv A B)
        have HAL : Hid ((if votesB (twoL l A B l.length) = true then allS (twoL l A B l.length) else []) = [[]]) := hide (by rw [if_pos HVT.out]; exact hal)
        have HFI : Hid (finalL (twoL l A B l.length) = []) := hide (List.eq_nil_of_length_eq_zero (by rw [finalL_len HVT.out, hal]; decide))
        have HLO : Hid (longL (twoL l A B l.length) = 0) := hide (by rw [longL_of HVT.out, hal]; decide)
        have HST2 : Hid (Short (twoL l A B l.length)) := fun y hy => unhide HS y (List.mem_of_mem_take (List.mem_filter.1 hy).1)
        have W0 := hide ((((unhide S0).trans (unhide S1)).trans (unhide S2)).trans (unhide S3))
        have W1 := hide (((unhide S1).trans (unhide S2)).trans (unhide S3))
        have E0 := hide (VShr.empty w4)
        clear hv hal
        go_wp2_with fail
        go_loopw [10, 11] (fun out i wr => ∃ (v : Value) (k : Nat), out = v ∧ k ≤ l.length ∧ i = .int .i64 k ∧ Hid (VShr wr w4.heap.size v (twoL l A B k)) ∧ Grew w4 wr) (fun _ i _ => l.length - (intOf i).toNat)
        case atStart => exact ⟨_, 0, rfl, Nat.zero_le _, rfl, E0, (Grew.refl _).alloc _⟩
        case round =>
          obtain ⟨v, k, rfl, hk, rfl, ho, hg⟩ := hrel
          by_cases hlt : k < l.length
          · obtain ⟨b1, off, ex, hat0⟩ := ((unhide VT).grew (unhide W1)).at hlt
            simp only [Option.some.injEq, Addr.mk.injEq, and_true] at ex
            obtain ⟨rfl, rfl⟩ := ex
            obtain ⟨c0, a1, cap1, c1, hi⟩ := hat0.grew hg
            have hL : Lies w4 w4.heap.size (l[k], a1, cap1) := by
              obtain ⟨_, a2', cap2', c2, hi2⟩ := hat0
              have := hg.keep c2
              rw [c1] at this
              simp only [Option.some.injEq, Value.slice.injEq, true_and] at this
              obtain ⟨rfl, rfl⟩ := this
              exact Lies.of hi2
            simp only [Nat.zero_add] at c0 c1
            clear hat0 hi
            cases hna : (l[k].n == A) with
            | true =>
              have HST := hide (two_in (A := A) (B := B) hlt (by rw [hna]; rfl))
              have hLr := hide (hL.kept (w' := wr) (fun b hb => hg.below.block b hb))
              have hbl := hide (unhide ho).block
              have hsz := hg.size
              have hlen := two_le l A B k
              clear hL
              go_wp2_with (first | (at_builtin; refine wpList_shr rfl _ _ rfl w4.heap.size _ (twoL l A B k) rfl ((unhide ho).grew ((Grew.refl _).alloc _) hsz) (by simp; omega) ⟨wr.heap.size, 0, none⟩ 1 [(l[k], a1, cap1)] 1 rfl rfl (cells_two _ _ _ _ _ _) (fun e he => by simp at he; subst he; exact (unhide hLr).kept (fun b hb => ((Grew.refl wr).alloc _).below.block b (by omega))) (by omega) ?_))
              intro v2 w8 o2 g2
              have O2 : Hid (VShr w8 w4.heap.size v2 (twoL l A B (k + 1))) := by rw [HST.out]; exact o2
              have G2 := (hg.alloc _).grown g2 (fun b hb => (unhide hbl b hb).1)
              clear o2 g2
              go_wp2
              go_roundw
              case rel => exact ⟨_, k + 1, rfl, by omega, by go_num, O2, G2⟩
              case measure => simp [intOf]; omega
            | false =>
              cases hnb : (l[k].n == B) with
              | true =>
                have HST := hide (two_in (A := A) (B := B) hlt (by rw [hna, hnb]; rfl))
                have hLr := hide (hL.kept (w' := wr) (fun b hb => hg.below.block b hb))
                have hbl := hide (unhide ho).block
                have hsz := hg.size
                have hlen := two_le l A B k
                clear hL
                go_wp2_with (first | (at_builtin; refine wpList_shr rfl _ _ rfl w4.heap.size _ (twoL l A B k) rfl ((unhide ho).grew ((Grew.refl _).alloc _) hsz) (by simp; omega) ⟨wr.heap.size, 0, none⟩ 1 [(l[k], a1, cap1)] 1 rfl rfl (cells_two _ _ _ _ _ _) (fun e he => by simp at he; subst he; exact (unhide hLr).kept (fun b hb => ((Grew.refl wr).alloc _).below.block b (by omega))) (by omega) ?_))
                intro v2 w8 o2 g2
                have O2 : Hid (VShr w8 w4.heap.size v2 (twoL l A B (k + 1))) := by rw [HST.out]; exact o2
                have G2 := (hg.alloc _).grown g2 (fun b hb => (unhide hbl b hb).1)
                clear o2 g2
                go_wp2
                go_roundw
                case rel => exact ⟨_, k + 1, rfl, by omega, by go_num, O2, G2⟩
                case measure => simp [intOf]; omega
              | false =>
                have HST := hide (two_out (A := A) (B := B) hlt (by rw [hna, hnb]; rfl))
                rw [← HST.out] at ho
                clear hL
                go_wp2
                go_roundw
                case rel => exact ⟨_, k + 1, rfl, by omega, by go_num, ho, hg⟩
                case measure => simp [intOf]; omega
          · have hkl : k = l.length := by omega
            have hle : (l.length : Int) ≤ (k : Int) := by omega
            have hdk : decide ((k : Int) < (l.length : Int)) = false := by simp; omega
            have hlen := two_le l A B l.length
            have ON := hide (unhide ho).vtsV
            rw [hkl] at ON
            clear hkl ho
            obtain ⟨T, hT⟩ : ∃ T, Hid (twoL l A B l.length = T) := ⟨_, hide rfl⟩
            rw [hT.out] at ON HAL HFI HLO HST2 hlen
            have hX := hide (implTreeAll_v wr (unhide ON) (unhide HST2) (by omega))
            rw [HAL.out] at hX
            go_wp2_with fail
            refine hX.out.mono ?_
            clear hX
            rintro e w7 ⟨va, ha, rfl, hka, g7⟩
            obtain ⟨xa, xcap, rfl, _, _⟩ := hka.chsV
            clear hka
            have hX := hide (implTreeFinal_v w7 ((unhide ON).grew g7) (unhide HST2) (by omega))
            rw [HFI.out] at hX
            go_wp2_with fail
            refine hX.out.mono ?_
            clear hX
            rintro e w8 ⟨vf, rfl, hvf, g8⟩
            obtain ⟨fa, fcap, rfl, _, _, _⟩ := hvf.shape
            clear hvf
            have hX := hide (implTreeLong_v w8 ((unhide ON).grew (g7.trans g8)) (unhide HST2) (by omega))
            rw [HLO.out] at hX
            go_wp2_with fail
            refine hX.out.mono ?_
            clear hX
            rintro e w9 ⟨rfl, g9⟩
            go_wp2
            go_ret
            exact ⟨by first | rfl | simp, (unhide W0).trans (((hg.trans g7).trans g8).trans g9)⟩
    · have hn3 : decide ((1048576 : Int) < (n2 : Int)) = true := by simp; omega
      clear hn2
      go_enter Try.func13, Try.ntmps13
      go_wp2
      go_ret
      exact ⟨rfl, Grew.refl _⟩
  · have hn1 : decide ((1048576 : Int) < (n : Int)) = true := by simp; omega
    clear hn
    go_enter Try.func13, Try.ntmps13
    go_wp2
    go_ret
    exact ⟨rfl, Grew.refl _⟩

set_option maxRecDepth 100000 in
theorem lifted (os : Os) (started : os.Started) (H : Type) (enc : TypeId × Value → H) :
    ReturnsInHanded {} Try.checked os 13 .any (Rows.fnTreeNoneSpec.pre6 enc Try.prog Try.f13 Rows.fnTreeNoneRow.domain false) (Rows.fnTreeNoneSpec.post enc Try.prog Try.f13 false true false false) := by
  refine returnsInHanded_of_change (C := Try.checked) own started (by kernel_rfl) Try.func13
    (ChangeSpec.witness6 (enc := enc) (C := Try.checked) false ⟨#[], #[.slice none 0 0, .slice none 0 0], []⟩ 8 (by kernel_rfl) (by kernel_rfl) (by kernel_rfl) (by kernel_rfl)) ?_
  intro W base args ds gs before hval0 hW hcnd _
  have hval : ∀ (j : Nat) t v, Try.f13.params[j]? = some t → args[j]? = some v → Value.okWide Try.prog W .any base t v := hval0
  have hW' := hW
  obtain ⟨p, q, hA0, hV, rfl, hfz, hnd⟩ := hW
  have hA : DataW.TrodAll enc Try.prog W 0 (fun _ => true) true Try.f13.params.toList args.toList ds p := hA0
  rw [Try.params13] at hA hval
  obtain ⟨v0, vs0, d0, ds0, p0, q0, hargs, rfl, rfl, h0, r0⟩ := trodAll_cons hA
  obtain ⟨v1, vs1, d1, ds1, p1, q1, rfl, rfl, rfl, h1, r1⟩ := trodAll_cons r0
  obtain ⟨rfl, rfl, rfl⟩ := trodAll_nil r1
  obtain rfl : args = #[v0, v1] := by cases args; simp_all
  obtain ⟨rfl, rfl⟩ := trodVars_none hV
  have k0 := h0
  have lt0 : ∀ x ∈ p0, x.block < W.heap.size := by obtain ⟨m, hm⟩ := k0; exact DataW.trod_lt m _ _ _ hm
  obtain ⟨a0, len0, cap0, rfl⟩ := okWide_slice Try.underlying22 (hval 0 22 v0 rfl rfl)
  obtain ⟨fuel0, hf0⟩ := h0
  obtain ⟨hb0, hc0⟩ := open_bytes hf0
  have k1 := h1
  have lt1 : ∀ x ∈ p1, x.block < W.heap.size := by obtain ⟨m, hm⟩ := k1; exact DataW.trod_lt m _ _ _ hm
  obtain ⟨a1, len1, cap1, rfl⟩ := okWide_slice Try.underlying22 (hval 1 22 v1 rfl rfl)
  obtain ⟨fuel1, hf1⟩ := h1
  obtain ⟨hb1, hc1⟩ := open_bytes hf1
  clear hA0 hval0
  refine (walk a0 len0 cap0 a1 len1 cap1 W hb0 hc0 hb1 hc1).mono fun e W' ⟨he, bel⟩ => ?_
  subst he
  exact ⟨_, rfl, _, _, _, [], _, [], hW', trodAll_mk1 (shut_bool Try.underlying4 _), (trodAll_cons_mk (Below.trod laidOut (by kernel_rfl) (of_decide_eq_true (by kernel_rfl)) k0 bel.below lt0) (trodAll_cons_mk (Below.trod laidOut (by kernel_rfl) (of_decide_eq_true (by kernel_rfl)) k1 bel.below lt1) trodAll_mk0)), rfl, bel.below.frame _, fun h => by cases h⟩

theorem over : Rows.fnTreeNoneRow.holds Try.pinned (OpenSpec.ofChange Rows.fnTreeNoneSpec) :=
  OpenClaim.holds_of_wide 13 Try.f13 rfl rfl rfl rfl rfl rfl rfl ⟨rfl, rfl, rfl, rfl, rfl⟩ rfl rfl rfl rfl rfl (by kernel_rfl) Try.func13 (by kernel_rfl)
    (of_decide_eq_true (by kernel_rfl)) (by unfold Func.isWrapper; first | (rw [if_pos (by decide +kernel)]; kernel_rfl) | (rw [if_neg (by decide +kernel)]; exact ⟨rfl, rfl⟩))
    (fun os started H enc _ => lifted os started H enc)
end Go.Proofs.Ytjcnbacbnfmkjab.FnTreeNone
namespace Go.Proofs.Ytjcnbacbnfmkjab
theorem fnTreeNone_holds : Rows.FnTreeNoneSaid := FnTreeNone.over
#print axioms fnTreeNone_holds
end Go.Proofs.Ytjcnbacbnfmkjab
