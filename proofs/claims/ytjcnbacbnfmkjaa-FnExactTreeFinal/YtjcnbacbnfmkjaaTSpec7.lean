/-
  What the specification's TreeFinal answers, of votes whose chains have room.
-/
import Derived.Test.YtjcnbacbnfmkjaaTSpec6
import Derived.Test.YtjcnbacbnfmkjaaTSpec3
import Derived.Test.YtjcnbacbnfmkjaaVSpec3
namespace Go.Proofs.Ytjcnbacbnfmkjaa
set_option linter.unusedVariables false
open Go.RowKit
attribute [local simp] far_const

/-- Of which most is final, that part alone. -/
def mostC (cs : List (List It)) : List It := (mostF cs).1.take (mostF cs).2
theorem mostC_len (cs : List (List It)) : (mostC cs).length = (mostF cs).2 := by unfold mostC; have := (mostF_mem cs).1; simp; omega
theorem mostC_more {cs : List (List It)} {c : List It} (h : (mostC cs).length < finN c) : mostC (cs ++ [c]) = c.take (finN c) := by
  rw [mostC_len] at h; unfold mostC; rw [mostF_snoc, if_pos h]
theorem mostC_same {cs : List (List It)} {c : List It} (h : ¬ (mostC cs).length < finN c) : mostC (cs ++ [c]) = mostC cs := by
  rw [mostC_len] at h; unfold mostC; rw [mostF_snoc, if_neg h]

set_option maxRecDepth 20000 in
set_option maxHeartbeats 4000000 in
theorem l11Final_any (a : Option Addr) (cap : Nat) (l : List Vt) (w : World) (hl : Vts w a l) (hroom : Room w a l) (hs : Short l) (hn : l.length ≤ 1048576) :
    Calls Try.prog 56 #[.slice a l.length cap] w fun r w' => ∃ v, r = .returned v ∧ ChV w' v (mostC (allS l)) ∧ Grew w w' := by
  have hX := hide (l11All_any a cap l w hl hroom hs hn)
  rw [allK_all] at hX
  have hlen := allS_len l
  have HSh := hide (allS_short hs)
  obtain ⟨cs, hcs⟩ : ∃ cs, Hid (cs = allS l) := ⟨_, hide rfl⟩
  rw [← hcs.out] at hX hlen HSh ⊢
  go_enter Try.func56, Try.ntmps56
  go_wp2_with fail
  refine hX.out.mono ?_
  clear hX
  rintro rr w1 ⟨v, rfl, ov, g1⟩
  obtain ⟨va, vcap, rfl, hvc, hx⟩ := ov.chsV
  have HX := hide hx
  clear hx ov
  go_wp2_with fail
  go_loopw [4, 5] (fun o i wr => ∃ (k : Nat) (oa : Option Addr) (ocap : Nat) (t : List It), k ≤ cs.length ∧ i = .int .i64 k ∧ o = .slice oa t.length ocap ∧ t.length ≤ ocap ∧ t.length ≤ 1048576 ∧ Hid (t = mostC (cs.take k)) ∧ Hid (Its wr oa t) ∧ Grew w1 wr) (fun _ i _ => cs.length - (intOf i).toNat)
  case atStart =>
    exact ⟨0, some ⟨w1.heap.size, 0, none⟩, 0, [], Nat.zero_le _, rfl, rfl, Nat.le_refl _, Nat.zero_le _, hide rfl, hide (.inl rfl), (Grew.refl _).alloc _⟩
  case round =>
    obtain ⟨k, oa, ocap, t, hk, rfl, rfl, hoc, htl, ht, hit, hg⟩ := hrel
    by_cases hlt : k < cs.length
    · obtain ⟨b1, o1, ai, ci, rfl, c1, hci, hi⟩ := HX.out k hlt
      have e1 := hg.keep c1
      have hs1 := HSh.out _ (List.getElem_mem hlt)
      have hsn : cs.take (k + 1) = cs.take k ++ [cs[k]] := List.take_succ_eq_append_getElem hlt
      obtain ⟨d, hd⟩ : ∃ d, Hid (d = cs[k]) := ⟨_, hide rfl⟩
      have HI := hide (hi.grew hg)
      rw [← hd.out] at e1 hs1 hsn HI hci
      have hF := hide (l11FinalIn_any ai ci d.length d rfl wr (unhide HI) hs1)
      have hfl := finN_lt d
      obtain ⟨N, hN⟩ : ∃ N, Hid (N = finN d) := ⟨_, hide rfl⟩
      rw [← hN.out] at hF hfl
      have HSN := hide hsn
      clear c1 hi hsn
      go_wp2_with fail
      refine hF.out.mono ?_
      clear hF
      rintro rr w2 ⟨rfl, g2⟩
      have f1 := g2.keep e1
      have hg2 := hg.trans g2
      by_cases hgt : t.length < N
      · have hdd : decide (t.length < N) = true := decide_eq_true hgt
        have hdi : decide ((t.length : Int) < (N : Int)) = true := by simp; omega
        have hNc : (N : Int) ≤ (ci : Int) := by omega
        have HLN : Hid ((d.take N).length = N) := hide (by simp; omega)
        have HST : Hid (d.take N = mostC (cs.take (k + 1))) := hide (by rw [HSN.out, mostC_more (by rw [← ht.out, ← hN.out]; exact hgt), ← hN.out])
        have hC := hide (l1Copy_own ai ci (d.take N) N HLN.out w2 (((unhide HI).grew g2).take N) (by omega))
        clear e1
        go_wp2_with fail
        refine hC.out.mono ?_
        clear hC
        rintro rr w3 ⟨v3, rfl, o3, g3⟩
        obtain ⟨gg, cc, rfl, hcc, _, _, i3⟩ := o3.shape
        have I3 := hide i3
        have hg3 := hg2.trans g3
        clear o3 i3
        go_wp2
        go_roundw
        case rel => exact ⟨k + 1, _, cc, d.take N, by omega, by go_num, by rw [HLN.out], hcc, by rw [HLN.out]; omega, HST, I3, hg3⟩
        case measure => simp [intOf]; omega
      · have hdd : decide (t.length < N) = false := decide_eq_false hgt
        have hdi : decide ((t.length : Int) < (N : Int)) = false := by simp; omega
        have HST : Hid (t = mostC (cs.take (k + 1))) := hide (by rw [HSN.out, mostC_same (by rw [← ht.out, ← hN.out]; exact hgt)]; exact ht.out)
        have IT := hide ((unhide hit).grew g2)
        go_wp2
        go_roundw
        case rel => exact ⟨k + 1, oa, ocap, t, by omega, by go_num, rfl, hoc, htl, HST, IT, hg2⟩
        case measure => simp [intOf]; omega
    · have hkl : k = cs.length := by omega
      have hle : (cs.length : Int) ≤ (k : Int) := by omega
      have hdk : decide ((k : Int) < (cs.length : Int)) = false := by simp; omega
      rw [hkl, List.take_length] at ht
      clear hkl
      go_wp2
      go_ret
      exact ⟨_, rfl, by rw [← ht.out]; exact ⟨oa, ocap, rfl, hoc, unhide hit⟩, g1.trans hg⟩

theorem finalL_most {l : List Vt} (h : votesB l = true) : finalL l = mostC (allS l) := by simp [finalL, h, mostC]

set_option maxHeartbeats 2000000 in
theorem specTreeFinal (a : Option Addr) (cap : Nat) (l : List Vt) (w : World) (hl : Vts w a l) (hcap : l.length ≤ cap) (hroom : Room w a l) (hs : Short l) (hn : l.length ≤ 1048576) :
    Calls Try.prog 24 #[.slice a l.length cap] w fun r w' => ∃ v, r = .returned v ∧ ChV w' v (finalL l) ∧ Grew w w' := by
  have h1 := hide (specVotesOk a cap l w hl hcap hs hn)
  go_enter Try.func24, Try.ntmps24
  go_wp2_with fail
  refine h1.out.mono ?_
  clear h1
  rintro r w1 ⟨rfl, g1⟩
  cases hv : votesB l with
  | false =>
    have HE : Hid (finalL l = []) := hide (by simp [finalL, hv])
    clear hv
    go_wp2
    go_ret
    exact ⟨_, rfl, by rw [HE.out]; exact ⟨_, _, rfl, Nat.le_refl _, .inl rfl⟩, g1.alloc _⟩
  | true =>
    have HE : Hid (finalL l = mostC (allS l)) := hide (finalL_most hv)
    clear hv
    have hX := hide (l11Final_any a cap l w1 (hl.grew g1) (hroom.grew hl g1) hs hn)
    go_wp2_with fail
    refine hX.out.mono ?_
    clear hX
    rintro r w2 ⟨v, rfl, hv2, g2⟩
    have HV := hide hv2
    clear hv2
    go_wp2
    go_ret
    exact ⟨_, rfl, by rw [HE.out]; exact unhide HV, g1.trans g2⟩
end Go.Proofs.Ytjcnbacbnfmkjaa
