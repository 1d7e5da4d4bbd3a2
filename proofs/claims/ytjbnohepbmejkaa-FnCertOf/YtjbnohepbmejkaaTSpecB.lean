/-
  Texts together: TSpec3, TSpec5, TSpec6, TSpec7.
-/
import Derived.Test.YtjbnohepbmejkaaTreeB
import Derived.Test.YtjbnohepbmejkaaTSpec24
import Derived.Test.YtjbnohepbmejkaaTAllA
import Derived.Test.YtjbnohepbmejkaaVSpec3
namespace Go.Proofs.Ytjbnohepbmejkaa
set_option linter.unusedVariables false
open Go.RowKit
attribute [local simp] far_const

theorem downTo_mem {n k j : Nat} (hk : k ≤ n) (h : j ∈ downTo n k) : k ≤ j ∧ j < n := by
  obtain ⟨m, hm⟩ : ∃ m, m = n - k := ⟨_, rfl⟩
  induction m generalizing k with
  | zero => rw [show k = n by omega, downTo_top] at h; cases h
  | succ m ih =>
    rw [downTo_step n k (by omega)] at h
    rcases List.mem_append.1 h with h | h
    · have := ih (k := k + 1) (by omega) h (by omega); omega
    · simp only [List.mem_singleton] at h; omega
theorem finN_at {c : List It} {j : Nat} (hj : j < c.length) (h1 : endsB (c.take (j + 1)) = true) (h2 : ∀ i, j < i → i < c.length → endsB (c.take (i + 1)) = false) : finN c = j := by
  unfold finN
  have hp : downTo c.length (j + 1) ++ [j] <+: (List.range c.length).reverse := by rw [← downTo_step _ _ hj]; exact downTo_prefix _ _
  rw [find_first (p := fun j => endsB (c.take (j + 1))) hp (fun i hi => by have := downTo_mem (by omega) hi; exact h2 i (by omega) this.2) h1]
  rfl
theorem finN_none {c : List It} (h : ∀ i, i < c.length → endsB (c.take (i + 1)) = false) : finN c = 0 := by
  unfold finN
  have : (List.range c.length).reverse.find? (fun j => endsB (c.take (j + 1))) = none := by
    rw [List.find?_eq_none]; intro j hj; rw [h j (by simpa using hj)]; decide
  rw [this]; rfl
theorem endsB_short {c : List It} {j : Nat} (h : j < 2) : endsB (c.take (j + 1)) = false := by
  unfold endsB
  have : ¬ 3 ≤ (c.take (j + 1)).length := by simp; omega
  rw [decide_eq_false this]; rfl
theorem endsB_at {c : List It} {m : Nat} (h : m + 2 < c.length) : endsB (c.take (m + 2 + 1)) = ((wrap64 (c[m].e + 1) == c[m + 1].e) && (wrap64 (c[m + 1].e + 1) == c[m + 2].e)) := by
  have t3 : c.take (m + 2 + 1) = c.take (m + 2) ++ [c[m + 2]] := List.take_succ_eq_append_getElem h
  have t2 : c.take (m + 2) = c.take (m + 1) ++ [c[m + 1]] := List.take_succ_eq_append_getElem (by omega)
  have t1 : c.take (m + 1) = c.take m ++ [c[m]] := List.take_succ_eq_append_getElem (by omega)
  have hl : 3 ≤ (c.take (m + 2 + 1)).length := by simp; omega
  unfold endsB folB
  rw [decide_eq_true hl, Bool.true_and, t3, List.dropLast_concat, lastI_snoc, t2, List.dropLast_concat, lastI_snoc, t1, lastI_snoc, Bool.and_comm]
  congr 1
  · exact Bool.beq_comm
  · exact Bool.beq_comm

set_option maxRecDepth 20000 in
set_option maxHeartbeats 4000000 in
theorem l11FinalIn_any (a : Option Addr) (cap m : Nat) (c : List It) (hm : c.length = m) (w : World) (hc : Its w a c) (hn : m ≤ 1048576) :
    Calls Try.prog 58 #[.slice a m cap] w fun r w' => r = .returned (.int .i64 (finN c)) ∧ Grew w w' := by
  subst hm
  go_enter Try.func58, Try.ntmps58
  go_wp2_with fail
  go_loopw [3] (fun i wr => ∃ (k : Nat) (z : Int), k ≤ c.length ∧ i = .int .i64 z ∧ Hid (z = (k : Int) - 1) ∧ -1 ≤ z ∧ z ≤ 1048576 ∧ Hid (∀ j, k ≤ j → j < c.length → endsB (c.take (j + 1)) = false) ∧ Grew w wr) (fun i _ => (intOf i + 1).toNat)
  case atStart => exact ⟨c.length, (c.length : Int) - 1, Nat.le_refl _, by first | rfl | go_num, hide rfl, by omega, by omega, hide (fun j h1 h2 => by omega), Grew.refl _⟩
  case round =>
    obtain ⟨k, z, hk, rfl, hz, hz0, hz1, hno, hg⟩ := hrel
    by_cases hge : 2 ≤ z
    · obtain ⟨p, hp⟩ : ∃ p : Nat, Hid (k = p + 3) := ⟨k - 3, hide (by have := hz.out; omega)⟩
      have hzp : z = (p : Int) + 2 := by have := hz.out; have := hp.out; omega
      have hlt : p + 2 < c.length := by have := hp.out; omega
      subst hzp
      obtain ⟨b0, o0, rfl, hat0⟩ := hc.at (i := p) (by omega)
      obtain ⟨b1, o1, ex1, hat1⟩ := hc.at (i := p + 1) (by omega)
      obtain ⟨b2, o2, ex2, hat2⟩ := hc.at (i := p + 2) hlt
      simp only [Option.some.injEq, Addr.mk.injEq, and_true] at ex1 ex2
      obtain ⟨rfl, rfl⟩ := ex1
      obtain ⟨rfl, rfl⟩ := ex2
      have f0 := Grew.gcell (hat0.grew hg).1
      have f1 := Grew.gcell (hat1.grew hg).1
      have f2 := Grew.gcell (hat2.grew hg).1
      have hE := endsB_at hlt
      have q2 : wrap64 ((p : Int) + 2 - 2) = (p : Int) := by rw [show (p : Int) + 2 - 2 = (p : Int) by omega]; unfold wrap64; omega
      have q1 : wrap64 ((p : Int) + 2 - 1) = ((p + 1 : Nat) : Int) := by rw [show (p : Int) + 2 - 1 = ((p + 1 : Nat) : Int) by omega]; unfold wrap64; omega
      clear hat0 hat1 hat2
      cases hb1 : (wrap64 (c[p].e + 1) == c[p + 1].e) with
      | false =>
        have HE : Hid (endsB (c.take (p + 2 + 1)) = false) := hide (by rw [hE, hb1]; rfl)
        clear hE
        go_wp2_with fail
        refine quietly (by kernel_rfl) (by kernel_rfl) ?_
        repeat (go_big_quiet_step (first | fail))
        refine wpQuiet_nil ?_
        intro _ hw'
        obtain ⟨⟨nq, osq⟩, hw''⟩ := hw'
        subst hw''
        have g2 : Grew wr (far wr nq osq) := ⟨_, _, rfl⟩
        have HN : Hid (∀ j, p + 2 ≤ j → j < c.length → endsB (c.take (j + 1)) = false) := hide (fun j h1 h2 => by
          by_cases e : j = p + 2
          · rw [e]; exact HE.out
          · exact hno.out j (by have := hp.out; omega) h2)
        go_wp2
        go_roundw
        case rel => exact ⟨p + 2, (p : Int) + 1, by omega, by first | rfl | go_num | (simp; omega), hide (by omega), by omega, by omega, HN, hg.trans g2⟩
        case measure => simp [intOf]; omega
      | true =>
        cases hb2 : (wrap64 (c[p + 1].e + 1) == c[p + 2].e) with
        | false =>
          have HE : Hid (endsB (c.take (p + 2 + 1)) = false) := hide (by rw [hE, hb1, hb2]; rfl)
          clear hE
          go_wp2_with fail
          refine quietly (by kernel_rfl) (by kernel_rfl) ?_
          repeat (go_big_quiet_step (first | fail))
          refine wpQuiet_nil ?_
          intro _ hw'
          obtain ⟨⟨nq, osq⟩, hw''⟩ := hw'
          subst hw''
          have g2 : Grew wr (far wr nq osq) := ⟨_, _, rfl⟩
          have HN : Hid (∀ j, p + 2 ≤ j → j < c.length → endsB (c.take (j + 1)) = false) := hide (fun j h1 h2 => by
            by_cases e : j = p + 2
            · rw [e]; exact HE.out
            · exact hno.out j (by have := hp.out; omega) h2)
          go_wp2
          go_roundw
          case rel => exact ⟨p + 2, (p : Int) + 1, by omega, by first | rfl | go_num | (simp; omega), hide (by omega), by omega, by omega, HN, hg.trans g2⟩
          case measure => simp [intOf]; omega
        | true =>
          have HE : Hid (finN c = p + 2) := hide (finN_at hlt (by rw [hE, hb1, hb2]; rfl) (fun i h1 h2 => hno.out i (by have := hp.out; omega) h2))
          clear hE
          go_wp2_with fail
          refine quietly (by kernel_rfl) (by kernel_rfl) ?_
          repeat (go_big_quiet_step (first | fail))
          refine wpQuiet_nil ?_
          intro _ hw'
          obtain ⟨⟨nq, osq⟩, hw''⟩ := hw'
          subst hw''
          have g2 : Grew wr (far wr nq osq) := ⟨_, _, rfl⟩
          go_wp2
          go_ret
          exact ⟨by rw [HE.out]; first | rfl | (simp; omega), hg.trans g2⟩
    · have hd : decide ((2 : Int) ≤ z) = false := by simp; omega
      have HE : Hid (finN c = 0) := hide (finN_none (fun j hj => by
        by_cases h2 : j < 2
        · exact endsB_short h2
        · exact hno.out j (by have := hz.out; omega) hj))
      go_wp2
      go_ret
      exact ⟨by rw [HE.out]; rfl, hg⟩

set_option linter.unusedVariables false
open Go.RowKit
attribute [local simp] far_const

theorem allK_all (l : List Vt) : allK l l.length = allS l := by unfold allK allS; rw [List.take_length]
theorem allS_head (l : List Vt) : ∃ r, allS l = [] :: r := by
  obtain ⟨r, hr⟩ := firstsL_head l
  unfold allS
  rw [hr, List.filter_cons, if_pos (sureF_nil _)]
  exact ⟨_, rfl⟩
theorem allS_short {l : List Vt} (h : Short l) : ∀ c ∈ allS l, c.length ≤ 1048576 := by rw [← allK_all]; exact allK_short h _
theorem allS_len (l : List Vt) : (allS l).length ≤ l.length + 1 := by rw [← allK_all]; exact allK_len l _
/-- A chain as a value that is read. -/
def ChV (w : World) (v : Value) (c : List It) : Prop := ∃ a cap, v = .slice a c.length cap ∧ c.length ≤ cap ∧ Its w a c
theorem ChV.grew {w w' : World} {v : Value} {c : List It} (h : ChV w v c) (g : Grew w w') : ChV w' v c := by
  obtain ⟨a, cap, h1, h2, h3⟩ := h; exact ⟨a, cap, h1, h2, h3.grew g⟩

set_option linter.unusedVariables false
open Go.RowKit
attribute [local simp] far_const

/-- What TreeAll answers. -/
def allL (l : List Vt) : List (List It) := if votesB l = true then allS l else []
set_option linter.unusedVariables false
open Go.RowKit
attribute [local simp] far_const

/-- Of which most is final, that part alone. -/
def mostC (cs : List (List It)) : List It := (mostF cs).1.take (mostF cs).2
theorem mostC_len (cs : List (List It)) : (mostC cs).length = (mostF cs).2 := by unfold mostC; have := (mostF_mem cs).1; simp; omega
theorem mostC_more {cs : List (List It)} {c : List It} (h : (mostC cs).length < finN c) : mostC (cs ++ [c]) = c.take (finN c) := by
  rw [mostC_len] at h; unfold mostC; rw [mostF_snoc, if_pos h]
theorem mostC_same {cs : List (List It)} {c : List It} (h : ¬ (mostC cs).length < finN c) : mostC (cs ++ [c]) = mostC cs := by
  rw [mostC_len] at h; unfold mostC; rw [mostF_snoc, if_neg h]

set_option maxRecDepth 20000 in
set_option maxHeartbeats 4000000 in
theorem l11Final_any (a : Option Addr) (cap : Nat) (l : List Vt) (w : World) (hl : Vts w a l) (hroom : Room w a l) (hs : Short l) (hn : l.length ≤ 1048576) :
    Calls Try.prog 57 #[.slice a l.length cap] w fun r w' => ∃ v, r = .returned v ∧ ChV w' v (mostC (allS l)) ∧ Grew w w' := by
  have hX := hide (l11All_any a cap l w hl hroom hs hn)
  rw [allK_all] at hX
  have hlen := allS_len l
  have HSh := hide (allS_short hs)
  obtain ⟨cs, hcs⟩ : ∃ cs, Hid (cs = allS l) := ⟨_, hide rfl⟩
  rw [← hcs.out] at hX hlen HSh ⊢
  go_enter Try.func57, Try.ntmps57
  go_wp2_with fail
  refine hX.out.mono ?_
  clear hX
  rintro rr w1 ⟨v, rfl, ov, g1⟩
  obtain ⟨va, vcap, rfl, hvc, hx⟩ := ov.chsV
  have HX := hide hx
  clear hx ov
  go_wp2_with fail
  go_loopw [4, 5] (fun o i wr => ∃ (k : Nat) (oa : Option Addr) (ocap : Nat) (t : List It), k ≤ cs.length ∧ i = .int .i64 k ∧ o = .slice oa t.length ocap ∧ t.length ≤ ocap ∧ t.length ≤ 1048576 ∧ Hid (t = mostC (cs.take k)) ∧ Hid (Its wr oa t) ∧ Grew w1 wr) (fun _ i _ => cs.length - (intOf i).toNat)
  case atStart =>
    exact ⟨0, some ⟨w1.heap.size, 0, none⟩, 0, [], Nat.zero_le _, rfl, rfl, Nat.le_refl _, Nat.zero_le _, hide rfl, hide (.inl rfl), (Grew.refl _).alloc _⟩
  case round =>
    obtain ⟨k, oa, ocap, t, hk, rfl, rfl, hoc, htl, ht, hit, hg⟩ := hrel
    by_cases hlt : k < cs.length
    · obtain ⟨b1, o1, ai, ci, rfl, c1, hci, hi⟩ := HX.out k hlt
      have e1 := hg.keep c1
      have hs1 := HSh.out _ (List.getElem_mem hlt)
      have hsn : cs.take (k + 1) = cs.take k ++ [cs[k]] := List.take_succ_eq_append_getElem hlt
      obtain ⟨d, hd⟩ : ∃ d, Hid (d = cs[k]) := ⟨_, hide rfl⟩
      have HI := hide (hi.grew hg)
      rw [← hd.out] at e1 hs1 hsn HI hci
      have hF := hide (l11FinalIn_any ai ci d.length d rfl wr (unhide HI) hs1)
      have hfl := finN_lt d
      obtain ⟨N, hN⟩ : ∃ N, Hid (N = finN d) := ⟨_, hide rfl⟩
      rw [← hN.out] at hF hfl
      have HSN := hide hsn
      clear c1 hi hsn
      go_wp2_with fail
      refine hF.out.mono ?_
      clear hF
      rintro rr w2 ⟨rfl, g2⟩
      have f1 := g2.keep e1
      have hg2 := hg.trans g2
      by_cases hgt : t.length < N
      · have hdd : decide (t.length < N) = true := decide_eq_true hgt
        have hdi : decide ((t.length : Int) < (N : Int)) = true := by simp; omega
        have hNc : (N : Int) ≤ (ci : Int) := by omega
        have HLN : Hid ((d.take N).length = N) := hide (by simp; omega)
        have HST : Hid (d.take N = mostC (cs.take (k + 1))) := hide (by rw [HSN.out, mostC_more (by rw [← ht.out, ← hN.out]; exact hgt), ← hN.out])
        have hC := hide (l1Copy_own ai ci (d.take N) N HLN.out w2 (((unhide HI).grew g2).take N) (by omega))
        clear e1
        go_wp2_with fail
        refine hC.out.mono ?_
        clear hC
        rintro rr w3 ⟨v3, rfl, o3, g3⟩
        obtain ⟨gg, cc, rfl, hcc, _, _, i3⟩ := o3.shape
        have I3 := hide i3
        have hg3 := hg2.trans g3
        clear o3 i3
        go_wp2
        go_roundw
        case rel => exact ⟨k + 1, _, cc, d.take N, by omega, by go_num, by rw [HLN.out], hcc, by rw [HLN.out]; omega, HST, I3, hg3⟩
        case measure => simp [intOf]; omega
      · have hdd : decide (t.length < N) = false := decide_eq_false hgt
        have hdi : decide ((t.length : Int) < (N : Int)) = false := by simp; omega
        have HST : Hid (t = mostC (cs.take (k + 1))) := hide (by rw [HSN.out, mostC_same (by rw [← ht.out, ← hN.out]; exact hgt)]; exact ht.out)
        have IT := hide ((unhide hit).grew g2)
        go_wp2
        go_roundw
        case rel => exact ⟨k + 1, oa, ocap, t, by omega, by go_num, rfl, hoc, htl, HST, IT, hg2⟩
        case measure => simp [intOf]; omega
    · have hkl : k = cs.length := by omega
      have hle : (cs.length : Int) ≤ (k : Int) := by omega
      have hdk : decide ((k : Int) < (cs.length : Int)) = false := by simp; omega
      rw [hkl, List.take_length] at ht
      clear hkl
      go_wp2
      go_ret
      exact ⟨_, rfl, by rw [← ht.out]; exact ⟨oa, ocap, rfl, hoc, unhide hit⟩, g1.trans hg⟩

theorem finalL_most {l : List Vt} (h : votesB l = true) : finalL l = mostC (allS l) := by simp [finalL, h, mostC]

set_option maxHeartbeats 2000000 in
theorem specTreeFinal (a : Option Addr) (cap : Nat) (l : List Vt) (w : World) (hl : Vts w a l) (hcap : l.length ≤ cap) (hroom : Room w a l) (hs : Short l) (hn : l.length ≤ 1048576) :
    Calls Try.prog 105 #[.slice a l.length cap] w fun r w' => ∃ v, r = .returned v ∧ ChV w' v (finalL l) ∧ Grew w w' := by
  have h1 := hide (specVotesOk a cap l w hl hcap hs hn)
  go_enter Try.func105, Try.ntmps105
  go_wp2_with fail
  refine h1.out.mono ?_
  clear h1
  rintro r w1 ⟨rfl, g1⟩
  cases hv : votesB l with
  | false =>
    have HE : Hid (finalL l = []) := hide (by simp [finalL, hv])
    clear hv
    go_wp2
    go_ret
    exact ⟨_, rfl, by rw [HE.out]; exact ⟨_, _, rfl, Nat.le_refl _, .inl rfl⟩, g1.alloc _⟩
  | true =>
    have HE : Hid (finalL l = mostC (allS l)) := hide (finalL_most hv)
    clear hv
    have hX := hide (l11Final_any a cap l w1 (hl.grew g1) (hroom.grew hl g1) hs hn)
    go_wp2_with fail
    refine hX.out.mono ?_
    clear hX
    rintro r w2 ⟨v, rfl, hv2, g2⟩
    have HV := hide hv2
    clear hv2
    go_wp2
    go_ret
    exact ⟨_, rfl, by rw [HE.out]; exact unhide HV, g1.trans g2⟩
end Go.Proofs.Ytjbnohepbmejkaa
