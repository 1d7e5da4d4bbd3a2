/-
  Texts together: TSpec3, TSpec5, TSpec6, TSpec7.
-/
import Derived.Test.YtkegdjfpeocndaaGreatTreeB
import Derived.Test.YtkegdjfpeocndaaGreatTSpec24
import Derived.Test.YtkegdjfpeocndaaGreatTAllA
import Derived.Test.YtkegdjfpeocndaaGreatVSpec3
namespace Go.Proofs.YtkegdjfpeocndaaGreat
set_option linter.unusedVariables false
open Go.RowKit
attribute [local simp] far_const

theorem downTo_mem {n k j : Nat} (hk : k ≤ n) (h : j ∈ downTo n k) : k ≤ j ∧ j < n := by
  obtain ⟨m, hm⟩ : ∃ m, m = n - k := ⟨_, rfl⟩
  induction m generalizing k with
  | zero => rw [show k = n by omega, downTo_top] at h; cases h
  | succ m ih =>
    rw [downTo_step n k (by omega)] at h
    rcases List.mem_append.1 h with h | h
    · have := ih (k := k + 1) (by omega) h (by omega); omega
    · simp only [List.mem_singleton] at h; omega
theorem finN_at {c : List It} {j : Nat} (hj : j < c.length) (h1 : endsB (c.take (j + 1)) = true) (h2 : ∀ i, j < i → i < c.length → endsB (c.take (i + 1)) = false) : finN c = j := by
  unfold finN
  have hp : downTo c.length (j + 1) ++ [j] <+: (List.range c.length).reverse := by rw [← downTo_step _ _ hj]; exact downTo_prefix _ _
  rw [find_first (p := fun j => endsB (c.take (j + 1))) hp (fun i hi => by have := downTo_mem (by omega) hi; exact h2 i (by omega) this.2) h1]
  rfl
theorem finN_none {c : List It} (h : ∀ i, i < c.length → endsB (c.take (i + 1)) = false) : finN c = 0 := by
  unfold finN
  have : (List.range c.length).reverse.find? (fun j => endsB (c.take (j + 1))) = none := by
    rw [List.find?_eq_none]; intro j hj; rw [h j (by simpa using hj)]; decide
  rw [this]; rfl
theorem endsB_short {c : List It} {j : Nat} (h : j < 2) : endsB (c.take (j + 1)) = false := by
  unfold endsB
  have : ¬ 3 ≤ (c.take (j + 1)).length := by simp; omega
  rw [decide_eq_false this]; rfl
theorem endsB_at {c : List It} {m : Nat} (h : m + 2 < c.length) : endsB (c.take (m + 2 + 1)) = ((wrap64 (c[m].e + 1) == c[m + 1].e) && (wrap64 (c[m + 1].e + 1) == c[m + 2].e)) := by
  have t3 : c.take (m + 2 + 1) = c.take (m + 2) ++ [c[m + 2]] := List.take_succ_eq_append_getElem h
  have t2 : c.take (m + 2) = c.take (m + 1) ++ [c[m + 1]] := List.take_succ_eq_append_getElem (by omega)
  have t1 : c.take (m + 1) = c.take m ++ [c[m]] := List.take_succ_eq_append_getElem (by omega)
  have hl : 3 ≤ (c.take (m + 2 + 1)).length := by simp; omega
  unfold endsB folB
  rw [decide_eq_true hl, Bool.true_and, t3, List.dropLast_concat, lastI_snoc, t2, List.dropLast_concat, lastI_snoc, t1, lastI_snoc, Bool.and_comm]
  congr 1
  · exact Bool.beq_comm
  · exact Bool.beq_comm

set_option linter.unusedVariables false
open Go.RowKit
attribute [local simp] far_const

theorem allK_all (l : List Vt) : allK l l.length = allS l := by unfold allK allS; rw [List.take_length]
theorem allS_head (l : List Vt) : ∃ r, allS l = [] :: r := by
  obtain ⟨r, hr⟩ := firstsL_head l
  unfold allS
  rw [hr, List.filter_cons, if_pos (sureF_nil _)]
  exact ⟨_, rfl⟩
theorem allS_short {l : List Vt} (h : Short l) : ∀ c ∈ allS l, c.length ≤ 1048576 := by rw [← allK_all]; exact allK_short h _
theorem allS_len (l : List Vt) : (allS l).length ≤ l.length + 1 := by rw [← allK_all]; exact allK_len l _
/-- A chain as a value that is read. -/
def ChV (w : World) (v : Value) (c : List It) : Prop := ∃ a cap, v = .slice a c.length cap ∧ c.length ≤ cap ∧ Its w a c
theorem ChV.grew {w w' : World} {v : Value} {c : List It} (h : ChV w v c) (g : Grew w w') : ChV w' v c := by
  obtain ⟨a, cap, h1, h2, h3⟩ := h; exact ⟨a, cap, h1, h2, h3.grew g⟩

set_option maxRecDepth 20000 in
set_option maxHeartbeats 4000000 in
theorem l11Tip_any (a : Option Addr) (cap : Nat) (l : List Vt) (w : World) (hl : Vts w a l) (hroom : Room w a l) (hs : Short l) (hn : l.length ≤ 1048576) :
    Calls Tryz.prog 50 #[.slice a l.length cap] w fun r w' => ∃ v, r = .returned v ∧ ChV w' v (longest (allS l)) ∧ Grew w w' := by
  have hX := hide (l11All_any a cap l w hl hroom hs hn)
  rw [allK_all] at hX
  obtain ⟨r, hr⟩ := allS_head l
  have hlen := allS_len l
  have HSh := hide (allS_short hs)
  obtain ⟨cs, hcs⟩ : ∃ cs, Hid (cs = allS l) := ⟨_, hide rfl⟩
  rw [← hcs.out] at hX hr hlen HSh ⊢
  have h1 : Hid (cs.take 1 = [[]]) := hide (by rw [hr]; rfl)
  have hpos : 0 < cs.length := by rw [hr]; simp
  have h00 : Hid (∀ h : 0 < cs.length, cs[0] = []) := hide (fun h => by simp [hr])
  clear hr
  go_enter Tryz.func50, Tryz.ntmps50
  go_wp2_with fail
  refine hX.out.mono ?_
  clear hX
  rintro rr w1 ⟨v, rfl, ov, g1⟩
  obtain ⟨va, vcap, rfl, hvc, hx⟩ := ov.chsV
  have HX := hide hx
  clear hx ov
  obtain ⟨b0, o0, ai0, ci0, rfl, c00, hci0, hi0⟩ := HX.out 0 hpos
  simp only [Nat.add_zero] at c00
  have hposI : (0 : Int) < (cs.length : Int) := by omega
  have HI0 := hide hi0
  clear hi0
  go_wp2_with fail
  go_loopw [4, 5] (fun o i wr => ∃ (k : Nat) (oa : Option Addr) (ocap : Nat) (t : List It), k ≤ cs.length ∧ 1 ≤ k ∧ i = .int .i64 k ∧ o = .slice oa t.length ocap ∧ t.length ≤ ocap ∧ t.length ≤ 1048576 ∧ Hid (t = longest (cs.take k)) ∧ Hid (Its wr oa t) ∧ Grew w1 wr) (fun _ i _ => cs.length - (intOf i).toNat)
  case atStart =>
    have e0 : cs[0] = [] := h00.out hpos
    refine ⟨1, ai0, ci0, cs[0], hpos, Nat.le_refl _, rfl, rfl, hci0, by rw [e0]; simp, hide (by rw [h1.out, e0]; rfl), HI0, Grew.refl _⟩
  case round =>
    obtain ⟨k, oa, ocap, t, hk, hk1, rfl, rfl, hoc, htl, ht, hit, hg⟩ := hrel
    by_cases hlt : k < cs.length
    · obtain ⟨b1, o1, ai, ci, ex, c1, hci, hi⟩ := HX.out k hlt
      simp only [Option.some.injEq, Addr.mk.injEq, and_true] at ex
      obtain ⟨rfl, rfl⟩ := ex
      have e1 := hg.keep c1
      have hs1 := HSh.out _ (List.getElem_mem hlt)
      have hst : longest (cs.take (k + 1)) = if t.length < cs[k].length then cs[k] else t := by
        rw [List.take_succ_eq_append_getElem hlt, longest_snoc, ← ht.out]
      obtain ⟨d, hd⟩ : ∃ d, Hid (d = cs[k]) := ⟨_, hide rfl⟩
      have HI := hide (hi.grew hg)
      rw [← hd.out] at e1 hs1 hst HI hci
      clear c1 hi
      by_cases hgt : t.length < d.length
      · have hdd : decide (t.length < d.length) = true := decide_eq_true hgt
        have hdi : decide ((t.length : Int) < (d.length : Int)) = true := by simp; omega
        have HST : Hid (d = longest (cs.take (k + 1))) := hide (by rw [hst, if_pos hgt])
        clear hst
        go_wp2
        go_roundw
        case rel => exact ⟨k + 1, ai, ci, d, by omega, by omega, by go_num, rfl, hci, hs1, HST, HI, hg⟩
        case measure => simp [intOf]; omega
      · have hdd : decide (t.length < d.length) = false := decide_eq_false hgt
        have hdi : decide ((t.length : Int) < (d.length : Int)) = false := by simp; omega
        have HST : Hid (t = longest (cs.take (k + 1))) := hide (by rw [hst, if_neg hgt])
        clear hst
        go_wp2
        go_roundw
        case rel => exact ⟨k + 1, oa, ocap, t, by omega, by omega, by go_num, rfl, hoc, htl, HST, hit, hg⟩
        case measure => simp [intOf]; omega
    · have hkl : k = cs.length := by omega
      have hle : (cs.length : Int) ≤ (k : Int) := by omega
      have hdk : decide ((k : Int) < (cs.length : Int)) = false := by simp; omega
      rw [hkl, List.take_length] at ht
      clear hkl
      go_wp2
      go_ret
      exact ⟨_, rfl, by rw [← ht.out]; exact ⟨oa, ocap, rfl, hoc, unhide hit⟩, g1.trans hg⟩

set_option linter.unusedVariables false
open Go.RowKit
attribute [local simp] far_const

/-- What TreeAll answers. -/
def allL (l : List Vt) : List (List It) := if votesB l = true then allS l else []
set_option linter.unusedVariables false
open Go.RowKit
attribute [local simp] far_const

/-- Of which most is final, that part alone. -/
def mostC (cs : List (List It)) : List It := (mostF cs).1.take (mostF cs).2
theorem mostC_len (cs : List (List It)) : (mostC cs).length = (mostF cs).2 := by unfold mostC; have := (mostF_mem cs).1; simp; omega
theorem mostC_more {cs : List (List It)} {c : List It} (h : (mostC cs).length < finN c) : mostC (cs ++ [c]) = c.take (finN c) := by
  rw [mostC_len] at h; unfold mostC; rw [mostF_snoc, if_pos h]
theorem mostC_same {cs : List (List It)} {c : List It} (h : ¬ (mostC cs).length < finN c) : mostC (cs ++ [c]) = mostC cs := by
  rw [mostC_len] at h; unfold mostC; rw [mostF_snoc, if_neg h]

theorem finalL_most {l : List Vt} (h : votesB l = true) : finalL l = mostC (allS l) := by simp [finalL, h, mostC]

end Go.Proofs.YtkegdjfpeocndaaGreat
