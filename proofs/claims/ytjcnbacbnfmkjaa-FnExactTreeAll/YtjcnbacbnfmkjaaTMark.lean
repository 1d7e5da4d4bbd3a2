/-
  Rows of chains that are marked, and held against their marks.
-/
import Derived.Test.YtjcnbacbnfmkjaaTAmong
import Derived.Test.YtjcnbacbnfmkjaaTKeep
import Derived.Test.YtjcnbacbnfmkjaaTAll2
namespace Go.Proofs.Ytjcnbacbnfmkjaa
set_option linter.unusedVariables false
open Go.RowKit
attribute [local simp] far_const

/-- How many items chains have together. -/
def sumK (cs : List (List It)) : Nat := (cs.map List.length).sum
theorem sumK_app (l m : List (List It)) : sumK (l ++ m) = sumK l + sumK m := by unfold sumK; rw [List.map_append, List.sum_append]
theorem sumK_one (c : List It) : sumK [c] = c.length := by simp [sumK]
theorem sumK_take {l : List (List It)} {k : Nat} (hk : k < l.length) : sumK (l.take (k + 1)) = sumK (l.take k) + l[k].length := by
  rw [List.take_succ_eq_append_getElem hk, sumK_app, sumK_one]
theorem sumK_le (l : List (List It)) (k : Nat) : sumK (l.take k) ≤ sumK l := by
  conv => rhs; rw [← List.take_append_drop k l, sumK_app]
  exact Nat.le_add_right _ _
theorem sumK_filter (p : List It → Bool) : ∀ l : List (List It), sumK (l.filter p) ≤ sumK l
  | [] => by simp [sumK]
  | c :: l => by
    have ih := sumK_filter p l
    rw [List.filter_cons]
    have e : ∀ m : List (List It), sumK (c :: m) = c.length + sumK m := fun m => by simp [sumK]
    split
    · rw [e, e]; omega
    · rw [e]; omega
theorem sumK_firsts (l : List Vt) : sumK (firstsL l) ≤ sumC l := by
  obtain ⟨n, hn⟩ : ∃ n, l.length = n := ⟨_, rfl⟩
  induction n generalizing l with
  | zero => have := List.eq_nil_of_length_eq_zero hn; subst this; simp [firstsL, sumK, sumC]
  | succ n ih =>
    rcases List.eq_nil_or_concat l with rfl | ⟨m, x, rfl⟩
    · simp at hn
    rw [List.concat_eq_append] at hn ⊢
    have := ih m (by simp at hn; exact hn)
    rw [firstsL_snoc, sumC_app, sumC_one]
    split
    · omega
    · rw [sumK_app, sumK_one]; omega
theorem sumK_all (l : List Vt) : sumK (allS l) ≤ sumC l := Nat.le_trans (sumK_filter _ _) (sumK_firsts l)
/-- Chains that bear the marks from k on. -/
def marksC : Int → List (List It) → List (List It)
  | _, [] => []
  | k, c :: r => marks k c.length :: marksC (k + 4 * c.length) r
theorem marksC_len : ∀ (l : List (List It)) (k : Int), (marksC k l).length = l.length
  | [], k => rfl
  | x :: r, k => by simp [marksC, marksC_len r]
theorem marksC_get : ∀ (l : List (List It)) (k : Int) (i : Nat) (h : i < l.length) (h' : i < (marksC k l).length), (marksC k l)[i] = marks (k + 4 * sumK (l.take i)) l[i].length
  | [], k, i, h, _ => absurd h (Nat.not_lt_zero _)
  | x :: r, k, 0, h, _ => by simp [marksC, sumK]
  | x :: r, k, i + 1, h, h' => by
    have hi : i < r.length := by simpa using h
    have := marksC_get r (k + 4 * x.length) i hi (by rw [marksC_len]; exact hi)
    simp only [marksC, List.getElem_cons_succ, this, List.take_succ_cons]
    have e : sumK (x :: r.take i) = x.length + sumK (r.take i) := by simp [sumK]
    rw [e]
    congr 1
    omega
theorem KRow.setAt {w w' : World} {base : Nat} {v : Value} {hs : List Nat} {cs : List (List It)} {k : Nat} {x : List It} (h : KRow w base v hs cs) (hk : k < cs.length) (hk' : k < hs.length) (hx : x.length = cs[k].length)
    (hw : Wrote (some ⟨hs[k], 0, none⟩) w w') (hi : Its w' (some ⟨hs[k], 0, none⟩) x) (ho : Own w' hs[k] x.length) : KRow w' base v hs (cs.set k x) := by
  obtain ⟨⟨vs, row, hc⟩, len, apart, off, low, its⟩ := h
  refine ⟨⟨vs, ?_, fun i hi1 hi2 => ?_⟩, by simp [len], apart, off, fun b hb => by rw [hw.size]; exact low b hb, fun i hi1 hi2 => ?_⟩
  · rw [List.length_set]
    exact ownsRow_block row (fun b hb => hw.keep b (fun y hy => by cases hy; exact fun e => off hs[k] (List.getElem_mem hk') (by rw [hb]; exact congrArg some e.symm)))
  · rw [List.length_set] at hi1
    rw [hc i hi1 hi2, List.getElem_set]
    by_cases e : k = i
    · subst e; rw [if_pos rfl, hx]
    · rw [if_neg e]
  · rw [List.length_set] at hi1
    by_cases e : k = i
    · subst e
      rw [List.getElem_set, if_pos rfl]
      exact ⟨hi, ho⟩
    · rw [List.getElem_set, if_neg e]
      have hne : hs[i] ≠ hs[k] := nodup_ne apart hi2 hk' (fun h => e h.symm)
      have hb : w'.heap[hs[i]]? = w.heap[hs[i]]? := hw.keep hs[i] (fun y hy => by cases hy; exact fun h => hne h.symm)
      exact ⟨(its i hi1 hi2).1.block hb, (its i hi1 hi2).2.block hb⟩
theorem KRow.cell {w : World} {base : Nat} {v : Value} {hs : List Nat} {cs : List (List It)} (h : KRow w base v hs cs) {k : Nat} (hk : k < cs.length) (hk' : k < hs.length) :
    ∃ g cap, v = .slice (some ⟨g, 0, none⟩) cs.length cap ∧ w.cell? ⟨g, k, none⟩ = some (.slice (some ⟨hs[k], 0, none⟩) cs[k].length cs[k].length) := by
  obtain ⟨⟨vs, row, hc⟩, len, apart, off, low, its⟩ := h
  have hz : v ≠ .slice none 0 0 := by
    rintro rfl
    rcases row.2 with ⟨_, h0⟩ | ⟨g, cap, cur, hv, _⟩
    · omega
    · cases hv
  have HO : OwnC w base v cs := by
    rcases (⟨⟨vs, row, hc⟩, len, apart, off, low, its⟩ : KRow w base v hs cs).chs with ⟨h1, _⟩ | h1
    · exact absurd h1 hz
    · exact h1
  obtain ⟨g, cap, hv, _⟩ := HO.at
  subst hv
  refine ⟨g, cap, rfl, ?_⟩
  have hvl := row.1
  rw [row.cellAt k (by omega)]
  exact hc k hk hk'
theorem KRow.val {w : World} {base : Nat} {v : Value} {hs : List Nat} {cs : List (List It)} (h : KRow w base v hs cs) : ∃ a cap, v = .slice a cs.length cap := by
  obtain ⟨a, cap, hv, _⟩ := h.chsV; exact ⟨a, cap, hv⟩

set_option maxHeartbeats 1000000 in
theorem markSS_any (base : Nat) (v : Value) (hs : List Nat) (cs : List (List It)) (k : Int) (w : World) (h : KRow w base v hs cs) (hn : sumK cs ≤ 1048576) (hl : cs.length ≤ 1048577) (hk0 : 0 ≤ k) (hk : k ≤ 100000000) :
    Calls Try.prog 22 #[v, .int .i64 k] w fun r w' => r = .returned (.int .i64 (k + 4 * sumK cs)) ∧ KRow w' base v hs (marksC k cs) ∧ WroteS hs w w' := by
  have hkw := h
  obtain ⟨av, capv, rfl⟩ := h.val
  go_enter Try.func22, Try.ntmps22
  go_wp2_with fail
  go_loopw [1, 5] (fun kk i wr => ∃ (j : Nat) (L : List (List It)), j ≤ cs.length ∧ i = .int .i64 j ∧ kk = .int .i64 (k + 4 * sumK (cs.take j)) ∧ Hid (L.length = cs.length ∧ (∀ i (h : i < L.length) (h' : i < cs.length), L[i] = if i < j then marks (k + 4 * sumK (cs.take i)) cs[i].length else cs[i])) ∧ Hid (KRow wr base (.slice av cs.length capv) hs L) ∧ Hid (WroteS hs w wr)) (fun _ i _ => cs.length - (intOf i).toNat)
  case atStart => exact ⟨0, cs, Nat.zero_le _, rfl, by simp [sumK], ⟨rfl, fun i h h' => by simp⟩, hkw, WroteS.refl _ _⟩
  case round =>
    clear h hkw
    obtain ⟨j, L, hj, rfl, rfl, hL, hp, hw⟩ := hrel
    have hcj := sumK_le cs j
    by_cases hlt : j < cs.length
    · have hjL : j < L.length := by rw [(unhide hL).1]; exact hlt
      have hjh : j < hs.length := by rw [(unhide hp).len, (unhide hL).1]; exact hlt
      have hLj : Hid (L[j] = cs[j]) := by
        have := (unhide hL).2 j hjL hlt
        rw [if_neg (Nat.lt_irrefl j)] at this
        exact this
      obtain ⟨gv, cap2, hv, d1⟩ := (unhide hp).cell hjL hjh
      simp only [Value.slice.injEq] at hv
      obtain ⟨rfl, hh0, rfl⟩ := hv
      clear hh0
      rw [unhide hLj] at d1
      have hct := sumK_take hlt
      have hcl := sumK_le cs (j + 1)
      have hoj := hide ((unhide hp).its j hjL hjh).2
      rw [unhide hLj] at hoj
      have HCT := hide hct
      have hb1 : sumK (cs.take j) + cs[j].length ≤ 1048576 := by omega
      clear hct
      go_wp2_with fail
      refine (mark_any hs[j] cs[j].length _ (k + 4 * sumK (cs.take j)) _ (unhide hoj) (by omega) (by omega) (by omega)).mono ?_
      rintro r w1 ⟨rfl, hi1, ho1, hw1⟩
      have hp1 := hide ((unhide hp).setAt (x := marks (k + 4 * sumK (cs.take j)) cs[j].length) hjL hjh (by rw [unhide hLj]; exact marks_len _ _) hw1 hi1 (by rw [marks_len]; exact ho1))
      have hws : Hid (WroteS hs w w1) := (unhide hw).trans (WroteS.of hw1 (List.getElem_mem hjh))
      have hL1 : Hid ((L.set j (marks (k + 4 * sumK (cs.take j)) cs[j].length)).length = cs.length ∧ (∀ i (h : i < (L.set j (marks (k + 4 * sumK (cs.take j)) cs[j].length)).length) (h' : i < cs.length), (L.set j (marks (k + 4 * sumK (cs.take j)) cs[j].length))[i] = if i < j + 1 then marks (k + 4 * sumK (cs.take i)) cs[i].length else cs[i])) := by
        refine ⟨by rw [List.length_set]; exact (unhide hL).1, fun i h h' => ?_⟩
        rw [List.getElem_set]
        by_cases e : j = i
        · subst e; rw [if_pos rfl, if_pos (Nat.lt_succ_self _)]
        · rw [if_neg e, (unhide hL).2 i (by rw [List.length_set] at h; exact h) h']
          by_cases e2 : i < j
          · rw [if_pos e2, if_pos (by omega)]
          · rw [if_neg e2, if_neg (by omega)]
      have hnk : Hid (k + 4 * sumK (cs.take j) + 4 * (cs[j].length : Int) = k + 4 * sumK (cs.take (j + 1))) := by
        show k + 4 * sumK (cs.take j) + 4 * (cs[j].length : Int) = k + 4 * sumK (cs.take (j + 1))
        have := unhide HCT; omega
      clear hi1 ho1 hw1
      go_wp2
      go_roundw
      case rel => exact ⟨j + 1, _, by omega, by go_num, by rw [hnk.out], hL1, hp1, hws⟩
      case measure => simp [intOf]; omega
    · have hjl : j = cs.length := by omega
      have hle : (cs.length : Int) ≤ (j : Int) := by omega
      have hend : Hid (L = marksC k cs) := by
        apply List.ext_getElem (by rw [marksC_len]; exact (unhide hL).1)
        intro i h1 h2
        have h3 : i < cs.length := by rw [← (unhide hL).1]; exact h1
        rw [(unhide hL).2 i h1 h3, if_pos (by omega), marksC_get cs k i h3]
      have hct : Hid (sumK (cs.take j) = sumK cs) := by show sumK (cs.take j) = sumK cs; rw [hjl, List.take_length]
      clear hjl
      go_wp2
      go_ret
      exact ⟨by rw [hct.out]; rfl, by rw [← hend.out]; exact unhide hp, unhide hw⟩

set_option maxHeartbeats 1000000 in
theorem heldSS_any (v : Value) (cs : List (List It)) (k : Int) (w : World) (h : ChsV w v (marksC k cs)) (hn : sumK cs ≤ 1048576) (hl : cs.length ≤ 1048577) (hk0 : 0 ≤ k) (hk : k ≤ 100000000) :
    Calls Try.prog 23 #[v, .int .i64 k] w fun r w' => r = .returned (.int .i64 (k + 4 * sumK cs)) ∧ Grew w w' := by
  obtain ⟨av, capv, rfl, _, hx⟩ := h
  rw [marksC_len]
  have HX := hide hx
  clear hx
  go_enter Try.func23, Try.ntmps23
  go_wp2_with fail
  go_loopw [1, 5] (fun kk i wr => ∃ j : Nat, j ≤ cs.length ∧ i = .int .i64 j ∧ kk = .int .i64 (k + 4 * sumK (cs.take j)) ∧ Grew w wr) (fun _ i _ => cs.length - (intOf i).toNat)
  case atStart => exact ⟨0, Nat.zero_le _, rfl, by simp [sumK], Grew.refl _⟩
  case round =>
    obtain ⟨j, hj, rfl, rfl, hg⟩ := hrel
    have hcj := sumK_le cs j
    by_cases hlt : j < cs.length
    · have hjm : j < (marksC k cs).length := by rw [marksC_len]; exact hlt
      obtain ⟨b, off, ai, ci, rfl, c1, _, hi⟩ := HX.out j hjm
      rw [marksC_get cs k j hlt hjm] at c1 hi
      rw [marks_len] at c1
      have d1 := hg.keep c1
      have HI := hide (hi.grew hg)
      have hct := sumK_take hlt
      have hcl := sumK_le cs (j + 1)
      have HCT := hide hct
      have hb1 : sumK (cs.take j) + cs[j].length ≤ 1048576 := by omega
      clear hct c1 hi
      go_wp2_with fail
      refine (held_any ai cs[j].length ci (k + 4 * sumK (cs.take j)) _ (unhide HI) (by omega) (by omega) (by omega)).mono ?_
      rintro r w1 ⟨rfl, g1⟩
      have hnk : Hid (k + 4 * sumK (cs.take j) + 4 * (cs[j].length : Int) = k + 4 * sumK (cs.take (j + 1))) := by
        show k + 4 * sumK (cs.take j) + 4 * (cs[j].length : Int) = k + 4 * sumK (cs.take (j + 1))
        have := unhide HCT; omega
      have hnn : ¬ k + 4 * sumK (cs.take j) + 4 * (cs[j].length : Int) < 0 := by omega
      have hng := hg.trans g1
      go_wp2
      go_roundw
      case rel => exact ⟨j + 1, by omega, by go_num, by rw [hnk.out], hng⟩
      case measure => simp [intOf]; omega
    · have hjl : j = cs.length := by omega
      have hle : (cs.length : Int) ≤ (j : Int) := by omega
      have hct : Hid (sumK (cs.take j) = sumK cs) := by show sumK (cs.take j) = sumK cs; rw [hjl, List.take_length]
      clear hjl
      go_wp2
      go_ret
      exact ⟨by rw [hct.out]; rfl, hg⟩
theorem implTreeAll_v {v : Value} {l : List Vt} (w : World) (h : VtsV w v l) (hs : Short l) (hn : l.length ≤ 1048576) :
    Calls Try.prog 20 #[v] w fun r w' => ∃ v hs, r = .returned v ∧ KRow w' w.heap.size v hs (if votesB l = true then allS l else []) ∧ Grew w w' := by
  obtain ⟨a, cap, rfl, h1, hv⟩ := h
  exact implTreeAll a cap l w hv hs hn
end Go.Proofs.Ytjcnbacbnfmkjaa
