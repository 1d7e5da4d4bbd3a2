/-
  What TreeSure answers, the program's and the specification's.
-/
import Derived.Test.YtjbnohepbmejkaaTreeB
import Derived.Test.YtjbnohepbmejkaaTreeA
import Derived.Test.YtjbnohepbmejkaaVSpec1
import Derived.Test.YtjbnohepbmejkaaVForms
namespace Go.Proofs.Ytjbnohepbmejkaa
set_option linter.unusedVariables false
open Go.RowKit
attribute [local simp] far_const

/-- A chain is sure of votes. -/
def sureL (l : List Vt) (c : List It) : Bool := votesB l && (okB c && sureF (cnt l) c)
theorem sureF_none {l : List Vt} {c : List It} (h : ¬ (c = [] ∨ ∃ x ∈ l, c <+: x.c)) : sureF (cnt l) c = false := by
  unfold sureF
  rw [List.all_eq_false]
  have hl : 0 < c.length := List.length_pos_iff.2 (fun e => h (.inl e))
  refine ⟨c.length - 1, by simp; omega, ?_⟩
  rw [show c.length - 1 + 1 = c.length by omega, List.take_length]
  have : cnt l c = 0 := (cnt_zero l c).2 (fun x hx e => h (.inr ⟨x, hx, by rw [e]; exact List.prefix_refl _⟩))
  rw [this]
  decide

set_option linter.unusedVariables false
open Go.RowKit
attribute [local simp] far_const

theorem cnt_take_snoc (l : List Vt) (c : List It) (k : Nat) (hk : k < l.length) : cnt (l.take (k + 1)) c = cnt (l.take k) c + (if sameB l[k].c c = true then 1 else 0) := by
  unfold cnt
  rw [List.take_succ_eq_append_getElem hk, List.filter_append, List.length_append]
  congr 1
  by_cases h : sameB l[k].c c = true
  · simp [h]
  · simp [h]

set_option maxHeartbeats 2000000 in
theorem l3Many_any (a : Option Addr) (cap : Nat) (l : List Vt) (b : Option Addr) (cb m : Nat) (c : List It) (hm : c.length = m) (w : World) (hl : Vts w a l) (hs : Short l) (hn : l.length ≤ 1048576) (hc : Its w b c) (hnc : m ≤ 1048576) :
    Calls Try.prog 141 #[.slice a l.length cap, .slice b m cb] w fun r w' => r = .returned (.int .i64 (cnt l c)) ∧ Grew w w' := by
  subst hm
  go_enter Try.func141, Try.ntmps141
  go_wp2_with fail
  go_loopw [5, 6] (fun u i wr => ∃ k N : Nat, k ≤ l.length ∧ i = .int .i64 k ∧ u = .int .i64 N ∧ Hid (N = cnt (l.take k) c) ∧ N ≤ k ∧ Grew w wr) (fun _ i _ => l.length - (intOf i).toNat)
  case atStart => exact ⟨0, 0, Nat.zero_le _, rfl, rfl, hide rfl, Nat.le_refl _, Grew.refl _⟩
  case round =>
    obtain ⟨k, N, hk, rfl, rfl, hN, hNk, hg⟩ := hrel
    by_cases hlt : k < l.length
    · obtain ⟨b1, off, rfl, hat⟩ := hl.at hlt
      obtain ⟨c0, a1, cap1, c1, hi⟩ := hat.grew hg
      have hs1 := hs.at hlt
      have hX := hide (l3Same_any a1 b cap1 cb l[k].c c wr hi (hc.grew hg) hs1 hnc)
      have hst := cnt_take_snoc l c k hlt
      rw [← hN.out] at hst
      clear hat hi
      go_wp2_with fail
      refine hX.out.mono ?_
      clear hX
      cases hsb : sameB l[k].c c with
      | true =>
        rintro r w2 ⟨rfl, g2⟩
        have HST : Hid (N + 1 = cnt (l.take (k + 1)) c) := hide (by rw [hst, hsb]; rfl)
        clear hst hsb
        go_wp2
        go_roundw
        case rel => exact ⟨k + 1, N + 1, by omega, by go_num, by go_num, HST, by omega, hg.trans g2⟩
        case measure => simp [intOf]; omega
      | false =>
        rintro r w2 ⟨rfl, g2⟩
        have HST : Hid (N = cnt (l.take (k + 1)) c) := hide (by rw [hst, hsb]; rfl)
        clear hst hsb
        go_wp2
        go_roundw
        case rel => exact ⟨k + 1, N, by omega, by go_num, rfl, HST, by omega, hg.trans g2⟩
        case measure => simp [intOf]; omega
    · have hkl : k = l.length := by omega
      have hle : (l.length : Int) ≤ (k : Int) := by omega
      have hd : decide ((k : Int) < (l.length : Int)) = false := by simp; omega
      rw [hkl, List.take_length] at hN
      clear hkl
      go_wp2
      go_ret
      exact ⟨by rw [← hN.out]; rfl, hg⟩

set_option maxHeartbeats 2000000 in
theorem l11Sure_any (a : Option Addr) (cap : Nat) (l : List Vt) (b : Option Addr) (cb m : Nat) (c : List It) (hm : c.length = m) (w : World) (hl : Vts w a l) (hs : Short l) (hn : l.length ≤ 1048576) (hc : Its w b c) (hcb : m ≤ cb) (hnc : m ≤ 1048576) :
    Calls Try.prog 107 #[.slice a l.length cap, .slice b m cb] w fun r w' => r = .returned (.bool (sureF (cnt l) c)) ∧ Grew w w' := by
  subst hm
  go_enter Try.func107, Try.ntmps107
  go_wp2_with fail
  go_loopw [5] (fun i wr => ∃ k : Nat, k ≤ c.length ∧ i = .int .i64 ((k : Int) + 1) ∧ Hid (∀ j, j < k → 3 ≤ cnt l (c.take (j + 1))) ∧ Grew w wr) (fun i _ => c.length + 1 - (intOf i).toNat)
  case atStart => exact ⟨0, Nat.zero_le _, rfl, fun j h => absurd h (Nat.not_lt_zero _), Grew.refl _⟩
  case round =>
    obtain ⟨k, hk, rfl, hN, hg⟩ := hrel
    by_cases hlt : k < c.length
    · have hle : ((k : Int) + 1) ≤ (c.length : Int) := by omega
      have hcut : (k : Int) + 1 ≤ (cb : Int) := by omega
      have hX := hide (l3Many_any a cap l b cb (k + 1) (c.take (k + 1)) (by simp; omega) wr (hl.grew hg) hs hn ((hc.grew hg).take (k + 1)) (by omega))
      obtain ⟨N, hNN⟩ : ∃ N, Hid (N = cnt l (c.take (k + 1))) := ⟨_, hide rfl⟩
      rw [← hNN.out] at hX
      have e1 : ((k : Int) + 1).toNat = k + 1 := by omega
      obtain ⟨b1, o1, rfl, _⟩ := hc.at hlt
      go_wp2_with fail
      refine hX.out.mono ?_
      clear hX
      rintro r w2 ⟨rfl, g2⟩
      by_cases h3 : 3 ≤ N
      · have hd : decide ((N : Int) < 3) = false := by simp; omega
        have HN : Hid (∀ j, j < k + 1 → 3 ≤ cnt l (c.take (j + 1))) := hide (fun j hj => by
          by_cases e : j = k
          · rw [e, ← hNN.out]; exact h3
          · exact hN.out j (by omega))
        go_wp2
        go_roundw
        case rel => exact ⟨k + 1, by omega, by go_num, HN, hg.trans g2⟩
        case measure => simp [intOf]; omega
      · have hd : decide ((N : Int) < 3) = true := by simp; omega
        have HE : Hid (sureF (cnt l) c = false) := hide (by
          unfold sureF
          rw [List.all_eq_false]
          exact ⟨k, by simpa using hlt, by rw [← hNN.out]; simpa using h3⟩)
        go_wp2
        go_ret
        exact ⟨ret_bool HE.out.symm, hg.trans g2⟩
    · have hkl : k = c.length := by omega
      have hle : (c.length : Int) < (k : Int) + 1 := by omega
      have hd : decide ((k : Int) + 1 ≤ (c.length : Int)) = false := by simp; omega
      have HE : Hid (sureF (cnt l) c = true) := hide (by
        unfold sureF
        rw [List.all_eq_true]
        intro j hj
        exact decide_eq_true (hN.out j (by simp at hj; omega)))
      clear hkl
      go_wp2
      go_ret
      exact ⟨ret_bool HE.out.symm, hg⟩

set_option linter.unusedVariables false
open Go.RowKit

end Go.Proofs.Ytjbnohepbmejkaa
