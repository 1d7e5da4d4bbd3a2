/-
  How much of a chain the specification calls final: l11FinalIn.
-/
import Derived.Test.YtjcnbacbnfmkjaaTreeB
import Derived.Test.YtjcnbacbnfmkjaaTSpec2
namespace Go.Proofs.Ytjcnbacbnfmkjaa
set_option linter.unusedVariables false
open Go.RowKit
attribute [local simp] far_const

theorem downTo_mem {n k j : Nat} (hk : k ≤ n) (h : j ∈ downTo n k) : k ≤ j ∧ j < n := by
  obtain ⟨m, hm⟩ : ∃ m, m = n - k := ⟨_, rfl⟩
  induction m generalizing k with
  | zero => rw [show k = n by omega, downTo_top] at h; cases h
  | succ m ih =>
    rw [downTo_step n k (by omega)] at h
    rcases List.mem_append.1 h with h | h
    · have := ih (k := k + 1) (by omega) h (by omega); omega
    · simp only [List.mem_singleton] at h; omega
theorem finN_at {c : List It} {j : Nat} (hj : j < c.length) (h1 : endsB (c.take (j + 1)) = true) (h2 : ∀ i, j < i → i < c.length → endsB (c.take (i + 1)) = false) : finN c = j := by
  unfold finN
  have hp : downTo c.length (j + 1) ++ [j] <+: (List.range c.length).reverse := by rw [← downTo_step _ _ hj]; exact downTo_prefix _ _
  rw [find_first (p := fun j => endsB (c.take (j + 1))) hp (fun i hi => by have := downTo_mem (by omega) hi; exact h2 i (by omega) this.2) h1]
  rfl
theorem finN_none {c : List It} (h : ∀ i, i < c.length → endsB (c.take (i + 1)) = false) : finN c = 0 := by
  unfold finN
  have : (List.range c.length).reverse.find? (fun j => endsB (c.take (j + 1))) = none := by
    rw [List.find?_eq_none]; intro j hj; rw [h j (by simpa using hj)]; decide
  rw [this]; rfl
theorem endsB_short {c : List It} {j : Nat} (h : j < 2) : endsB (c.take (j + 1)) = false := by
  unfold endsB
  have : ¬ 3 ≤ (c.take (j + 1)).length := by simp; omega
  rw [decide_eq_false this]; rfl
theorem endsB_at {c : List It} {m : Nat} (h : m + 2 < c.length) : endsB (c.take (m + 2 + 1)) = ((wrap64 (c[m].e + 1) == c[m + 1].e) && (wrap64 (c[m + 1].e + 1) == c[m + 2].e)) := by
  have t3 : c.take (m + 2 + 1) = c.take (m + 2) ++ [c[m + 2]] := List.take_succ_eq_append_getElem h
  have t2 : c.take (m + 2) = c.take (m + 1) ++ [c[m + 1]] := List.take_succ_eq_append_getElem (by omega)
  have t1 : c.take (m + 1) = c.take m ++ [c[m]] := List.take_succ_eq_append_getElem (by omega)
  have hl : 3 ≤ (c.take (m + 2 + 1)).length := by simp; omega
  unfold endsB folB
  rw [decide_eq_true hl, Bool.true_and, t3, List.dropLast_concat, lastI_snoc, t2, List.dropLast_concat, lastI_snoc, t1, lastI_snoc, Bool.and_comm]
  congr 1
  · exact Bool.beq_comm
  · exact Bool.beq_comm

set_option maxRecDepth 20000 in
set_option maxHeartbeats 4000000 in
theorem l11FinalIn_any (a : Option Addr) (cap m : Nat) (c : List It) (hm : c.length = m) (w : World) (hc : Its w a c) (hn : m ≤ 1048576) :
    Calls Try.prog 83 #[.slice a m cap] w fun r w' => r = .returned (.int .i64 (finN c)) ∧ Grew w w' := by
  subst hm
  go_enter Try.func83, Try.ntmps83
  go_wp2_with fail
  go_loopw [3] (fun i wr => ∃ (k : Nat) (z : Int), k ≤ c.length ∧ i = .int .i64 z ∧ Hid (z = (k : Int) - 1) ∧ -1 ≤ z ∧ z ≤ 1048576 ∧ Hid (∀ j, k ≤ j → j < c.length → endsB (c.take (j + 1)) = false) ∧ Grew w wr) (fun i _ => (intOf i + 1).toNat)
  case atStart => exact ⟨c.length, (c.length : Int) - 1, Nat.le_refl _, by first | rfl | go_num, hide rfl, by omega, by omega, hide (fun j h1 h2 => by omega), Grew.refl _⟩
  case round =>
    obtain ⟨k, z, hk, rfl, hz, hz0, hz1, hno, hg⟩ := hrel
    by_cases hge : 2 ≤ z
    · obtain ⟨p, hp⟩ : ∃ p : Nat, Hid (k = p + 3) := ⟨k - 3, hide (by have := hz.out; omega)⟩
      have hzp : z = (p : Int) + 2 := by have := hz.out; have := hp.out; omega
      have hlt : p + 2 < c.length := by have := hp.out; omega
      subst hzp
      obtain ⟨b0, o0, rfl, hat0⟩ := hc.at (i := p) (by omega)
      obtain ⟨b1, o1, ex1, hat1⟩ := hc.at (i := p + 1) (by omega)
      obtain ⟨b2, o2, ex2, hat2⟩ := hc.at (i := p + 2) hlt
      simp only [Option.some.injEq, Addr.mk.injEq, and_true] at ex1 ex2
      obtain ⟨rfl, rfl⟩ := ex1
      obtain ⟨rfl, rfl⟩ := ex2
      have f0 := Grew.gcell (hat0.grew hg).1
      have f1 := Grew.gcell (hat1.grew hg).1
      have f2 := Grew.gcell (hat2.grew hg).1
      have hE := endsB_at hlt
      have q2 : wrap64 ((p : Int) + 2 - 2) = (p : Int) := by rw [show (p : Int) + 2 - 2 = (p : Int) by omega]; unfold wrap64; omega
      have q1 : wrap64 ((p : Int) + 2 - 1) = ((p + 1 : Nat) : Int) := by rw [show (p : Int) + 2 - 1 = ((p + 1 : Nat) : Int) by omega]; unfold wrap64; omega
      clear hat0 hat1 hat2
      cases hb1 : (wrap64 (c[p].e + 1) == c[p + 1].e) with
      | false =>
        have HE : Hid (endsB (c.take (p + 2 + 1)) = false) := hide (by rw [hE, hb1]; rfl)
        clear hE
        go_wp2_with fail
        refine quietly (by kernel_rfl) (by kernel_rfl) ?_
        repeat (go_big_quiet_step (first | fail))
        refine wpQuiet_nil ?_
        intro _ hw'
        obtain ⟨⟨nq, osq⟩, hw''⟩ := hw'
        subst hw''
        have g2 : Grew wr (far wr nq osq) := ⟨_, _, rfl⟩
        have HN : Hid (∀ j, p + 2 ≤ j → j < c.length → endsB (c.take (j + 1)) = false) := hide (fun j h1 h2 => by
          by_cases e : j = p + 2
          · rw [e]; exact HE.out
          · exact hno.out j (by have := hp.out; omega) h2)
        go_wp2
        go_roundw
        case rel => exact ⟨p + 2, (p : Int) + 1, by omega, by first | rfl | go_num | (simp; omega), hide (by omega), by omega, by omega, HN, hg.trans g2⟩
        case measure => simp [intOf]; omega
      | true =>
        cases hb2 : (wrap64 (c[p + 1].e + 1) == c[p + 2].e) with
        | false =>
          have HE : Hid (endsB (c.take (p + 2 + 1)) = false) := hide (by rw [hE, hb1, hb2]; rfl)
          clear hE
          go_wp2_with fail
          refine quietly (by kernel_rfl) (by kernel_rfl) ?_
          repeat (go_big_quiet_step (first | fail))
          refine wpQuiet_nil ?_
          intro _ hw'
          obtain ⟨⟨nq, osq⟩, hw''⟩ := hw'
          subst hw''
          have g2 : Grew wr (far wr nq osq) := ⟨_, _, rfl⟩
          have HN : Hid (∀ j, p + 2 ≤ j → j < c.length → endsB (c.take (j + 1)) = false) := hide (fun j h1 h2 => by
            by_cases e : j = p + 2
            · rw [e]; exact HE.out
            · exact hno.out j (by have := hp.out; omega) h2)
          go_wp2
          go_roundw
          case rel => exact ⟨p + 2, (p : Int) + 1, by omega, by first | rfl | go_num | (simp; omega), hide (by omega), by omega, by omega, HN, hg.trans g2⟩
          case measure => simp [intOf]; omega
        | true =>
          have HE : Hid (finN c = p + 2) := hide (finN_at hlt (by rw [hE, hb1, hb2]; rfl) (fun i h1 h2 => hno.out i (by have := hp.out; omega) h2))
          clear hE
          go_wp2_with fail
          refine quietly (by kernel_rfl) (by kernel_rfl) ?_
          repeat (go_big_quiet_step (first | fail))
          refine wpQuiet_nil ?_
          intro _ hw'
          obtain ⟨⟨nq, osq⟩, hw''⟩ := hw'
          subst hw''
          have g2 : Grew wr (far wr nq osq) := ⟨_, _, rfl⟩
          go_wp2
          go_ret
          exact ⟨by rw [HE.out]; first | rfl | (simp; omega), hg.trans g2⟩
    · have hd : decide ((2 : Int) ≤ z) = false := by simp; omega
      have HE : Hid (finN c = 0) := hide (finN_none (fun j hj => by
        by_cases h2 : j < 2
        · exact endsB_short h2
        · exact hno.out j (by have := hz.out; omega) hj))
      go_wp2
      go_ret
      exact ⟨by rw [HE.out]; rfl, hg⟩
end Go.Proofs.Ytjcnbacbnfmkjaa
