/-
  What CertOk answers in the program, part by part.
-/
import Derived.Test.YteemihgakcmamaaCer2
import Derived.Test.YteemihgakcmamaaNod2
namespace Go.Proofs.Yteemihgakcmamaa
set_option linter.unusedVariables false
open Go.RowKit
attribute [local simp] far_const

/-- Numbers of nodes, ascending, behind p. -/
def ascB : Int → List Int → Bool
  | _, [] => true
  | p, x :: r => (decide (p < x) && inB x 1 4) && ascB x r
def endI : Int → List Int → Int
  | p, [] => p
  | _, x :: r => endI x r
theorem ascB_snoc (l : List Int) (x : Int) : ∀ p, ascB p (l ++ [x]) = (ascB p l && (decide (endI p l < x) && inB x 1 4)) := by
  induction l with
  | nil => intro p; simp [ascB, endI]; try rfl
  | cons y r ih => intro p; simp [ascB, endI, ih, Bool.and_assoc]; try rfl
theorem endI_snoc (l : List Int) (x : Int) : ∀ p, endI p (l ++ [x]) = x := by
  induction l with
  | nil => intro p; rfl
  | cons y r ih => intro p; exact ih y
theorem ascB_app (l r : List Int) : ∀ p, ascB p (l ++ r) = (ascB p l && ascB (endI p l) r) := by
  induction l with
  | nil => intro p; simp [ascB, endI]
  | cons y s ih => intro p; simp [ascB, endI, ih, Bool.and_assoc]
theorem ascB_take (l : List Int) (k : Nat) (h : k < l.length) : ascB 0 (l.take (k + 1)) = (ascB 0 (l.take k) && (decide (endI 0 (l.take k) < l[k]) && inB l[k] 1 4)) := by
  rw [List.take_succ_eq_append_getElem h, ascB_snoc]
theorem endI_take (l : List Int) (k : Nat) (h : k < l.length) : endI 0 (l.take (k + 1)) = l[k] := by
  rw [List.take_succ_eq_append_getElem h, endI_snoc]
theorem ascB_no (l : List Int) (k : Nat) (hk : k < l.length) (h : (decide (endI 0 (l.take k) < l[k]) && inB l[k] 1 4) = false) : ascB 0 l = false := by
  have e := ascB_app (l.take (k + 1)) (l.drop (k + 1)) 0
  rw [List.take_append_drop, ascB_take l k hk, h, Bool.and_false, Bool.false_and] at e
  exact e
/-- Enough voted. -/
def byB (l : List Int) : Bool := ascB 0 l && decide (3 ≤ l.length)

set_option maxHeartbeats 1000000 in
theorem enough_any (u : Value) (hu : u.oneCell' = true) (a : Option Addr) (cap : Nat) (l : List Int) (w : World) (hl : Ints w a l) (hn : l.length ≤ 1048576) :
    Calls Try.prog 96 #[.agg #[u, .slice a l.length cap]] w fun r w' => r = .returned (.bool (byB l)) ∧ Grew w w' := by
  go_enter Try.func96, Try.ntmps96
  go_wp2_with fail
  go_loopw [3, 9] (fun p i wr => ∃ (k : Nat) (e : Int), k ≤ l.length ∧ i = .int .i64 k ∧ p = .int .i64 e ∧ Hid (endI 0 (l.take k) = e) ∧ Hid (ascB 0 (l.take k) = true) ∧ wr = w.alloc (.cells #[u, .slice a l.length cap] 89)) (fun _ i _ => l.length - (intOf i).toNat)
  case atStart => exact ⟨0, 0, Nat.zero_le _, rfl, rfl, hide rfl, hide rfl, rfl⟩
  case round =>
    obtain ⟨k, e, hk, rfl, rfl, he, has, rfl⟩ := hrel
    by_cases hlt : k < l.length
    · obtain ⟨b, off, rfl, hat⟩ := hl.at hlt
      have c0 := ((Grew.refl w).alloc (.cells #[u, .slice (some ⟨b, off, none⟩) l.length cap] 89)).keep hat
      have hst := hide (ascB_take l k hlt)
      have hen := hide (endI_take l k hlt)
      obtain ⟨z, hz⟩ : ∃ z, l[k] = z := ⟨_, rfl⟩
      have hno := hide (ascB_no l k hlt)
      rw [hz] at c0 hst hen hno
      rw [he.out] at hst hno
      rw [has.out] at hst
      clear hat hz
      by_cases h1 : z ≤ e
      · have h1' : decide (e < z) = false := by simp; omega
        have hend : Hid (byB l = false) := by show byB l = false; unfold byB; rw [hno.out (by rw [h1']; rfl)]; rfl
        go_wp2
        go_ret
        exact ⟨ret_bool hend.out.symm, (Grew.refl _).alloc _⟩
      · have h1' : decide (z ≤ e) = false := by simp; omega
        have h1'' : decide (e < z) = true := by simp; omega
        cases h2 : inB z 1 4 with
        | false =>
          have hend : Hid (byB l = false) := by show byB l = false; unfold byB; rw [hno.out (by rw [h2, Bool.and_false])]; rfl
          go_wp2_with fail
          refine (isNode_any _ _).mono ?_
          rw [h2]
          rintro r w1 ⟨rfl, rfl⟩
          go_wp2
          go_ret
          exact ⟨ret_bool hend.out.symm, (Grew.refl _).alloc _⟩
        | true =>
          have hna : Hid (ascB 0 (l.take (k + 1)) = true) := by show ascB 0 (l.take (k + 1)) = true; rw [hst.out, h1'', h2]; rfl
          go_wp2_with fail
          refine (isNode_any _ _).mono ?_
          rw [h2]
          rintro r w1 ⟨rfl, rfl⟩
          go_wp2
          go_roundw
          case rel => exact ⟨k + 1, z, by omega, by go_num, rfl, hen, hna, by first | rfl | trivial⟩
          case measure => simp [intOf]; omega
    · have hle : (l.length : Int) ≤ (k : Int) := by omega
      have hall : Hid (byB l = decide (3 ≤ l.length)) := by
        show byB l = _
        have := has.out
        rw [List.take_of_length_le (by omega)] at this
        unfold byB; rw [this]; rfl
      by_cases h3 : 3 ≤ l.length
      · have h3' : decide ((3 : Int) ≤ (l.length : Int)) = true := by simp; omega
        have h3'' : (3 : Int) ≤ (l.length : Int) := by omega
        go_wp2
        go_ret
        exact ⟨ret_bool (by rw [hall.out, decide_eq_true h3]), (Grew.refl _).alloc _⟩
      · have h3' : decide ((3 : Int) ≤ (l.length : Int)) = false := by simp; omega
        have h3'' : ¬ (3 : Int) ≤ (l.length : Int) := by omega
        go_wp2
        go_ret
        exact ⟨ret_bool (by rw [hall.out, decide_eq_false h3]), (Grew.refl _).alloc _⟩

set_option maxHeartbeats 2000000 in
theorem lastChains_any (a : Option Addr) (m cap : Nat) (w : World) (hm : m + 3 ≤ cap) (hn : m + 3 ≤ 1048576) :
    Calls Try.prog 90 #[.slice a (m + 3) cap] w fun r w' => r = .returned (.agg #[.slice a (m + 1) cap, .slice a (m + 2) cap, .slice a (m + 3) cap]) ∧ Grew w w' := by
  have hw0 : wrap64 ((m : Int) + 3 - 3 + 1 + 0) = ((m + 1 : Nat) : Int) := by unfold wrap64; omega
  go_enter Try.func90, Try.ntmps90
  go_wp2_with fail
  go_rounds 4
  all_goals go_wp2
  go_returns
  exact ⟨rfl, by repeat (first | exact Grew.refl _ | refine Grew.alloc ?_ _ | refine Grew.setCell ?_ (by dsimp only; omega) _)⟩

theorem okB_asc {c : List It} (h : okB c = true) {k : Nat} (hk : k + 1 < c.length) : c[k].e < c[k + 1].e ∧ 1 ≤ c[k].e ∧ c[k + 1].e ≤ 30 := by
  unfold okB at h
  rw [Bool.and_eq_true] at h
  have hg : ∀ j, goB 0 (c.take j) = true := fun j => by
    have := goB_app (c.take j) (c.drop j) 0
    rw [List.take_append_drop, h.2] at this
    exact (Bool.and_eq_true _ _ ▸ this.symm : _ ∧ _).1
  have h1 := goB_take c (k + 1) hk
  rw [hg, hg, endE_take c k (by omega)] at h1
  have h2 := goB_take c k (by omega)
  rw [hg, hg] at h2
  have h0 := (endE_low (c.take k) 0 (Int.le_refl _) (hg k)).1
  simp only [stepB, Bool.true_and] at h1 h2
  have h1 := h1.symm
  have h2 := h2.symm
  simp only [Bool.and_eq_true, decide_eq_true_eq] at h1 h2
  exact ⟨h1.1.1, by omega, h1.1.2⟩
/-- The last three items are of epochs one behind the other. -/
def rowB (c : List It) : Bool := if h : 3 ≤ c.length then ((c[c.length - 3].e + 1 == c[c.length - 2].e) && (c[c.length - 2].e + 1 == c[c.length - 1].e)) else false
theorem rowB_ok {c : List It} (h : okB c = true) (h3 : 3 ≤ c.length) : rowB c = ((c[c.length - 1].e - c[c.length - 3].e) == 2) ∧ 1 ≤ c[c.length - 3].e ∧ c[c.length - 3].e ≤ 30 ∧ 1 ≤ c[c.length - 1].e ∧ c[c.length - 1].e ≤ 30 := by
  have h1 := okB_asc h (k := c.length - 3) (by omega)
  have h2 := okB_asc h (k := c.length - 2) (by omega)
  simp only [show c.length - 3 + 1 = c.length - 2 by omega] at h1
  simp only [show c.length - 2 + 1 = c.length - 1 by omega] at h2
  refine ⟨?_, by omega, by omega, by omega, by omega⟩
  unfold rowB
  rw [dif_pos h3, Bool.eq_iff_iff]
  simp only [Bool.and_eq_true, beq_iff_eq]
  omega

set_option maxHeartbeats 1000000 in
theorem endsWithRow_any (a : Option Addr) (cap : Nat) (c : List It) (w : World) (hl : Its w a c) (hok : okB c = true) (hn : c.length ≤ 1048576) :
    Calls Try.prog 94 #[.slice a c.length cap] w fun r w' => r = .returned (.bool (rowB c)) ∧ Grew w w' := by
  by_cases h3 : 3 ≤ c.length
  · obtain ⟨hr, x1, x2, z1, z2⟩ := rowB_ok hok h3
    obtain ⟨b0, o0, rfl, hat0⟩ := hl.at (i := c.length - 3) (by omega)
    obtain ⟨b1, o1, ex1, hat1⟩ := hl.at (i := c.length - 1) (by omega)
    simp only [Option.some.injEq, Addr.mk.injEq, and_true] at ex1
    obtain ⟨rfl, rfl⟩ := ex1
    have f0 := Grew.gcell hat0.1
    have f1 := Grew.gcell hat1.1
    obtain ⟨X, hX⟩ : ∃ X, (c[c.length - 3]'(by omega)).e = X := ⟨_, rfl⟩
    obtain ⟨Z, hZ⟩ : ∃ Z, (c[c.length - 1]'(by omega)).e = Z := ⟨_, rfl⟩
    rw [hX] at f0 hr x1 x2
    rw [hZ] at f1 hr z1 z2
    have HR := hide hr
    have d3 : decide ((3 : Int) ≤ (c.length : Int)) = true := by simp; omega
    have d3' : (3 : Int) ≤ (c.length : Int) := by omega
    have hw1 : wrap64 ((c.length : Int) - 1) = ((c.length - 1 : Nat) : Int) := by rw [show (c.length : Int) - 1 = ((c.length - 1 : Nat) : Int) by omega]; unfold wrap64; omega
    have hw3 : wrap64 ((c.length : Int) - 3) = ((c.length - 3 : Nat) : Int) := by rw [show (c.length : Int) - 3 = ((c.length - 3 : Nat) : Int) by omega]; unfold wrap64; omega
    have hwz : wrap64 (Z - X) = Z - X := by unfold wrap64; omega
    clear hr hX hZ hat0 hat1 hl hok
    cases hq : (Z - X == 2)
    all_goals
      have hq2 := hq
      simp at hq2
      go_enter Try.func94, Try.ntmps94
      go_wp2_with fail
      refine quietly (by kernel_rfl) (by kernel_rfl) ?_
      repeat (go_big_quiet_step (fail))
      refine wpQuiet_nil ?_
      intro _ hw'
      obtain ⟨⟨nq, osq⟩, hw''⟩ := hw'
      subst hw''
      go_wp2
      go_ret
      exact ⟨by first | exact ret_bool (by rw [HR.out, hq]) | exact ret_bool (by rw [HR.out]), ⟨_, _, rfl⟩⟩
  · have hr : Hid (rowB c = false) := by show rowB c = false; unfold rowB; rw [dif_neg h3]
    have d3 : decide ((3 : Int) ≤ (c.length : Int)) = false := by simp; omega
    have d3' : ¬ (3 : Int) ≤ (c.length : Int) := by omega
    clear hl
    go_enter Try.func94, Try.ntmps94
    go_wp2_with fail
    refine quietly (by kernel_rfl) (by kernel_rfl) ?_
    repeat (go_big_quiet_step (fail))
    refine wpQuiet_nil ?_
    intro _ hw'
    obtain ⟨⟨nq, osq⟩, hw''⟩ := hw'
    subst hw''
    go_wp2
    go_ret
    exact ⟨ret_bool hr.out.symm, ⟨_, _, rfl⟩⟩
end Go.Proofs.Yteemihgakcmamaa
