/-
  Texts together: Cer3, Cer4, Cer5, Cer6, Cer7, Cer8, Cer9.
-/
import Derived.Test.YtjbnohepbmejkaaCerB
import Derived.Test.YtjbnohepbmejkaaNodA
namespace Go.Proofs.Ytjbnohepbmejkaa
set_option linter.unusedVariables false
open Go.RowKit
attribute [local simp] far_const

/-- Numbers of nodes, ascending, behind p. -/
def ascB : Int → List Int → Bool
  | _, [] => true
  | p, x :: r => (decide (p < x) && inB x 1 4) && ascB x r
def endI : Int → List Int → Int
  | p, [] => p
  | _, x :: r => endI x r
theorem ascB_snoc (l : List Int) (x : Int) : ∀ p, ascB p (l ++ [x]) = (ascB p l && (decide (endI p l < x) && inB x 1 4)) := by
  induction l with
  | nil => intro p; simp [ascB, endI]; try rfl
  | cons y r ih => intro p; simp [ascB, endI, ih, Bool.and_assoc]; try rfl
theorem endI_snoc (l : List Int) (x : Int) : ∀ p, endI p (l ++ [x]) = x := by
  induction l with
  | nil => intro p; rfl
  | cons y r ih => intro p; exact ih y
theorem ascB_app (l r : List Int) : ∀ p, ascB p (l ++ r) = (ascB p l && ascB (endI p l) r) := by
  induction l with
  | nil => intro p; simp [ascB, endI]
  | cons y s ih => intro p; simp [ascB, endI, ih, Bool.and_assoc]
theorem ascB_take (l : List Int) (k : Nat) (h : k < l.length) : ascB 0 (l.take (k + 1)) = (ascB 0 (l.take k) && (decide (endI 0 (l.take k) < l[k]) && inB l[k] 1 4)) := by
  rw [List.take_succ_eq_append_getElem h, ascB_snoc]
theorem endI_take (l : List Int) (k : Nat) (h : k < l.length) : endI 0 (l.take (k + 1)) = l[k] := by
  rw [List.take_succ_eq_append_getElem h, endI_snoc]
theorem ascB_no (l : List Int) (k : Nat) (hk : k < l.length) (h : (decide (endI 0 (l.take k) < l[k]) && inB l[k] 1 4) = false) : ascB 0 l = false := by
  have e := ascB_app (l.take (k + 1)) (l.drop (k + 1)) 0
  rw [List.take_append_drop, ascB_take l k hk, h, Bool.and_false, Bool.false_and] at e
  exact e
/-- Enough voted. -/
def byB (l : List Int) : Bool := ascB 0 l && decide (3 ≤ l.length)

set_option maxHeartbeats 1000000 in
theorem enough_any (u : Value) (hu : u.oneCell' = true) (a : Option Addr) (cap : Nat) (l : List Int) (w : World) (hl : Ints w a l) (hn : l.length ≤ 1048576) :
    Calls Try.prog 52 #[.agg #[u, .slice a l.length cap]] w fun r w' => r = .returned (.bool (byB l)) ∧ Grew w w' := by
  go_enter Try.func52, Try.ntmps52
  go_wp2_with fail
  go_loopw [3, 9] (fun p i wr => ∃ (k : Nat) (e : Int), k ≤ l.length ∧ i = .int .i64 k ∧ p = .int .i64 e ∧ Hid (endI 0 (l.take k) = e) ∧ Hid (ascB 0 (l.take k) = true) ∧ wr = w.alloc (.cells #[u, .slice a l.length cap] 80)) (fun _ i _ => l.length - (intOf i).toNat)
  case atStart => exact ⟨0, 0, Nat.zero_le _, rfl, rfl, hide rfl, hide rfl, rfl⟩
  case round =>
    obtain ⟨k, e, hk, rfl, rfl, he, has, rfl⟩ := hrel
    by_cases hlt : k < l.length
    · obtain ⟨b, off, rfl, hat⟩ := hl.at hlt
      have c0 := ((Grew.refl w).alloc (.cells #[u, .slice (some ⟨b, off, none⟩) l.length cap] 80)).keep hat
      have hst := hide (ascB_take l k hlt)
      have hen := hide (endI_take l k hlt)
      obtain ⟨z, hz⟩ : ∃ z, l[k] = z := ⟨_, rfl⟩
      have hno := hide (ascB_no l k hlt)
      rw [hz] at c0 hst hen hno
      rw [he.out] at hst hno
      rw [has.out] at hst
      clear hat hz
      by_cases h1 : z ≤ e
      · have h1' : decide (e < z) = false := by simp; omega
        have hend : Hid (byB l = false) := by show byB l = false; unfold byB; rw [hno.out (by rw [h1']; rfl)]; rfl
        go_wp2
        go_ret
        exact ⟨ret_bool hend.out.symm, (Grew.refl _).alloc _⟩
      · have h1' : decide (z ≤ e) = false := by simp; omega
        have h1'' : decide (e < z) = true := by simp; omega
        cases h2 : inB z 1 4 with
        | false =>
          have hend : Hid (byB l = false) := by show byB l = false; unfold byB; rw [hno.out (by rw [h2, Bool.and_false])]; rfl
          go_wp2_with fail
          refine (isNode_any _ _).mono ?_
          rw [h2]
          rintro r w1 ⟨rfl, rfl⟩
          go_wp2
          go_ret
          exact ⟨ret_bool hend.out.symm, (Grew.refl _).alloc _⟩
        | true =>
          have hna : Hid (ascB 0 (l.take (k + 1)) = true) := by show ascB 0 (l.take (k + 1)) = true; rw [hst.out, h1'', h2]; rfl
          go_wp2_with fail
          refine (isNode_any _ _).mono ?_
          rw [h2]
          rintro r w1 ⟨rfl, rfl⟩
          go_wp2
          go_roundw
          case rel => exact ⟨k + 1, z, by omega, by go_num, rfl, hen, hna, by first | rfl | trivial⟩
          case measure => simp [intOf]; omega
    · have hle : (l.length : Int) ≤ (k : Int) := by omega
      have hall : Hid (byB l = decide (3 ≤ l.length)) := by
        show byB l = _
        have := has.out
        rw [List.take_of_length_le (by omega)] at this
        unfold byB; rw [this]; rfl
      by_cases h3 : 3 ≤ l.length
      · have h3' : decide ((3 : Int) ≤ (l.length : Int)) = true := by simp; omega
        have h3'' : (3 : Int) ≤ (l.length : Int) := by omega
        go_wp2
        go_ret
        exact ⟨ret_bool (by rw [hall.out, decide_eq_true h3]), (Grew.refl _).alloc _⟩
      · have h3' : decide ((3 : Int) ≤ (l.length : Int)) = false := by simp; omega
        have h3'' : ¬ (3 : Int) ≤ (l.length : Int) := by omega
        go_wp2
        go_ret
        exact ⟨ret_bool (by rw [hall.out, decide_eq_false h3]), (Grew.refl _).alloc _⟩

set_option maxHeartbeats 2000000 in
theorem lastChains_any (a : Option Addr) (m cap : Nat) (w : World) (hm : m + 3 ≤ cap) (hn : m + 3 ≤ 1048576) :
    Calls Try.prog 63 #[.slice a (m + 3) cap] w fun r w' => r = .returned (.agg #[.slice a (m + 1) cap, .slice a (m + 2) cap, .slice a (m + 3) cap]) ∧ Grew w w' := by
  have hw0 : wrap64 ((m : Int) + 3 - 3 + 1 + 0) = ((m + 1 : Nat) : Int) := by unfold wrap64; omega
  go_enter Try.func63, Try.ntmps63
  go_wp2_with fail
  go_rounds 4
  all_goals go_wp2
  go_returns
  exact ⟨rfl, by repeat (first | exact Grew.refl _ | refine Grew.alloc ?_ _ | refine Grew.setCell ?_ (by dsimp only; omega) _)⟩

theorem okB_asc {c : List It} (h : okB c = true) {k : Nat} (hk : k + 1 < c.length) : c[k].e < c[k + 1].e ∧ 1 ≤ c[k].e ∧ c[k + 1].e ≤ 30 := by
  unfold okB at h
  rw [Bool.and_eq_true] at h
  have hg : ∀ j, goB 0 (c.take j) = true := fun j => by
    have := goB_app (c.take j) (c.drop j) 0
    rw [List.take_append_drop, h.2] at this
    exact (Bool.and_eq_true _ _ ▸ this.symm : _ ∧ _).1
  have h1 := goB_take c (k + 1) hk
  rw [hg, hg, endE_take c k (by omega)] at h1
  have h2 := goB_take c k (by omega)
  rw [hg, hg] at h2
  have h0 := (endE_low (c.take k) 0 (Int.le_refl _) (hg k)).1
  simp only [stepB, Bool.true_and] at h1 h2
  have h1 := h1.symm
  have h2 := h2.symm
  simp only [Bool.and_eq_true, decide_eq_true_eq] at h1 h2
  exact ⟨h1.1.1, by omega, h1.1.2⟩
/-- The last three items are of epochs one behind the other. -/
def rowB (c : List It) : Bool := if h : 3 ≤ c.length then ((c[c.length - 3].e + 1 == c[c.length - 2].e) && (c[c.length - 2].e + 1 == c[c.length - 1].e)) else false
theorem rowB_ok {c : List It} (h : okB c = true) (h3 : 3 ≤ c.length) : rowB c = ((c[c.length - 1].e - c[c.length - 3].e) == 2) ∧ 1 ≤ c[c.length - 3].e ∧ c[c.length - 3].e ≤ 30 ∧ 1 ≤ c[c.length - 1].e ∧ c[c.length - 1].e ≤ 30 := by
  have h1 := okB_asc h (k := c.length - 3) (by omega)
  have h2 := okB_asc h (k := c.length - 2) (by omega)
  simp only [show c.length - 3 + 1 = c.length - 2 by omega] at h1
  simp only [show c.length - 2 + 1 = c.length - 1 by omega] at h2
  refine ⟨?_, by omega, by omega, by omega, by omega⟩
  unfold rowB
  rw [dif_pos h3, Bool.eq_iff_iff]
  simp only [Bool.and_eq_true, beq_iff_eq]
  omega

set_option maxHeartbeats 1000000 in
theorem endsWithRow_any (a : Option Addr) (cap : Nat) (c : List It) (w : World) (hl : Its w a c) (hok : okB c = true) (hn : c.length ≤ 1048576) :
    Calls Try.prog 49 #[.slice a c.length cap] w fun r w' => r = .returned (.bool (rowB c)) ∧ Grew w w' := by
  by_cases h3 : 3 ≤ c.length
  · obtain ⟨hr, x1, x2, z1, z2⟩ := rowB_ok hok h3
    obtain ⟨b0, o0, rfl, hat0⟩ := hl.at (i := c.length - 3) (by omega)
    obtain ⟨b1, o1, ex1, hat1⟩ := hl.at (i := c.length - 1) (by omega)
    simp only [Option.some.injEq, Addr.mk.injEq, and_true] at ex1
    obtain ⟨rfl, rfl⟩ := ex1
    have f0 := Grew.gcell hat0.1
    have f1 := Grew.gcell hat1.1
    obtain ⟨X, hX⟩ : ∃ X, (c[c.length - 3]'(by omega)).e = X := ⟨_, rfl⟩
    obtain ⟨Z, hZ⟩ : ∃ Z, (c[c.length - 1]'(by omega)).e = Z := ⟨_, rfl⟩
    rw [hX] at f0 hr x1 x2
    rw [hZ] at f1 hr z1 z2
    have HR := hide hr
    have d3 : decide ((3 : Int) ≤ (c.length : Int)) = true := by simp; omega
    have d3' : (3 : Int) ≤ (c.length : Int) := by omega
    have hw1 : wrap64 ((c.length : Int) - 1) = ((c.length - 1 : Nat) : Int) := by rw [show (c.length : Int) - 1 = ((c.length - 1 : Nat) : Int) by omega]; unfold wrap64; omega
    have hw3 : wrap64 ((c.length : Int) - 3) = ((c.length - 3 : Nat) : Int) := by rw [show (c.length : Int) - 3 = ((c.length - 3 : Nat) : Int) by omega]; unfold wrap64; omega
    have hwz : wrap64 (Z - X) = Z - X := by unfold wrap64; omega
    clear hr hX hZ hat0 hat1 hl hok
    cases hq : (Z - X == 2)
    all_goals
      have hq2 := hq
      simp at hq2
      go_enter Try.func49, Try.ntmps49
      go_wp2_with fail
      refine quietly (by kernel_rfl) (by kernel_rfl) ?_
      repeat (go_big_quiet_step (fail))
      refine wpQuiet_nil ?_
      intro _ hw'
      obtain ⟨⟨nq, osq⟩, hw''⟩ := hw'
      subst hw''
      go_wp2
      go_ret
      exact ⟨by first | exact ret_bool (by rw [HR.out, hq]) | exact ret_bool (by rw [HR.out]), ⟨_, _, rfl⟩⟩
  · have hr : Hid (rowB c = false) := by show rowB c = false; unfold rowB; rw [dif_neg h3]
    have d3 : decide ((3 : Int) ≤ (c.length : Int)) = false := by simp; omega
    have d3' : ¬ (3 : Int) ≤ (c.length : Int) := by omega
    clear hl
    go_enter Try.func49, Try.ntmps49
    go_wp2_with fail
    refine quietly (by kernel_rfl) (by kernel_rfl) ?_
    repeat (go_big_quiet_step (fail))
    refine wpQuiet_nil ?_
    intro _ hw'
    obtain ⟨⟨nq, osq⟩, hw''⟩ := hw'
    subst hw''
    go_wp2
    go_ret
    exact ⟨ret_bool hr.out.symm, ⟨_, _, rfl⟩⟩

set_option linter.unusedVariables false
open Go.RowKit
attribute [local simp] far_const
/-- Six cells, the first 2 * k of which are set. -/
def Tri (w : World) (T k : Nat) (x0 x1 x2 x3 x4 x5 : Value) : Prop := w.cell? ⟨T, 0, none⟩ = some (if 0 < k then x0 else .slice none 0 0) ∧ w.cell? ⟨T, 1, none⟩ = some (if 0 < k then x1 else .slice none 0 0) ∧ w.cell? ⟨T, 2, none⟩ = some (if 1 < k then x2 else .slice none 0 0) ∧ w.cell? ⟨T, 3, none⟩ = some (if 1 < k then x3 else .slice none 0 0) ∧ w.cell? ⟨T, 4, none⟩ = some (if 2 < k then x4 else .slice none 0 0) ∧ w.cell? ⟨T, 5, none⟩ = some (if 2 < k then x5 else .slice none 0 0)
theorem Tri.block {w w' : World} {T k : Nat} {x0 x1 x2 x3 x4 x5 : Value} (h : Tri w T k x0 x1 x2 x3 x4 x5) (e : w'.heap[T]? = w.heap[T]?) : Tri w' T k x0 x1 x2 x3 x4 x5 := by
  obtain ⟨h0, h1, h2, h3, h4, h5⟩ := h
  refine ⟨?_, ?_, ?_, ?_, ?_, ?_⟩
  · rw [World.cell?_of_block (w := w) e]; exact h0
  · rw [World.cell?_of_block (w := w) e]; exact h1
  · rw [World.cell?_of_block (w := w) e]; exact h2
  · rw [World.cell?_of_block (w := w) e]; exact h3
  · rw [World.cell?_of_block (w := w) e]; exact h4
  · rw [World.cell?_of_block (w := w) e]; exact h5

set_option maxRecDepth 20000 in
set_option maxHeartbeats 800000 in
theorem ballotsOf_any (a : Option Addr) (m cap : Nat) (b : Nat) (off capb : Nat) (s0 s1 s2 : Option Addr) (n0 n1 n2 k0 k1 k2 : Nat) (w : World) (hm : m + 3 ≤ cap) (hn : m + 3 ≤ 1048576)
    (h0 : w.cell? ⟨b, off, none⟩ = some (.slice s0 n0 k0)) (h1 : w.cell? ⟨b, off + 1, none⟩ = some (.slice s1 n1 k1)) (h2 : w.cell? ⟨b, off + 2, none⟩ = some (.slice s2 n2 k2)) :
    Calls Try.prog 50 #[.agg #[.slice a (m + 3) cap, .slice (some ⟨b, off, none⟩) 3 capb]] w fun r w' => r = .returned (.agg #[.slice a (m + 1) cap, .slice s0 n0 k0, .slice a (m + 2) cap, .slice s1 n1 k1, .slice a (m + 3) cap, .slice s2 n2 k2]) ∧ Grew w w' := by
  have i0 : ∀ W : World, (Instr.index 99 (.agg #[.slice a (m + 1) cap, .slice a (m + 2) cap, .slice a (m + 3) cap]) (.int .i64 0)).run Try.prog W = .ok (.slice a (m + 1) cap) W := fun _ => by kernel_rfl
  have i1 : ∀ W : World, (Instr.index 99 (.agg #[.slice a (m + 1) cap, .slice a (m + 2) cap, .slice a (m + 3) cap]) (.int .i64 1)).run Try.prog W = .ok (.slice a (m + 2) cap) W := fun _ => by kernel_rfl
  have i2 : ∀ W : World, (Instr.index 99 (.agg #[.slice a (m + 1) cap, .slice a (m + 2) cap, .slice a (m + 3) cap]) (.int .i64 2)).run Try.prog W = .ok (.slice a (m + 3) cap) W := fun _ => by kernel_rfl
  go_enter Try.func50, Try.ntmps50
  go_wp2_with fail
  refine (lastChains_any a m cap _ hm hn).mono ?_
  rintro r w1 ⟨rfl, g1⟩
  have G1 := ((((Grew.refl w).alloc (.cells #[.slice a (m + 3) cap, .slice (some ⟨b, off, none⟩) 3 capb] 26)).alloc (.cells #[.slice none 0 0, .slice none 0 0, .slice none 0 0, .slice none 0 0, .slice none 0 0, .slice none 0 0] 82)).alloc (.cells #[.slice none 0 0, .slice none 0 0, .slice none 0 0, .slice none 0 0, .slice none 0 0, .slice none 0 0] 82)).trans g1
  have p1 := g1.keep (p := ⟨w.heap.size, 1, none⟩) (v := .slice (some ⟨b, off, none⟩) 3 capb) (by simp [go_sem])
  have hbl : b < w.heap.size := World.block_lt_of_cell? _ _ h0
  have t0 := g1.keep (p := ⟨w.heap.size + 1 + 1, 0, none⟩) (v := .slice none 0 0) (by simp [go_sem])
  have t1 := g1.keep (p := ⟨w.heap.size + 1 + 1, 1, none⟩) (v := .slice none 0 0) (by simp [go_sem])
  have t2 := g1.keep (p := ⟨w.heap.size + 1 + 1, 2, none⟩) (v := .slice none 0 0) (by simp [go_sem])
  have t3 := g1.keep (p := ⟨w.heap.size + 1 + 1, 3, none⟩) (v := .slice none 0 0) (by simp [go_sem])
  have t4 := g1.keep (p := ⟨w.heap.size + 1 + 1, 4, none⟩) (v := .slice none 0 0) (by simp [go_sem])
  have t5 := g1.keep (p := ⟨w.heap.size + 1 + 1, 5, none⟩) (v := .slice none 0 0) (by simp [go_sem])
  have zt : Hid (∀ i, w1.frozen? ⟨w.heap.size + 1 + 1, i, none⟩ = false) := hide (fun i => by
    rw [World.frozen?_of_block (g1.below.block (w.heap.size + 1 + 1) (by simp))]
    simp [go_sem])
  have r0 := g1.keep (p := ⟨w.heap.size + 1, 0, none⟩) (v := .slice none 0 0) (by simp [go_sem])
  have r1 := g1.keep (p := ⟨w.heap.size + 1, 1, none⟩) (v := .slice none 0 0) (by simp [go_sem])
  have r2 := g1.keep (p := ⟨w.heap.size + 1, 2, none⟩) (v := .slice none 0 0) (by simp [go_sem])
  have r3 := g1.keep (p := ⟨w.heap.size + 1, 3, none⟩) (v := .slice none 0 0) (by simp [go_sem])
  have r4 := g1.keep (p := ⟨w.heap.size + 1, 4, none⟩) (v := .slice none 0 0) (by simp [go_sem])
  have r5 := g1.keep (p := ⟨w.heap.size + 1, 5, none⟩) (v := .slice none 0 0) (by simp [go_sem])
  have zr : Hid (∀ i, w1.frozen? ⟨w.heap.size + 1, i, none⟩ = false) := hide (fun i => by
    rw [World.frozen?_of_block (g1.below.block (w.heap.size + 1) (by simp))]
    simp [go_sem])
  have HT : Hid (Tri w1 (w.heap.size + 1 + 1) 0 (.slice a (m + 1) cap) (.slice s0 n0 k0) (.slice a (m + 2) cap) (.slice s1 n1 k1) (.slice a (m + 3) cap) (.slice s2 n2 k2)) := hide ⟨t0, t1, t2, t3, t4, t5⟩
  have HR : Hid (Tri w1 (w.heap.size + 1) 0 (.slice a (m + 1) cap) (.slice s0 n0 k0) (.slice a (m + 2) cap) (.slice s1 n1 k1) (.slice a (m + 3) cap) (.slice s2 n2 k2)) := hide ⟨r0, r1, r2, r3, r4, r5⟩
  have GG := hide G1
  clear g1 G1 t0 t1 t2 t3 t4 t5 r0 r1 r2 r3 r4 r5
  go_wp2_with fail
  go_loopw [9] (fun i wr => ∃ k : Nat, k ≤ 3 ∧ i = .int .i64 k ∧ Hid (Tri wr (w.heap.size + 1 + 1) k (.slice a (m + 1) cap) (.slice s0 n0 k0) (.slice a (m + 2) cap) (.slice s1 n1 k1) (.slice a (m + 3) cap) (.slice s2 n2 k2)) ∧ Hid (Tri wr (w.heap.size + 1) 0 (.slice a (m + 1) cap) (.slice s0 n0 k0) (.slice a (m + 2) cap) (.slice s1 n1 k1) (.slice a (m + 3) cap) (.slice s2 n2 k2)) ∧ Hid (∀ i, wr.frozen? ⟨w.heap.size + 1 + 1, i, none⟩ = false) ∧ Hid (∀ i, wr.frozen? ⟨w.heap.size + 1, i, none⟩ = false) ∧ wr.cell? ⟨w.heap.size, 1, none⟩ = some (.slice (some ⟨b, off, none⟩) 3 capb) ∧ Hid (Grew w wr)) (fun i _ => 3 - (intOf i).toNat)
  case atStart => exact ⟨0, by omega, rfl, HT, HR, zt, zr, p1, GG⟩
  case round =>
    clear HT HR zt zr p1 GG
    obtain ⟨k, hk, rfl, ht, hr, ft, fr, p1, gg⟩ := hrel
    have e0 := (unhide gg).keep h0
    have e1 := (unhide gg).keep h1
    have e2 := (unhide gg).keep h2
    match k, hk with
    | 0, _ =>
      obtain ⟨t0, t1, t2, t3, t4, t5⟩ := unhide ht
      rw [if_neg (by decide)] at t0
      rw [if_neg (by decide)] at t1
      rw [if_neg (by decide)] at t2
      rw [if_neg (by decide)] at t3
      rw [if_neg (by decide)] at t4
      rw [if_neg (by decide)] at t5
      have f0 := unhide ft 0
      have f1 := unhide ft 1
      have oth : ∀ j, j ≠ w.heap.size + 1 + 1 → ((wr.setCell ⟨w.heap.size + 1 + 1, 0, none⟩ (.slice a (m + 1) cap)).setCell ⟨w.heap.size + 1 + 1, 1, none⟩ (.slice s0 n0 k0)).heap[j]? = wr.heap[j]? := fun j hj => by rw [Below.heap_setCell _ _ _ _ hj, Below.heap_setCell _ _ _ _ hj]
      have ht2 : Hid (Tri ((wr.setCell ⟨w.heap.size + 1 + 1, 0, none⟩ (.slice a (m + 1) cap)).setCell ⟨w.heap.size + 1 + 1, 1, none⟩ (.slice s0 n0 k0)) (w.heap.size + 1 + 1) 1 (.slice a (m + 1) cap) (.slice s0 n0 k0) (.slice a (m + 2) cap) (.slice s1 n1 k1) (.slice a (m + 3) cap) (.slice s2 n2 k2)) := hide (by
        refine ⟨?_, ?_, ?_, ?_, ?_, ?_⟩ <;> simp [go_sem, t0, t1, t2, t3, t4, t5])
      have hr2 : Hid (Tri ((wr.setCell ⟨w.heap.size + 1 + 1, 0, none⟩ (.slice a (m + 1) cap)).setCell ⟨w.heap.size + 1 + 1, 1, none⟩ (.slice s0 n0 k0)) (w.heap.size + 1) 0 (.slice a (m + 1) cap) (.slice s0 n0 k0) (.slice a (m + 2) cap) (.slice s1 n1 k1) (.slice a (m + 3) cap) (.slice s2 n2 k2)) := hide (by
        exact (unhide hr).block (oth (w.heap.size + 1) (by omega)))
      have ft2 : Hid (∀ i, ((wr.setCell ⟨w.heap.size + 1 + 1, 0, none⟩ (.slice a (m + 1) cap)).setCell ⟨w.heap.size + 1 + 1, 1, none⟩ (.slice s0 n0 k0)).frozen? ⟨w.heap.size + 1 + 1, i, none⟩ = false) := hide (fun i => by simp [go_sem, unhide ft i])
      have fr2 : Hid (∀ i, ((wr.setCell ⟨w.heap.size + 1 + 1, 0, none⟩ (.slice a (m + 1) cap)).setCell ⟨w.heap.size + 1 + 1, 1, none⟩ (.slice s0 n0 k0)).frozen? ⟨w.heap.size + 1, i, none⟩ = false) := hide (fun i => by rw [World.frozen?_of_block (w := wr) (oth (w.heap.size + 1) (by omega))]; exact unhide fr i)
      have p2 : ((wr.setCell ⟨w.heap.size + 1 + 1, 0, none⟩ (.slice a (m + 1) cap)).setCell ⟨w.heap.size + 1 + 1, 1, none⟩ (.slice s0 n0 k0)).cell? ⟨w.heap.size, 1, none⟩ = some (.slice (some ⟨b, off, none⟩) 3 capb) := by rw [World.cell?_of_block (w := wr) (oth w.heap.size (by omega))]; exact p1
      have gg2 : Hid (Grew w ((wr.setCell ⟨w.heap.size + 1 + 1, 0, none⟩ (.slice a (m + 1) cap)).setCell ⟨w.heap.size + 1 + 1, 1, none⟩ (.slice s0 n0 k0))) := hide (((unhide gg).setCell (p := ⟨w.heap.size + 1 + 1, 0, none⟩) (by dsimp only; omega) _).setCell (p := ⟨w.heap.size + 1 + 1, 1, none⟩) (by dsimp only; omega) _)
      clear oth ht hr ft fr gg
      go_wp2
      go_roundw
      case rel => exact ⟨1, by omega, by go_num, ht2, hr2, ft2, fr2, p2, gg2⟩
      case measure => simp [intOf]
    | 1, _ =>
      obtain ⟨t0, t1, t2, t3, t4, t5⟩ := unhide ht
      rw [if_pos (by decide)] at t0
      rw [if_pos (by decide)] at t1
      rw [if_neg (by decide)] at t2
      rw [if_neg (by decide)] at t3
      rw [if_neg (by decide)] at t4
      rw [if_neg (by decide)] at t5
      have f2 := unhide ft 2
      have f3 := unhide ft 3
      have oth : ∀ j, j ≠ w.heap.size + 1 + 1 → ((wr.setCell ⟨w.heap.size + 1 + 1, 2, none⟩ (.slice a (m + 2) cap)).setCell ⟨w.heap.size + 1 + 1, 3, none⟩ (.slice s1 n1 k1)).heap[j]? = wr.heap[j]? := fun j hj => by rw [Below.heap_setCell _ _ _ _ hj, Below.heap_setCell _ _ _ _ hj]
      have ht2 : Hid (Tri ((wr.setCell ⟨w.heap.size + 1 + 1, 2, none⟩ (.slice a (m + 2) cap)).setCell ⟨w.heap.size + 1 + 1, 3, none⟩ (.slice s1 n1 k1)) (w.heap.size + 1 + 1) 2 (.slice a (m + 1) cap) (.slice s0 n0 k0) (.slice a (m + 2) cap) (.slice s1 n1 k1) (.slice a (m + 3) cap) (.slice s2 n2 k2)) := hide (by
        refine ⟨?_, ?_, ?_, ?_, ?_, ?_⟩ <;> simp [go_sem, t0, t1, t2, t3, t4, t5])
      have hr2 : Hid (Tri ((wr.setCell ⟨w.heap.size + 1 + 1, 2, none⟩ (.slice a (m + 2) cap)).setCell ⟨w.heap.size + 1 + 1, 3, none⟩ (.slice s1 n1 k1)) (w.heap.size + 1) 0 (.slice a (m + 1) cap) (.slice s0 n0 k0) (.slice a (m + 2) cap) (.slice s1 n1 k1) (.slice a (m + 3) cap) (.slice s2 n2 k2)) := hide (by
        exact (unhide hr).block (oth (w.heap.size + 1) (by omega)))
      have ft2 : Hid (∀ i, ((wr.setCell ⟨w.heap.size + 1 + 1, 2, none⟩ (.slice a (m + 2) cap)).setCell ⟨w.heap.size + 1 + 1, 3, none⟩ (.slice s1 n1 k1)).frozen? ⟨w.heap.size + 1 + 1, i, none⟩ = false) := hide (fun i => by simp [go_sem, unhide ft i])
      have fr2 : Hid (∀ i, ((wr.setCell ⟨w.heap.size + 1 + 1, 2, none⟩ (.slice a (m + 2) cap)).setCell ⟨w.heap.size + 1 + 1, 3, none⟩ (.slice s1 n1 k1)).frozen? ⟨w.heap.size + 1, i, none⟩ = false) := hide (fun i => by rw [World.frozen?_of_block (w := wr) (oth (w.heap.size + 1) (by omega))]; exact unhide fr i)
      have p2 : ((wr.setCell ⟨w.heap.size + 1 + 1, 2, none⟩ (.slice a (m + 2) cap)).setCell ⟨w.heap.size + 1 + 1, 3, none⟩ (.slice s1 n1 k1)).cell? ⟨w.heap.size, 1, none⟩ = some (.slice (some ⟨b, off, none⟩) 3 capb) := by rw [World.cell?_of_block (w := wr) (oth w.heap.size (by omega))]; exact p1
      have gg2 : Hid (Grew w ((wr.setCell ⟨w.heap.size + 1 + 1, 2, none⟩ (.slice a (m + 2) cap)).setCell ⟨w.heap.size + 1 + 1, 3, none⟩ (.slice s1 n1 k1))) := hide (((unhide gg).setCell (p := ⟨w.heap.size + 1 + 1, 2, none⟩) (by dsimp only; omega) _).setCell (p := ⟨w.heap.size + 1 + 1, 3, none⟩) (by dsimp only; omega) _)
      clear oth ht hr ft fr gg
      go_wp2
      go_roundw
      case rel => exact ⟨2, by omega, by go_num, ht2, hr2, ft2, fr2, p2, gg2⟩
      case measure => simp [intOf]
    | 2, _ =>
      obtain ⟨t0, t1, t2, t3, t4, t5⟩ := unhide ht
      rw [if_pos (by decide)] at t0
      rw [if_pos (by decide)] at t1
      rw [if_pos (by decide)] at t2
      rw [if_pos (by decide)] at t3
      rw [if_neg (by decide)] at t4
      rw [if_neg (by decide)] at t5
      have f4 := unhide ft 4
      have f5 := unhide ft 5
      have oth : ∀ j, j ≠ w.heap.size + 1 + 1 → ((wr.setCell ⟨w.heap.size + 1 + 1, 4, none⟩ (.slice a (m + 3) cap)).setCell ⟨w.heap.size + 1 + 1, 5, none⟩ (.slice s2 n2 k2)).heap[j]? = wr.heap[j]? := fun j hj => by rw [Below.heap_setCell _ _ _ _ hj, Below.heap_setCell _ _ _ _ hj]
      have ht2 : Hid (Tri ((wr.setCell ⟨w.heap.size + 1 + 1, 4, none⟩ (.slice a (m + 3) cap)).setCell ⟨w.heap.size + 1 + 1, 5, none⟩ (.slice s2 n2 k2)) (w.heap.size + 1 + 1) 3 (.slice a (m + 1) cap) (.slice s0 n0 k0) (.slice a (m + 2) cap) (.slice s1 n1 k1) (.slice a (m + 3) cap) (.slice s2 n2 k2)) := hide (by
        refine ⟨?_, ?_, ?_, ?_, ?_, ?_⟩ <;> simp [go_sem, t0, t1, t2, t3, t4, t5])
      have hr2 : Hid (Tri ((wr.setCell ⟨w.heap.size + 1 + 1, 4, none⟩ (.slice a (m + 3) cap)).setCell ⟨w.heap.size + 1 + 1, 5, none⟩ (.slice s2 n2 k2)) (w.heap.size + 1) 0 (.slice a (m + 1) cap) (.slice s0 n0 k0) (.slice a (m + 2) cap) (.slice s1 n1 k1) (.slice a (m + 3) cap) (.slice s2 n2 k2)) := hide (by
        exact (unhide hr).block (oth (w.heap.size + 1) (by omega)))
      have ft2 : Hid (∀ i, ((wr.setCell ⟨w.heap.size + 1 + 1, 4, none⟩ (.slice a (m + 3) cap)).setCell ⟨w.heap.size + 1 + 1, 5, none⟩ (.slice s2 n2 k2)).frozen? ⟨w.heap.size + 1 + 1, i, none⟩ = false) := hide (fun i => by simp [go_sem, unhide ft i])
      have fr2 : Hid (∀ i, ((wr.setCell ⟨w.heap.size + 1 + 1, 4, none⟩ (.slice a (m + 3) cap)).setCell ⟨w.heap.size + 1 + 1, 5, none⟩ (.slice s2 n2 k2)).frozen? ⟨w.heap.size + 1, i, none⟩ = false) := hide (fun i => by rw [World.frozen?_of_block (w := wr) (oth (w.heap.size + 1) (by omega))]; exact unhide fr i)
      have p2 : ((wr.setCell ⟨w.heap.size + 1 + 1, 4, none⟩ (.slice a (m + 3) cap)).setCell ⟨w.heap.size + 1 + 1, 5, none⟩ (.slice s2 n2 k2)).cell? ⟨w.heap.size, 1, none⟩ = some (.slice (some ⟨b, off, none⟩) 3 capb) := by rw [World.cell?_of_block (w := wr) (oth w.heap.size (by omega))]; exact p1
      have gg2 : Hid (Grew w ((wr.setCell ⟨w.heap.size + 1 + 1, 4, none⟩ (.slice a (m + 3) cap)).setCell ⟨w.heap.size + 1 + 1, 5, none⟩ (.slice s2 n2 k2))) := hide (((unhide gg).setCell (p := ⟨w.heap.size + 1 + 1, 4, none⟩) (by dsimp only; omega) _).setCell (p := ⟨w.heap.size + 1 + 1, 5, none⟩) (by dsimp only; omega) _)
      clear oth ht hr ft fr gg
      go_wp2
      go_roundw
      case rel => exact ⟨3, by omega, by go_num, ht2, hr2, ft2, fr2, p2, gg2⟩
      case measure => simp [intOf]
    | 3, _ =>
      obtain ⟨t0, t1, t2, t3, t4, t5⟩ := unhide ht
      obtain ⟨r0, r1, r2, r3, r4, r5⟩ := unhide hr
      rw [if_pos (by decide)] at t0
      rw [if_neg (by decide)] at r0
      rw [if_pos (by decide)] at t1
      rw [if_neg (by decide)] at r1
      rw [if_pos (by decide)] at t2
      rw [if_neg (by decide)] at r2
      rw [if_pos (by decide)] at t3
      rw [if_neg (by decide)] at r3
      rw [if_pos (by decide)] at t4
      rw [if_neg (by decide)] at r4
      rw [if_pos (by decide)] at t5
      rw [if_neg (by decide)] at r5
      have f0 := unhide fr 0
      have f1 := unhide fr 1
      have f2 := unhide fr 2
      have f3 := unhide fr 3
      have f4 := unhide fr 4
      have f5 := unhide fr 5
      clear e0 e1 e2 p1 ht hr ft fr h0 h1 h2 i0 i1 i2
      go_wp2
      refine bodyPost_ret (by simp [results, Try.results50, go_sem, r0, r1, r2, r3, r4, r5]; try rfl) rfl ?_
      exact ⟨rfl, (((((((unhide gg).setCell (p := ⟨w.heap.size + 1, 0, none⟩) (by dsimp only; omega) _).setCell (p := ⟨w.heap.size + 1, 1, none⟩) (by dsimp only; omega) _).setCell (p := ⟨w.heap.size + 1, 2, none⟩) (by dsimp only; omega) _).setCell (p := ⟨w.heap.size + 1, 3, none⟩) (by dsimp only; omega) _).setCell (p := ⟨w.heap.size + 1, 4, none⟩) (by dsimp only; omega) _).setCell (p := ⟨w.heap.size + 1, 5, none⟩) (by dsimp only; omega) _)⟩

set_option linter.unusedVariables false
open Go.RowKit
attribute [local simp] far_const

set_option maxRecDepth 20000 in
set_option maxHeartbeats 4000000 in
theorem allEnough_any (p0 : Option Addr) (m0 q0 : Nat) (p1 : Option Addr) (m1 q1 : Nat) (p2 : Option Addr) (m2 q2 : Nat) (b0 b1 b2 : Option Addr) (c0 c1 c2 : Nat) (l0 l1 l2 : List Int) (w : World) (h0 : Ints w b0 l0) (h1 : Ints w b1 l1) (h2 : Ints w b2 l2) (n0 : l0.length ≤ 1048576) (n1 : l1.length ≤ 1048576) (n2 : l2.length ≤ 1048576) :
    Calls Try.prog 51 #[.agg #[.slice p0 m0 q0, .slice b0 l0.length c0, .slice p1 m1 q1, .slice b1 l1.length c1, .slice p2 m2 q2, .slice b2 l2.length c2], .func (.func 52) #[] #[]] w fun r w' => r = .returned (.bool (byB l0 && (byB l1 && byB l2))) ∧ Grew w w' := by
  have i0 : ∀ W : World, (Instr.index 82 (.agg #[.slice p0 m0 q0, .slice b0 l0.length c0, .slice p1 m1 q1, .slice b1 l1.length c1, .slice p2 m2 q2, .slice b2 l2.length c2]) (.int .i64 0)).run Try.prog W = .ok (.agg #[.slice p0 m0 q0, .slice b0 l0.length c0]) W := fun _ => by kernel_rfl
  have i1 : ∀ W : World, (Instr.index 82 (.agg #[.slice p0 m0 q0, .slice b0 l0.length c0, .slice p1 m1 q1, .slice b1 l1.length c1, .slice p2 m2 q2, .slice b2 l2.length c2]) (.int .i64 1)).run Try.prog W = .ok (.agg #[.slice p1 m1 q1, .slice b1 l1.length c1]) W := fun _ => by kernel_rfl
  have i2 : ∀ W : World, (Instr.index 82 (.agg #[.slice p0 m0 q0, .slice b0 l0.length c0, .slice p1 m1 q1, .slice b1 l1.length c1, .slice p2 m2 q2, .slice b2 l2.length c2]) (.int .i64 2)).run Try.prog W = .ok (.agg #[.slice p2 m2 q2, .slice b2 l2.length c2]) W := fun _ => by kernel_rfl
  have X0 : Hid (∀ W, Grew w W → Calls Try.prog 52 #[.agg #[.slice p0 m0 q0, .slice b0 l0.length c0]] W fun r w' => r = .returned (.bool (byB l0)) ∧ Grew W w') := hide (fun W g => enough_any _ rfl _ _ _ W (h0.grew g) n0)
  have X1 : Hid (∀ W, Grew w W → Calls Try.prog 52 #[.agg #[.slice p1 m1 q1, .slice b1 l1.length c1]] W fun r w' => r = .returned (.bool (byB l1)) ∧ Grew W w') := hide (fun W g => enough_any _ rfl _ _ _ W (h1.grew g) n1)
  have X2 : Hid (∀ W, Grew w W → Calls Try.prog 52 #[.agg #[.slice p2 m2 q2, .slice b2 l2.length c2]] W fun r w' => r = .returned (.bool (byB l2)) ∧ Grew W w') := hide (fun W g => enough_any _ rfl _ _ _ W (h2.grew g) n2)
  clear h0 h1 h2 n0 n1 n2
  obtain ⟨e0, he0⟩ : ∃ e, byB l0 = e := ⟨_, rfl⟩
  obtain ⟨e1, he1⟩ : ∃ e, byB l1 = e := ⟨_, rfl⟩
  obtain ⟨e2, he2⟩ : ∃ e, byB l2 = e := ⟨_, rfl⟩
  rw [he0] at X0
  rw [he1] at X1
  rw [he2] at X2
  rw [he0, he1, he2]
  clear he0 he1 he2
  go_enter Try.func51, Try.ntmps51
  go_wp2_with fail
  go_loopw [8] (fun i wr => ∃ k : Nat, k ≤ 3 ∧ i = .int .i64 k ∧ Hid ((0 < k → e0 = true) ∧ (1 < k → e1 = true) ∧ (2 < k → e2 = true)) ∧ Hid (Grew w wr)) (fun i _ => 3 - (intOf i).toNat)
  case atStart => exact ⟨0, by omega, rfl, hide ⟨by omega, by omega, by omega⟩, hide ((Grew.refl _).alloc _)⟩
  case round =>
    obtain ⟨k, hk, rfl, hb, gg⟩ := hrel
    match k, hk with
    | 0, _ =>
      cases e0 with
      | false =>
        go_wp2_with fail
        refine (unhide X0 _ ((unhide gg).alloc _)).mono ?_
        rintro r w1 ⟨rfl, g1⟩
        go_wp2
        go_ret
        exact ⟨ret_bool (by simp), ((unhide gg).alloc _).trans g1⟩
      | true =>
        go_wp2_with fail
        refine (unhide X0 _ ((unhide gg).alloc _)).mono ?_
        rintro r w1 ⟨rfl, g1⟩
        have gn := hide (((unhide gg).alloc _).trans g1)
        go_wp2
        go_roundw
        case rel => exact ⟨1, by omega, by go_num, hide ⟨fun _ => by first | rfl | trivial, by omega, by omega⟩, gn⟩
        case measure => simp [intOf]
    | 1, _ =>
      have t0 : e0 = true := (unhide hb).1 (by omega)
      cases e1 with
      | false =>
        go_wp2_with fail
        refine (unhide X1 _ ((unhide gg).alloc _)).mono ?_
        rintro r w1 ⟨rfl, g1⟩
        go_wp2
        go_ret
        exact ⟨ret_bool (by simp [t0]), ((unhide gg).alloc _).trans g1⟩
      | true =>
        go_wp2_with fail
        refine (unhide X1 _ ((unhide gg).alloc _)).mono ?_
        rintro r w1 ⟨rfl, g1⟩
        have gn := hide (((unhide gg).alloc _).trans g1)
        go_wp2
        go_roundw
        case rel => exact ⟨2, by omega, by go_num, hide ⟨fun _ => t0, fun _ => by first | rfl | trivial, by omega⟩, gn⟩
        case measure => simp [intOf]
    | 2, _ =>
      have t0 : e0 = true := (unhide hb).1 (by omega)
      have t1 : e1 = true := (unhide hb).2.1 (by omega)
      cases e2 with
      | false =>
        go_wp2_with fail
        refine (unhide X2 _ ((unhide gg).alloc _)).mono ?_
        rintro r w1 ⟨rfl, g1⟩
        go_wp2
        go_ret
        exact ⟨ret_bool (by simp [t0, t1]), ((unhide gg).alloc _).trans g1⟩
      | true =>
        go_wp2_with fail
        refine (unhide X2 _ ((unhide gg).alloc _)).mono ?_
        rintro r w1 ⟨rfl, g1⟩
        have gn := hide (((unhide gg).alloc _).trans g1)
        go_wp2
        go_roundw
        case rel => exact ⟨3, by omega, by go_num, hide ⟨fun _ => t0, fun _ => t1, fun _ => by first | rfl | trivial⟩, gn⟩
        case measure => simp [intOf]
    | 3, _ =>
      have t0 : e0 = true := (unhide hb).1 (by omega)
      have t1 : e1 = true := (unhide hb).2.1 (by omega)
      have t2 : e2 = true := (unhide hb).2.2 (by omega)
      go_wp2
      go_ret
      exact ⟨ret_bool (by rw [t0, t1, t2]; rfl), unhide gg⟩

set_option linter.unusedVariables false
open Go.RowKit
attribute [local simp] far_const

/-- A cert is ok. -/
def certB (x : Ct) : Bool := okB x.c && (rowB x.c && (decide (x.b.length = 3) && x.b.all byB))
theorem rowB_len {c : List It} (h : rowB c = true) : 3 ≤ c.length := by
  unfold rowB at h
  by_cases h3 : 3 ≤ c.length
  · exact h3
  · rw [dif_neg h3] at h; cases h
theorem three_of {b : List (List Int)} (h : b.length = 3) : ∃ l0 l1 l2, b = [l0, l1, l2] := by
  match b, h with
  | [l0, l1, l2], _ => exact ⟨l0, l1, l2, rfl⟩

set_option maxHeartbeats 2000000 in
theorem implCertOk (x : Ct) (v : Value) (w : World) (hv : CtV w v x) (hc : x.c.length ≤ 1048576) (hn : x.b.length ≤ 1048576) (hs : ShortI x.b) :
    Calls Try.prog 14 #[v] w fun r w' => r = .returned (.bool (certB x)) ∧ Grew w w' := by
  obtain ⟨a, cap, b, capb, rfl, hcap, hl, hb⟩ := hv
  have hX := fun W => hide (fun (g : Grew w W) => implChainOk a cap x.c W (hl.grew g) hc)
  cases h1 : okB x.c with
  | false =>
    have hx : Hid (certB x = false) := by show certB x = false; unfold certB; rw [h1]; rfl
    rw [h1] at hX
    clear hl hb
    go_enter Try.func14, Try.ntmps14
    go_wp2_with fail
    refine (unhide (hX _) ((Grew.refl _).alloc _)).mono ?_
    rintro r w1 ⟨rfl, g1⟩
    go_wp2
    go_ret
    exact ⟨ret_bool hx.out.symm, ((Grew.refl _).alloc _).trans g1⟩
  | true =>
    have hY := fun W => hide (fun (g : Grew w W) => endsWithRow_any a cap x.c W (hl.grew g) h1 hc)
    rw [h1] at hX
    cases h2 : rowB x.c with
    | false =>
      have hx : Hid (certB x = false) := by show certB x = false; unfold certB; rw [h2, Bool.false_and, Bool.and_false]
      rw [h2] at hY
      clear hl hb
      go_enter Try.func14, Try.ntmps14
      go_wp2_with fail
      refine (unhide (hX _) ((Grew.refl _).alloc _)).mono ?_
      rintro r w1 ⟨rfl, g1⟩
      have p0 := g1.keep (p := ⟨w.heap.size, 0, none⟩) (v := .slice a x.c.length cap) (by simp [go_sem])
      have G1 := hide (((Grew.refl w).alloc _).trans g1)
      clear g1
      go_wp2_with fail
      refine (unhide (hY _) (unhide G1)).mono ?_
      rintro r w2 ⟨rfl, g2⟩
      go_wp2
      go_ret
      exact ⟨ret_bool hx.out.symm, (unhide G1).trans g2⟩
    | true =>
      have h3l := rowB_len h2
      rw [h2] at hY
      by_cases h3 : x.b.length = 3
      · obtain ⟨l0, l1, l2, hbe⟩ := three_of h3
        obtain ⟨b0, off, s0, k0, rfl, d0, j0⟩ := hb.at (i := 0) (by omega)
        obtain ⟨b1, o1, s1, k1, ex1, d1, j1⟩ := hb.at (i := 1) (by omega)
        obtain ⟨b2, o2, s2, k2, ex2, d2, j2⟩ := hb.at (i := 2) (by omega)
        simp only [Option.some.injEq, Addr.mk.injEq, and_true] at ex1 ex2
        obtain ⟨rfl, rfl⟩ := ex1
        obtain ⟨rfl, rfl⟩ := ex2
        have hx : Hid (certB x = (byB l0 && (byB l1 && byB l2))) := by
          show certB x = _; unfold certB; rw [h1, h2, hbe]; simp
        have q0 : x.b[0] = l0 := by simp [hbe]
        have q1 : x.b[1] = l1 := by simp [hbe]
        have q2 : x.b[2] = l2 := by simp [hbe]
        rw [q0] at d0 j0
        rw [q1] at d1 j1
        rw [q2] at d2 j2
        have m0 := hs l0 (by rw [hbe]; simp)
        have m1 := hs l1 (by rw [hbe]; simp)
        have m2 := hs l2 (by rw [hbe]; simp)
        rw [Nat.add_zero] at d0
        obtain ⟨m, hm⟩ : ∃ m, x.c.length = m + 3 := ⟨x.c.length - 3, by omega⟩
        rw [hm] at hX hY hcap hc ⊢
        rw [h3]
        have hZ := fun W => hide (fun (g : Grew w W) => ballotsOf_any a m cap b0 off capb s0 s1 s2 l0.length l1.length l2.length k0 k1 k2 W hcap hc (g.keep d0) (g.keep d1) (g.keep d2))
        have hA := fun W => hide (fun (g : Grew w W) => allEnough_any a (m + 1) cap a (m + 2) cap a (m + 3) cap s0 s1 s2 k0 k1 k2 l0 l1 l2 W (j0.grew g) (j1.grew g) (j2.grew g) m0 m1 m2)
        clear hl hb d0 d1 d2 j0 j1 j2 q0 q1 q2 hbe hs h3 hm h3l
        go_enter Try.func14, Try.ntmps14
        go_wp2_with fail
        refine (unhide (hX _) ((Grew.refl _).alloc _)).mono ?_
        rintro r w1 ⟨rfl, g1⟩
        have p0 := g1.keep (p := ⟨w.heap.size, 0, none⟩) (v := .slice a (m + 3) cap) (by simp [go_sem])
        have p1 := g1.keep (p := ⟨w.heap.size, 1, none⟩) (v := .slice (some ⟨b0, off, none⟩) 3 capb) (by simp [go_sem])
        have G1 := hide (((Grew.refl w).alloc _).trans g1)
        clear g1
        go_wp2_with fail
        refine (unhide (hY _) (unhide G1)).mono ?_
        rintro r w2 ⟨rfl, g2⟩
        have p0 := g2.keep p0
        have p1 := g2.keep p1
        have G2 := hide ((unhide G1).trans g2)
        clear g2
        go_wp2_with fail
        refine (unhide (hZ _) (unhide G2)).mono ?_
        rintro r w3 ⟨rfl, g3⟩
        have G3 := hide ((unhide G2).trans g3)
        clear g3
        go_wp2_with fail
        refine (unhide (hA _) (unhide G3)).mono ?_
        rintro r w4 ⟨rfl, g4⟩
        go_wp2
        go_ret
        exact ⟨ret_bool hx.out.symm, (unhide G3).trans g4⟩
      · have hx : Hid (certB x = false) := by show certB x = false; unfold certB; rw [decide_eq_false h3, Bool.false_and, Bool.and_false, Bool.and_false]
        have hne : ((x.b.length : Int) != 3) = true := by simp; omega
        have hne2 : ¬ (x.b.length : Int) = 3 := by omega
        clear hl hb
        go_enter Try.func14, Try.ntmps14
        go_wp2_with fail
        refine (unhide (hX _) ((Grew.refl _).alloc _)).mono ?_
        rintro r w1 ⟨rfl, g1⟩
        have p0 := g1.keep (p := ⟨w.heap.size, 0, none⟩) (v := .slice a x.c.length cap) (by simp [go_sem])
        have p1 := g1.keep (p := ⟨w.heap.size, 1, none⟩) (v := .slice b x.b.length capb) (by simp [go_sem])
        have G1 := hide (((Grew.refl w).alloc _).trans g1)
        clear g1
        go_wp2_with fail
        refine (unhide (hY _) (unhide G1)).mono ?_
        rintro r w2 ⟨rfl, g2⟩
        have p1 := g2.keep p1
        have G2 := hide ((unhide G1).trans g2)
        clear g2
        go_wp2
        go_ret
        exact ⟨ret_bool hx.out.symm, unhide G2⟩

set_option linter.unusedVariables false
open Go.RowKit
attribute [local simp] far_const

theorem endI_pred (l : List Int) (k : Nat) (h : k < l.length) (h0 : 0 < k) : endI 0 (l.take k) = l[k - 1]'(by omega) := by
  have := endI_take l (k - 1) (by omega)
  rw [show k - 1 + 1 = k by omega] at this
  exact this
theorem l6In_far (x lo hi : Int) (w : World) (n : Nat) (os : Array Obj) : Calls Try.prog 71 #[.int .i64 x, .int .i64 lo, .int .i64 hi] (far w n os) fun e w'' => e = .returned (.bool (inB x lo hi)) ∧ ∃ p : Far, w'' = far w p.n p.os :=
  Calls.far ((l6In_any x lo hi _).mono (fun _ _ h => ⟨h.1, Grew.same h.2⟩))

set_option maxHeartbeats 1000000 in
theorem l13By_any (a : Option Addr) (cap : Nat) (l : List Int) (w : World) (hl : Ints w a l) (hn : l.length ≤ 1048576) :
    Calls Try.prog 54 #[.slice a l.length cap] w fun r w' => r = .returned (.bool (byB l)) ∧ Grew w w' := by
  go_enter Try.func54, Try.ntmps54
  go_wp2_with fail
  go_loopw [3] (fun i wr => ∃ k : Nat, k ≤ l.length ∧ i = .int .i64 k ∧ Hid (ascB 0 (l.take k) = true) ∧ Grew w wr) (fun i _ => l.length - (intOf i).toNat)
  case atStart => exact ⟨0, Nat.zero_le _, rfl, hide rfl, Grew.refl _⟩
  case round =>
    obtain ⟨k, hk, rfl, has, hg⟩ := hrel
    by_cases hlt : k < l.length
    · obtain ⟨b, off, rfl, hat⟩ := hl.at hlt
      have c0 := Grew.gcell (hg.keep hat)
      have hst := hide (ascB_take l k hlt)
      have hno := hide (ascB_no l k hlt)
      obtain ⟨z, hz⟩ : ∃ z, l[k] = z := ⟨_, rfl⟩
      rw [hz] at c0 hst hno
      rw [has.out] at hst
      clear hz hat
      cases h2 : inB z 1 4 with
      | false =>
        have hend : Hid (byB l = false) := by show byB l = false; unfold byB; rw [hno.out (by rw [h2, Bool.and_false])]; rfl
        have hX := fun n os => l6In_far z 1 4 wr n os
        rw [h2] at hX
        go_wp2_with fail
        refine quietly (by kernel_rfl) (by kernel_rfl) ?_
        repeat (go_big_quiet_step (first | (go_at_call 71; exact hX _ _)))
        refine wpQuiet_nil ?_
        intro _ hw'
        obtain ⟨⟨nq, osq⟩, hw''⟩ := hw'
        subst hw''
        go_wp2
        go_ret
        exact ⟨ret_bool hend.out.symm, hg.trans ⟨_, _, rfl⟩⟩
      | true =>
        have hX := fun n os => l6In_far z 1 4 wr n os
        rw [h2] at hX
        have hz1 : 1 ≤ z := by simp [inB] at h2; exact h2.1
        by_cases h0 : k = 0
        · have hna : Hid (ascB 0 (l.take (k + 1)) = true) := by
            show ascB 0 (l.take (k + 1)) = true
            rw [hst.out, h2, h0, decide_eq_true (show endI 0 (l.take 0) < z by simp [endI]; omega)]; rfl
          have hk0 : decide (0 < k) = false := by simp; omega
          have hk0' : decide ((0 : Int) < (k : Int)) = false := by simp; omega
          have hk0n : ¬ 0 < k := by omega
          clear h0
          go_wp2_with fail
          refine quietly (by kernel_rfl) (by kernel_rfl) ?_
          repeat (go_big_quiet_step (first | (go_at_call 71; exact hX _ _)))
          refine wpQuiet_nil ?_
          intro _ hw'
          obtain ⟨⟨nq, osq⟩, hw''⟩ := hw'
          subst hw''
          go_wp2
          go_roundw
          case rel => exact ⟨k + 1, by omega, by go_num, hna, hg.trans ⟨_, _, rfl⟩⟩
          case measure => simp [intOf]; omega
        · have hk0 : decide (0 < k) = true := by simp; omega
          have hk0' : 0 < k := by omega
          obtain ⟨b2, o2, ex, hat2⟩ := hl.at (i := k - 1) (by omega)
          simp only [Option.some.injEq, Addr.mk.injEq, and_true] at ex
          obtain ⟨rfl, rfl⟩ := ex
          have c1 := Grew.gcell (hg.keep hat2)
          obtain ⟨y, hy⟩ : ∃ y, l[k - 1]'(by omega) = y := ⟨_, rfl⟩
          have hpe := endI_pred l k hlt hk0'
          rw [hy] at hpe c1
          rw [hpe] at hst hno
          have hw1 : wrap64 ((k : Int) - 1) = ((k - 1 : Nat) : Int) := by rw [show (k : Int) - 1 = ((k - 1 : Nat) : Int) by omega]; unfold wrap64; omega
          clear hat2 hy hpe
          by_cases h3 : z ≤ y
          · have h3' : decide (z ≤ y) = true := by simpa using h3
            have h3'' : decide (y < z) = false := by simp; omega
            have hend : Hid (byB l = false) := by show byB l = false; unfold byB; rw [hno.out (by rw [h3'']; rfl)]; rfl
            go_wp2_with fail
            refine quietly (by kernel_rfl) (by kernel_rfl) ?_
            repeat (go_big_quiet_step (first | (go_at_call 71; exact hX _ _)))
            refine wpQuiet_nil ?_
            intro _ hw'
            obtain ⟨⟨nq, osq⟩, hw''⟩ := hw'
            subst hw''
            go_wp2
            go_ret
            exact ⟨ret_bool hend.out.symm, hg.trans ⟨_, _, rfl⟩⟩
          · have h3' : decide (z ≤ y) = false := by simpa using h3
            have h3'' : decide (y < z) = true := by simp; omega
            have hna : Hid (ascB 0 (l.take (k + 1)) = true) := by show ascB 0 (l.take (k + 1)) = true; rw [hst.out, h2, h3'']; rfl
            go_wp2_with fail
            refine quietly (by kernel_rfl) (by kernel_rfl) ?_
            repeat (go_big_quiet_step (first | (go_at_call 71; exact hX _ _)))
            refine wpQuiet_nil ?_
            intro _ hw'
            obtain ⟨⟨nq, osq⟩, hw''⟩ := hw'
            subst hw''
            go_wp2
            go_roundw
            case rel => exact ⟨k + 1, by omega, by go_num, hna, hg.trans ⟨_, _, rfl⟩⟩
            case measure => simp [intOf]; omega
    · have hle : (l.length : Int) ≤ (k : Int) := by omega
      have hall : Hid (byB l = decide (3 ≤ l.length)) := by
        show byB l = _
        have := has.out
        rw [List.take_of_length_le (by omega)] at this
        unfold byB; rw [this]; rfl
      by_cases h3 : 3 ≤ l.length
      · have h3' : decide ((3 : Int) ≤ (l.length : Int)) = true := by simp; omega
        have h3'' : (3 : Int) ≤ (l.length : Int) := by omega
        go_wp2
        go_ret
        exact ⟨ret_bool (by rw [hall.out, decide_eq_true h3]), hg⟩
      · have h3' : decide ((3 : Int) ≤ (l.length : Int)) = false := by simp; omega
        have h3'' : ¬ (3 : Int) ≤ (l.length : Int) := by omega
        go_wp2
        go_ret
        exact ⟨ret_bool (by rw [hall.out, decide_eq_false h3]), hg⟩

set_option linter.unusedVariables false
open Go.RowKit
attribute [local simp] far_const

theorem all_no {b : List (List Int)} {k : Nat} (hk : k < b.length) (h : byB b[k] = false) : b.all byB = false := by
  rw [List.all_eq_false]; exact ⟨b[k], List.getElem_mem hk, by rw [h]; decide⟩
theorem all_yes {b : List (List Int)} (h : ∀ j (hj : j < b.length), byB b[j] = true) : b.all byB = true := by
  rw [List.all_eq_true]; intro x hx
  obtain ⟨j, hj, rfl⟩ := List.getElem_of_mem hx
  exact h j hj

set_option maxHeartbeats 2000000 in
theorem specCertOk (x : Ct) (v : Value) (w : World) (hv : CtV w v x) (hc : x.c.length ≤ 1048576) (hn : x.b.length ≤ 1048576) (hs : ShortI x.b) :
    Calls Try.prog 15 #[v] w fun r w' => r = .returned (.bool (certB x)) ∧ Grew w w' := by
  obtain ⟨a, cap, b, capb, rfl, hcap, hl, hb⟩ := hv
  have hX := fun W => hide (fun (g : Grew w W) => specChainOk a cap x.c W (hl.grew g) hc)
  cases h1 : okB x.c with
  | false =>
    have hx : Hid (certB x = false) := by show certB x = false; unfold certB; rw [h1]; rfl
    rw [h1] at hX
    clear hl hb
    go_enter Try.func15, Try.ntmps15
    go_wp2_with fail
    refine (unhide (hX _) ((Grew.refl _).alloc _)).mono ?_
    rintro r w1 ⟨rfl, g1⟩
    go_wp2
    go_ret
    exact ⟨ret_bool hx.out.symm, ((Grew.refl _).alloc _).trans g1⟩
  | true =>
    rw [h1] at hX
    by_cases h2 : x.c.length < 3
    · have hx : Hid (certB x = false) := by
        show certB x = false
        have : rowB x.c = false := by unfold rowB; rw [dif_neg (by omega)]
        unfold certB; rw [this, Bool.false_and, Bool.and_false]
      have h2' : decide ((x.c.length : Int) < 3) = true := by simp; omega
      have h2'' : (x.c.length : Int) < 3 := by omega
      clear hl hb
      go_enter Try.func15, Try.ntmps15
      go_wp2_with fail
      refine (unhide (hX _) ((Grew.refl _).alloc _)).mono ?_
      rintro r w1 ⟨rfl, g1⟩
      go_wp2
      go_ret
      exact ⟨ret_bool hx.out.symm, ((Grew.refl _).alloc _).trans g1⟩
    · have h2' : decide ((x.c.length : Int) < 3) = false := by simp; omega
      have h2'' : ¬ (x.c.length : Int) < 3 := by omega
      by_cases h3 : x.b.length = 3
      · have hx : Hid (certB x = (rowB x.c && x.b.all byB)) := by
          show certB x = _; unfold certB; rw [h1, decide_eq_true h3, Bool.true_and, Bool.true_and]
        have hne : ((x.b.length : Int) != 3) = false := by simp; omega
        have hne2 : (x.b.length : Int) = 3 := by omega
        have H3 := hide h3
        have HB := hide hb
        have HL := hide hl
        have h3c : 3 ≤ x.c.length := by omega
        have k1 := okB_asc h1 (k := x.c.length - 3) (by omega)
        have k2 := okB_asc h1 (k := x.c.length - 2) (by omega)
        simp only [show x.c.length - 3 + 1 = x.c.length - 2 by omega] at k1
        simp only [show x.c.length - 2 + 1 = x.c.length - 1 by omega] at k2
        have hrow : rowB x.c = ((x.c[x.c.length - 3].e + 1 == x.c[x.c.length - 2].e) && (x.c[x.c.length - 2].e + 1 == x.c[x.c.length - 1].e)) := by unfold rowB; rw [dif_pos h3c]
        obtain ⟨X, hXe⟩ : ∃ X, (x.c[x.c.length - 3]'(by omega)).e = X := ⟨_, rfl⟩
        obtain ⟨Y, hYe⟩ : ∃ Y, (x.c[x.c.length - 2]'(by omega)).e = Y := ⟨_, rfl⟩
        obtain ⟨Z, hZe⟩ : ∃ Z, (x.c[x.c.length - 1]'(by omega)).e = Z := ⟨_, rfl⟩
        rw [hXe, hYe] at k1 hrow
        rw [hYe, hZe] at k2
        rw [hZe] at hrow
        have HRW := hide hrow
        have e3 := hide hXe
        have e2 := hide hYe
        have e1 := hide hZe
        clear hl hb h3 hrow hXe hYe hZe hne2
        go_enter Try.func15, Try.ntmps15
        go_wp2_with fail
        refine (unhide (hX _) ((Grew.refl _).alloc _)).mono ?_
        rintro r w1 ⟨rfl, g1⟩
        have p0 := g1.keep (p := ⟨w.heap.size, 0, none⟩) (v := .slice a x.c.length cap) (by simp [go_sem])
        have p1 := g1.keep (p := ⟨w.heap.size, 1, none⟩) (v := .slice b x.b.length capb) (by simp [go_sem])
        have G1 := hide (((Grew.refl w).alloc _).trans g1)
        clear g1 hX
        go_wp2_with fail
        go_loopw [4] (fun i wr => ∃ k : Nat, k ≤ 3 ∧ i = .int .i64 k ∧ Hid (∀ j (hj : j < x.b.length), j < k → byB x.b[j] = true) ∧ Grew w1 wr) (fun i _ => 3 - (intOf i).toNat)
        case atStart => exact ⟨0, by omega, rfl, hide (fun j _ h => absurd h (Nat.not_lt_zero _)), Grew.refl _⟩
        case round =>
          obtain ⟨k, hk, rfl, hno, hg⟩ := hrel
          have q0 := hg.keep p0
          have q1 := hg.keep p1
          have G2 := hide ((unhide G1).trans hg)
          by_cases hlt : k < 3
          · have hlb : k < x.b.length := by have := H3.out; omega
            have hkd : decide ((k : Int) < 3) = true := by simp; omega
            obtain ⟨b0, off, ai, ci, rfl, d0, j0⟩ := ((unhide HB).grew (unhide G2)).at hlb
            have hsk := hs x.b[k] (List.getElem_mem hlb)
            have hY := hide (l13By_any ai ci x.b[k] wr j0 hsk)
            clear j0
            cases hbk : byB x.b[k] with
            | false =>
              have hend : Hid (x.b.all byB = false) := all_no hlb hbk
              rw [hbk] at hY
              go_wp2_with fail
              refine (unhide hY).mono ?_
              rintro r w2 ⟨rfl, g2⟩
              go_wp2
              go_ret
              exact ⟨ret_bool (by rw [hx.out, hend.out, Bool.and_false]), (unhide G2).trans g2⟩
            | true =>
              have hnext : Hid (∀ j (hj : j < x.b.length), j < k + 1 → byB x.b[j] = true) := hide (fun j hj hjk => by
                by_cases e : j = k
                · subst e; exact hbk
                · exact hno.out j hj (by omega))
              rw [hbk] at hY
              go_wp2_with fail
              refine (unhide hY).mono ?_
              rintro r w2 ⟨rfl, g2⟩
              have hg2 := hg.trans g2
              go_wp2
              go_roundw
              case rel => exact ⟨k + 1, by omega, by go_num, hnext, hg2⟩
              case measure => simp [intOf]; omega
          · have hkd : decide ((k : Int) < 3) = false := by simp; omega
            have hle : (3 : Int) ≤ (k : Int) := by omega
            have hall : Hid (x.b.all byB = true) := all_yes (fun j hj => hno.out j hj (by have := H3.out; omega))
            obtain ⟨b0, o0, rfl, hat0⟩ := ((unhide HL).grew (unhide G2)).at (i := x.c.length - 3) (by omega)
            obtain ⟨b1, o1, ex1, hat1⟩ := ((unhide HL).grew (unhide G2)).at (i := x.c.length - 2) (by omega)
            obtain ⟨b2, o2, ex2, hat2⟩ := ((unhide HL).grew (unhide G2)).at (i := x.c.length - 1) (by omega)
            simp only [Option.some.injEq, Addr.mk.injEq, and_true] at ex1 ex2
            obtain ⟨rfl, rfl⟩ := ex1
            obtain ⟨rfl, rfl⟩ := ex2
            have f0 := Grew.gcell hat0.1
            have f1 := Grew.gcell hat1.1
            have f2 := Grew.gcell hat2.1
            rw [e3.out] at f0
            rw [e2.out] at f1
            rw [e1.out] at f2
            have y0 := Grew.gcell q0
            have hw1 : wrap64 ((x.c.length : Int) - 1) = ((x.c.length - 1 : Nat) : Int) := by rw [show (x.c.length : Int) - 1 = ((x.c.length - 1 : Nat) : Int) by omega]; unfold wrap64; omega
            have hw2 : wrap64 ((x.c.length : Int) - 2) = ((x.c.length - 2 : Nat) : Int) := by rw [show (x.c.length : Int) - 2 = ((x.c.length - 2 : Nat) : Int) by omega]; unfold wrap64; omega
            have hw3 : wrap64 ((x.c.length : Int) - 3) = ((x.c.length - 3 : Nat) : Int) := by rw [show (x.c.length : Int) - 3 = ((x.c.length - 3 : Nat) : Int) by omega]; unfold wrap64; omega
            have hwx : wrap64 (X + 1) = X + 1 := by unfold wrap64; omega
            have hwy : wrap64 (Y + 1) = Y + 1 := by unfold wrap64; omega
            clear hat0 hat1 hat2 e1 e2 e3
            cases hb1 : (X + 1 == Y) with
            | false =>
              have hres : Hid (certB x = false) := by show certB x = false; rw [hx.out, HRW.out, hb1]; rfl
              go_wp2_with fail
              refine quietly (by kernel_rfl) (by kernel_rfl) ?_
              repeat (go_big_quiet_step (fail))
              refine wpQuiet_nil ?_
              intro _ hw'
              obtain ⟨⟨nq, osq⟩, hw''⟩ := hw'
              subst hw''
              go_wp2
              go_ret
              exact ⟨ret_bool hres.out.symm, (unhide G2).trans ⟨_, _, rfl⟩⟩
            | true =>
              cases hb2 : (Y + 1 == Z)
              all_goals
                have hres : Hid (certB x = (Y + 1 == Z)) := by show certB x = _; rw [hx.out, HRW.out, hb1, hall.out, Bool.and_true, Bool.true_and]
                go_wp2_with fail
                refine quietly (by kernel_rfl) (by kernel_rfl) ?_
                repeat (go_big_quiet_step (fail))
                refine wpQuiet_nil ?_
                intro _ hw'
                obtain ⟨⟨nq, osq⟩, hw''⟩ := hw'
                subst hw''
                go_wp2
                go_ret
                exact ⟨ret_bool (by rw [hres.out, hb2]), (unhide G2).trans ⟨_, _, rfl⟩⟩
      · have hx : Hid (certB x = false) := by show certB x = false; unfold certB; rw [decide_eq_false h3, Bool.false_and, Bool.and_false, Bool.and_false]
        have hne : ((x.b.length : Int) != 3) = true := by simp; omega
        have hne2 : ¬ (x.b.length : Int) = 3 := by omega
        clear hl hb
        go_enter Try.func15, Try.ntmps15
        go_wp2_with fail
        refine (unhide (hX _) ((Grew.refl _).alloc _)).mono ?_
        rintro r w1 ⟨rfl, g1⟩
        have p0 := g1.keep (p := ⟨w.heap.size, 0, none⟩) (v := .slice a x.c.length cap) (by simp [go_sem])
        have p1 := g1.keep (p := ⟨w.heap.size, 1, none⟩) (v := .slice b x.b.length capb) (by simp [go_sem])
        have G1 := hide (((Grew.refl w).alloc _).trans g1)
        clear g1
        go_wp2
        go_ret
        exact ⟨ret_bool hx.out.symm, unhide G1⟩

set_option linter.unusedVariables false
open Go.RowKit
theorem ct2 {w : World} {b b' : Nat} {u v u' v' : Value} (h : CtAt w b u v) (k : CtAt w b' u' v') :
    w.cell? ⟨b, 0, none⟩ = some u ∧ w.cell? ⟨b, 1, none⟩ = some v ∧ w.cell? ⟨b', 0, none⟩ = some u' ∧ w.cell? ⟨b', 1, none⟩ = some v' := ⟨h.1, h.2, k.1, k.2⟩
end Go.Proofs.Ytjbnohepbmejkaa
