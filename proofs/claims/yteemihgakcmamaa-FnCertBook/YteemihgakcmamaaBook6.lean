/-
  Payments on what all have: what comes back, in two, around. Plain mathematics, no Go text.
-/
import Derived.Test.YteemihgakcmamaaBookA
namespace Go.Proofs.Yteemihgakcmamaa
set_option linter.unusedVariables false

theorem three_eq {a b c a' b' c' : Int} (h1 : a = a') (h2 : b = b') (h3 : c = c') : [a, b, c] = [a', b', c'] := by rw [h1, h2, h3]
theorem bpay_len (l : List Int) (f t s : Int) : (bpay l f t s).length ≤ 3 := by
  unfold bpay
  split
  · rename_i h
    have := payL_ok h.1 h.2
    obtain ⟨x, y, z, e, _⟩ := bokB_three this
    rw [e]; simp
  · simp
theorem bpay_pos {l X : List Int} {f t s : Int} (h : bpay l f t s = X) (hX : X ≠ []) : bokB l = true ∧ payB f t s = true ∧ X = payL l f t s := by
  unfold bpay at h
  split at h
  · rename_i hh; exact ⟨hh.1, hh.2, h.symm⟩
  · exact absurd h.symm hX
theorem bpay_ok {l : List Int} {f t s : Int} (h : bokB l = true) (hp : payB f t s = true) : bpay l f t s = payL l f t s := by
  unfold bpay; rw [if_pos ⟨h, hp⟩]
theorem pay12 {x y z s : Int} (h : 0 ≤ x ∧ 0 ≤ y ∧ 0 ≤ z ∧ x + y + z = 27) (h1 : 1 ≤ s) (h9 : s ≤ 9) (hs : s ≤ x) : bpay [x, y, z] 1 2 s = [x - s, y + s, z] := by
  rw [bpay_ok (bokB_of h) (by simp [payB, inB]; omega)]
  unfold payL
  rw [if_pos (by simpa using hs)]
  rfl
theorem not12 {x y z s : Int} (h : 0 ≤ x ∧ 0 ≤ y ∧ 0 ≤ z ∧ x + y + z = 27) (h1 : 1 ≤ s) (h9 : s ≤ 9) (hs : x < s) : bpay [x, y, z] 1 2 s = [x, y, z] := by
  rw [bpay_ok (bokB_of h) (by simp [payB, inB]; omega)]
  unfold payL
  rw [if_neg (by simp; omega)]
theorem pay13 {x y z s : Int} (h : 0 ≤ x ∧ 0 ≤ y ∧ 0 ≤ z ∧ x + y + z = 27) (h1 : 1 ≤ s) (h9 : s ≤ 9) (hs : s ≤ x) : bpay [x, y, z] 1 3 s = [x - s, y, z + s] := by
  rw [bpay_ok (bokB_of h) (by simp [payB, inB]; omega)]
  unfold payL
  rw [if_pos (by simpa using hs)]
  rfl
theorem not13 {x y z s : Int} (h : 0 ≤ x ∧ 0 ≤ y ∧ 0 ≤ z ∧ x + y + z = 27) (h1 : 1 ≤ s) (h9 : s ≤ 9) (hs : x < s) : bpay [x, y, z] 1 3 s = [x, y, z] := by
  rw [bpay_ok (bokB_of h) (by simp [payB, inB]; omega)]
  unfold payL
  rw [if_neg (by simp; omega)]
theorem pay21 {x y z s : Int} (h : 0 ≤ x ∧ 0 ≤ y ∧ 0 ≤ z ∧ x + y + z = 27) (h1 : 1 ≤ s) (h9 : s ≤ 9) (hs : s ≤ y) : bpay [x, y, z] 2 1 s = [x + s, y - s, z] := by
  rw [bpay_ok (bokB_of h) (by simp [payB, inB]; omega)]
  unfold payL
  rw [if_pos (by simpa using hs)]
  rfl
theorem not21 {x y z s : Int} (h : 0 ≤ x ∧ 0 ≤ y ∧ 0 ≤ z ∧ x + y + z = 27) (h1 : 1 ≤ s) (h9 : s ≤ 9) (hs : y < s) : bpay [x, y, z] 2 1 s = [x, y, z] := by
  rw [bpay_ok (bokB_of h) (by simp [payB, inB]; omega)]
  unfold payL
  rw [if_neg (by simp; omega)]
theorem pay23 {x y z s : Int} (h : 0 ≤ x ∧ 0 ≤ y ∧ 0 ≤ z ∧ x + y + z = 27) (h1 : 1 ≤ s) (h9 : s ≤ 9) (hs : s ≤ y) : bpay [x, y, z] 2 3 s = [x, y - s, z + s] := by
  rw [bpay_ok (bokB_of h) (by simp [payB, inB]; omega)]
  unfold payL
  rw [if_pos (by simpa using hs)]
  rfl
theorem not23 {x y z s : Int} (h : 0 ≤ x ∧ 0 ≤ y ∧ 0 ≤ z ∧ x + y + z = 27) (h1 : 1 ≤ s) (h9 : s ≤ 9) (hs : y < s) : bpay [x, y, z] 2 3 s = [x, y, z] := by
  rw [bpay_ok (bokB_of h) (by simp [payB, inB]; omega)]
  unfold payL
  rw [if_neg (by simp; omega)]
theorem pay31 {x y z s : Int} (h : 0 ≤ x ∧ 0 ≤ y ∧ 0 ≤ z ∧ x + y + z = 27) (h1 : 1 ≤ s) (h9 : s ≤ 9) (hs : s ≤ z) : bpay [x, y, z] 3 1 s = [x + s, y, z - s] := by
  rw [bpay_ok (bokB_of h) (by simp [payB, inB]; omega)]
  unfold payL
  rw [if_pos (by simpa using hs)]
  rfl
theorem not31 {x y z s : Int} (h : 0 ≤ x ∧ 0 ≤ y ∧ 0 ≤ z ∧ x + y + z = 27) (h1 : 1 ≤ s) (h9 : s ≤ 9) (hs : z < s) : bpay [x, y, z] 3 1 s = [x, y, z] := by
  rw [bpay_ok (bokB_of h) (by simp [payB, inB]; omega)]
  unfold payL
  rw [if_neg (by simp; omega)]
theorem pay32 {x y z s : Int} (h : 0 ≤ x ∧ 0 ≤ y ∧ 0 ≤ z ∧ x + y + z = 27) (h1 : 1 ≤ s) (h9 : s ≤ 9) (hs : s ≤ z) : bpay [x, y, z] 3 2 s = [x, y + s, z - s] := by
  rw [bpay_ok (bokB_of h) (by simp [payB, inB]; omega)]
  unfold payL
  rw [if_pos (by simpa using hs)]
  rfl
theorem not32 {x y z s : Int} (h : 0 ≤ x ∧ 0 ≤ y ∧ 0 ≤ z ∧ x + y + z = 27) (h1 : 1 ≤ s) (h9 : s ≤ 9) (hs : z < s) : bpay [x, y, z] 3 2 s = [x, y, z] := by
  rw [bpay_ok (bokB_of h) (by simp [payB, inB]; omega)]
  unfold payL
  rw [if_neg (by simp; omega)]
theorem okB_cut {l : List It} (h : okB l = true) (k : Nat) : okB (l.take k) = true := by
  simp only [okB, Bool.and_eq_true, decide_eq_true_eq] at h ⊢
  have := goB_app (l.take k) (l.drop k) 0
  rw [List.take_append_drop, h.2] at this
  refine ⟨by rw [List.length_take]; omega, ?_⟩
  cases e : goB 0 (l.take k) with
  | true => rfl
  | false => rw [e] at this; simp at this
/-- What was paid and is another book now is paid back. -/
theorem bpay_back {x y z f t s : Int} (h : 0 ≤ x ∧ 0 ≤ y ∧ 0 ≤ z ∧ x + y + z = 27) (hp : payB f t s = true) (hne : bpay [x, y, z] f t s ≠ [x, y, z]) : bpay (bpay [x, y, z] f t s) t f s = [x, y, z] := by
  obtain ⟨h1, h9, hc⟩ := payB_cases hp
  rcases hc with ⟨rfl, rfl⟩ | ⟨rfl, rfl⟩ | ⟨rfl, rfl⟩ | ⟨rfl, rfl⟩ | ⟨rfl, rfl⟩ | ⟨rfl, rfl⟩
  · by_cases hs : s ≤ x
    · rw [pay12 h h1 h9 hs, pay21 (by omega) h1 h9 (by omega)]
      exact three_eq (by omega) (by omega) (by omega)
    · exact absurd (not12 h h1 h9 (by omega)) hne
  · by_cases hs : s ≤ x
    · rw [pay13 h h1 h9 hs, pay31 (by omega) h1 h9 (by omega)]
      exact three_eq (by omega) (by omega) (by omega)
    · exact absurd (not13 h h1 h9 (by omega)) hne
  · by_cases hs : s ≤ y
    · rw [pay21 h h1 h9 hs, pay12 (by omega) h1 h9 (by omega)]
      exact three_eq (by omega) (by omega) (by omega)
    · exact absurd (not21 h h1 h9 (by omega)) hne
  · by_cases hs : s ≤ y
    · rw [pay23 h h1 h9 hs, pay32 (by omega) h1 h9 (by omega)]
      exact three_eq (by omega) (by omega) (by omega)
    · exact absurd (not23 h h1 h9 (by omega)) hne
  · by_cases hs : s ≤ z
    · rw [pay31 h h1 h9 hs, pay13 (by omega) h1 h9 (by omega)]
      exact three_eq (by omega) (by omega) (by omega)
    · exact absurd (not31 h h1 h9 (by omega)) hne
  · by_cases hs : s ≤ z
    · rw [pay32 h h1 h9 hs, pay23 (by omega) h1 h9 (by omega)]
      exact three_eq (by omega) (by omega) (by omega)
    · exact absurd (not32 h h1 h9 (by omega)) hne
/-- What is paid in two is paid. -/
theorem bpay_split {x y z f t s : Int} (h : 0 ≤ x ∧ 0 ≤ y ∧ 0 ≤ z ∧ x + y + z = 27) (hp : payB f t s = true) (h2 : 2 ≤ s) (hne : bpay [x, y, z] f t s ≠ [x, y, z]) :
    bpay (bpay [x, y, z] f t 1) f t (s - 1) = bpay [x, y, z] f t s ∧ bpay (bpay [x, y, z] f t (s - 1)) f t 1 = bpay [x, y, z] f t s := by
  obtain ⟨h1, h9, hc⟩ := payB_cases hp
  rcases hc with ⟨rfl, rfl⟩ | ⟨rfl, rfl⟩ | ⟨rfl, rfl⟩ | ⟨rfl, rfl⟩ | ⟨rfl, rfl⟩ | ⟨rfl, rfl⟩
  · by_cases hs : s ≤ x
    · rw [pay12 h h1 h9 hs, pay12 h (by omega) (by omega) (show 1 ≤ x by omega), pay12 h (by omega) (by omega) (show s - 1 ≤ x by omega), pay12 (by omega) (by omega) (by omega) (by omega), pay12 (by omega) (by omega) (by omega) (by omega)]
      exact ⟨three_eq (by omega) (by omega) (by omega), three_eq (by omega) (by omega) (by omega)⟩
    · exact absurd (not12 h h1 h9 (by omega)) hne
  · by_cases hs : s ≤ x
    · rw [pay13 h h1 h9 hs, pay13 h (by omega) (by omega) (show 1 ≤ x by omega), pay13 h (by omega) (by omega) (show s - 1 ≤ x by omega), pay13 (by omega) (by omega) (by omega) (by omega), pay13 (by omega) (by omega) (by omega) (by omega)]
      exact ⟨three_eq (by omega) (by omega) (by omega), three_eq (by omega) (by omega) (by omega)⟩
    · exact absurd (not13 h h1 h9 (by omega)) hne
  · by_cases hs : s ≤ y
    · rw [pay21 h h1 h9 hs, pay21 h (by omega) (by omega) (show 1 ≤ y by omega), pay21 h (by omega) (by omega) (show s - 1 ≤ y by omega), pay21 (by omega) (by omega) (by omega) (by omega), pay21 (by omega) (by omega) (by omega) (by omega)]
      exact ⟨three_eq (by omega) (by omega) (by omega), three_eq (by omega) (by omega) (by omega)⟩
    · exact absurd (not21 h h1 h9 (by omega)) hne
  · by_cases hs : s ≤ y
    · rw [pay23 h h1 h9 hs, pay23 h (by omega) (by omega) (show 1 ≤ y by omega), pay23 h (by omega) (by omega) (show s - 1 ≤ y by omega), pay23 (by omega) (by omega) (by omega) (by omega), pay23 (by omega) (by omega) (by omega) (by omega)]
      exact ⟨three_eq (by omega) (by omega) (by omega), three_eq (by omega) (by omega) (by omega)⟩
    · exact absurd (not23 h h1 h9 (by omega)) hne
  · by_cases hs : s ≤ z
    · rw [pay31 h h1 h9 hs, pay31 h (by omega) (by omega) (show 1 ≤ z by omega), pay31 h (by omega) (by omega) (show s - 1 ≤ z by omega), pay31 (by omega) (by omega) (by omega) (by omega), pay31 (by omega) (by omega) (by omega) (by omega)]
      exact ⟨three_eq (by omega) (by omega) (by omega), three_eq (by omega) (by omega) (by omega)⟩
    · exact absurd (not31 h h1 h9 (by omega)) hne
  · by_cases hs : s ≤ z
    · rw [pay32 h h1 h9 hs, pay32 h (by omega) (by omega) (show 1 ≤ z by omega), pay32 h (by omega) (by omega) (show s - 1 ≤ z by omega), pay32 (by omega) (by omega) (by omega) (by omega), pay32 (by omega) (by omega) (by omega) (by omega)]
      exact ⟨three_eq (by omega) (by omega) (by omega), three_eq (by omega) (by omega) (by omega)⟩
    · exact absurd (not32 h h1 h9 (by omega)) hne
/-- What goes around comes back. -/
theorem bpay_ring {x y z f t s : Int} (h : 0 ≤ x ∧ 0 ≤ y ∧ 0 ≤ z ∧ x + y + z = 27) (hp : payB f t s = true) (hne : bpay [x, y, z] f t s ≠ [x, y, z]) : bpay (bpay (bpay [x, y, z] f t s) t (6 - f - t) s) (6 - f - t) f s = [x, y, z] := by
  obtain ⟨h1, h9, hc⟩ := payB_cases hp
  rcases hc with ⟨rfl, rfl⟩ | ⟨rfl, rfl⟩ | ⟨rfl, rfl⟩ | ⟨rfl, rfl⟩ | ⟨rfl, rfl⟩ | ⟨rfl, rfl⟩
  · rw [show (6 - 1 - 2 : Int) = 3 from rfl]
    by_cases hs : s ≤ x
    · rw [pay12 h h1 h9 hs, pay23 (by omega) h1 h9 (by omega), pay31 (by omega) h1 h9 (by omega)]
      exact three_eq (by omega) (by omega) (by omega)
    · exact absurd (not12 h h1 h9 (by omega)) hne
  · rw [show (6 - 1 - 3 : Int) = 2 from rfl]
    by_cases hs : s ≤ x
    · rw [pay13 h h1 h9 hs, pay32 (by omega) h1 h9 (by omega), pay21 (by omega) h1 h9 (by omega)]
      exact three_eq (by omega) (by omega) (by omega)
    · exact absurd (not13 h h1 h9 (by omega)) hne
  · rw [show (6 - 2 - 1 : Int) = 3 from rfl]
    by_cases hs : s ≤ y
    · rw [pay21 h h1 h9 hs, pay13 (by omega) h1 h9 (by omega), pay32 (by omega) h1 h9 (by omega)]
      exact three_eq (by omega) (by omega) (by omega)
    · exact absurd (not21 h h1 h9 (by omega)) hne
  · rw [show (6 - 2 - 3 : Int) = 1 from rfl]
    by_cases hs : s ≤ y
    · rw [pay23 h h1 h9 hs, pay31 (by omega) h1 h9 (by omega), pay12 (by omega) h1 h9 (by omega)]
      exact three_eq (by omega) (by omega) (by omega)
    · exact absurd (not23 h h1 h9 (by omega)) hne
  · rw [show (6 - 3 - 1 : Int) = 2 from rfl]
    by_cases hs : s ≤ z
    · rw [pay31 h h1 h9 hs, pay12 (by omega) h1 h9 (by omega), pay23 (by omega) h1 h9 (by omega)]
      exact three_eq (by omega) (by omega) (by omega)
    · exact absurd (not31 h h1 h9 (by omega)) hne
  · rw [show (6 - 3 - 2 : Int) = 1 from rfl]
    by_cases hs : s ≤ z
    · rw [pay32 h h1 h9 hs, pay21 (by omega) h1 h9 (by omega), pay13 (by omega) h1 h9 (by omega)]
      exact three_eq (by omega) (by omega) (by omega)
    · exact absurd (not32 h h1 h9 (by omega)) hne
end Go.Proofs.Yteemihgakcmamaa
