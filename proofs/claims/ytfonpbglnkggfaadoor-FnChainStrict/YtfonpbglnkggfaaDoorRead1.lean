/-
  Reading a line: where it ends, what it tells.
-/
import Derived.Test.YtfonpbglnkggfaaDoorPay
import Derived.Lib.Bytealg
namespace Go.Proofs.YtfonpbglnkggfaaDoor
set_option linter.unusedVariables false
open Go.RowKit
attribute [local simp] far_const

theorem indexByte_any (s : ByteArray) (c : UInt8) (w : World) : Calls Tryd.prog 45 #[.string s, .int .u8 (c.toNat : Int)] w fun r w' => r = .returned (.int .i64 (Lib.indexByte s.data.toList c)) ∧ w' = w := by
  have hx := @run_callFunc_extern Tryd.prog 50 _ Extern.BytealgIndexByte.indexByte Tryd.func50 (by kernel_rfl) (by kernel_rfl) (by kernel_rfl) (by kernel_rfl)
  have hr := fun w => Lib.run_indexByteString (P := Tryd.prog) s (c.toNat : Int) w
  have e : ((c.toNat : Int)).toNat.toUInt8 = c := by simp
  rw [e] at hr
  clear e
  go_enter Tryd.func45, Tryd.ntmps45
  go_wp2
  go_ret
  exact ⟨rfl, rfl⟩

theorem byte0 (c : UInt8) (h : 0 < (⟨#[c]⟩ : ByteArray).size) : (⟨#[c]⟩ : ByteArray)[0]'h = c := rfl

set_option maxHeartbeats 1000000 in
theorem index_any (s : ByteArray) (c : UInt8) (w : World) (hs : s.size ≤ 1048576) : Calls Tryd.prog 42 #[.string s, .string ⟨#[c]⟩] w fun r w' => r = .returned (.int .i64 (Lib.indexByte s.data.toList c)) ∧ w' = w := by
  cases he : (([c] : List UInt8) == s.toList) with
  | true =>
    have hz : Hid (Lib.indexByte s.data.toList c = 0) := by
      show Lib.indexByte s.data.toList c = 0
      have : s.data.toList = [c] := by rw [← ByteArray.toList_eq]; exact (by simpa using he : [c] = s.toList).symm
      rw [this]; simp [Lib.indexByte]
    go_enter Tryd.func42, Tryd.ntmps42
    go_wp2
    go_ret
    exact ⟨by rw [hz.out]; rfl, rfl⟩
  | false =>
    go_enter Tryd.func42, Tryd.ntmps42
    go_wp2_with fail
    rw [byte0]
    refine (indexByte_any s c _).mono ?_
    rintro r w' ⟨rfl, rfl⟩
    go_wp2
    go_ret
    exact ⟨rfl, rfl⟩
theorem strIndex_any (s : ByteArray) (c : UInt8) (w : World) (hs : s.size ≤ 1048576) : Calls Tryd.prog 34 #[.string s, .string ⟨#[c]⟩] w fun r w' => r = .returned (.int .i64 (Lib.indexByte s.data.toList c)) ∧ w' = w := by
  go_enter Tryd.func34, Tryd.ntmps34
  go_wp2_with fail
  refine (index_any s c _ hs).mono ?_
  rintro r w' ⟨rfl, rfl⟩
  go_wp2
  go_ret
  exact ⟨rfl, rfl⟩

/-- The bytes of a text. -/
abbrev bt (l : List UInt8) : ByteArray := ⟨l.toArray⟩
theorem idx_none (l : List UInt8) (c : UInt8) (h : c ∉ l) : Lib.indexByte l c = -1 := by
  induction l with
  | nil => rfl
  | cons b r ih =>
    simp only [List.mem_cons, not_or] at h
    have hb : (b == c) = false := by simpa using fun e => h.1 e.symm
    simp [Lib.indexByte, hb, ih h.2]
theorem idx_some (l r : List UInt8) (c : UInt8) (h : c ∉ l) : Lib.indexByte (l ++ c :: r) c = l.length := by
  induction l with
  | nil => simp [Lib.indexByte]
  | cons b s ih =>
    simp only [List.mem_cons, not_or] at h
    have hb : (b == c) = false := by simpa using fun e => h.1 e.symm
    have := ih h.2
    simp only [List.cons_append, Lib.indexByte, hb, this]
    simp
/-- A text is cut where a byte comes first, or it has none. -/
theorem idx_cases (l : List UInt8) (c : UInt8) : c ∉ l ∨ ∃ a r, l = a ++ c :: r ∧ c ∉ a := by
  induction l with
  | nil => exact .inl (by simp)
  | cons b s ih =>
    by_cases hb : b = c
    · exact .inr ⟨[], s, by simp [hb], by simp⟩
    · rcases ih with h | ⟨a, r, h, ha⟩
      · exact .inl (by simp only [List.mem_cons, not_or]; exact ⟨fun e => hb e.symm, h⟩)
      · exact .inr ⟨b :: a, r, by simp [h], by simp only [List.mem_cons, not_or]; exact ⟨fun e => hb e.symm, ha⟩⟩

set_option maxHeartbeats 1000000 in
theorem cutLine_none (l : List UInt8) (w : World) (hs : l.length ≤ 1048576) (h : (10 : UInt8) ∉ l) : Calls Tryd.prog 27 #[.string (bt l)] w fun r w' => r = .returned (.tuple #[.string (bt l), .string ⟨#[]⟩]) ∧ Grew w w' := by
  have hi : Lib.indexByte (bt l).data.toList 10 = -1 := by simpa using idx_none l 10 h
  go_enter Tryd.func27, Tryd.ntmps27
  go_wp2_with fail
  refine (strIndex_any (bt l) 10 _ (by simpa [ByteArray.size] using hs)).mono ?_
  rintro r w' ⟨rfl, rfl⟩
  rw [hi]
  go_wp2
  go_ret2
  exact ⟨rfl, Grew.refl _⟩
set_option maxHeartbeats 1000000 in
theorem cutLine_some (a r : List UInt8) (w : World) (hs : (a ++ 10 :: r).length ≤ 1048576) (h : (10 : UInt8) ∉ a) : Calls Tryd.prog 27 #[.string (bt (a ++ 10 :: r))] w fun e w' => e = .returned (.tuple #[.string (bt (a ++ [10])), .string (bt r)]) ∧ Grew w w' := by
  have hi : Lib.indexByte (bt (a ++ 10 :: r)).data.toList 10 = a.length := by simpa using idx_some a r 10 h
  obtain ⟨T, hT⟩ : ∃ T, T = bt (a ++ 10 :: r) := ⟨_, rfl⟩
  have hsz : T.size = a.length + 1 + r.length := by rw [hT]; simp [ByteArray.size]; omega
  have e1 : T.extract 0 (a.length + 1) = bt (a ++ [10]) := by
    rw [hT]; apply ByteArray.ext; simp [ByteArray.data_extract]
    rw [show a ++ 10 :: r = (a ++ [10]) ++ r by simp]
    exact List.take_left' (by simp)
  have e2 : T.extract (a.length + 1) T.size = bt r := by
    rw [hsz, hT]; apply ByteArray.ext; apply Array.toList_inj.1
    rw [ByteArray.data_extract, Array.toList_extract]
    simp [List.extract]
  rw [← hT] at hi ⊢
  have hlen : a.length + 1 ≤ T.size := by omega
  have hsm : T.size ≤ 1048576 := by rw [hsz]; simp at hs; omega
  have E := hide (And.intro e1 e2)
  have HT := hide hsz
  clear hT e1 e2 hsz
  go_enter Tryd.func27, Tryd.ntmps27
  go_wp2_with fail
  refine (strIndex_any T 10 _ hsm).mono ?_
  rintro r' w' ⟨rfl, rfl⟩
  rw [hi]
  have hne : (((a.length : Int) + 1) == 0) = false := by simp; omega
  clear hi
  go_wp2_with fail
  refine quietly (by kernel_rfl) (by kernel_rfl) ?_
  repeat (go_big_quiet_step (first | fail))
  refine wpQuiet_nil ?_
  intro _ hw'
  obtain ⟨⟨nq, osq⟩, hw''⟩ := hw'
  subst hw''
  go_wp2
  go_ret2
  exact ⟨by rw [← (unhide E).1, ← (unhide E).2]; rfl, ⟨_, _, rfl⟩⟩
end Go.Proofs.YtfonpbglnkggfaaDoor
