/-
  Reading a line: numbers and payments.
-/
import Derived.Test.YtfonpbglnkggfaaDoorRead1
import Derived.Test.YtfonpbglnkggfaaDoorText1
import Derived.Deep.RegionWith
namespace Go.Proofs.YtfonpbglnkggfaaDoor
set_option linter.unusedVariables false
open Go.RowKit
attribute [local simp] far_const

theorem bt1 (a : UInt8) (h : 0 < (bt [a]).size) : (bt [a])[0]'h = a := rfl
theorem bt2a (a b : UInt8) (h : 0 < (bt [a, b]).size) : (bt [a, b])[0]'h = a := rfl
theorem bt2b (a b : UInt8) (h : 1 < (bt [a, b]).size) : (bt [a, b])[1]'h = b := rfl
set_option maxHeartbeats 1000000 in
theorem numberOf_one (a : UInt8) (w : World) : Calls Tryd.prog 37 #[.string (bt [a])] w fun r w' => ∃ n : Int, r = .returned (.int .i64 n) ∧ (48 ≤ a.toNat → a.toNat ≤ 57 → n = (a.toNat : Int) - 48) ∧ w' = w := by
  go_enter Tryd.func37, Tryd.ntmps37
  go_wp2_with fail
  go_rounds 2
  all_goals
    go_ret
    refine ⟨_, rfl, fun h1 h2 => ?_, rfl⟩
    (simp only [bt1] at *) <;> omega
set_option maxHeartbeats 2000000 in
theorem numberOf_two (a b : UInt8) (w : World) : Calls Tryd.prog 37 #[.string (bt [a, b])] w fun r w' => ∃ n : Int, r = .returned (.int .i64 n) ∧ (48 ≤ a.toNat → a.toNat ≤ 57 → 48 ≤ b.toNat → b.toNat ≤ 57 → n = 10 * ((a.toNat : Int) - 48) + ((b.toNat : Int) - 48)) ∧ w' = w := by
  go_enter Tryd.func37, Tryd.ntmps37
  go_wp2_with fail
  go_rounds 3
  all_goals
    go_ret
    refine ⟨_, rfl, fun h1 h2 h3 h4 => ?_, rfl⟩
    (simp only [bt2a, bt2b] at *) <;> omega
set_option maxHeartbeats 1000000 in
theorem numberOf_not (s : ByteArray) (w : World) (h : s.size = 0 ∨ 2 < s.size) (hs : s.size ≤ 1048576) : Calls Tryd.prog 37 #[.string s] w fun r w' => ∃ n : Int, r = .returned (.int .i64 n) ∧ w' = w := by
  rcases h with h | h
  · have h1 : decide ((s.size : Int) < 1) = true := by simp; omega
    go_enter Tryd.func37, Tryd.ntmps37
    go_wp2
    go_ret
    exact ⟨_, rfl, rfl⟩
  · have h1 : decide ((s.size : Int) < 1) = false := by simp; omega
    have h2 : decide ((2 : Int) < (s.size : Int)) = true := by simp; omega
    go_enter Tryd.func37, Tryd.ntmps37
    go_wp2
    go_ret
    exact ⟨_, rfl, rfl⟩
theorem decL_fig {n : Nat} (h : n < 10) : (UInt8.ofNat (48 + n)).toNat = 48 + n := by simp; omega
theorem numberOf_any (l : List UInt8) (w : World) (hs : l.length ≤ 1048576) : Calls Tryd.prog 37 #[.string (bt l)] w fun r w' => ∃ n : Int, r = .returned (.int .i64 n) ∧ (∀ k, k < 100 → l = decL k → n = (k : Int)) ∧ w' = w := by
  match l, hs with
  | [], _ =>
    refine (numberOf_not (bt []) w (.inl rfl) (by simp [ByteArray.size])).mono ?_
    rintro r w' ⟨n, rfl, rfl⟩
    exact ⟨n, rfl, fun k hk h => by unfold decL at h; split at h <;> simp at h, rfl⟩
  | [a], _ =>
    refine (numberOf_one a w).mono ?_
    rintro r w' ⟨n, rfl, hn, rfl⟩
    refine ⟨n, rfl, fun k hk h => ?_, rfl⟩
    unfold decL at h
    split at h
    · rename_i h10
      simp only [List.cons.injEq, and_true] at h
      have := decL_fig h10
      rw [← h] at this
      have := hn (by omega) (by omega)
      omega
    · simp at h
  | [a, b], _ =>
    refine (numberOf_two a b w).mono ?_
    rintro r w' ⟨n, rfl, hn, rfl⟩
    refine ⟨n, rfl, fun k hk h => ?_, rfl⟩
    unfold decL at h
    split at h
    · simp at h
    · simp only [List.cons.injEq, and_true] at h
      have h1 := decL_fig (show k / 10 < 10 by omega)
      have h2 := decL_fig (show k % 10 < 10 by omega)
      rw [← h.1] at h1
      rw [← h.2] at h2
      have := hn (by omega) (by omega) (by omega) (by omega)
      omega
  | a :: b :: c :: r, hs =>
    refine (numberOf_not (bt (a :: b :: c :: r)) w (.inr (by simp [ByteArray.size])) (by simpa [ByteArray.size] using hs)).mono ?_
    rintro r w' ⟨n, rfl, rfl⟩
    exact ⟨n, rfl, fun k hk h => by unfold decL at h; split at h <;> simp at h, rfl⟩

set_option maxHeartbeats 2000000 in
theorem payOf_three (a b c : UInt8) (w : World) : Calls Tryd.prog 38 #[.string (bt [a, b, c])] w fun r w' => ∃ f t s : Int, r = .returned (.agg #[.int .i64 f, .int .i64 t, .int .i64 s]) ∧ (∀ x y z, x < 10 → y < 10 → z < 10 → [a, b, c] = decL x ++ decL y ++ decL z → f = (x : Int) ∧ t = (y : Int) ∧ s = (z : Int)) ∧ Grew w w' := by
  obtain ⟨T, hT⟩ : ∃ T, T = bt [a, b, c] := ⟨_, rfl⟩
  have e1 : T.extract 0 1 = bt [a] := by rw [hT]; rfl
  have e2 : T.extract 1 2 = bt [b] := by rw [hT]; rfl
  have e3 : T.extract 2 3 = bt [c] := by rw [hT]; rfl
  have hsz : T.size = 3 := by rw [hT]; rfl
  rw [← hT]
  clear hT
  go_enter Tryd.func38, Tryd.ntmps38
  go_wp2_with fail
  go_region_with (go_at_call 37; refine (numberOf_any _ _ (by simp)).mono ?_; rintro e w' ⟨n, rfl, hn, rfl⟩)
  rename_i n1 hn1 n2 hn2
  go_wp2
  go_returns
  refine ⟨n1, n2, n, rfl, fun x y z hx hy hz he => ?_, ((Grew.refl _).alloc _).drew⟩
  have d1 : decL x = [UInt8.ofNat (48 + x)] := by unfold decL; rw [if_pos hx]
  have d2 : decL y = [UInt8.ofNat (48 + y)] := by unfold decL; rw [if_pos hy]
  have d3 : decL z = [UInt8.ofNat (48 + z)] := by unfold decL; rw [if_pos hz]
  rw [d1, d2, d3] at he
  simp only [List.cons_append, List.nil_append, List.cons.injEq, and_true] at he
  exact ⟨hn1 x (by omega) (by rw [d1, he.1]), hn2 y (by omega) (by rw [d2, he.2.1]), hn z (by omega) (by rw [d3, he.2.2])⟩
set_option maxHeartbeats 1000000 in
theorem payOf_not (s : ByteArray) (w : World) (h : s.size ≠ 3) : Calls Tryd.prog 38 #[.string s] w fun r w' => r = .returned (.agg #[.int .i64 0, .int .i64 0, .int .i64 0]) ∧ Grew w w' := by
  have h1 : ((s.size : Int) != 3) = true := by simp; omega
  go_enter Tryd.func38, Tryd.ntmps38
  go_wp2
  go_returns
  exact ⟨rfl, (Grew.refl _).alloc _⟩
theorem payOf_any (l : List UInt8) (w : World) : Calls Tryd.prog 38 #[.string (bt l)] w fun r w' => ∃ f t s : Int, r = .returned (.agg #[.int .i64 f, .int .i64 t, .int .i64 s]) ∧ (∀ x y z, x < 10 → y < 10 → z < 10 → l = decL x ++ decL y ++ decL z → f = (x : Int) ∧ t = (y : Int) ∧ s = (z : Int)) ∧ Grew w w' := by
  by_cases h : l.length = 3
  · match l, h with
    | [a, b, c], _ => exact payOf_three a b c w
  · refine (payOf_not (bt l) w (by simpa [ByteArray.size] using h)).mono ?_
    rintro r w' ⟨rfl, g⟩
    refine ⟨0, 0, 0, rfl, fun x y z hx hy hz he => absurd ?_ h, g⟩
    rw [he]; unfold decL; rw [if_pos hx, if_pos hy, if_pos hz]; rfl
end Go.Proofs.YtfonpbglnkggfaaDoor
