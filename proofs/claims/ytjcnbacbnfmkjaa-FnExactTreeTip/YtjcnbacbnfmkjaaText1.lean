/-
  Small numbers in decimals, in the library and in the specification.
-/
import Derived.Test.YtjcnbacbnfmkjaaPay
import Derived.Laws.BytesArg
import Derived.Deep.RegionWith
namespace Go.Proofs.Ytjcnbacbnfmkjaa
set_option linter.unusedVariables false
open Go.RowKit
attribute [local simp] far_const

/-- A number of one figure, or two. -/
def decL (n : Nat) : List UInt8 := if n < 10 then [UInt8.ofNat (48 + n)] else [UInt8.ofNat (48 + n / 10), UInt8.ofNat (48 + n % 10)]
def decB (n : Nat) : ByteArray := ⟨(decL n).toArray⟩

theorem tab_one : ∀ n, n < 10 → (⟨#[48, 49, 50, 51, 52, 53, 54, 55, 56, 57, 97, 98, 99, 100, 101, 102, 103, 104, 105, 106, 107, 108, 109, 110, 111, 112, 113, 114, 115, 116, 117, 118, 119, 120, 121, 122]⟩ : ByteArray).extract n (n + 1) = decB n := by decide +kernel

set_option maxHeartbeats 400000 in
theorem small_one (n : Nat) (w : World) (hn : n < 10) : Calls Try.prog 148 #[.int .i64 n] w fun r w' => r = .returned (.string (decB n)) ∧ w' = w := by
  go_enter Try.func148, Try.ntmps148
  go_wp2
  go_ret
  exact ⟨congrArg (fun b => Ending.returned (.string b)) (tab_one n hn), rfl⟩
set_option maxRecDepth 100000 in
theorem tab_two : ∀ n, n < 100 → 10 ≤ n → (⟨#[48, 48, 48, 49, 48, 50, 48, 51, 48, 52, 48, 53, 48, 54, 48, 55, 48, 56, 48, 57, 49, 48, 49, 49, 49, 50, 49, 51, 49, 52, 49, 53, 49, 54, 49, 55, 49, 56, 49, 57, 50, 48, 50, 49, 50, 50, 50, 51, 50, 52, 50, 53, 50, 54, 50, 55, 50, 56, 50, 57, 51, 48, 51, 49, 51, 50, 51, 51, 51, 52, 51, 53, 51, 54, 51, 55, 51, 56, 51, 57, 52, 48, 52, 49, 52, 50, 52, 51, 52, 52, 52, 53, 52, 54, 52, 55, 52, 56, 52, 57, 53, 48, 53, 49, 53, 50, 53, 51, 53, 52, 53, 53, 53, 54, 53, 55, 53, 56, 53, 57, 54, 48, 54, 49, 54, 50, 54, 51, 54, 52, 54, 53, 54, 54, 54, 55, 54, 56, 54, 57, 55, 48, 55, 49, 55, 50, 55, 51, 55, 52, 55, 53, 55, 54, 55, 55, 55, 56, 55, 57, 56, 48, 56, 49, 56, 50, 56, 51, 56, 52, 56, 53, 56, 54, 56, 55, 56, 56, 56, 57, 57, 48, 57, 49, 57, 50, 57, 51, 57, 52, 57, 53, 57, 54, 57, 55, 57, 56, 57, 57]⟩ : ByteArray).extract (n * 2) (n * 2 + 2) = decB n := by decide +kernel

set_option maxRecDepth 100000 in
set_option maxHeartbeats 1000000 in
theorem small_two (n : Nat) (w : World) (hn : n < 100) (hn' : 10 ≤ n) : Calls Try.prog 148 #[.int .i64 n] w fun r w' => r = .returned (.string (decB n)) ∧ w' = w := by
  go_enter Try.func148, Try.ntmps148
  go_wp2
  go_ret
  exact ⟨congrArg (fun b => Ending.returned (.string b)) (tab_two n hn hn'), rfl⟩
theorem small_any (n : Nat) (w : World) (hn : n < 100) : Calls Try.prog 148 #[.int .i64 n] w fun r w' => r = .returned (.string (decB n)) ∧ w' = w := by
  by_cases h : n < 10
  · exact small_one n w h
  · exact small_two n w hn (by omega)

theorem format_any (n : Nat) (w : World) (hn : n < 100) : Calls Try.prog 147 #[.int .i64 n, .int .i64 10] w fun r w' => r = .returned (.string (decB n)) ∧ w' = w := by
  go_enter Try.func147, Try.ntmps147
  go_wp2_with fail
  refine (small_any n w hn).mono ?_
  rintro r w' ⟨rfl, rfl⟩
  go_wp2
  go_ret
  exact ⟨rfl, rfl⟩
theorem itoa1_any (n : Nat) (w : World) (hn : n < 100) : Calls Try.prog 146 #[.int .i64 n] w fun r w' => r = .returned (.string (decB n)) ∧ w' = w := by
  go_enter Try.func146, Try.ntmps146
  go_wp2_with fail
  refine (format_any n w hn).mono ?_
  rintro r w' ⟨rfl, rfl⟩
  go_wp2
  go_ret
  exact ⟨rfl, rfl⟩
theorem itoa_any (n : Nat) (w : World) (hn : n < 100) : Calls Try.prog 145 #[.int .i64 n] w fun r w' => r = .returned (.string (decB n)) ∧ w' = w := by
  go_enter Try.func145, Try.ntmps145
  go_wp2_with fail
  refine (itoa1_any n w hn).mono ?_
  rintro r w' ⟨rfl, rfl⟩
  go_wp2
  go_ret
  exact ⟨rfl, rfl⟩

theorem conv_one (z : Int) (W : World) (b : Nat) (h : W.cell? ⟨b, 0, none⟩ = some (.int .u8 z)) : (convert 54 9 (.slice (some ⟨b, 0, none⟩) 1 1)).run Try.prog W = .ok (.string (strOfNums [z])) W :=
  run_convert_bytes_arg (P := Try.prog) W 54 5 Try.underlying54 Try.underlying5 b 0 1 1 [z] rfl (fun i hi => by
    obtain rfl : i = 0 := by omega
    simpa using h) 9 Try.underlying9
theorem dec_one (x : Int) (h0 : 0 ≤ x) (h1 : x < 10) : strOfNums [48 + x] = decB x.toNat := by
  obtain ⟨n, rfl⟩ := Int.eq_ofNat_of_zero_le h0
  have hn : n < 10 := by omega
  simp only [strOfNums, decB, decL, List.map_cons, List.map_nil, Int.toNat_natCast, if_pos hn]
  congr 3
theorem decB_size (n : Nat) : (decB n).size ≤ 2 := by
  unfold decB decL; split <;> simp [ByteArray.size]
theorem dec_two (n : Nat) (hn : n < 100) (hn' : 10 ≤ n) : decB ((n : Int) / 10).toNat ++ strOfNums [48 + (n : Int) % 10] = decB n := by
  have e1 : ((n : Int) / 10).toNat = n / 10 := by omega
  have e2 : (48 + (n : Int) % 10).toNat = 48 + n % 10 := by omega
  have h1 : n / 10 < 10 := by omega
  have h2 : ¬ n < 10 := by omega
  rw [e1]
  simp only [strOfNums, decB, decL, List.map_cons, List.map_nil, e2, if_pos h1, if_neg h2]
  rfl
end Go.Proofs.Ytjcnbacbnfmkjaa
