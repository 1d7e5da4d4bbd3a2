/-
  Texts together: Text1, Text2.
-/
import Derived.Test.YtjbnohepbmejkaaBase1
import Derived.Laws.BytesArg
import Derived.Deep.RegionWith
import Derived.Test.YtjbnohepbmejkaaChainA
namespace Go.Proofs.Ytjbnohepbmejkaa
set_option linter.unusedVariables false
open Go.RowKit
attribute [local simp] far_const

/-- A number of one figure, or two. -/
def decL (n : Nat) : List UInt8 := if n < 10 then [UInt8.ofNat (48 + n)] else [UInt8.ofNat (48 + n / 10), UInt8.ofNat (48 + n % 10)]
def decB (n : Nat) : ByteArray := ⟨(decL n).toArray⟩

theorem tab_one : ∀ n, n < 10 → (⟨#[48, 49, 50, 51, 52, 53, 54, 55, 56, 57, 97, 98, 99, 100, 101, 102, 103, 104, 105, 106, 107, 108, 109, 110, 111, 112, 113, 114, 115, 116, 117, 118, 119, 120, 121, 122]⟩ : ByteArray).extract n (n + 1) = decB n := by decide +kernel

set_option maxHeartbeats 400000 in
theorem small_one (n : Nat) (w : World) (hn : n < 10) : Calls Try.prog 182 #[.int .i64 n] w fun r w' => r = .returned (.string (decB n)) ∧ w' = w := by
  go_enter Try.func182, Try.ntmps182
  go_wp2
  go_ret
  exact ⟨congrArg (fun b => Ending.returned (.string b)) (tab_one n hn), rfl⟩
set_option maxRecDepth 100000 in
theorem tab_two : ∀ n, n < 100 → 10 ≤ n → (⟨#[48, 48, 48, 49, 48, 50, 48, 51, 48, 52, 48, 53, 48, 54, 48, 55, 48, 56, 48, 57, 49, 48, 49, 49, 49, 50, 49, 51, 49, 52, 49, 53, 49, 54, 49, 55, 49, 56, 49, 57, 50, 48, 50, 49, 50, 50, 50, 51, 50, 52, 50, 53, 50, 54, 50, 55, 50, 56, 50, 57, 51, 48, 51, 49, 51, 50, 51, 51, 51, 52, 51, 53, 51, 54, 51, 55, 51, 56, 51, 57, 52, 48, 52, 49, 52, 50, 52, 51, 52, 52, 52, 53, 52, 54, 52, 55, 52, 56, 52, 57, 53, 48, 53, 49, 53, 50, 53, 51, 53, 52, 53, 53, 53, 54, 53, 55, 53, 56, 53, 57, 54, 48, 54, 49, 54, 50, 54, 51, 54, 52, 54, 53, 54, 54, 54, 55, 54, 56, 54, 57, 55, 48, 55, 49, 55, 50, 55, 51, 55, 52, 55, 53, 55, 54, 55, 55, 55, 56, 55, 57, 56, 48, 56, 49, 56, 50, 56, 51, 56, 52, 56, 53, 56, 54, 56, 55, 56, 56, 56, 57, 57, 48, 57, 49, 57, 50, 57, 51, 57, 52, 57, 53, 57, 54, 57, 55, 57, 56, 57, 57]⟩ : ByteArray).extract (n * 2) (n * 2 + 2) = decB n := by decide +kernel

set_option maxRecDepth 100000 in
set_option maxHeartbeats 1000000 in
theorem small_two (n : Nat) (w : World) (hn : n < 100) (hn' : 10 ≤ n) : Calls Try.prog 182 #[.int .i64 n] w fun r w' => r = .returned (.string (decB n)) ∧ w' = w := by
  go_enter Try.func182, Try.ntmps182
  go_wp2
  go_ret
  exact ⟨congrArg (fun b => Ending.returned (.string b)) (tab_two n hn hn'), rfl⟩
theorem small_any (n : Nat) (w : World) (hn : n < 100) : Calls Try.prog 182 #[.int .i64 n] w fun r w' => r = .returned (.string (decB n)) ∧ w' = w := by
  by_cases h : n < 10
  · exact small_one n w h
  · exact small_two n w hn (by omega)

theorem format_any (n : Nat) (w : World) (hn : n < 100) : Calls Try.prog 181 #[.int .i64 n, .int .i64 10] w fun r w' => r = .returned (.string (decB n)) ∧ w' = w := by
  go_enter Try.func181, Try.ntmps181
  go_wp2_with fail
  refine (small_any n w hn).mono ?_
  rintro r w' ⟨rfl, rfl⟩
  go_wp2
  go_ret
  exact ⟨rfl, rfl⟩
theorem itoa1_any (n : Nat) (w : World) (hn : n < 100) : Calls Try.prog 179 #[.int .i64 n] w fun r w' => r = .returned (.string (decB n)) ∧ w' = w := by
  go_enter Try.func179, Try.ntmps179
  go_wp2_with fail
  refine (format_any n w hn).mono ?_
  rintro r w' ⟨rfl, rfl⟩
  go_wp2
  go_ret
  exact ⟨rfl, rfl⟩
theorem itoa_any (n : Nat) (w : World) (hn : n < 100) : Calls Try.prog 177 #[.int .i64 n] w fun r w' => r = .returned (.string (decB n)) ∧ w' = w := by
  go_enter Try.func177, Try.ntmps177
  go_wp2_with fail
  refine (itoa1_any n w hn).mono ?_
  rintro r w' ⟨rfl, rfl⟩
  go_wp2
  go_ret
  exact ⟨rfl, rfl⟩

theorem conv_one (z : Int) (W : World) (b : Nat) (h : W.cell? ⟨b, 0, none⟩ = some (.int .u8 z)) : (convert 22 9 (.slice (some ⟨b, 0, none⟩) 1 1)).run Try.prog W = .ok (.string (strOfNums [z])) W :=
  run_convert_bytes_arg (P := Try.prog) W 22 5 Try.underlying22 Try.underlying5 b 0 1 1 [z] rfl (fun i hi => by
    obtain rfl : i = 0 := by omega
    simpa using h) 9 Try.underlying9
theorem dec_one (x : Int) (h0 : 0 ≤ x) (h1 : x < 10) : strOfNums [48 + x] = decB x.toNat := by
  obtain ⟨n, rfl⟩ := Int.eq_ofNat_of_zero_le h0
  have hn : n < 10 := by omega
  simp only [strOfNums, decB, decL, List.map_cons, List.map_nil, Int.toNat_natCast, if_pos hn]
  congr 3
theorem decB_size (n : Nat) : (decB n).size ≤ 2 := by
  unfold decB decL; split <;> simp [ByteArray.size]
theorem dec_two (n : Nat) (hn : n < 100) (hn' : 10 ≤ n) : decB ((n : Int) / 10).toNat ++ strOfNums [48 + (n : Int) % 10] = decB n := by
  have e1 : ((n : Int) / 10).toNat = n / 10 := by omega
  have e2 : (48 + (n : Int) % 10).toNat = 48 + n % 10 := by omega
  have h1 : n / 10 < 10 := by omega
  have h2 : ¬ n < 10 := by omega
  rw [e1]
  simp only [strOfNums, decB, decL, List.map_cons, List.map_nil, e2, if_pos h1, if_neg h2]
  rfl
set_option linter.unusedVariables false
open Go.RowKit
attribute [local simp] far_const

def lineB (x : It) : ByteArray := decB x.e.toNat ++ ⟨#[58]⟩ ++ (decB x.f.toNat ++ decB x.t.toNat ++ decB x.s.toNat) ++ ⟨#[10]⟩
theorem app_assoc (a b c : ByteArray) : a ++ b ++ c = a ++ (b ++ c) := by
  apply ByteArray.ext; simp [ByteArray.data_append]
/-- Small enough to be written. -/
def low (x : It) : Prop := (0 ≤ x.e ∧ x.e < 100) ∧ (0 ≤ x.f ∧ x.f < 10) ∧ (0 ≤ x.t ∧ x.t < 10) ∧ 0 ≤ x.s ∧ x.s < 10

theorem itoa_int (x : Int) (w : World) (h0 : 0 ≤ x) (h1 : x < 100) : Calls Try.prog 177 #[.int .i64 x] w fun r w' => r = .returned (.string (decB x.toNat)) ∧ Grew w w' := by
  obtain ⟨n, rfl⟩ := Int.eq_ofNat_of_zero_le h0
  refine (itoa_any n w (by omega)).mono ?_
  rintro r w' ⟨rfl, rfl⟩
  exact ⟨by simp, Grew.refl _⟩
set_option maxHeartbeats 1000000 in
theorem line_any (x : It) (w : World) (h : low x) : Calls Try.prog 175 #[.agg #[.int .i64 x.e, .int .i64 x.f, .int .i64 x.t, .int .i64 x.s]] w fun r w' => r = .returned (.string (lineB x)) ∧ Grew w w' := by
  obtain ⟨⟨e0, e1⟩, ⟨f0, f1⟩, ⟨t0, t1⟩, s0, s1⟩ := h
  have z1 := decB_size x.e.toNat
  have z2 := decB_size x.f.toNat
  have z3 := decB_size x.t.toNat
  have z4 := decB_size x.s.toNat
  have k1 : ¬ 9223372036854775807 < (decB x.f.toNat).size + (decB x.t.toNat).size := by omega
  have k2 : ¬ 9223372036854775807 < (decB x.f.toNat).size + (decB x.t.toNat).size + (decB x.s.toNat).size := by omega
  have c0 := Grew.gcell (show (w.alloc (.cells #[.int .i64 x.e, .int .i64 x.f, .int .i64 x.t, .int .i64 x.s] 181)).cell? ⟨w.heap.size, 0, none⟩ = some (.int .i64 x.e) by simp [go_sem])
  have c1 := Grew.gcell (show (w.alloc (.cells #[.int .i64 x.e, .int .i64 x.f, .int .i64 x.t, .int .i64 x.s] 181)).cell? ⟨w.heap.size, 1, none⟩ = some (.int .i64 x.f) by simp [go_sem])
  have c2 := Grew.gcell (show (w.alloc (.cells #[.int .i64 x.e, .int .i64 x.f, .int .i64 x.t, .int .i64 x.s] 181)).cell? ⟨w.heap.size, 2, none⟩ = some (.int .i64 x.t) by simp [go_sem])
  have c3 := Grew.gcell (show (w.alloc (.cells #[.int .i64 x.e, .int .i64 x.f, .int .i64 x.t, .int .i64 x.s] 181)).cell? ⟨w.heap.size, 3, none⟩ = some (.int .i64 x.s) by simp [go_sem])
  go_enter Try.func175, Try.ntmps175
  go_wp2_with fail
  refine quietly (by kernel_rfl) (by kernel_rfl) ?_
  repeat (go_big_quiet_step (first | (go_at_call 177; exact Calls.far (itoa_int _ _ (by omega) (by omega)))))
  refine wpQuiet_nil ?_
  intro _ hw'
  obtain ⟨⟨nq, osq⟩, hw''⟩ := hw'
  subst hw''
  go_wp2_with fail
  refine (itoa_int _ _ e0 e1).mono ?_
  rintro r w2 ⟨rfl, g2⟩
  go_wp2
  go_ret
  exact ⟨rfl, (((Grew.refl w).alloc _).trans ⟨_, _, rfl⟩).trans g2⟩

def textB (l : List It) : ByteArray := l.foldl (fun t x => t ++ lineB x) ⟨#[]⟩
theorem textB_take (l : List It) (k : Nat) (h : k < l.length) : textB (l.take (k + 1)) = textB (l.take k) ++ lineB l[k] := by
  unfold textB; rw [take_snoc l k h, List.foldl_append]; rfl
theorem lineB_size (x : It) : (lineB x).size ≤ 10 := by
  have z1 := decB_size x.e.toNat
  have z2 := decB_size x.f.toNat
  have z3 := decB_size x.t.toNat
  have z4 := decB_size x.s.toNat
  have a : (⟨#[58]⟩ : ByteArray).size = 1 := rfl
  have b : (⟨#[10]⟩ : ByteArray).size = 1 := rfl
  unfold lineB
  simp only [ByteArray.size_append]
  omega
theorem textB_size (l : List It) : (textB l).size ≤ 10 * l.length := by
  unfold textB
  have : ∀ (l : List It) (t : ByteArray), (l.foldl (fun t x => t ++ lineB x) t).size ≤ t.size + 10 * l.length := by
    intro l
    induction l with
    | nil => intro t; simp
    | cons x r ih =>
      intro t
      have := ih (t ++ lineB x)
      have := lineB_size x
      simp only [List.foldl_cons, List.length_cons, ByteArray.size_append] at *
      omega
  have h := this l ⟨#[]⟩
  have e : (⟨#[]⟩ : ByteArray).size = 0 := rfl
  omega
theorem low_of (l : List It) (h : okB l = true) (i : Nat) (hi : i < l.length) : low l[i] := by
  unfold okB at h
  simp only [Bool.and_eq_true, decide_eq_true_eq] at h
  have hpre : goB 0 (l.take (i + 1)) = true := by
    have := goB_app (l.take (i + 1)) (l.drop (i + 1)) 0
    rw [List.take_append_drop, h.2] at this
    simp only [Bool.true_eq, Bool.and_eq_true] at this
    exact this.1
  rw [goB_take l i hi, Bool.and_eq_true] at hpre
  have hlow := (endE_low _ 0 (by omega) hpre.1).1
  have hs := hpre.2
  simp only [stepB, payB, inB, Bool.and_eq_true, decide_eq_true_eq] at hs
  refine ⟨⟨by omega, by omega⟩, ⟨by omega, by omega⟩, ⟨by omega, by omega⟩, by omega, by omega⟩

set_option maxHeartbeats 1000000 in
theorem implChainText (a : Option Addr) (cap : Nat) (l : List It) (w : World) (hl : Its w a l) (hn : l.length ≤ 1048576) : Calls Try.prog 149 #[.slice a l.length cap] w fun r w' => r = .returned (.string (if okB l = true then textB l else ⟨#[]⟩)) ∧ Grew w w' := by
  cases hok : okB l with
  | false =>
    go_enter Try.func149, Try.ntmps149
    go_wp2_with fail
    refine (implChainOk _ _ l _ hl hn).mono ?_
    rintro r w1 ⟨rfl, g1⟩
    rw [hok]
    go_wp2
    go_ret
    exact ⟨rfl, g1⟩
  | true =>
    have hlow := hide (low_of l hok)
    have h16 : l.length ≤ 16 := by unfold okB at hok; simp only [Bool.and_eq_true, decide_eq_true_eq] at hok; exact hok.1
    go_enter Try.func149, Try.ntmps149
    go_wp2_with fail
    refine (implChainOk _ _ l _ hl hn).mono ?_
    rintro r w1 ⟨rfl, g1⟩
    rw [hok]
    go_wp2_with fail
    go_loopw [3, 10] (fun t i wr => ∃ k : Nat, k ≤ l.length ∧ i = .int .i64 k ∧ t = .string (textB (l.take k)) ∧ Grew w wr) (fun _ i _ => l.length - (intOf i).toNat)
    case atStart => exact ⟨0, Nat.zero_le _, rfl, rfl, g1⟩
    case round =>
      obtain ⟨k, hk, rfl, rfl, hg⟩ := hrel
      by_cases hlt : k < l.length
      · obtain ⟨b, off, rfl, hat⟩ := hl.at hlt
        obtain ⟨c0, c1, c2, c3⟩ := hat.grew hg
        have hsz := textB_size (l.take k)
        have hsz2 := lineB_size l[k]
        rw [List.length_take] at hsz
        have hsum : ¬ 9223372036854775807 < (textB (l.take k)).size + (lineB l[k]).size := by omega
        have hnext := hide (textB_take l k hlt)
        go_wp2_with fail
        refine (asked_any _ _ _ _ _).mono ?_
        rintro r w2 ⟨rfl, g2⟩
        go_wp2_with fail
        refine (line_any l[k] _ (unhide hlow k hlt)).mono ?_
        rintro r w3 ⟨rfl, g3⟩
        go_wp2
        go_roundw
        case rel => exact ⟨k + 1, by omega, by go_num, by rw [unhide hnext], (hg.trans g2).trans g3⟩
        case measure => simp [intOf]; omega
      · have hkl : Hid (k = l.length) := by show k = l.length; omega
        go_wp2
        go_ret
        exact ⟨by rw [hkl.out, List.take_length]; rfl, hg⟩

theorem line_spec (t : ByteArray) (x : It) : t ++ decB x.e.toNat ++ ⟨#[58]⟩ ++ decB x.f.toNat ++ decB x.t.toNat ++ decB x.s.toNat ++ ⟨#[10]⟩ = t ++ lineB x := by
  unfold lineB; simp only [app_assoc]

end Go.Proofs.Ytjbnohepbmejkaa
