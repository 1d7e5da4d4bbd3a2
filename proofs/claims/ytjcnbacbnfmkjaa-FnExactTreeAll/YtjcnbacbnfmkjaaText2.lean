/-
  The text of an item, and of a chain.
-/
import Derived.Test.YtjcnbacbnfmkjaaText1
import Derived.Test.YtjcnbacbnfmkjaaChain2
namespace Go.Proofs.Ytjcnbacbnfmkjaa
set_option linter.unusedVariables false
open Go.RowKit
attribute [local simp] far_const

def lineB (x : It) : ByteArray := decB x.e.toNat ++ ⟨#[58]⟩ ++ (decB x.f.toNat ++ decB x.t.toNat ++ decB x.s.toNat) ++ ⟨#[10]⟩
theorem app_assoc (a b c : ByteArray) : a ++ b ++ c = a ++ (b ++ c) := by
  apply ByteArray.ext; simp [ByteArray.data_append]
/-- Small enough to be written. -/
def low (x : It) : Prop := (0 ≤ x.e ∧ x.e < 100) ∧ (0 ≤ x.f ∧ x.f < 10) ∧ (0 ≤ x.t ∧ x.t < 10) ∧ 0 ≤ x.s ∧ x.s < 10

theorem itoa_int (x : Int) (w : World) (h0 : 0 ≤ x) (h1 : x < 100) : Calls Try.prog 145 #[.int .i64 x] w fun r w' => r = .returned (.string (decB x.toNat)) ∧ Grew w w' := by
  obtain ⟨n, rfl⟩ := Int.eq_ofNat_of_zero_le h0
  refine (itoa_any n w (by omega)).mono ?_
  rintro r w' ⟨rfl, rfl⟩
  exact ⟨by simp, Grew.refl _⟩
set_option maxHeartbeats 1000000 in
theorem line_any (x : It) (w : World) (h : low x) : Calls Try.prog 143 #[.agg #[.int .i64 x.e, .int .i64 x.f, .int .i64 x.t, .int .i64 x.s]] w fun r w' => r = .returned (.string (lineB x)) ∧ Grew w w' := by
  obtain ⟨⟨e0, e1⟩, ⟨f0, f1⟩, ⟨t0, t1⟩, s0, s1⟩ := h
  have z1 := decB_size x.e.toNat
  have z2 := decB_size x.f.toNat
  have z3 := decB_size x.t.toNat
  have z4 := decB_size x.s.toNat
  have k1 : ¬ 9223372036854775807 < (decB x.f.toNat).size + (decB x.t.toNat).size := by omega
  have k2 : ¬ 9223372036854775807 < (decB x.f.toNat).size + (decB x.t.toNat).size + (decB x.s.toNat).size := by omega
  have c0 := Grew.gcell (show (w.alloc (.cells #[.int .i64 x.e, .int .i64 x.f, .int .i64 x.t, .int .i64 x.s] 150)).cell? ⟨w.heap.size, 0, none⟩ = some (.int .i64 x.e) by simp [go_sem])
  have c1 := Grew.gcell (show (w.alloc (.cells #[.int .i64 x.e, .int .i64 x.f, .int .i64 x.t, .int .i64 x.s] 150)).cell? ⟨w.heap.size, 1, none⟩ = some (.int .i64 x.f) by simp [go_sem])
  have c2 := Grew.gcell (show (w.alloc (.cells #[.int .i64 x.e, .int .i64 x.f, .int .i64 x.t, .int .i64 x.s] 150)).cell? ⟨w.heap.size, 2, none⟩ = some (.int .i64 x.t) by simp [go_sem])
  have c3 := Grew.gcell (show (w.alloc (.cells #[.int .i64 x.e, .int .i64 x.f, .int .i64 x.t, .int .i64 x.s] 150)).cell? ⟨w.heap.size, 3, none⟩ = some (.int .i64 x.s) by simp [go_sem])
  go_enter Try.func143, Try.ntmps143
  go_wp2_with fail
  refine quietly (by kernel_rfl) (by kernel_rfl) ?_
  repeat (go_big_quiet_step (first | (go_at_call 145; exact Calls.far (itoa_int _ _ (by omega) (by omega)))))
  refine wpQuiet_nil ?_
  intro _ hw'
  obtain ⟨⟨nq, osq⟩, hw''⟩ := hw'
  subst hw''
  go_wp2_with fail
  refine (itoa_int _ _ e0 e1).mono ?_
  rintro r w2 ⟨rfl, g2⟩
  go_wp2
  go_ret
  exact ⟨rfl, (((Grew.refl w).alloc _).trans ⟨_, _, rfl⟩).trans g2⟩

def textB (l : List It) : ByteArray := l.foldl (fun t x => t ++ lineB x) ⟨#[]⟩
theorem textB_take (l : List It) (k : Nat) (h : k < l.length) : textB (l.take (k + 1)) = textB (l.take k) ++ lineB l[k] := by
  unfold textB; rw [take_snoc l k h, List.foldl_append]; rfl
theorem lineB_size (x : It) : (lineB x).size ≤ 10 := by
  have z1 := decB_size x.e.toNat
  have z2 := decB_size x.f.toNat
  have z3 := decB_size x.t.toNat
  have z4 := decB_size x.s.toNat
  have a : (⟨#[58]⟩ : ByteArray).size = 1 := rfl
  have b : (⟨#[10]⟩ : ByteArray).size = 1 := rfl
  unfold lineB
  simp only [ByteArray.size_append]
  omega
theorem textB_size (l : List It) : (textB l).size ≤ 10 * l.length := by
  unfold textB
  have : ∀ (l : List It) (t : ByteArray), (l.foldl (fun t x => t ++ lineB x) t).size ≤ t.size + 10 * l.length := by
    intro l
    induction l with
    | nil => intro t; simp
    | cons x r ih =>
      intro t
      have := ih (t ++ lineB x)
      have := lineB_size x
      simp only [List.foldl_cons, List.length_cons, ByteArray.size_append] at *
      omega
  have h := this l ⟨#[]⟩
  have e : (⟨#[]⟩ : ByteArray).size = 0 := rfl
  omega
theorem low_of (l : List It) (h : okB l = true) (i : Nat) (hi : i < l.length) : low l[i] := by
  unfold okB at h
  simp only [Bool.and_eq_true, decide_eq_true_eq] at h
  have hpre : goB 0 (l.take (i + 1)) = true := by
    have := goB_app (l.take (i + 1)) (l.drop (i + 1)) 0
    rw [List.take_append_drop, h.2] at this
    simp only [Bool.true_eq, Bool.and_eq_true] at this
    exact this.1
  rw [goB_take l i hi, Bool.and_eq_true] at hpre
  have hlow := (endE_low _ 0 (by omega) hpre.1).1
  have hs := hpre.2
  simp only [stepB, payB, inB, Bool.and_eq_true, decide_eq_true_eq] at hs
  refine ⟨⟨by omega, by omega⟩, ⟨by omega, by omega⟩, ⟨by omega, by omega⟩, by omega, by omega⟩

set_option maxHeartbeats 1000000 in
theorem implChainText (a : Option Addr) (cap : Nat) (l : List It) (w : World) (hl : Its w a l) (hn : l.length ≤ 1048576) : Calls Try.prog 115 #[.slice a l.length cap] w fun r w' => r = .returned (.string (if okB l = true then textB l else ⟨#[]⟩)) ∧ Grew w w' := by
  cases hok : okB l with
  | false =>
    go_enter Try.func115, Try.ntmps115
    go_wp2_with fail
    refine (implChainOk _ _ l _ hl hn).mono ?_
    rintro r w1 ⟨rfl, g1⟩
    rw [hok]
    go_wp2
    go_ret
    exact ⟨rfl, g1⟩
  | true =>
    have hlow := hide (low_of l hok)
    have h16 : l.length ≤ 16 := by unfold okB at hok; simp only [Bool.and_eq_true, decide_eq_true_eq] at hok; exact hok.1
    go_enter Try.func115, Try.ntmps115
    go_wp2_with fail
    refine (implChainOk _ _ l _ hl hn).mono ?_
    rintro r w1 ⟨rfl, g1⟩
    rw [hok]
    go_wp2_with fail
    go_loopw [3, 10] (fun t i wr => ∃ k : Nat, k ≤ l.length ∧ i = .int .i64 k ∧ t = .string (textB (l.take k)) ∧ Grew w wr) (fun _ i _ => l.length - (intOf i).toNat)
    case atStart => exact ⟨0, Nat.zero_le _, rfl, rfl, g1⟩
    case round =>
      obtain ⟨k, hk, rfl, rfl, hg⟩ := hrel
      by_cases hlt : k < l.length
      · obtain ⟨b, off, rfl, hat⟩ := hl.at hlt
        obtain ⟨c0, c1, c2, c3⟩ := hat.grew hg
        have hsz := textB_size (l.take k)
        have hsz2 := lineB_size l[k]
        rw [List.length_take] at hsz
        have hsum : ¬ 9223372036854775807 < (textB (l.take k)).size + (lineB l[k]).size := by omega
        have hnext := hide (textB_take l k hlt)
        go_wp2_with fail
        refine (asked_any _ _ _ _ _).mono ?_
        rintro r w2 ⟨rfl, g2⟩
        go_wp2_with fail
        refine (line_any l[k] _ (unhide hlow k hlt)).mono ?_
        rintro r w3 ⟨rfl, g3⟩
        go_wp2
        go_roundw
        case rel => exact ⟨k + 1, by omega, by go_num, by rw [unhide hnext], (hg.trans g2).trans g3⟩
        case measure => simp [intOf]; omega
      · have hkl : Hid (k = l.length) := by show k = l.length; omega
        go_wp2
        go_ret
        exact ⟨by rw [hkl.out, List.take_length]; rfl, hg⟩

theorem line_spec (t : ByteArray) (x : It) : t ++ decB x.e.toNat ++ ⟨#[58]⟩ ++ decB x.f.toNat ++ decB x.t.toNat ++ decB x.s.toNat ++ ⟨#[10]⟩ = t ++ lineB x := by
  unfold lineB; simp only [app_assoc]

end Go.Proofs.Ytjcnbacbnfmkjaa
