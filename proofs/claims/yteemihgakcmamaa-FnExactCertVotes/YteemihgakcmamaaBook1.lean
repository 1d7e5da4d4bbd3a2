/-
  What all have: when it is ok, what it is behind a payment. Plain mathematics, then BookOk in the program and in the specification.
-/
import Derived.Test.YteemihgakcmamaaNumsA
namespace Go.Proofs.Yteemihgakcmamaa
set_option linter.unusedVariables false
open Go.RowKit
attribute [local simp] far_const

/-- What all have is ok. -/
def bokB (l : List Int) : Bool := decide (l.length = 3) && (l.all (fun x => inB x 0 27) && decide (l.sum = 27))
theorem all_take (l : List Int) (p : Int → Bool) (k : Nat) (h : k < l.length) : (l.take (k + 1)).all p = ((l.take k).all p && p l[k]) := by
  rw [List.take_succ_eq_append_getElem h, List.all_append, List.all_cons, List.all_nil, Bool.and_true]
theorem sum_take (l : List Int) (k : Nat) (h : k < l.length) : (l.take (k + 1)).sum = (l.take k).sum + l[k] := by
  rw [List.take_succ_eq_append_getElem h, List.sum_append, List.sum_cons, List.sum_nil, Int.add_zero]
theorem all_ends (l : List Int) (p : Int → Bool) (k : Nat) (hk : k < l.length) (h : p l[k] = false) : l.all p = false := by
  cases e : l.all p with
  | false => rfl
  | true =>
    rw [List.all_eq_true] at e
    rw [e _ (List.getElem_mem hk)] at h
    cases h

set_option maxHeartbeats 400000 in
theorem implBookOk (a : Option Addr) (cap : Nat) (l : List Int) (w : World) (hl : Ints w a l) (hn : l.length ≤ 1048576) :
    Calls Try.prog 48 #[.slice a l.length cap] w fun r w' => r = .returned (.bool (bokB l)) ∧ w' = w := by
  by_cases h3 : l.length = 3
  · have h3' : ((l.length : Int) != 3) = false := by rw [h3]; rfl
    have H3 := hide h3
    clear h3
    go_enter Try.func48, Try.ntmps48
    go_wp2_with fail
    go_loopw [3, 11] (fun s i wr => ∃ (k : Nat) (S : Int), k ≤ l.length ∧ i = .int .i64 k ∧ s = .int .i64 S ∧ Hid (S = (l.take k).sum ∧ (l.take k).all (fun x => inB x 0 27) = true) ∧ 0 ≤ S ∧ S ≤ 27 * k ∧ wr = w) (fun _ i _ => l.length - (intOf i).toNat)
    case atStart => exact ⟨0, 0, Nat.zero_le _, rfl, rfl, hide ⟨by simp, by simp⟩, by omega, by simp, rfl⟩
    case round =>
      obtain ⟨k, S, hk, rfl, rfl, HS, hs0, hs1, rfl⟩ := hrel
      by_cases hlt : k < l.length
      · obtain ⟨b, off, rfl, hat⟩ := hl.at hlt
        by_cases hx0 : 0 ≤ l[k]
        · by_cases hx1 : l[k] ≤ 27
          · have hx2 : inB l[k] 0 27 = true := by simp [inB, hx0, hx1]
            have HN : Hid (S + l[k] = (l.take (k + 1)).sum ∧ (l.take (k + 1)).all (fun x => inB x 0 27) = true) := by
              refine And.intro ?_ ?_
              · rw [sum_take l k hlt, (unhide HS).1]
              · rw [all_take l _ k hlt, (unhide HS).2, hx2]; rfl
            clear hx2
            go_wp2
            go_roundw
            case rel => exact ⟨k + 1, S + l[k], by omega, by go_num, by go_num, HN, by omega, by omega, trivial⟩
            case measure => simp [intOf]; omega
          · have hx1' : 27 < l[k] := by omega
            have HE : Hid (bokB l = false) := by
              show bokB l = false
              unfold bokB
              rw [all_ends l (fun x => inB x 0 27) k hlt (by simp [inB]; omega)]
              simp
            clear hx1
            go_wp2
            go_ret
            exact ⟨ret_bool (unhide HE).symm, rfl⟩
        · have hx0' : l[k] < 0 := by omega
          have HE : Hid (bokB l = false) := by
            show bokB l = false
            unfold bokB
            rw [all_ends l (fun x => inB x 0 27) k hlt (by simp [inB]; omega)]
            simp
          clear hx0
          go_wp2
          go_ret
          exact ⟨ret_bool (unhide HE).symm, rfl⟩
      · have hle : (l.length : Int) ≤ (k : Int) := by omega
        have HE : Hid (bokB l = (S == 27)) := by
          show bokB l = _
          have e : l.take k = l := List.take_of_length_le (by omega)
          obtain ⟨e1, e2⟩ := unhide HS
          rw [e] at e1 e2
          unfold bokB
          rw [e2, ← e1, unhide H3]
          by_cases h : S = 27 <;> simp [h]
        clear hlt
        go_wp2
        go_ret
        exact ⟨ret_bool (unhide HE).symm, rfl⟩
  · have h3' : ((l.length : Int) != 3) = true := by simp; omega
    have HE : Hid (bokB l = false) := by show bokB l = false; unfold bokB; simp [h3]
    clear h3
    go_enter Try.func48, Try.ntmps48
    go_wp2
    go_ret
    exact ⟨ret_bool (unhide HE).symm, rfl⟩

end Go.Proofs.Yteemihgakcmamaa
