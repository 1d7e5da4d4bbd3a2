/-
  The laws' own helpers over rows of numbers: held against each other, copied, marked.
-/
import Derived.Test.YtpflkbmmkcaocaaNums1
import Derived.Test.YtpflkbmmkcaocaaMark
namespace Go.Proofs.Ytpflkbmmkcaocaa
set_option linter.unusedVariables false
open Go.RowKit
attribute [local simp] far_const

set_option maxHeartbeats 1000000 in
theorem lwInts_any (a b : Option Addr) (ca cb : Nat) (l m : List Int) (w : World) (hl : Ints w a l) (hm : Ints w b m) (hn : l.length ≤ 1048576) (hn' : m.length ≤ 1048576) :
    Calls Try.prog 6 #[.slice a l.length ca, .slice b m.length cb] w fun r w' => r = .returned (.bool (decide (l = m))) ∧ Grew w w' := by
  by_cases hlen : l.length = m.length
  · have hne : ((l.length : Int) != (m.length : Int)) = false := by simp [hlen]
    go_enter Try.func6, Try.ntmps6
    go_wp2_with fail
    clear hne
    have HL := hide hlen
    have hlen' : m.length ≤ l.length := by omega
    have hlen2 : l.length ≤ m.length := by omega
    clear hlen
    go_loopw [5] (fun i wr => ∃ k : Nat, k ≤ l.length ∧ i = .int .i64 k ∧ Grew w wr ∧ Hid (∀ j (h1 : j < l.length) (h2 : j < m.length), j < k → l[j] = m[j])) (fun i _ => l.length - (intOf i).toNat)
    case atStart => exact ⟨0, Nat.zero_le _, rfl, Grew.refl _, fun j _ _ h => absurd h (Nat.not_lt_zero _)⟩
    case round =>
      obtain ⟨k, hk, rfl, hg, HI⟩ := hrel
      by_cases hlt : k < l.length
      · have hlt2 : k < m.length := by omega
        obtain ⟨b1, o1, rfl, hat⟩ := hl.at hlt
        obtain ⟨b2, o2, rfl, hat2⟩ := hm.at hlt2
        have c0 := hg.keep hat
        have d0 := hg.keep hat2
        have e0 := Grew.gcell c0
        have f0 := Grew.gcell d0
        clear hat hat2
        by_cases heq : l[k] = m[k]
        · have hnext : Hid (∀ j (h1 : j < l.length) (h2 : j < m.length), j < k + 1 → l[j] = m[j]) := fun j h1 h2 hj => by
            by_cases e : j = k
            · subst e; exact heq
            · exact HI.out j h1 h2 (by omega)
          have hne : (l[k] != m[k]) = false := by simp [heq]
          clear heq
          go_wp2_with fail
          refine quietly (by kernel_rfl) (by kernel_rfl) ?_
          repeat (go_big_quiet_step (first | fail))
          refine wpQuiet_nil ?_
          intro _ hw'
          obtain ⟨⟨nq, osq⟩, hw''⟩ := hw'
          subst hw''
          go_wp2
          go_roundw
          case rel => exact ⟨k + 1, by omega, by go_num, hg.trans ⟨_, _, rfl⟩, hnext⟩
          case measure => simp [intOf]; omega
        · have hend : Hid (decide (l = m) = false) := by
            show decide (l = m) = false
            rw [decide_eq_false_iff_not]
            intro h
            subst h
            exact heq rfl
          have hne : (l[k] != m[k]) = true := by simpa using heq
          clear heq
          go_wp2_with fail
          refine quietly (by kernel_rfl) (by kernel_rfl) ?_
          repeat (go_big_quiet_step (first | fail))
          refine wpQuiet_nil ?_
          intro _ hw'
          obtain ⟨⟨nq, osq⟩, hw''⟩ := hw'
          subst hw''
          go_wp2
          go_ret
          exact ⟨ret_bool hend.out.symm, hg.trans ⟨_, _, rfl⟩⟩
      · have hle : (l.length : Int) ≤ (k : Int) := by omega
        have hend : Hid (decide (l = m) = true) := by
          show decide (l = m) = true
          rw [decide_eq_true_eq]
          exact List.ext_getElem HL.out fun i h1 h2 => HI.out i h1 h2 (by omega)
        clear hlt
        go_wp2
        go_ret
        exact ⟨ret_bool hend.out.symm, hg⟩
  · have hne : ((l.length : Int) != (m.length : Int)) = true := by simp; omega
    have hend : Hid (decide (l = m) = false) := by show decide (l = m) = false; rw [decide_eq_false_iff_not]; intro h; exact hlen (by rw [h])
    clear hlen
    go_enter Try.func6, Try.ntmps6
    go_wp2
    go_ret
    exact ⟨ret_bool hend.out.symm, Grew.refl _⟩

/-- The marks from k on. -/
def marksN : Int → Nat → List Int
  | _, 0 => []
  | k, n + 1 => k :: marksN (k + 1) n
theorem marksN_len : ∀ (n : Nat) (k : Int), (marksN k n).length = n
  | 0, _ => rfl
  | n + 1, k => by simp [marksN, marksN_len n]
theorem marksN_get : ∀ (n : Nat) (k : Int) (i : Nat) (h : i < (marksN k n).length), (marksN k n)[i] = k + i
  | 0, k, i, h => by simp [marksN] at h
  | n + 1, k, 0, h => by simp [marksN]
  | n + 1, k, i + 1, h => by
    have := marksN_get n (k + 1) i (by simpa [marksN] using h)
    simp only [marksN, List.getElem_cons_succ, this]
    omega
theorem Wrote.ints {a b : Option Addr} {w w' : World} {l : List Int} (h : Wrote a w w') (i : Ints w b l) (hne : 0 < l.length → ∀ x y, a = some x → b = some y → x.block ≠ y.block) : Ints w' b l := by
  by_cases h0 : l = []
  · exact .inl h0
  · have hp : 0 < l.length := List.length_pos_iff.2 h0
    rcases i with i | ⟨g, off, hb, i⟩
    · exact .inl i
    · have e : w'.heap[g]? = w.heap[g]? := h.keep g (fun x hx => hne hp x _ hx hb)
      refine .inr ⟨g, off, hb, fun j hj => ?_⟩
      rw [World.cell?_of_block (w := w) e]; exact i j hj
theorem Wrote.ownN {a : Option Addr} {w w' : World} {base : Nat} {v : Value} {l : List Int} (h : Wrote a w w') (o : OwnN w base v l) (hne : ∀ x g, a = some x → v.ownBlock = some g → x.block ≠ g) : OwnN w' base v l :=
  o.kept fun g _ _ hv => h.keep g fun x hx => hne x g hx hv

end Go.Proofs.Ytpflkbmmkcaocaa
