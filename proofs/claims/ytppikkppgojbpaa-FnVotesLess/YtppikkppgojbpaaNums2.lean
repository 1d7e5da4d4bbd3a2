/-
  The laws' own helpers over rows of numbers: held against each other, copied, marked.
-/
import Derived.Test.YtppikkppgojbpaaNums1
import Derived.Test.YtppikkppgojbpaaMark
namespace Go.Proofs.Ytppikkppgojbpaa
set_option linter.unusedVariables false
open Go.RowKit
attribute [local simp] far_const

set_option maxHeartbeats 1000000 in
theorem lwInts_any (a b : Option Addr) (ca cb : Nat) (l m : List Int) (w : World) (hl : Ints w a l) (hm : Ints w b m) (hn : l.length ≤ 1048576) (hn' : m.length ≤ 1048576) :
    Calls Try.prog 33 #[.slice a l.length ca, .slice b m.length cb] w fun r w' => r = .returned (.bool (decide (l = m))) ∧ Grew w w' := by
  by_cases hlen : l.length = m.length
  · have hne : ((l.length : Int) != (m.length : Int)) = false := by simp [hlen]
    go_enter Try.func33, Try.ntmps33
    go_wp2_with fail
    clear hne
    have HL := hide hlen
    have hlen' : m.length ≤ l.length := by omega
    have hlen2 : l.length ≤ m.length := by omega
    clear hlen
    go_loopw [5] (fun i wr => ∃ k : Nat, k ≤ l.length ∧ i = .int .i64 k ∧ Grew w wr ∧ Hid (∀ j (h1 : j < l.length) (h2 : j < m.length), j < k → l[j] = m[j])) (fun i _ => l.length - (intOf i).toNat)
    case atStart => exact ⟨0, Nat.zero_le _, rfl, Grew.refl _, fun j _ _ h => absurd h (Nat.not_lt_zero _)⟩
    case round =>
      obtain ⟨k, hk, rfl, hg, HI⟩ := hrel
      by_cases hlt : k < l.length
      · have hlt2 : k < m.length := by omega
        obtain ⟨b1, o1, rfl, hat⟩ := hl.at hlt
        obtain ⟨b2, o2, rfl, hat2⟩ := hm.at hlt2
        have c0 := hg.keep hat
        have d0 := hg.keep hat2
        have e0 := Grew.gcell c0
        have f0 := Grew.gcell d0
        clear hat hat2
        by_cases heq : l[k] = m[k]
        · have hnext : Hid (∀ j (h1 : j < l.length) (h2 : j < m.length), j < k + 1 → l[j] = m[j]) := fun j h1 h2 hj => by
            by_cases e : j = k
            · subst e; exact heq
            · exact HI.out j h1 h2 (by omega)
          have hne : (l[k] != m[k]) = false := by simp [heq]
          clear heq
          go_wp2_with fail
          refine quietly (by kernel_rfl) (by kernel_rfl) ?_
          repeat (go_big_quiet_step (first | fail))
          refine wpQuiet_nil ?_
          intro _ hw'
          obtain ⟨⟨nq, osq⟩, hw''⟩ := hw'
          subst hw''
          go_wp2
          go_roundw
          case rel => exact ⟨k + 1, by omega, by go_num, hg.trans ⟨_, _, rfl⟩, hnext⟩
          case measure => simp [intOf]; omega
        · have hend : Hid (decide (l = m) = false) := by
            show decide (l = m) = false
            rw [decide_eq_false_iff_not]
            intro h
            subst h
            exact heq rfl
          have hne : (l[k] != m[k]) = true := by simpa using heq
          clear heq
          go_wp2_with fail
          refine quietly (by kernel_rfl) (by kernel_rfl) ?_
          repeat (go_big_quiet_step (first | fail))
          refine wpQuiet_nil ?_
          intro _ hw'
          obtain ⟨⟨nq, osq⟩, hw''⟩ := hw'
          subst hw''
          go_wp2
          go_ret
          exact ⟨ret_bool hend.out.symm, hg.trans ⟨_, _, rfl⟩⟩
      · have hle : (l.length : Int) ≤ (k : Int) := by omega
        have hend : Hid (decide (l = m) = true) := by
          show decide (l = m) = true
          rw [decide_eq_true_eq]
          exact List.ext_getElem HL.out fun i h1 h2 => HI.out i h1 h2 (by omega)
        clear hlt
        go_wp2
        go_ret
        exact ⟨ret_bool hend.out.symm, hg⟩
  · have hne : ((l.length : Int) != (m.length : Int)) = true := by simp; omega
    have hend : Hid (decide (l = m) = false) := by show decide (l = m) = false; rw [decide_eq_false_iff_not]; intro h; exact hlen (by rw [h])
    clear hlen
    go_enter Try.func33, Try.ntmps33
    go_wp2
    go_ret
    exact ⟨ret_bool hend.out.symm, Grew.refl _⟩

set_option maxHeartbeats 1000000 in
theorem eqIntS_any (a b : Option Addr) (ca cb : Nat) (l m : List Int) (w : World) (hl : Ints w a l) (hm : Ints w b m) (hn : l.length ≤ 1048576) (hn' : m.length ≤ 1048576) :
    Calls Try.prog 49 #[.slice a l.length ca, .slice b m.length cb] w fun r w' => r = .returned (.bool (decide (l = m))) ∧ Grew w w' := by
  by_cases hlen : l.length = m.length
  · have hne : ((l.length : Int) != (m.length : Int)) = false := by simp [hlen]
    go_enter Try.func49, Try.ntmps49
    go_wp2_with fail
    clear hne
    have HL := hide hlen
    have hlen' : m.length ≤ l.length := by omega
    have hlen2 : l.length ≤ m.length := by omega
    clear hlen
    go_loopw [5] (fun i wr => ∃ k : Nat, k ≤ l.length ∧ i = .int .i64 k ∧ Grew w wr ∧ Hid (∀ j (h1 : j < l.length) (h2 : j < m.length), j < k → l[j] = m[j])) (fun i _ => l.length - (intOf i).toNat)
    case atStart => exact ⟨0, Nat.zero_le _, rfl, Grew.refl _, fun j _ _ h => absurd h (Nat.not_lt_zero _)⟩
    case round =>
      obtain ⟨k, hk, rfl, hg, HI⟩ := hrel
      by_cases hlt : k < l.length
      · have hlt2 : k < m.length := by omega
        obtain ⟨b1, o1, rfl, hat⟩ := hl.at hlt
        obtain ⟨b2, o2, rfl, hat2⟩ := hm.at hlt2
        have c0 := hg.keep hat
        have d0 := hg.keep hat2
        have e0 := Grew.gcell c0
        have f0 := Grew.gcell d0
        clear hat hat2
        by_cases heq : l[k] = m[k]
        · have hnext : Hid (∀ j (h1 : j < l.length) (h2 : j < m.length), j < k + 1 → l[j] = m[j]) := fun j h1 h2 hj => by
            by_cases e : j = k
            · subst e; exact heq
            · exact HI.out j h1 h2 (by omega)
          have hne : (l[k] != m[k]) = false := by simp [heq]
          clear heq
          go_wp2_with fail
          refine quietly (by kernel_rfl) (by kernel_rfl) ?_
          repeat (go_big_quiet_step (first | fail))
          refine wpQuiet_nil ?_
          intro _ hw'
          obtain ⟨⟨nq, osq⟩, hw''⟩ := hw'
          subst hw''
          go_wp2
          go_roundw
          case rel => exact ⟨k + 1, by omega, by go_num, hg.trans ⟨_, _, rfl⟩, hnext⟩
          case measure => simp [intOf]; omega
        · have hend : Hid (decide (l = m) = false) := by
            show decide (l = m) = false
            rw [decide_eq_false_iff_not]
            intro h
            subst h
            exact heq rfl
          have hne : (l[k] != m[k]) = true := by simpa using heq
          clear heq
          go_wp2_with fail
          refine quietly (by kernel_rfl) (by kernel_rfl) ?_
          repeat (go_big_quiet_step (first | fail))
          refine wpQuiet_nil ?_
          intro _ hw'
          obtain ⟨⟨nq, osq⟩, hw''⟩ := hw'
          subst hw''
          go_wp2
          go_ret
          exact ⟨ret_bool hend.out.symm, hg.trans ⟨_, _, rfl⟩⟩
      · have hle : (l.length : Int) ≤ (k : Int) := by omega
        have hend : Hid (decide (l = m) = true) := by
          show decide (l = m) = true
          rw [decide_eq_true_eq]
          exact List.ext_getElem HL.out fun i h1 h2 => HI.out i h1 h2 (by omega)
        clear hlt
        go_wp2
        go_ret
        exact ⟨ret_bool hend.out.symm, hg⟩
  · have hne : ((l.length : Int) != (m.length : Int)) = true := by simp; omega
    have hend : Hid (decide (l = m) = false) := by show decide (l = m) = false; rw [decide_eq_false_iff_not]; intro h; exact hlen (by rw [h])
    clear hlen
    go_enter Try.func49, Try.ntmps49
    go_wp2
    go_ret
    exact ⟨ret_bool hend.out.symm, Grew.refl _⟩

/-- The marks from k on. -/
def marksN : Int → Nat → List Int
  | _, 0 => []
  | k, n + 1 => k :: marksN (k + 1) n
theorem marksN_len : ∀ (n : Nat) (k : Int), (marksN k n).length = n
  | 0, _ => rfl
  | n + 1, k => by simp [marksN, marksN_len n]
theorem marksN_get : ∀ (n : Nat) (k : Int) (i : Nat) (h : i < (marksN k n).length), (marksN k n)[i] = k + i
  | 0, k, i, h => by simp [marksN] at h
  | n + 1, k, 0, h => by simp [marksN]
  | n + 1, k, i + 1, h => by
    have := marksN_get n (k + 1) i (by simpa [marksN] using h)
    simp only [marksN, List.getElem_cons_succ, this]
    omega
theorem Wrote.ints {a b : Option Addr} {w w' : World} {l : List Int} (h : Wrote a w w') (i : Ints w b l) (hne : 0 < l.length → ∀ x y, a = some x → b = some y → x.block ≠ y.block) : Ints w' b l := by
  by_cases h0 : l = []
  · exact .inl h0
  · have hp : 0 < l.length := List.length_pos_iff.2 h0
    rcases i with i | ⟨g, off, hb, i⟩
    · exact .inl i
    · have e : w'.heap[g]? = w.heap[g]? := h.keep g (fun x hx => hne hp x _ hx hb)
      refine .inr ⟨g, off, hb, fun j hj => ?_⟩
      rw [World.cell?_of_block (w := w) e]; exact i j hj
theorem Wrote.ownN {a : Option Addr} {w w' : World} {base : Nat} {v : Value} {l : List Int} (h : Wrote a w w') (o : OwnN w base v l) (hne : ∀ x g, a = some x → v.ownBlock = some g → x.block ≠ g) : OwnN w' base v l :=
  o.kept fun g _ _ hv => h.keep g fun x hx => hne x g hx hv

set_option maxHeartbeats 400000 in
theorem markN_any (base g n cap : Nat) (l : List Int) (k : Int) (w : World) (ho : OwnN w base (.slice (some ⟨g, 0, none⟩) n cap) l) (hn : n ≤ 1048576) (hk0 : 0 ≤ k) (hk : k ≤ 1000000000) :
    Calls Try.prog 52 #[.slice (some ⟨g, 0, none⟩) n cap, .int .i64 k] w fun r w' => r = .returned (.int .i64 (k + n)) ∧ OwnN w' base (.slice (some ⟨g, 0, none⟩) n cap) (marksN k n) ∧ Wrote (some ⟨g, 0, none⟩) w w' := by
  have hln : l.length = n := by
    obtain ⟨_, _, hv, _⟩ := ho.shape
    simp only [Value.slice.injEq] at hv
    exact hv.2.1.symm
  have HO := hide ho
  clear ho
  go_enter Try.func52, Try.ntmps52
  go_wp2_with fail
  go_loopw [1, 5] (fun kk i wr => ∃ j : Nat, j ≤ n ∧ i = .int .i64 j ∧ kk = .int .i64 (k + j) ∧ Hid (∃ m : List Int, m.length = n ∧ OwnN wr base (.slice (some ⟨g, 0, none⟩) n cap) m ∧ ∀ i (h : i < m.length), i < j → m[i] = k + i) ∧ Wrote (some ⟨g, 0, none⟩) w wr) (fun _ i _ => n - (intOf i).toNat)
  case atStart => exact ⟨0, Nat.zero_le _, rfl, by simp, ⟨l, hln, unhide HO, fun i _ h => absurd h (Nat.not_lt_zero _)⟩, Wrote.refl _ _⟩
  case round =>
    obtain ⟨j, hj, rfl, rfl, HM, hwr⟩ := hrel
    by_cases hlt : j < n
    · obtain ⟨m, hm, hom, hall⟩ := unhide HM
      obtain ⟨g', cp, hv, _, _, _, hi, hf⟩ := hom.shape
      simp only [Value.slice.injEq, Option.some.injEq, Addr.mk.injEq, and_true] at hv
      obtain ⟨rfl, _, _⟩ := hv
      obtain ⟨_, _, hv, d0⟩ := hi.at (i := j) (by omega)
      simp only [Option.some.injEq, Addr.mk.injEq, and_true] at hv
      obtain ⟨rfl, rfl⟩ := hv
      rw [Nat.zero_add] at d0
      have z0 := hf j
      have HN : Hid (∃ m : List Int, m.length = n ∧ OwnN (wr.setCell ⟨g, j, none⟩ (.int .i64 (k + j))) base (.slice (some ⟨g, 0, none⟩) n cap) m ∧ ∀ i (h : i < m.length), i < j + 1 → m[i] = k + i) := by
        refine ⟨m.set j (k + j), by simpa using hm, hom.set j _, fun i h hij => ?_⟩
        rw [List.getElem_set]
        split
        · rename_i e; subst e; rfl
        · exact hall i (by simpa using h) (by omega)
      obtain ⟨D, hD⟩ : ∃ D, D = m[j]'(by omega) := ⟨_, rfl⟩
      rw [← hD] at d0
      clear hi hf hall hom hm HM hD HO hln
      go_wp2
      go_roundw
      case rel => exact ⟨j + 1, by omega, by go_num, by go_num, HN, hwr.set (p := ⟨g, j, none⟩) ⟨⟨g, 0, none⟩, rfl, rfl⟩ _⟩
      case measure => simp [intOf]; omega
    · have hle : (n : Int) ≤ (j : Int) := by omega
      have hjn : Hid (j = n) := by show j = n; omega
      clear hlt HO hln
      go_wp2
      go_ret
      obtain ⟨m, hm, hom, hall⟩ := unhide HM
      have e : m = marksN k n := List.ext_getElem (by rw [marksN_len, hm]) fun i h1 h2 => by rw [marksN_get, hall i h1 (by omega)]
      rw [e] at hom
      exact ⟨by rw [hjn.out]; rfl, hom, hwr⟩

set_option maxHeartbeats 400000 in
theorem heldN_any (a : Option Addr) (n cap : Nat) (k : Int) (w : World) (hl : Ints w a (marksN k n)) (hn : n ≤ 1048576) (hk0 : 0 ≤ k) (hk : k ≤ 1000000000) :
    Calls Try.prog 53 #[.slice a n cap, .int .i64 k] w fun r w' => r = .returned (.int .i64 (k + n)) ∧ Grew w w' := by
  have HL := hide hl
  clear hl
  go_enter Try.func53, Try.ntmps53
  go_wp2_with fail
  go_loopw [1, 5] (fun kk i wr => ∃ j : Nat, j ≤ n ∧ i = .int .i64 j ∧ kk = .int .i64 (k + j) ∧ Grew w wr) (fun _ i _ => n - (intOf i).toNat)
  case atStart => exact ⟨0, Nat.zero_le _, rfl, by simp, Grew.refl _⟩
  case round =>
    obtain ⟨j, hj, rfl, rfl, hg⟩ := hrel
    by_cases hlt : j < n
    · have hjm : j < (marksN k n).length := by rw [marksN_len]; exact hlt
      obtain ⟨b, off, rfl, hat⟩ := (unhide HL).at hjm
      rw [marksN_get] at hat
      have c0 := hg.keep hat
      clear hat hjm
      go_wp2
      go_roundw
      case rel => exact ⟨j + 1, by omega, by go_num, by go_num, hg⟩
      case measure => simp [intOf]; omega
    · have hle : (n : Int) ≤ (j : Int) := by omega
      have hjn : Hid (j = n) := by show j = n; omega
      clear hlt
      go_wp2
      go_ret
      exact ⟨by rw [hjn.out]; rfl, hg⟩
end Go.Proofs.Ytppikkppgojbpaa
