/-
  With how many items two rows begin, and whether one begins the other, in the program and in the specification.
-/
import Derived.Test.YtjbnohepbmejkaaConv
namespace Go.Proofs.Ytjbnohepbmejkaa
set_option linter.unusedVariables false
open Go.RowKit
attribute [local simp] far_const

set_option maxHeartbeats 400000 in
theorem equal_item (x y : It) (w : World) : (Op.equalIn 10000 33 (.agg #[.int .i64 x.e, .int .i64 x.f, .int .i64 x.t, .int .i64 x.s]) (.agg #[.int .i64 y.e, .int .i64 y.f, .int .i64 y.t, .int .i64 y.s])).run Try.prog w = .ok (eqB x y) w := by
  go_simp
  by_cases he : x.e = y.e
  · by_cases hf : x.f = y.f
    · by_cases ht : x.t = y.t
      · by_cases hs : x.s = y.s
        · simp [eqB, he, hf, ht, hs]
        · simp [eqB, he, hf, ht, hs]
      · simp [eqB, he, hf, ht]
    · simp [eqB, he, hf]
  · simp [eqB, he]

theorem ret_int {a b : Int} (h : a = b) : Ending.returned (.int .i64 a) = .returned (.int .i64 b) := by rw [h]

set_option maxHeartbeats 1000000 in
theorem shared_any (a b : Option Addr) (ca cb : Nat) (l m : List It) (w : World) (hl : Its w a l) (hm : Its w b m) (hn : l.length ≤ 1048576) (hn' : m.length ≤ 1048576) :
    Calls Try.prog 154 #[.slice a l.length ca, .slice b m.length cb] w fun r w' => r = .returned (.int .i64 (shareN l m)) ∧ Grew w w' := by
  go_enter Try.func154, Try.ntmps154
  go_wp2_with fail
  go_loopw [5] (fun i wr => ∃ k : Nat, k ≤ l.length ∧ k ≤ m.length ∧ i = .int .i64 k ∧ Grew w wr ∧ (∀ j (h1 : j < l.length) (h2 : j < m.length), j < k → eqB l[j] m[j] = true)) (fun i _ => l.length - (intOf i).toNat)
  case atStart => exact ⟨0, Nat.zero_le _, Nat.zero_le _, rfl, Grew.refl _, fun j _ _ h => absurd h (Nat.not_lt_zero _)⟩
  case round =>
    obtain ⟨k, hk, hk', rfl, hg, hits⟩ := hrel
    have HI : Hid (∀ j (h1 : j < l.length) (h2 : j < m.length), j < k → eqB l[j] m[j] = true) := hits
    clear hits
    by_cases hlt : k < l.length
    · by_cases hlt2 : k < m.length
      · obtain ⟨b1, o1, rfl, hat⟩ := hl.at hlt
        obtain ⟨b2, o2, rfl, hat2⟩ := hm.at hlt2
        obtain ⟨c0, c1, c2, c3⟩ := hat.grew hg
        obtain ⟨d0, d1, d2, d3⟩ := hat2.grew hg
        have e0 := Grew.gcell c0
        have e1 := Grew.gcell c1
        have e2 := Grew.gcell c2
        have e3 := Grew.gcell c3
        have f0 := Grew.gcell d0
        have f1 := Grew.gcell d1
        have f2 := Grew.gcell d2
        have f3 := Grew.gcell d3
        have heq := equal_item l[k] m[k]
        cases hb : eqB l[k] m[k] with
        | true =>
          rw [hb] at heq
          have hnext : Hid (∀ j (h1 : j < l.length) (h2 : j < m.length), j < k + 1 → eqB l[j] m[j] = true) := fun j h1 h2 hj => by
            by_cases e : j = k
            · subst e; exact hb
            · exact HI.out j h1 h2 (by omega)
          go_wp2_with fail
          refine quietly (by kernel_rfl) (by kernel_rfl) ?_
          repeat (go_big_quiet_step (first | fail))
          refine wpQuiet_nil ?_
          intro _ hw'
          obtain ⟨⟨nq, osq⟩, hw''⟩ := hw'
          subst hw''
          go_wp2
          go_roundw
          case rel => exact ⟨k + 1, by omega, by omega, by go_num, hg.trans ⟨_, _, rfl⟩, hnext.out⟩
          case measure => simp [intOf]; omega
        | false =>
          rw [hb] at heq
          have hend : Hid (k = shareN l m) := shareN_is l m k hk hk' (fun i h1 h2 h => HI.out i h1 h2 h) (fun _ _ => hb)
          go_wp2_with fail
          refine quietly (by kernel_rfl) (by kernel_rfl) ?_
          repeat (go_big_quiet_step (first | fail))
          refine wpQuiet_nil ?_
          intro _ hw'
          obtain ⟨⟨nq, osq⟩, hw''⟩ := hw'
          subst hw''
          go_wp2
          go_ret
          exact ⟨ret_int (by rw [← hend.out]), hg.trans ⟨_, _, rfl⟩⟩
      · have hx : decide (k < m.length) = false := by simpa using hlt2
        have hx' : decide ((k : Int) < (m.length : Int)) = false := by simp; omega
        have hend : Hid (k = shareN l m) := shareN_is l m k hk hk' (fun i h1 h2 h => HI.out i h1 h2 h) (fun _ h => absurd h hlt2)
        clear hlt2
        go_wp2_with fail
        refine quietly (by kernel_rfl) (by kernel_rfl) ?_
        repeat (go_big_quiet_step (first | fail))
        refine wpQuiet_nil ?_
        intro _ hw'
        obtain ⟨⟨nq, osq⟩, hw''⟩ := hw'
        subst hw''
        go_wp2
        go_ret
        exact ⟨ret_int (by rw [← hend.out]), hg.trans ⟨_, _, rfl⟩⟩
    · have hx : decide (k < l.length) = false := by simpa using hlt
      have hx' : decide ((k : Int) < (l.length : Int)) = false := by simp; omega
      have hend : Hid (k = shareN l m) := shareN_is l m k hk hk' (fun i h1 h2 h => HI.out i h1 h2 h) (fun h _ => absurd h hlt)
      clear hlt
      go_wp2_with fail
      refine quietly (by kernel_rfl) (by kernel_rfl) ?_
      repeat (go_big_quiet_step (first | fail))
      refine wpQuiet_nil ?_
      intro _ hw'
      obtain ⟨⟨nq, osq⟩, hw''⟩ := hw'
      subst hw''
      go_wp2
      go_ret
      exact ⟨ret_int (by rw [← hend.out]), hg.trans ⟨_, _, rfl⟩⟩

set_option maxHeartbeats 1000000 in
theorem l1In_any (a b : Option Addr) (ca cb : Nat) (l m : List It) (w : World) (hl : Its w a l) (hm : Its w b m) (hn : l.length ≤ 1048576) (hn' : m.length ≤ 1048576) :
    Calls Try.prog 140 #[.slice a l.length ca, .slice b m.length cb] w fun r w' => r = .returned (.bool (decide (shareN l m = l.length))) ∧ Grew w w' := by
  by_cases hlen : l.length ≤ m.length
  · have hx : ((m.length : Int) < (l.length : Int)) = False := by simp; omega
    go_enter Try.func140, Try.ntmps140
    go_wp2_with fail
    clear hx
    go_loopw [5] (fun i wr => ∃ k : Nat, k ≤ l.length ∧ i = .int .i64 k ∧ Grew w wr ∧ (∀ j (h1 : j < l.length) (h2 : j < m.length), j < k → eqB l[j] m[j] = true)) (fun i _ => l.length - (intOf i).toNat)
    case atStart => exact ⟨0, Nat.zero_le _, rfl, Grew.refl _, fun j _ _ h => absurd h (Nat.not_lt_zero _)⟩
    case round =>
      obtain ⟨k, hk, rfl, hg, hits⟩ := hrel
      have HI : Hid (∀ j (h1 : j < l.length) (h2 : j < m.length), j < k → eqB l[j] m[j] = true) := hits
      clear hits
      by_cases hlt : k < l.length
      · have hlt2 : k < m.length := by omega
        obtain ⟨b1, o1, rfl, hat⟩ := hl.at hlt
        obtain ⟨b2, o2, rfl, hat2⟩ := hm.at hlt2
        obtain ⟨c0, c1, c2, c3⟩ := hat.grew hg
        obtain ⟨d0, d1, d2, d3⟩ := hat2.grew hg
        have e0 := Grew.gcell c0
        have e1 := Grew.gcell c1
        have e2 := Grew.gcell c2
        have e3 := Grew.gcell c3
        have f0 := Grew.gcell d0
        have f1 := Grew.gcell d1
        have f2 := Grew.gcell d2
        have f3 := Grew.gcell d3
        have heq := equal_item l[k] m[k]
        cases hb : eqB l[k] m[k] with
        | true =>
          rw [hb] at heq
          have hnext : Hid (∀ j (h1 : j < l.length) (h2 : j < m.length), j < k + 1 → eqB l[j] m[j] = true) := fun j h1 h2 hj => by
            by_cases e : j = k
            · subst e; exact hb
            · exact HI.out j h1 h2 (by omega)
          go_wp2_with fail
          refine quietly (by kernel_rfl) (by kernel_rfl) ?_
          repeat (go_big_quiet_step (first | fail))
          refine wpQuiet_nil ?_
          intro _ hw'
          obtain ⟨⟨nq, osq⟩, hw''⟩ := hw'
          subst hw''
          go_wp2
          go_roundw
          case rel => exact ⟨k + 1, by omega, by go_num, hg.trans ⟨_, _, rfl⟩, hnext.out⟩
          case measure => simp [intOf]; omega
        | false =>
          rw [hb] at heq
          have hend : Hid (decide (shareN l m = l.length) = false) := by
            show decide (shareN l m = l.length) = false
            rw [← shareN_is l m k hk (by omega) (fun i h1 h2 h => HI.out i h1 h2 h) (fun _ _ => hb)]
            simp; omega
          go_wp2_with fail
          refine quietly (by kernel_rfl) (by kernel_rfl) ?_
          repeat (go_big_quiet_step (first | fail))
          refine wpQuiet_nil ?_
          intro _ hw'
          obtain ⟨⟨nq, osq⟩, hw''⟩ := hw'
          subst hw''
          go_wp2
          go_ret
          exact ⟨ret_bool hend.out.symm, hg.trans ⟨_, _, rfl⟩⟩
      · have hle : (l.length : Int) ≤ (k : Int) := by omega
        have hend : Hid (decide (shareN l m = l.length) = true) := by
          show decide (shareN l m = l.length) = true
          rw [← shareN_is l m l.length (Nat.le_refl _) hlen (fun i h1 h2 h => HI.out i h1 h2 (by omega)) (fun h _ => absurd h (Nat.lt_irrefl _))]
          simp
        go_wp2
        go_ret
        exact ⟨ret_bool hend.out.symm, hg⟩
  · have hx : (m.length : Int) < (l.length : Int) := by omega
    have hend : Hid (decide (shareN l m = l.length) = false) := by
      show decide (shareN l m = l.length) = false
      have := shareN_le l m
      simp; omega
    go_enter Try.func140, Try.ntmps140
    go_wp2
    go_ret
    exact ⟨ret_bool hend.out.symm, Grew.refl _⟩

set_option maxHeartbeats 1000000 in
theorem implChainIn (a b : Option Addr) (ca cb : Nat) (l m : List It) (w : World) (hl : Its w a l) (hm : Its w b m) (hn : l.length ≤ 1048576) (hn' : m.length ≤ 1048576) :
    Calls Try.prog 133 #[.slice a l.length ca, .slice b m.length cb] w fun r w' => r = .returned (.bool (inC l m)) ∧ Grew w w' := by
  cases h1 : okB l with
  | false =>
    have hend : Hid (inC l m = false) := by show inC l m = false; unfold inC; rw [h1]; rfl
    go_enter Try.func133, Try.ntmps133
    go_wp2_with fail
    refine (implChainOk _ _ l _ hl hn).mono ?_
    rintro r w1 ⟨rfl, g1⟩
    rw [h1]
    go_wp2
    go_ret
    exact ⟨ret_bool hend.out.symm, g1⟩
  | true =>
    cases h2 : okB m with
    | false =>
      have hend : Hid (inC l m = false) := by show inC l m = false; unfold inC; rw [h1, h2]; rfl
      go_enter Try.func133, Try.ntmps133
      go_wp2_with fail
      refine (implChainOk _ _ l _ hl hn).mono ?_
      rintro r w1 ⟨rfl, g1⟩
      rw [h1]
      go_wp2_with fail
      refine (implChainOk _ _ m _ (hm.grew g1) hn').mono ?_
      rintro r w2 ⟨rfl, g2⟩
      rw [h2]
      go_wp2
      go_ret
      exact ⟨ret_bool hend.out.symm, g1.trans g2⟩
    | true =>
      have hend : Hid (inC l m = decide (shareN l m = l.length)) := by show inC l m = _; unfold inC; rw [h1, h2]; rfl
      go_enter Try.func133, Try.ntmps133
      go_wp2_with fail
      refine (implChainOk _ _ l _ hl hn).mono ?_
      rintro r w1 ⟨rfl, g1⟩
      rw [h1]
      go_wp2_with fail
      refine (implChainOk _ _ m _ (hm.grew g1) hn').mono ?_
      rintro r w2 ⟨rfl, g2⟩
      rw [h2]
      go_wp2_with fail
      refine (shared_any _ _ _ _ l m _ (hl.grew (g1.trans g2)) (hm.grew (g1.trans g2)) hn hn').mono ?_
      rintro r w3 ⟨rfl, g3⟩
      go_wp2
      go_ret
      exact ⟨ret_bool (by rw [hend.out]; by_cases e : shareN l m = l.length <;> simp [e]; omega), (g1.trans g2).trans g3⟩

end Go.Proofs.Ytjbnohepbmejkaa
