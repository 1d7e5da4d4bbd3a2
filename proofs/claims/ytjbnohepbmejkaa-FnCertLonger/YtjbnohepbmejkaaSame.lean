/-
  Whether two chains are the same; how chains begin each other, plainly.
-/
import Derived.Test.YtjbnohepbmejkaaIn
namespace Go.Proofs.Ytjbnohepbmejkaa
set_option linter.unusedVariables false
open Go.RowKit
attribute [local simp] far_const

set_option maxHeartbeats 1000000 in
theorem lwSame_any (a b : Option Addr) (ca cb : Nat) (l m : List It) (w : World) (hl : Its w a l) (hm : Its w b m) (hn : l.length ≤ 1048576) (hn' : m.length ≤ 1048576) :
    Calls Try.prog 28 #[.slice a l.length ca, .slice b m.length cb] w fun r w' => r = .returned (.bool (sameB l m)) ∧ Grew w w' := by
  by_cases hlen : l.length = m.length
  · have hne : ((l.length : Int) != (m.length : Int)) = false := by simp [hlen]
    go_enter Try.func28, Try.ntmps28
    go_wp2_with fail
    clear hne
    have HL : Hid (l.length = m.length) := hlen
    have hlen' : m.length ≤ l.length := by omega
    have hlen2 : l.length ≤ m.length := by omega
    clear hlen
    go_loopw [5] (fun i wr => ∃ k : Nat, k ≤ l.length ∧ i = .int .i64 k ∧ Grew w wr ∧ (∀ j (h1 : j < l.length) (h2 : j < m.length), j < k → eqB l[j] m[j] = true)) (fun i _ => l.length - (intOf i).toNat)
    case atStart => exact ⟨0, Nat.zero_le _, rfl, Grew.refl _, fun j _ _ h => absurd h (Nat.not_lt_zero _)⟩
    case round =>
      obtain ⟨k, hk, rfl, hg, hits⟩ := hrel
      have HI : Hid (∀ j (h1 : j < l.length) (h2 : j < m.length), j < k → eqB l[j] m[j] = true) := hits
      clear hits
      by_cases hlt : k < l.length
      · have hlt2 : k < m.length := by omega
        obtain ⟨b1, o1, rfl, hat⟩ := hl.at hlt
        obtain ⟨b2, o2, rfl, hat2⟩ := hm.at hlt2
        obtain ⟨c0, c1, c2, c3⟩ := hat.grew hg
        obtain ⟨d0, d1, d2, d3⟩ := hat2.grew hg
        have e0 := Grew.gcell c0
        have e1 := Grew.gcell c1
        have e2 := Grew.gcell c2
        have e3 := Grew.gcell c3
        have f0 := Grew.gcell d0
        have f1 := Grew.gcell d1
        have f2 := Grew.gcell d2
        have f3 := Grew.gcell d3
        have heq := equal_item l[k] m[k]
        cases hb : eqB l[k] m[k] with
        | true =>
          rw [hb] at heq
          have hnext : Hid (∀ j (h1 : j < l.length) (h2 : j < m.length), j < k + 1 → eqB l[j] m[j] = true) := fun j h1 h2 hj => by
            by_cases e : j = k
            · subst e; exact hb
            · exact HI.out j h1 h2 (by omega)
          go_wp2_with fail
          refine quietly (by kernel_rfl) (by kernel_rfl) ?_
          repeat (go_big_quiet_step (first | fail))
          refine wpQuiet_nil ?_
          intro _ hw'
          obtain ⟨⟨nq, osq⟩, hw''⟩ := hw'
          subst hw''
          go_wp2
          go_roundw
          case rel => exact ⟨k + 1, by omega, by go_num, hg.trans ⟨_, _, rfl⟩, hnext.out⟩
          case measure => simp [intOf]; omega
        | false =>
          rw [hb] at heq
          have hend : Hid (sameB l m = false) := by
            show sameB l m = false
            cases h : sameB l m with
            | false => rfl
            | true =>
              have := (sameB_iff l m).1 h
              subst this
              rw [(eqB_iff l[k] l[k]).2 rfl] at hb
              exact hb
          go_wp2_with fail
          refine quietly (by kernel_rfl) (by kernel_rfl) ?_
          repeat (go_big_quiet_step (first | fail))
          refine wpQuiet_nil ?_
          intro _ hw'
          obtain ⟨⟨nq, osq⟩, hw''⟩ := hw'
          subst hw''
          go_wp2
          go_ret
          exact ⟨ret_bool hend.out.symm, hg.trans ⟨_, _, rfl⟩⟩
      · have hle : (l.length : Int) ≤ (k : Int) := by omega
        have hend : Hid (sameB l m = true) := by
          show sameB l m = true
          unfold sameB
          rw [← shareN_is l m l.length (Nat.le_refl _) (by omega) (fun i h1 h2 h => HI.out i h1 h2 (by omega)) (fun h _ => absurd h (Nat.lt_irrefl _))]
          simp [HL.out]
        go_wp2
        go_ret
        exact ⟨ret_bool hend.out.symm, hg⟩
  · have hne : ((l.length : Int) != (m.length : Int)) = true := by simp; omega
    have hend : Hid (sameB l m = false) := by show sameB l m = false; unfold sameB; simp [hlen]
    clear hlen
    go_enter Try.func28, Try.ntmps28
    go_wp2
    go_ret
    exact ⟨ret_bool hend.out.symm, Grew.refl _⟩

theorem implChainIn_n (a b : Option Addr) (ca cb : Nat) (l m : List It) (w : World) (hl : Its w a l) (hm : Its w b m) (na nb : Nat) (ha : l.length = na) (hb : m.length = nb) (hn : na ≤ 1048576) (hn' : nb ≤ 1048576) :
    Calls Try.prog 133 #[.slice a na ca, .slice b nb cb] w fun r w' => r = .returned (.bool (inC l m)) ∧ Grew w w' := by
  subst ha hb; exact implChainIn a b ca cb l m w hl hm hn hn'
theorem specChainOk_n (a : Option Addr) (ca : Nat) (l : List It) (w : World) (hl : Its w a l) (na : Nat) (ha : l.length = na) (hn : na ≤ 1048576) :
    Calls Try.prog 53 #[.slice a na ca] w fun r w' => r = .returned (.bool (okB l)) ∧ Grew w w' := by
  subst ha; exact specChainOk a ca l w hl hn
theorem lwSame_n (a b : Option Addr) (ca cb : Nat) (l m : List It) (w : World) (hl : Its w a l) (hm : Its w b m) (na nb : Nat) (ha : l.length = na) (hb : m.length = nb) (hn : na ≤ 1048576) (hn' : nb ≤ 1048576) :
    Calls Try.prog 28 #[.slice a na ca, .slice b nb cb] w fun r w' => r = .returned (.bool (sameB l m)) ∧ Grew w w' := by
  subst ha hb; exact lwSame_any a b ca cb l m w hl hm hn hn'

theorem inC_iff (a b : List It) : inC a b = true ↔ okB a = true ∧ okB b = true ∧ ∃ r, b = a ++ r := by
  unfold inC
  simp only [Bool.and_eq_true, decide_eq_true_eq, shareN_all, and_assoc]
theorem okB_app {a r : List It} (h : okB (a ++ r) = true) : okB a = true := by
  unfold okB at h ⊢
  simp only [Bool.and_eq_true, decide_eq_true_eq, List.length_append, goB_app] at h ⊢
  exact ⟨by omega, h.2.1⟩
theorem okB_take {a : List It} (h : okB a = true) (k : Nat) : okB (a.take k) = true := by
  apply okB_app (r := a.drop k)
  rwa [List.take_append_drop]
theorem inC_self {a : List It} (h : okB a = true) : inC a a = true := (inC_iff _ _).2 ⟨h, h, [], by simp⟩
theorem inC_nil {a : List It} (h : okB a = true) : inC [] a = true := (inC_iff _ _).2 ⟨rfl, h, a, rfl⟩
theorem inC_anti {a b : List It} (h : inC a b = true) (k : inC b a = true) : sameB a b = true := by
  obtain ⟨_, _, r, rfl⟩ := (inC_iff _ _).1 h
  obtain ⟨_, _, s, hs⟩ := (inC_iff _ _).1 k
  have hl := congrArg List.length hs
  simp only [List.length_append] at hl
  have : r = [] := List.eq_nil_of_length_eq_zero (by omega)
  subst this
  rw [sameB_iff]; simp
theorem inC_cut {a b : List It} (h : inC a b = true) (k : Nat) : (inC a (b.take k) || inC (b.take k) a) = true := by
  obtain ⟨h1, h2, r, rfl⟩ := (inC_iff _ _).1 h
  rw [Bool.or_eq_true]
  by_cases hk : a.length ≤ k
  · left
    refine (inC_iff _ _).2 ⟨h1, okB_take h2 k, r.take (k - a.length), ?_⟩
    rw [List.take_append, List.take_of_length_le hk]
  · right
    refine (inC_iff _ _).2 ⟨okB_take h2 k, h1, a.drop k, ?_⟩
    rw [List.take_append_of_le_length (by omega), List.take_append_drop]
end Go.Proofs.Ytjbnohepbmejkaa
