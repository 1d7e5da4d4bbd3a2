/-
  The specification's look at votes: whether a vote is among some, whether votes are ok.
-/
import Derived.Test.YtjbnohepbmejkaaVOk
namespace Go.Proofs.Ytjbnohepbmejkaa
set_option linter.unusedVariables false
open Go.RowKit
attribute [local simp] far_const

set_option maxHeartbeats 1000000 in
theorem l3Same_any (a b : Option Addr) (ca cb : Nat) (l m : List It) (w : World) (hl : Its w a l) (hm : Its w b m) (hn : l.length ≤ 1048576) (hn' : m.length ≤ 1048576) :
    Calls Try.prog 106 #[.slice a l.length ca, .slice b m.length cb] w fun r w' => r = .returned (.bool (sameB l m)) ∧ Grew w w' := by
  by_cases hlen : l.length = m.length
  · have hx : Hid (sameB l m = decide (shareN l m = l.length)) := by show sameB l m = _; unfold sameB; simp [hlen]
    have he : ((l.length : Int) == (m.length : Int)) = true := by simp [hlen]
    clear hlen
    go_enter Try.func106, Try.ntmps106
    go_wp2_with fail
    refine (l1In_any _ _ _ _ l m _ hl hm hn hn').mono ?_
    rintro r w1 ⟨rfl, g1⟩
    go_wp2
    go_ret
    exact ⟨ret_bool hx.out.symm, g1⟩
  · have hx : Hid (sameB l m = false) := by show sameB l m = _; unfold sameB; simp [hlen]
    have he : ((l.length : Int) == (m.length : Int)) = false := by simp; omega
    clear hlen
    go_enter Try.func106, Try.ntmps106
    go_wp2
    go_ret
    exact ⟨ret_bool hx.out.symm, Grew.refl _⟩

theorem hasB_take_snoc (l : List Vt) (x : Vt) (k : Nat) (hk : k < l.length) : hasB (l.take (k + 1)) x = (hasB (l.take k) x || sameV l[k] x) := by
  rw [List.take_succ_eq_append_getElem hk, hasB_app]; simp [hasB]
theorem hasB_part (l : List Vt) (x : Vt) (k : Nat) (hk : k < l.length) (h : sameV l[k] x = true) : hasB l x = true :=
  (hasB_iff l x).2 (by rw [← (sameV_iff _ _).1 h]; exact List.getElem_mem hk)

set_option maxHeartbeats 2000000 in
theorem l3Has_any (a : Option Addr) (cap n : Nat) (l : List Vt) (x : Vt) (v : Value) (w : World) (hln : l.length = n) (hl : Vts w a l) (hv : VtV w v x) (hs : Short l) (hx : x.c.length ≤ 1048576) (hn : n ≤ 1048576) :
    Calls Try.prog 67 #[.slice a n cap, v] w fun r w' => r = .returned (.bool (hasB l x)) ∧ Grew w w' := by
  obtain ⟨av, capv, rfl, hxl⟩ := hv
  subst hln
  go_enter Try.func67, Try.ntmps67
  go_wp2_with fail
  go_loopw [5] (fun i wr => ∃ k : Nat, k ≤ l.length ∧ i = .int .i64 k ∧ Hid (hasB (l.take k) x = false) ∧ Grew (w.alloc (.cells #[.int .i64 x.n, .slice av x.c.length capv] 45)) wr) (fun i _ => l.length - (intOf i).toNat)
  case atStart => exact ⟨0, Nat.zero_le _, rfl, rfl, Grew.refl _⟩
  case round =>
    obtain ⟨k, hk, rfl, hno, hg⟩ := hrel
    have G := hide (((Grew.refl w).alloc _).trans hg)
    by_cases hlt : k < l.length
    · obtain ⟨b, off, rfl, hat⟩ := hl.at hlt
      obtain ⟨c0, a1, cap1, c1, hi⟩ := hat.grew (unhide G)
      have d0 := hg.keep (p := ⟨w.heap.size, 0, none⟩) (v := .int .i64 x.n) (by simp [go_sem])
      have d1 := hg.keep (p := ⟨w.heap.size, 1, none⟩) (v := .slice av x.c.length capv) (by simp [go_sem])
      have hxi := hxl.grew (unhide G)
      have e0 := Grew.gcell c0
      have e1 := Grew.gcell c1
      have f0 := Grew.gcell d0
      have f1 := Grew.gcell d1
      have hs1 := hs.at hlt
      clear hat hl hxl
      by_cases hnn : l[k].n = x.n
      · have hb : (l[k].n == x.n) = true := by simpa using hnn
        cases hsame : sameB l[k].c x.c with
        | true =>
          have hend : Hid (hasB l x = true) := hasB_part l x k hlt (by unfold sameV; rw [hb, hsame]; rfl)
          clear hnn
          go_wp2_with fail
          refine quietly (by kernel_rfl) (by kernel_rfl) ?_
          repeat (go_big_quiet_step (first | (go_at_call 106; exact Calls.far (l3Same_any _ _ _ _ l[k].c x.c _ (hi.grew ⟨_, _, rfl⟩) (hxi.grew ⟨_, _, rfl⟩) hs1 hx))))
          refine wpQuiet_nil ?_
          intro _ hw'
          obtain ⟨⟨nq, osq⟩, hw''⟩ := hw'
          subst hw''
          go_wp2
          go_ret
          exact ⟨ret_bool hend.out.symm, (unhide G).trans ⟨_, _, rfl⟩⟩
        | false =>
          have hnext : Hid (hasB (l.take (k + 1)) x = false) := by
            show hasB (l.take (k + 1)) x = false
            rw [hasB_take_snoc l x k hlt, show hasB (l.take k) x = false from hno.out]
            unfold sameV; rw [hsame, Bool.and_false]; rfl
          clear hnn
          go_wp2_with fail
          refine quietly (by kernel_rfl) (by kernel_rfl) ?_
          repeat (go_big_quiet_step (first | (go_at_call 106; exact Calls.far (l3Same_any _ _ _ _ l[k].c x.c _ (hi.grew ⟨_, _, rfl⟩) (hxi.grew ⟨_, _, rfl⟩) hs1 hx))))
          refine wpQuiet_nil ?_
          intro _ hw'
          obtain ⟨⟨nq, osq⟩, hw''⟩ := hw'
          subst hw''
          go_wp2
          go_roundw
          case rel => exact ⟨k + 1, by omega, by go_num, hnext, hg.trans ⟨_, _, rfl⟩⟩
          case measure => simp [intOf]; omega
      · have hb : (l[k].n == x.n) = false := by simpa using hnn
        have hnext : Hid (hasB (l.take (k + 1)) x = false) := by
          show hasB (l.take (k + 1)) x = false
          rw [hasB_take_snoc l x k hlt, show hasB (l.take k) x = false from hno.out]
          unfold sameV; rw [hb]; rfl
        clear hnn
        go_wp2_with fail
        refine quietly (by kernel_rfl) (by kernel_rfl) ?_
        repeat (go_big_quiet_step (first | (go_at_call 106; exact Calls.far (l3Same_any _ _ _ _ l[k].c x.c _ (hi.grew ⟨_, _, rfl⟩) (hxi.grew ⟨_, _, rfl⟩) hs1 hx))))
        refine wpQuiet_nil ?_
        intro _ hw'
        obtain ⟨⟨nq, osq⟩, hw''⟩ := hw'
        subst hw''
        go_wp2
        go_roundw
        case rel => exact ⟨k + 1, by omega, by go_num, hnext, hg.trans ⟨_, _, rfl⟩⟩
        case measure => simp [intOf]; omega
    · have hle : (l.length : Int) ≤ (k : Int) := by omega
      have hend : Hid (hasB l x = false) := by
        show hasB l x = false
        have : l.take k = l := List.take_of_length_le (by omega)
        rw [← this]; exact hno.out
      go_wp2
      go_ret
      exact ⟨ret_bool hend.out.symm, unhide G⟩

theorem votesB_take_all {l : List Vt} (h : ∀ k (hk : k < l.length), k < l.length → vokB l[k] = true ∧ hasB (l.take k) l[k] = false) : votesB l = true :=
  votesB_all fun k hk => by obtain ⟨h1, h2⟩ := h k hk hk; rw [h1, h2]; rfl

set_option maxHeartbeats 2000000 in
theorem specVotesOk (a : Option Addr) (cap : Nat) (l : List Vt) (w : World) (hl : Vts w a l) (hcap : l.length ≤ cap) (hs : Short l) (hn : l.length ≤ 1048576) :
    Calls Try.prog 20 #[.slice a l.length cap] w fun r w' => r = .returned (.bool (votesB l)) ∧ Grew w w' := by
  go_enter Try.func20, Try.ntmps20
  go_wp2_with fail
  go_loopw [3] (fun i wr => ∃ k : Nat, k ≤ l.length ∧ i = .int .i64 k ∧ Hid (∀ j (hj : j < l.length), j < k → vokB l[j] = true ∧ hasB (l.take j) l[j] = false) ∧ Grew w wr) (fun i _ => l.length - (intOf i).toNat)
  case atStart => exact ⟨0, Nat.zero_le _, rfl, fun j _ h => absurd h (Nat.not_lt_zero _), Grew.refl _⟩
  case round =>
    obtain ⟨k, hk, rfl, hno, hg⟩ := hrel
    by_cases hlt : k < l.length
    · have hl2 := hide ((hl.grew hg).take k)
      obtain ⟨b, off, rfl, hat⟩ := hl.at hlt
      obtain ⟨c0, a1, cap1, c1, hi⟩ := hat.grew hg
      have e0 := Grew.gcell c0
      have e1 := Grew.gcell c1
      have hs1 := hs.at hlt
      have hkc : k ≤ cap := by omega
      clear hat hl
      cases hvk : vokB l[k] with
      | false =>
        have hend : Hid (votesB l = false) := votesB_at k hlt (by rw [hvk]; rfl)
        go_wp2_with fail
        refine quietly (by kernel_rfl) (by kernel_rfl) ?_
        repeat (go_big_quiet_step (first | (go_at_call 66; exact Calls.far (l3Vote_any l[k] _ _ ⟨_, _, rfl, hi.grew ⟨_, _, rfl⟩⟩ hs1))))
        refine wpQuiet_nil ?_
        intro _ hw'
        obtain ⟨⟨nq, osq⟩, hw''⟩ := hw'
        subst hw''
        go_wp2
        go_ret
        exact ⟨ret_bool hend.out.symm, hg.trans ⟨_, _, rfl⟩⟩
      | true =>
        cases hhk : hasB (l.take k) l[k] with
        | true =>
          have hend : Hid (votesB l = false) := votesB_at k hlt (by rw [hvk, hhk]; rfl)
          go_wp2_with fail
          refine quietly (by kernel_rfl) (by kernel_rfl) ?_
          repeat (go_big_quiet_step (first | (go_at_call 66; exact Calls.far (l3Vote_any l[k] _ _ ⟨_, _, rfl, hi.grew ⟨_, _, rfl⟩⟩ hs1)) | (go_at_call 67; exact Calls.far (l3Has_any _ _ k (l.take k) l[k] _ _ (by simp; omega) ((unhide hl2).grew ⟨_, _, rfl⟩) ⟨_, _, rfl, hi.grew ⟨_, _, rfl⟩⟩ (hs.take k) hs1 (by omega)))))
          refine wpQuiet_nil ?_
          intro _ hw'
          obtain ⟨⟨nq, osq⟩, hw''⟩ := hw'
          subst hw''
          go_wp2
          go_ret
          exact ⟨ret_bool hend.out.symm, hg.trans ⟨_, _, rfl⟩⟩
        | false =>
          have hnext : Hid (∀ j (hj : j < l.length), j < k + 1 → vokB l[j] = true ∧ hasB (l.take j) l[j] = false) := fun j hj hjk => by
            by_cases e : j = k
            · subst e; exact ⟨hvk, hhk⟩
            · exact hno.out j hj (by omega)
          go_wp2_with fail
          refine quietly (by kernel_rfl) (by kernel_rfl) ?_
          repeat (go_big_quiet_step (first | (go_at_call 66; exact Calls.far (l3Vote_any l[k] _ _ ⟨_, _, rfl, hi.grew ⟨_, _, rfl⟩⟩ hs1)) | (go_at_call 67; exact Calls.far (l3Has_any _ _ k (l.take k) l[k] _ _ (by simp; omega) ((unhide hl2).grew ⟨_, _, rfl⟩) ⟨_, _, rfl, hi.grew ⟨_, _, rfl⟩⟩ (hs.take k) hs1 (by omega)))))
          refine wpQuiet_nil ?_
          intro _ hw'
          obtain ⟨⟨nq, osq⟩, hw''⟩ := hw'
          subst hw''
          go_wp2
          go_roundw
          case rel => exact ⟨k + 1, by omega, by go_num, hnext, hg.trans ⟨_, _, rfl⟩⟩
          case measure => simp [intOf]; omega
    · have hle : (l.length : Int) ≤ (k : Int) := by omega
      have hend : Hid (votesB l = true) := votesB_take_all fun j hj _ => hno.out j hj (by omega)
      go_wp2
      go_ret
      exact ⟨ret_bool hend.out.symm, hg⟩
end Go.Proofs.Ytjbnohepbmejkaa
