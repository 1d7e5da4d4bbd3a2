/-
  The laws' own looks at votes: whether votes are the same, whether one is among some, votes the other way about.
-/
import Derived.Test.YtppikkppgojbpaaVForms
import Derived.Test.YtppikkppgojbpaaSame
namespace Go.Proofs.Ytppikkppgojbpaa
set_option linter.unusedVariables false
open Go.RowKit
attribute [local simp] far_const

set_option maxHeartbeats 1000000 in
theorem lwVote_any (x y : Vt) (v u : Value) (w : World) (hv : VtV w v x) (hu : VtV w u y) (hn : x.c.length ≤ 1048576) (hn' : y.c.length ≤ 1048576) :
    Calls Try.prog 29 #[v, u] w fun r w' => r = .returned (.bool (sameV x y)) ∧ Grew w w' := by
  obtain ⟨a, cap, rfl, hl⟩ := hv
  obtain ⟨b, capb, rfl, hm⟩ := hu
  by_cases hne : x.n = y.n
  · have hb : (x.n == y.n) = true := by simpa using hne
    have hx : Hid (sameV x y = sameB x.c y.c) := by show sameV x y = _; unfold sameV; simp [hne]
    clear hne
    go_enter Try.func29, Try.ntmps29
    go_wp2_with fail
    refine (lwSame_any _ _ _ _ x.c y.c _ (hl.grew (((Grew.refl _).alloc _).alloc _)) (hm.grew (((Grew.refl _).alloc _).alloc _)) hn hn').mono ?_
    rintro r w1 ⟨rfl, g1⟩
    go_wp2
    go_ret
    exact ⟨ret_bool hx.out.symm, (((Grew.refl _).alloc _).alloc _).trans g1⟩
  · have hb : (x.n == y.n) = false := by simpa using hne
    have hx : Hid (sameV x y = false) := by show sameV x y = _; unfold sameV; simp [hne]
    clear hne
    go_enter Try.func29, Try.ntmps29
    go_wp2
    go_ret
    exact ⟨ret_bool hx.out.symm, ((Grew.refl _).alloc _).alloc _⟩

set_option maxHeartbeats 1000000 in
theorem lwVotes_any (a b : Option Addr) (ca cb : Nat) (l m : List Vt) (nl nm : Nat) (w : World) (hln : l.length = nl) (hmn : m.length = nm) (hl : Vts w a l) (hm : Vts w b m) (hsl : Short l) (hsm : Short m) (hn : nl ≤ 1048577) (hn' : nm ≤ 1048577) :
    Calls Try.prog 26 #[.slice a nl ca, .slice b nm cb] w fun r w' => r = .returned (.bool (sameVs l m)) ∧ Grew w w' := by
  subst hln hmn
  by_cases hlen : l.length = m.length
  · have hne : ((l.length : Int) != (m.length : Int)) = false := by simp [hlen]
    go_enter Try.func26, Try.ntmps26
    go_wp2_with fail
    clear hne
    have HL : Hid (l.length = m.length) := hlen
    have hlen' : m.length ≤ l.length := by omega
    have hlen2 : l.length ≤ m.length := by omega
    clear hlen
    go_loopw [5] (fun i wr => ∃ k : Nat, k ≤ l.length ∧ i = .int .i64 k ∧ Grew w wr ∧ (∀ j (h1 : j < l.length) (h2 : j < m.length), j < k → sameV l[j] m[j] = true)) (fun i _ => l.length - (intOf i).toNat)
    case atStart => exact ⟨0, Nat.zero_le _, rfl, Grew.refl _, fun j _ _ h => absurd h (Nat.not_lt_zero _)⟩
    case round =>
      obtain ⟨k, hk, rfl, hg, hits⟩ := hrel
      have HI : Hid (∀ j (h1 : j < l.length) (h2 : j < m.length), j < k → sameV l[j] m[j] = true) := hits
      clear hits
      by_cases hlt : k < l.length
      · have hlt2 : k < m.length := by omega
        obtain ⟨b1, o1, rfl, hat⟩ := hl.at hlt
        obtain ⟨b2, o2, rfl, hat2⟩ := hm.at hlt2
        obtain ⟨c0, a1, cap1, c1, i1⟩ := hat.grew hg
        obtain ⟨d0, a2, cap2, d1, i2⟩ := hat2.grew hg
        have e0 := Grew.gcell c0
        have e1 := Grew.gcell c1
        have f0 := Grew.gcell d0
        have f1 := Grew.gcell d1
        have s1 := hsl.at hlt
        have s2 := hsm.at hlt2
        clear hat hat2
        cases heq : sameV l[k] m[k] with
        | true =>
          have hnext : Hid (∀ j (h1 : j < l.length) (h2 : j < m.length), j < k + 1 → sameV l[j] m[j] = true) := fun j h1 h2 hj => by
            by_cases e : j = k
            · subst e; exact heq
            · exact HI.out j h1 h2 (by omega)
          go_wp2_with fail
          refine quietly (by kernel_rfl) (by kernel_rfl) ?_
          repeat (go_big_quiet_step (first | (go_at_call 29; exact Calls.far (lwVote_any l[k] m[k] _ _ _ ⟨_, _, rfl, i1.grew ⟨_, _, rfl⟩⟩ ⟨_, _, rfl, i2.grew ⟨_, _, rfl⟩⟩ s1 s2))))
          refine wpQuiet_nil ?_
          intro _ hw'
          obtain ⟨⟨nq, osq⟩, hw''⟩ := hw'
          subst hw''
          go_wp2
          go_roundw
          case rel => exact ⟨k + 1, by omega, by go_num, hg.trans ⟨_, _, rfl⟩, hnext.out⟩
          case measure => simp [intOf]; omega
        | false =>
          have hend : Hid (sameVs l m = false) := sameVs_part hlt hlt2 heq
          go_wp2_with fail
          refine quietly (by kernel_rfl) (by kernel_rfl) ?_
          repeat (go_big_quiet_step (first | (go_at_call 29; exact Calls.far (lwVote_any l[k] m[k] _ _ _ ⟨_, _, rfl, i1.grew ⟨_, _, rfl⟩⟩ ⟨_, _, rfl, i2.grew ⟨_, _, rfl⟩⟩ s1 s2))))
          refine wpQuiet_nil ?_
          intro _ hw'
          obtain ⟨⟨nq, osq⟩, hw''⟩ := hw'
          subst hw''
          go_wp2
          go_ret
          exact ⟨ret_bool hend.out.symm, hg.trans ⟨_, _, rfl⟩⟩
      · have hle : (l.length : Int) ≤ (k : Int) := by omega
        have hend : Hid (sameVs l m = true) := sameVs_all HL.out fun j h1 h2 => HI.out j h1 h2 (by omega)
        go_wp2
        go_ret
        exact ⟨ret_bool hend.out.symm, hg⟩
  · have hne : ((l.length : Int) != (m.length : Int)) = true := by simp; omega
    have hend : Hid (sameVs l m = false) := sameVs_len hlen
    clear hlen
    go_enter Try.func26, Try.ntmps26
    go_wp2
    go_ret
    exact ⟨ret_bool hend.out.symm, Grew.refl _⟩

set_option maxHeartbeats 2000000 in
theorem lwHas_any (a : Option Addr) (cap n : Nat) (l : List Vt) (x : Vt) (v : Value) (w : World) (hln : l.length = n) (hl : Vts w a l) (hv : VtV w v x) (hs : Short l) (hx : x.c.length ≤ 1048576) (hn : n ≤ 1048576) :
    Calls Try.prog 28 #[.slice a n cap, v] w fun r w' => r = .returned (.bool (hasB l x)) ∧ Grew w w' := by
  obtain ⟨av, capv, rfl, hxl⟩ := hv
  subst hln
  go_enter Try.func28, Try.ntmps28
  go_wp2_with fail
  go_loopw [5] (fun i wr => ∃ k : Nat, k ≤ l.length ∧ i = .int .i64 k ∧ Hid (hasB (l.take k) x = false) ∧ Grew (w.alloc (.cells #[.int .i64 x.n, .slice av x.c.length capv] 28)) wr) (fun i _ => l.length - (intOf i).toNat)
  case atStart => exact ⟨0, Nat.zero_le _, rfl, rfl, Grew.refl _⟩
  case round =>
    obtain ⟨k, hk, rfl, hno, hg⟩ := hrel
    have G := hide (((Grew.refl w).alloc _).trans hg)
    by_cases hlt : k < l.length
    · obtain ⟨b, off, rfl, hat⟩ := hl.at hlt
      obtain ⟨c0, a1, cap1, c1, hi⟩ := hat.grew (unhide G)
      have d0 := hg.keep (p := ⟨w.heap.size, 0, none⟩) (v := .int .i64 x.n) (by simp [go_sem])
      have d1 := hg.keep (p := ⟨w.heap.size, 1, none⟩) (v := .slice av x.c.length capv) (by simp [go_sem])
      have hxi := hxl.grew (unhide G)
      have e0 := Grew.gcell c0
      have e1 := Grew.gcell c1
      have f0 := Grew.gcell d0
      have f1 := Grew.gcell d1
      have hs1 := hs.at hlt
      clear hat hl hxl
      cases hsame : sameV l[k] x with
      | true =>
        have hend : Hid (hasB l x = true) := hasB_part l x k hlt hsame
        go_wp2_with fail
        refine quietly (by kernel_rfl) (by kernel_rfl) ?_
        repeat (go_big_quiet_step (first | (go_at_call 29; exact Calls.far (lwVote_any l[k] x _ _ _ ⟨_, _, rfl, hi.grew ⟨_, _, rfl⟩⟩ ⟨_, _, rfl, hxi.grew ⟨_, _, rfl⟩⟩ hs1 hx))))
        refine wpQuiet_nil ?_
        intro _ hw'
        obtain ⟨⟨nq, osq⟩, hw''⟩ := hw'
        subst hw''
        rw [hsame]
        go_wp2
        go_ret
        exact ⟨ret_bool hend.out.symm, (unhide G).trans ⟨_, _, rfl⟩⟩
      | false =>
        have hnext : Hid (hasB (l.take (k + 1)) x = false) := by
          show hasB (l.take (k + 1)) x = false
          rw [hasB_take_snoc l x k hlt, show hasB (l.take k) x = false from hno.out, hsame]; rfl
        go_wp2_with fail
        refine quietly (by kernel_rfl) (by kernel_rfl) ?_
        repeat (go_big_quiet_step (first | (go_at_call 29; exact Calls.far (lwVote_any l[k] x _ _ _ ⟨_, _, rfl, hi.grew ⟨_, _, rfl⟩⟩ ⟨_, _, rfl, hxi.grew ⟨_, _, rfl⟩⟩ hs1 hx))))
        refine wpQuiet_nil ?_
        intro _ hw'
        obtain ⟨⟨nq, osq⟩, hw''⟩ := hw'
        subst hw''
        rw [hsame]
        go_wp2
        go_roundw
        case rel => exact ⟨k + 1, by omega, by go_num, hnext, hg.trans ⟨_, _, rfl⟩⟩
        case measure => simp [intOf]; omega
    · have hle : (l.length : Int) ≤ (k : Int) := by omega
      have hend : Hid (hasB l x = false) := by
        show hasB l x = false
        have : l.take k = l := List.take_of_length_le (by omega)
        rw [← this]; exact hno.out
      go_wp2
      go_ret
      exact ⟨ret_bool hend.out.symm, unhide G⟩

theorem VtsV.at {w : World} {v : Value} {l : List Vt} (h : VtsV w v l) {i : Nat} (hi : i < l.length) : ∃ b off cap, v = .slice (some ⟨b, off, none⟩) l.length cap ∧ VtAt w b (off + i * 2) l[i] := by
  obtain ⟨a, cap, rfl, _, hv⟩ := h
  obtain ⟨b, off, rfl, hat⟩ := hv.at hi
  exact ⟨b, off, cap, rfl, hat⟩
theorem lwVotes_v {v u : Value} {l m : List Vt} (w : World) (h : VtsV w v l) (k : VtsV w u m) (hs : Short l) (hs' : Short m) (hn : l.length ≤ 1048577) (hn' : m.length ≤ 1048577) : Calls Try.prog 26 #[v, u] w fun r w' => r = .returned (.bool (sameVs l m)) ∧ Grew w w' := by
  obtain ⟨a, cap, rfl, hc, hv⟩ := h
  obtain ⟨b, capb, rfl, hcb, hvb⟩ := k
  exact lwVotes_any a b cap capb l m _ _ w rfl rfl hv hvb hs hs' hn hn'
theorem lwHas_v {v : Value} {l : List Vt} (x : Vt) (vx : Value) (w : World) (h : VtsV w v l) (hv : VtV w vx x) (hs : Short l) (hx : x.c.length ≤ 1048576) (hn : l.length ≤ 1048576) : Calls Try.prog 28 #[v, vx] w fun r w' => r = .returned (.bool (hasB l x)) ∧ Grew w w' := by
  obtain ⟨a, cap, rfl, hc, hvs⟩ := h
  exact lwHas_any a cap _ l x vx w rfl hvs hv hs hx hn
end Go.Proofs.Ytppikkppgojbpaa
