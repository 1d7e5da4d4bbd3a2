/-
  How two chains begin: what ChainBoth answers in the specification.
-/
import Derived.Test.YtpoabogjpjbpiaaBoth1
namespace Go.Proofs.Ytpoabogjpjbpiaa
set_option linter.unusedVariables false
open Go.RowKit
attribute [local simp] far_const

theorem ownBlock_sl {g n c k : Nat} (h : Value.ownBlock (.slice (some ⟨g, 0, none⟩) n c) = some k) : k = g := by simpa [Value.ownBlock] using h.symm

set_option maxHeartbeats 2000000 in
theorem l1Copy_any (a : Option Addr) (ca : Nat) (l : List It) (n : Nat) (hln : l.length = n) (w : World) (hl : Its w a l) (hn : n ≤ 1048576) :
    Calls Try.prog 38 #[.slice a n ca] w fun r w' => ∃ g c, r = .returned (.slice (some ⟨g, 0, none⟩) n c) ∧ Its w' (some ⟨g, 0, none⟩) l ∧ Grew w w' ∧ w.heap.size ≤ g := by
  have oe : OwnL (w.alloc (.cells #[] 33)) w.heap.size (.slice (some ⟨w.heap.size, 0, none⟩) 0 0) [] := OwnL.empty (Nat.le_refl _)
  rcases a with _ | ad
  · have h0 : l = [] := by
      rcases hl with h | ⟨_, _, h, _⟩
      · exact h
      · cases h
    subst h0
    simp only [List.length_nil] at hln
    subst hln
    go_enter Try.func38, Try.ntmps38
    go_wp2
    go_ret
    exact ⟨_, _, rfl, .inl rfl, (Grew.refl _).alloc _, Nat.le_refl _⟩
  · have ia := hl.grew ((Grew.refl w).alloc (.cells #[] 33))
    have HO := hide oe
    have HI := hide ia
    have HL := hide hln
    clear oe ia hln hl
    go_enter Try.func38, Try.ntmps38
    go_wp2_with (first | (at_builtin; refine wpList_items rfl _ _ rfl w.heap.size _ [] rfl (unhide HO) ad ca l n (unhide HL) rfl (unhide HI) (by have := unhide HL; simp; omega) (by simp) ?_))
    intro v' w5 o5 g5
    obtain ⟨g, cap, rfl, hcap, hg1, hg2, hits⟩ := o5.shape
    have GG := ((Grew.refl w).alloc (.cells #[] 33)).grown g5 (fun k hk => Nat.le_of_eq (ownBlock_sl hk).symm)
    have HI5 := hide hits
    clear hits o5
    go_wp2
    go_ret
    exact ⟨g, cap, by have := unhide HL; simp [this], unhide HI5, GG, hg1⟩

set_option maxHeartbeats 2000000 in
theorem specBoth (a b : Option Addr) (ca cb : Nat) (l m : List It) (w : World) (hl : Its w a l) (hm : Its w b m) (hn : l.length ≤ 1048576) (hn' : m.length ≤ 1048576) (hca : l.length ≤ ca) :
    Calls Try.prog 19 #[.slice a l.length ca, .slice b m.length cb] w fun r w' => ∃ g c, r = .returned (.slice (some ⟨g, 0, none⟩) (bothC l m).length c) ∧ Its w' (some ⟨g, 0, none⟩) (bothC l m) ∧ Grew w w' ∧ w.heap.size ≤ g := by
  cases h1 : okB l with
  | false =>
    have hend : Hid (bothC l m = []) := by show bothC l m = []; unfold bothC; rw [h1]; simp
    go_enter Try.func19, Try.ntmps19
    go_wp2_with fail
    refine (specChainOk _ _ l _ hl hn).mono ?_
    rintro r w1 ⟨rfl, g1⟩
    rw [h1]
    go_wp2
    go_ret
    exact ⟨_, 0, by rw [hend.out]; rfl, .inl hend.out, g1.alloc _, g1.size⟩
  | true =>
    cases h2 : okB m with
    | false =>
      have hend : Hid (bothC l m = []) := by show bothC l m = []; unfold bothC; rw [h2]; simp
      go_enter Try.func19, Try.ntmps19
      go_wp2_with fail
      refine (specChainOk _ _ l _ hl hn).mono ?_
      rintro r w1 ⟨rfl, g1⟩
      rw [h1]
      go_wp2_with fail
      refine (specChainOk _ _ m _ (hm.grew g1) hn').mono ?_
      rintro r w2 ⟨rfl, g2⟩
      rw [h2]
      go_wp2
      go_ret
      exact ⟨_, 0, by rw [hend.out]; rfl, .inl hend.out, (g1.trans g2).alloc _, (g1.trans g2).size⟩
    | true =>
      have hend : Hid (bothC l m = l.take (shareN l m)) := by show bothC l m = _; unfold bothC; rw [h1, h2]; simp
      have fin : ∀ (k : Nat) (wr : World), k ≤ l.length → k = shareN l m → Grew w wr → Calls Try.prog 38 #[.slice a k ca] wr fun r w' => ∃ g c, r = .returned (.slice (some ⟨g, 0, none⟩) k c) ∧ (bothC l m).length = k ∧ Its w' (some ⟨g, 0, none⟩) (bothC l m) ∧ Grew w w' ∧ w.heap.size ≤ g := by
        intro k wr hk hks GG
        refine (l1Copy_any a ca (l.take k) k (by rw [List.length_take]; omega) wr ((hl.grew GG).take k) (by omega)).mono ?_
        rintro r w9 ⟨g, c, rfl, i9, g9, hg⟩
        have hb : bothC l m = l.take k := by rw [hend.out, ← hks]
        have hbl : (bothC l m).length = k := by rw [hb, List.length_take]; omega
        exact ⟨g, c, rfl, hbl, by rw [hb]; exact i9, GG.trans g9, Nat.le_trans GG.size hg⟩
      have FIN := hide fin
      clear fin
      go_enter Try.func19, Try.ntmps19
      go_wp2_with fail
      refine (specChainOk _ _ l _ hl hn).mono ?_
      rintro r w1 ⟨rfl, g1⟩
      rw [h1]
      go_wp2_with fail
      refine (specChainOk _ _ m _ (hm.grew g1) hn').mono ?_
      rintro r w2 ⟨rfl, g2⟩
      rw [h2]
      have G2 := g1.trans g2
      go_wp2_with fail
      go_loopw [5] (fun i wr => ∃ k : Nat, k ≤ l.length ∧ k ≤ m.length ∧ i = .int .i64 k ∧ Grew w wr ∧ (∀ j (h1 : j < l.length) (h2 : j < m.length), j < k → eqB l[j] m[j] = true)) (fun i _ => l.length - (intOf i).toNat)
      case atStart => exact ⟨0, Nat.zero_le _, Nat.zero_le _, rfl, G2, fun j _ _ h => absurd h (Nat.not_lt_zero _)⟩
      case round =>
        obtain ⟨k, hk, hk', rfl, hg, hits⟩ := hrel
        have HI : Hid (∀ j (h1 : j < l.length) (h2 : j < m.length), j < k → eqB l[j] m[j] = true) := hits
        clear hits
        have hkc : k ≤ ca := by omega
        by_cases hlt : k < l.length
        · by_cases hlt2 : k < m.length
          · obtain ⟨b1, o1, rfl, hat⟩ := hl.at hlt
            obtain ⟨b2, o2, rfl, hat2⟩ := hm.at hlt2
            obtain ⟨c0, c1, c2, c3⟩ := hat.grew hg
            obtain ⟨d0, d1, d2, d3⟩ := hat2.grew hg
            have e0 := Grew.gcell c0
            have e1 := Grew.gcell c1
            have e2 := Grew.gcell c2
            have e3 := Grew.gcell c3
            have f0 := Grew.gcell d0
            have f1 := Grew.gcell d1
            have f2 := Grew.gcell d2
            have f3 := Grew.gcell d3
            have heq := equal_item l[k] m[k]
            cases hb : eqB l[k] m[k] with
            | true =>
              rw [hb] at heq
              have hnext : Hid (∀ j (h1 : j < l.length) (h2 : j < m.length), j < k + 1 → eqB l[j] m[j] = true) := fun j h1 h2 hj => by
                by_cases e : j = k
                · subst e; exact hb
                · exact HI.out j h1 h2 (by omega)
              go_wp2_with fail
              refine quietly (by kernel_rfl) (by kernel_rfl) ?_
              repeat (go_big_quiet_step (first | fail))
              refine wpQuiet_nil ?_
              intro _ hw'
              obtain ⟨⟨nq, osq⟩, hw''⟩ := hw'
              subst hw''
              go_wp2
              go_roundw
              case rel => exact ⟨k + 1, by omega, by omega, by go_num, hg.trans ⟨_, _, rfl⟩, hnext.out⟩
              case measure => simp [intOf]; omega
            | false =>
              rw [hb] at heq
              have hks : Hid (k = shareN l m) := shareN_is l m k hk hk' (fun i h1 h2 h => HI.out i h1 h2 h) (fun _ _ => hb)
              go_wp2_with fail
              refine quietly (by kernel_rfl) (by kernel_rfl) ?_
              repeat (go_big_quiet_step (first | fail))
              refine wpQuiet_nil ?_
              intro _ hw'
              obtain ⟨⟨nq, osq⟩, hw''⟩ := hw'
              subst hw''
              go_wp2_with fail
              refine (unhide FIN k _ hk hks.out (hg.trans ⟨_, _, rfl⟩)).mono ?_
              rintro r w9 ⟨g, c, rfl, hbl, i9, g9, hg9⟩
              have HB := hide hbl
              clear hbl
              go_wp2
              go_ret
              exact ⟨g, c, by rw [unhide HB]; rfl, i9, g9, hg9⟩
          · have hx : decide (k < m.length) = false := by simpa using hlt2
            have hx' : decide ((k : Int) < (m.length : Int)) = false := by simp; omega
            have hks : Hid (k = shareN l m) := shareN_is l m k hk hk' (fun i h1 h2 h => HI.out i h1 h2 h) (fun _ h => absurd h hlt2)
            clear hlt2
            go_wp2_with fail
            refine quietly (by kernel_rfl) (by kernel_rfl) ?_
            repeat (go_big_quiet_step (first | fail))
            refine wpQuiet_nil ?_
            intro _ hw'
            obtain ⟨⟨nq, osq⟩, hw''⟩ := hw'
            subst hw''
            go_wp2_with fail
            refine (unhide FIN k _ hk hks.out (hg.trans ⟨_, _, rfl⟩)).mono ?_
            rintro r w9 ⟨g, c, rfl, hbl, i9, g9, hg9⟩
            have HB := hide hbl
            clear hbl
            go_wp2
            go_ret
            exact ⟨g, c, by rw [unhide HB]; rfl, i9, g9, hg9⟩
        · have hx : decide (k < l.length) = false := by simpa using hlt
          have hx' : decide ((k : Int) < (l.length : Int)) = false := by simp; omega
          have hks : Hid (k = shareN l m) := shareN_is l m k hk hk' (fun i h1 h2 h => HI.out i h1 h2 h) (fun h _ => absurd h hlt)
          clear hlt
          go_wp2_with fail
          refine quietly (by kernel_rfl) (by kernel_rfl) ?_
          repeat (go_big_quiet_step (first | fail))
          refine wpQuiet_nil ?_
          intro _ hw'
          obtain ⟨⟨nq, osq⟩, hw''⟩ := hw'
          subst hw''
          go_wp2_with fail
          refine (unhide FIN k _ hk hks.out (hg.trans ⟨_, _, rfl⟩)).mono ?_
          rintro r w9 ⟨g, c, rfl, hbl, i9, g9, hg9⟩
          have HB := hide hbl
          clear hbl
          go_wp2
          go_ret
          exact ⟨g, c, by rw [unhide HB]; rfl, i9, g9, hg9⟩
end Go.Proofs.Ytpoabogjpjbpiaa
