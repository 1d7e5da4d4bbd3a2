/-
  What the specification's NodeOk answers.
-/
import Derived.Test.YtkegdjfpeocndaaNod3
namespace Go.Proofs.Ytkegdjfpeocndaa
set_option linter.unusedVariables false
open Go.RowKit
attribute [local simp] far_const

set_option maxHeartbeats 4000000 in
theorem specNodeOk (x : Nd) (v : Value) (w : World) (h : NdV w v x) (hs : Short x.s) (hn : x.s.length ≤ 1048576) :
    Calls Try.prog 93 #[v] w fun r w' => r = .returned (.bool (nodeB x)) ∧ Grew w w' := by
  obtain ⟨sv, rfl, a, cap, rfl, hcap, hv⟩ := h
  have HV := hide hv
  clear hv
  cases h1 : inB x.id 1 4 with
  | false =>
    have hx : Hid (nodeB x = false) := by show nodeB x = false; unfold nodeB; rw [h1]; rfl
    go_enter Try.func93, Try.ntmps93
    go_wp2_with fail
    refine (l6In_any _ _ _ _).mono ?_
    rw [h1]
    rintro r w1 ⟨rfl, rfl⟩
    go_wp2
    go_ret
    exact ⟨ret_bool hx.out.symm, (Grew.refl _).alloc _⟩
  | true =>
    cases h2 : inB x.ep 0 30 with
    | false =>
      have hx : Hid (nodeB x = false) := by show nodeB x = false; unfold nodeB; rw [h1, h2]; rfl
      go_enter Try.func93, Try.ntmps93
      go_wp2_with fail
      refine (l6In_any _ _ _ _).mono ?_
      rw [h1]
      rintro r w1 ⟨rfl, rfl⟩
      go_wp2_with fail
      refine (l6In_any _ _ _ _).mono ?_
      rw [h2]
      rintro r w1 ⟨rfl, rfl⟩
      go_wp2
      go_ret
      exact ⟨ret_bool hx.out.symm, (Grew.refl _).alloc _⟩
    | true =>
      cases h3 : inB x.vo 0 x.ep with
      | false =>
        have hx : Hid (nodeB x = false) := by show nodeB x = false; unfold nodeB; rw [h1, h2, h3]; rfl
        go_enter Try.func93, Try.ntmps93
        go_wp2_with fail
        refine (l6In_any _ _ _ _).mono ?_
        rw [h1]
        rintro r w1 ⟨rfl, rfl⟩
        go_wp2_with fail
        refine (l6In_any _ _ _ _).mono ?_
        rw [h2]
        rintro r w1 ⟨rfl, rfl⟩
        go_wp2_with fail
        refine (l6In_any _ _ _ _).mono ?_
        rw [h3]
        rintro r w1 ⟨rfl, rfl⟩
        go_wp2
        go_ret
        exact ⟨ret_bool hx.out.symm, (Grew.refl _).alloc _⟩
      | true =>
        by_cases h5 : x.s.length ≤ 80
        · have h5' : decide (80 < (x.s.length : Int)) = false := by simp; omega
          have h5n : ¬ 80 < (x.s.length : Int) := by omega
          have hx : Hid (nodeB x = (votesB x.s && ownB x.s x.id x.vo)) := by show nodeB x = _; unfold nodeB; rw [h1, h2, h3, decide_eq_true h5]; rfl
          cases h6 : votesB x.s with
          | false =>
            have hX := fun W => hide (fun (g : Grew w W) => specVotesOk a cap x.s W ((unhide HV).grew g) hcap hs hn)
            rw [h6] at hX hx
            go_enter Try.func93, Try.ntmps93
            go_wp2_with fail
            refine (l6In_any _ _ _ _).mono ?_
            rw [h1]
            rintro r w1 ⟨rfl, rfl⟩
            go_wp2_with fail
            refine (l6In_any _ _ _ _).mono ?_
            rw [h2]
            rintro r w1 ⟨rfl, rfl⟩
            go_wp2_with fail
            refine (l6In_any _ _ _ _).mono ?_
            rw [h3]
            rintro r w1 ⟨rfl, rfl⟩
            go_wp2_with fail
            refine (unhide (hX _) ((Grew.refl _).alloc _)).mono ?_
            rintro r w1 ⟨rfl, g1⟩
            go_wp2
            go_ret
            exact ⟨ret_bool hx.out.symm, ((Grew.refl _).alloc _).trans g1⟩
          | true =>
            have hX := fun W => hide (fun (g : Grew w W) => specVotesOk a cap x.s W ((unhide HV).grew g) hcap hs hn)
            have HK : Hid (votesB x.s = true) := hide h6
            rw [h6] at hX hx
            clear h6
            go_enter Try.func93, Try.ntmps93
            go_wp2_with fail
            refine (l6In_any _ _ _ _).mono ?_
            rw [h1]
            rintro r w1 ⟨rfl, rfl⟩
            go_wp2_with fail
            refine (l6In_any _ _ _ _).mono ?_
            rw [h2]
            rintro r w1 ⟨rfl, rfl⟩
            go_wp2_with fail
            refine (l6In_any _ _ _ _).mono ?_
            rw [h3]
            rintro r w1 ⟨rfl, rfl⟩
            go_wp2_with fail
            refine (unhide (hX _) ((Grew.refl _).alloc _)).mono ?_
            rintro r w1 ⟨rfl, g1⟩
            have p0 := g1.keep (p := ⟨w.heap.size, 0, none⟩) (v := .int .i64 x.id) (by simp [go_sem])
            have p2 := g1.keep (p := ⟨w.heap.size, 2, none⟩) (v := .int .i64 x.vo) (by simp [go_sem])
            have p3 := g1.keep (p := ⟨w.heap.size, 3, none⟩) (v := .slice a x.s.length cap) (by simp [go_sem])
            have G1 := hide (((Grew.refl w).alloc _).trans g1)
            clear g1 hX
            go_wp2_with fail
            go_loopw [3] (fun i wr => ∃ k : Nat, k ≤ x.s.length ∧ i = .int .i64 k ∧ Hid (∀ j (hj : j < x.s.length), j < k → (x.s[j].n == x.id && decide (x.vo < endE 0 x.s[j].c)) = false) ∧ Grew w1 wr) (fun i _ => x.s.length - (intOf i).toNat)
            case atStart => exact ⟨0, Nat.zero_le _, rfl, fun j _ h => absurd h (Nat.not_lt_zero _), Grew.refl _⟩
            case round =>
              obtain ⟨k, hk, rfl, hno, hg⟩ := hrel
              have q0 := hg.keep p0
              have q2 := hg.keep p2
              have q3 := hg.keep p3
              have G2 := hide ((unhide G1).trans hg)
              by_cases hlt : k < x.s.length
              · obtain ⟨b, off, rfl, hat⟩ := (unhide HV).at hlt
                obtain ⟨c0, a1, cap1, c1, hi⟩ := hat.grew (unhide G2)
                have hp := chain_pos HK.out hlt
                have hs1 := hs.at hlt
                have gg : Grew wr (wr.alloc (.cells #[.int .i64 x.s[k].n, .slice a1 x.s[k].c.length cap1] 45)) := (Grew.refl _).alloc _
                have z0 := Grew.gcell (a := wr.alloc (.cells #[.int .i64 x.s[k].n, .slice a1 x.s[k].c.length cap1] 45)) (p := ⟨wr.heap.size, 0, none⟩) (v := .int .i64 x.s[k].n) (by simp [go_sem])
                have z1 := Grew.gcell (a := wr.alloc (.cells #[.int .i64 x.s[k].n, .slice a1 x.s[k].c.length cap1] 45)) (p := ⟨wr.heap.size, 1, none⟩) (v := .slice a1 x.s[k].c.length cap1) (by simp [go_sem])
                have e0 := Grew.gcell (gg.keep q0)
                have e2 := Grew.gcell (gg.keep q2)
                clear hat
                cases hna : (x.s[k].n == x.id) with
                | false =>
                  have hnext : Hid (∀ j (hj : j < x.s.length), j < k + 1 → (x.s[j].n == x.id && decide (x.vo < endE 0 x.s[j].c)) = false) := fun j hj hjk => by
                    by_cases e : j = k
                    · subst e; rw [hna]; rfl
                    · exact hno.out j hj (by omega)
                  clear hi gg
                  go_wp2_with fail
                  refine quietly (by kernel_rfl) (by kernel_rfl) ?_
                  repeat (go_big_quiet_step (fail))
                  refine wpQuiet_nil ?_
                  intro _ hw'
                  obtain ⟨⟨nq, osq⟩, hw''⟩ := hw'
                  subst hw''
                  go_wp2
                  go_roundw
                  case rel => exact ⟨k + 1, by omega, by go_num, hnext, (hg.alloc _).trans ⟨_, _, rfl⟩⟩
                  case measure => simp [intOf]; omega
                | true =>
                  obtain ⟨b2, o2, rfl, hat2⟩ := hi.at (i := x.s[k].c.length - 1) (by omega)
                  have d0 := hat2.1
                  have he := endE_at x.s[k].c hp
                  rw [← he] at d0
                  obtain ⟨E, hE⟩ : ∃ E, endE 0 x.s[k].c = E := ⟨_, rfl⟩
                  rw [hE] at d0
                  have HE := hide hE
                  have d1 := Grew.gcell (gg.keep d0)
                  have hw1 : wrap64 ((x.s[k].c.length : Int) - 1) = ((x.s[k].c.length - 1 : Nat) : Int) := by rw [show (x.s[k].c.length : Int) - 1 = ((x.s[k].c.length - 1 : Nat) : Int) by omega]; unfold wrap64; omega
                  clear hat2 he hE hi d0 gg
                  cases hgt : decide (x.vo < E) with
                  | false =>
                    have hgt' : ¬ x.vo < E := by simpa using hgt
                    have hnext : Hid (∀ j (hj : j < x.s.length), j < k + 1 → (x.s[j].n == x.id && decide (x.vo < endE 0 x.s[j].c)) = false) := fun j hj hjk => by
                      by_cases e : j = k
                      · subst e; rw [HE.out, hgt, Bool.and_false]
                      · exact hno.out j hj (by omega)
                    go_wp2_with fail
                    refine quietly (by kernel_rfl) (by kernel_rfl) ?_
                    repeat (go_big_quiet_step (fail))
                    refine wpQuiet_nil ?_
                    intro _ hw'
                    obtain ⟨⟨nq, osq⟩, hw''⟩ := hw'
                    subst hw''
                    go_wp2
                    go_roundw
                    case rel => exact ⟨k + 1, by omega, by go_num, hnext, (hg.alloc _).trans ⟨_, _, rfl⟩⟩
                    case measure => simp [intOf]; omega
                  | true =>
                    have hgt' : x.vo < E := by simpa using hgt
                    have hend : Hid (ownB x.s x.id x.vo = false) := ownB_no hlt (by rw [HE.out, hna, hgt]; rfl)
                    go_wp2_with fail
                    refine quietly (by kernel_rfl) (by kernel_rfl) ?_
                    repeat (go_big_quiet_step (fail))
                    refine wpQuiet_nil ?_
                    intro _ hw'
                    obtain ⟨⟨nq, osq⟩, hw''⟩ := hw'
                    subst hw''
                    go_wp2
                    go_ret
                    exact ⟨ret_bool (by rw [hx.out, hend.out]; rfl), ((unhide G2).alloc _).trans ⟨_, _, rfl⟩⟩
              · have hle : (x.s.length : Int) ≤ (k : Int) := by omega
                have hend : Hid (ownB x.s x.id x.vo = true) := ownB_yes fun j hj => hno.out j hj (by omega)
                go_wp2
                go_ret
                exact ⟨ret_bool (by rw [hx.out, hend.out]; rfl), unhide G2⟩
        · have h5' : decide (80 < (x.s.length : Int)) = true := by simp; omega
          have h5n : 80 < (x.s.length : Int) := by omega
          have hx : Hid (nodeB x = false) := by show nodeB x = false; unfold nodeB; rw [h1, h2, h3, decide_eq_false h5]; rfl
          go_enter Try.func93, Try.ntmps93
          go_wp2_with fail
          refine (l6In_any _ _ _ _).mono ?_
          rw [h1]
          rintro r w1 ⟨rfl, rfl⟩
          go_wp2_with fail
          refine (l6In_any _ _ _ _).mono ?_
          rw [h2]
          rintro r w1 ⟨rfl, rfl⟩
          go_wp2_with fail
          refine (l6In_any _ _ _ _).mono ?_
          rw [h3]
          rintro r w1 ⟨rfl, rfl⟩
          go_wp2
          go_ret
          exact ⟨ret_bool hx.out.symm, (Grew.refl _).alloc _⟩
end Go.Proofs.Ytkegdjfpeocndaa
