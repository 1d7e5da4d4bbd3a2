/-
  What CertOk answers, in the specification: the whole.
-/
import Derived.Test.YteemihgakcmamaaCer7
namespace Go.Proofs.Yteemihgakcmamaa
set_option linter.unusedVariables false
open Go.RowKit
attribute [local simp] far_const

theorem all_no {b : List (List Int)} {k : Nat} (hk : k < b.length) (h : byB b[k] = false) : b.all byB = false := by
  rw [List.all_eq_false]; exact ⟨b[k], List.getElem_mem hk, by rw [h]; decide⟩
theorem all_yes {b : List (List Int)} (h : ∀ j (hj : j < b.length), byB b[j] = true) : b.all byB = true := by
  rw [List.all_eq_true]; intro x hx
  obtain ⟨j, hj, rfl⟩ := List.getElem_of_mem hx
  exact h j hj

set_option maxHeartbeats 2000000 in
theorem specCertOk (x : Ct) (v : Value) (w : World) (hv : CtV w v x) (hc : x.c.length ≤ 1048576) (hn : x.b.length ≤ 1048576) (hs : ShortI x.b) :
    Calls Try.prog 32 #[v] w fun r w' => r = .returned (.bool (certB x)) ∧ Grew w w' := by
  obtain ⟨a, cap, b, capb, rfl, hcap, hl, hb⟩ := hv
  have hX := fun W => hide (fun (g : Grew w W) => specChainOk a cap x.c W (hl.grew g) hc)
  cases h1 : okB x.c with
  | false =>
    have hx : Hid (certB x = false) := by show certB x = false; unfold certB; rw [h1]; rfl
    rw [h1] at hX
    clear hl hb
    go_enter Try.func32, Try.ntmps32
    go_wp2_with fail
    refine (unhide (hX _) ((Grew.refl _).alloc _)).mono ?_
    rintro r w1 ⟨rfl, g1⟩
    go_wp2
    go_ret
    exact ⟨ret_bool hx.out.symm, ((Grew.refl _).alloc _).trans g1⟩
  | true =>
    rw [h1] at hX
    by_cases h2 : x.c.length < 3
    · have hx : Hid (certB x = false) := by
        show certB x = false
        have : rowB x.c = false := by unfold rowB; rw [dif_neg (by omega)]
        unfold certB; rw [this, Bool.false_and, Bool.and_false]
      have h2' : decide ((x.c.length : Int) < 3) = true := by simp; omega
      have h2'' : (x.c.length : Int) < 3 := by omega
      clear hl hb
      go_enter Try.func32, Try.ntmps32
      go_wp2_with fail
      refine (unhide (hX _) ((Grew.refl _).alloc _)).mono ?_
      rintro r w1 ⟨rfl, g1⟩
      go_wp2
      go_ret
      exact ⟨ret_bool hx.out.symm, ((Grew.refl _).alloc _).trans g1⟩
    · have h2' : decide ((x.c.length : Int) < 3) = false := by simp; omega
      have h2'' : ¬ (x.c.length : Int) < 3 := by omega
      by_cases h3 : x.b.length = 3
      · have hx : Hid (certB x = (rowB x.c && x.b.all byB)) := by
          show certB x = _; unfold certB; rw [h1, decide_eq_true h3, Bool.true_and, Bool.true_and]
        have hne : ((x.b.length : Int) != 3) = false := by simp; omega
        have hne2 : (x.b.length : Int) = 3 := by omega
        have H3 := hide h3
        have HB := hide hb
        have HL := hide hl
        have h3c : 3 ≤ x.c.length := by omega
        have k1 := okB_asc h1 (k := x.c.length - 3) (by omega)
        have k2 := okB_asc h1 (k := x.c.length - 2) (by omega)
        simp only [show x.c.length - 3 + 1 = x.c.length - 2 by omega] at k1
        simp only [show x.c.length - 2 + 1 = x.c.length - 1 by omega] at k2
        have hrow : rowB x.c = ((x.c[x.c.length - 3].e + 1 == x.c[x.c.length - 2].e) && (x.c[x.c.length - 2].e + 1 == x.c[x.c.length - 1].e)) := by unfold rowB; rw [dif_pos h3c]
        obtain ⟨X, hXe⟩ : ∃ X, (x.c[x.c.length - 3]'(by omega)).e = X := ⟨_, rfl⟩
        obtain ⟨Y, hYe⟩ : ∃ Y, (x.c[x.c.length - 2]'(by omega)).e = Y := ⟨_, rfl⟩
        obtain ⟨Z, hZe⟩ : ∃ Z, (x.c[x.c.length - 1]'(by omega)).e = Z := ⟨_, rfl⟩
        rw [hXe, hYe] at k1 hrow
        rw [hYe, hZe] at k2
        rw [hZe] at hrow
        have HRW := hide hrow
        have e3 := hide hXe
        have e2 := hide hYe
        have e1 := hide hZe
        clear hl hb h3 hrow hXe hYe hZe hne2
        go_enter Try.func32, Try.ntmps32
        go_wp2_with fail
        refine (unhide (hX _) ((Grew.refl _).alloc _)).mono ?_
        rintro r w1 ⟨rfl, g1⟩
        have p0 := g1.keep (p := ⟨w.heap.size, 0, none⟩) (v := .slice a x.c.length cap) (by simp [go_sem])
        have p1 := g1.keep (p := ⟨w.heap.size, 1, none⟩) (v := .slice b x.b.length capb) (by simp [go_sem])
        have G1 := hide (((Grew.refl w).alloc _).trans g1)
        clear g1 hX
        go_wp2_with fail
        go_loopw [4] (fun i wr => ∃ k : Nat, k ≤ 3 ∧ i = .int .i64 k ∧ Hid (∀ j (hj : j < x.b.length), j < k → byB x.b[j] = true) ∧ Grew w1 wr) (fun i _ => 3 - (intOf i).toNat)
        case atStart => exact ⟨0, by omega, rfl, hide (fun j _ h => absurd h (Nat.not_lt_zero _)), Grew.refl _⟩
        case round =>
          obtain ⟨k, hk, rfl, hno, hg⟩ := hrel
          have q0 := hg.keep p0
          have q1 := hg.keep p1
          have G2 := hide ((unhide G1).trans hg)
          by_cases hlt : k < 3
          · have hlb : k < x.b.length := by have := H3.out; omega
            have hkd : decide ((k : Int) < 3) = true := by simp; omega
            obtain ⟨b0, off, ai, ci, rfl, d0, j0⟩ := ((unhide HB).grew (unhide G2)).at hlb
            have hsk := hs x.b[k] (List.getElem_mem hlb)
            have hY := hide (l13By_any ai ci x.b[k] wr j0 hsk)
            clear j0
            cases hbk : byB x.b[k] with
            | false =>
              have hend : Hid (x.b.all byB = false) := all_no hlb hbk
              rw [hbk] at hY
              go_wp2_with fail
              refine (unhide hY).mono ?_
              rintro r w2 ⟨rfl, g2⟩
              go_wp2
              go_ret
              exact ⟨ret_bool (by rw [hx.out, hend.out, Bool.and_false]), (unhide G2).trans g2⟩
            | true =>
              have hnext : Hid (∀ j (hj : j < x.b.length), j < k + 1 → byB x.b[j] = true) := hide (fun j hj hjk => by
                by_cases e : j = k
                · subst e; exact hbk
                · exact hno.out j hj (by omega))
              rw [hbk] at hY
              go_wp2_with fail
              refine (unhide hY).mono ?_
              rintro r w2 ⟨rfl, g2⟩
              have hg2 := hg.trans g2
              go_wp2
              go_roundw
              case rel => exact ⟨k + 1, by omega, by go_num, hnext, hg2⟩
              case measure => simp [intOf]; omega
          · have hkd : decide ((k : Int) < 3) = false := by simp; omega
            have hle : (3 : Int) ≤ (k : Int) := by omega
            have hall : Hid (x.b.all byB = true) := all_yes (fun j hj => hno.out j hj (by have := H3.out; omega))
            obtain ⟨b0, o0, rfl, hat0⟩ := ((unhide HL).grew (unhide G2)).at (i := x.c.length - 3) (by omega)
            obtain ⟨b1, o1, ex1, hat1⟩ := ((unhide HL).grew (unhide G2)).at (i := x.c.length - 2) (by omega)
            obtain ⟨b2, o2, ex2, hat2⟩ := ((unhide HL).grew (unhide G2)).at (i := x.c.length - 1) (by omega)
            simp only [Option.some.injEq, Addr.mk.injEq, and_true] at ex1 ex2
            obtain ⟨rfl, rfl⟩ := ex1
            obtain ⟨rfl, rfl⟩ := ex2
            have f0 := Grew.gcell hat0.1
            have f1 := Grew.gcell hat1.1
            have f2 := Grew.gcell hat2.1
            rw [e3.out] at f0
            rw [e2.out] at f1
            rw [e1.out] at f2
            have y0 := Grew.gcell q0
            have hw1 : wrap64 ((x.c.length : Int) - 1) = ((x.c.length - 1 : Nat) : Int) := by rw [show (x.c.length : Int) - 1 = ((x.c.length - 1 : Nat) : Int) by omega]; unfold wrap64; omega
            have hw2 : wrap64 ((x.c.length : Int) - 2) = ((x.c.length - 2 : Nat) : Int) := by rw [show (x.c.length : Int) - 2 = ((x.c.length - 2 : Nat) : Int) by omega]; unfold wrap64; omega
            have hw3 : wrap64 ((x.c.length : Int) - 3) = ((x.c.length - 3 : Nat) : Int) := by rw [show (x.c.length : Int) - 3 = ((x.c.length - 3 : Nat) : Int) by omega]; unfold wrap64; omega
            have hwx : wrap64 (X + 1) = X + 1 := by unfold wrap64; omega
            have hwy : wrap64 (Y + 1) = Y + 1 := by unfold wrap64; omega
            clear hat0 hat1 hat2 e1 e2 e3
            cases hb1 : (X + 1 == Y) with
            | false =>
              have hres : Hid (certB x = false) := by show certB x = false; rw [hx.out, HRW.out, hb1]; rfl
              go_wp2_with fail
              refine quietly (by kernel_rfl) (by kernel_rfl) ?_
              repeat (go_big_quiet_step (fail))
              refine wpQuiet_nil ?_
              intro _ hw'
              obtain ⟨⟨nq, osq⟩, hw''⟩ := hw'
              subst hw''
              go_wp2
              go_ret
              exact ⟨ret_bool hres.out.symm, (unhide G2).trans ⟨_, _, rfl⟩⟩
            | true =>
              cases hb2 : (Y + 1 == Z)
              all_goals
                have hres : Hid (certB x = (Y + 1 == Z)) := by show certB x = _; rw [hx.out, HRW.out, hb1, hall.out, Bool.and_true, Bool.true_and]
                go_wp2_with fail
                refine quietly (by kernel_rfl) (by kernel_rfl) ?_
                repeat (go_big_quiet_step (fail))
                refine wpQuiet_nil ?_
                intro _ hw'
                obtain ⟨⟨nq, osq⟩, hw''⟩ := hw'
                subst hw''
                go_wp2
                go_ret
                exact ⟨ret_bool (by rw [hres.out, hb2]), (unhide G2).trans ⟨_, _, rfl⟩⟩
      · have hx : Hid (certB x = false) := by show certB x = false; unfold certB; rw [decide_eq_false h3, Bool.false_and, Bool.and_false, Bool.and_false]
        have hne : ((x.b.length : Int) != 3) = true := by simp; omega
        have hne2 : ¬ (x.b.length : Int) = 3 := by omega
        clear hl hb
        go_enter Try.func32, Try.ntmps32
        go_wp2_with fail
        refine (unhide (hX _) ((Grew.refl _).alloc _)).mono ?_
        rintro r w1 ⟨rfl, g1⟩
        have p0 := g1.keep (p := ⟨w.heap.size, 0, none⟩) (v := .slice a x.c.length cap) (by simp [go_sem])
        have p1 := g1.keep (p := ⟨w.heap.size, 1, none⟩) (v := .slice b x.b.length capb) (by simp [go_sem])
        have G1 := hide (((Grew.refl w).alloc _).trans g1)
        clear g1
        go_wp2
        go_ret
        exact ⟨ret_bool hx.out.symm, unhide G1⟩
end Go.Proofs.Yteemihgakcmamaa
