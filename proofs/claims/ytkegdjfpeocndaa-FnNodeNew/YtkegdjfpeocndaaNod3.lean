/-
  What NodeOk answers, in the program and in the specification.
-/
import Derived.Test.YtkegdjfpeocndaaNodA
namespace Go.Proofs.Ytkegdjfpeocndaa
set_option linter.unusedVariables false
open Go.RowKit
attribute [local simp] far_const

theorem chain_pos {l : List Vt} (h : votesB l = true) {k : Nat} (hk : k < l.length) : 0 < l[k].c.length := by
  have := ((votesB_iff l).1 h).1 _ (List.getElem_mem hk)
  simp only [vokB, Bool.and_eq_true, decide_eq_true_eq] at this
  exact this.2

set_option maxHeartbeats 2000000 in
theorem ownUpTo_any (a : Option Addr) (cap : Nat) (l : List Vt) (id vo : Int) (w : World) (hl : Vts w a l) (hs : Short l) (hn : l.length ≤ 1048576) (hv : votesB l = true) :
    Calls Try.prog 82 #[.slice a l.length cap, .int .i64 id, .int .i64 vo] w fun r w' => r = .returned (.bool (ownB l id vo)) ∧ Grew w w' := by
  have HV : Hid (votesB l = true) := hide hv
  clear hv
  go_enter Try.func82, Try.ntmps82
  go_wp2_with fail
  go_loopw [11] (fun i wr => ∃ k : Nat, k ≤ l.length ∧ i = .int .i64 k ∧ Hid (∀ j (hj : j < l.length), j < k → (l[j].n == id && decide (vo < endE 0 l[j].c)) = false) ∧ Grew w wr) (fun i _ => l.length - (intOf i).toNat)
  case atStart => exact ⟨0, Nat.zero_le _, rfl, fun j _ h => absurd h (Nat.not_lt_zero _), Grew.refl _⟩
  case round =>
    obtain ⟨k, hk, rfl, hno, hg⟩ := hrel
    by_cases hlt : k < l.length
    · obtain ⟨b, off, rfl, hat⟩ := hl.at hlt
      obtain ⟨c0, a1, cap1, c1, hi⟩ := hat.grew hg
      have hp := chain_pos HV.out hlt
      have hs1 := hs.at hlt
      clear hat
      cases hna : (l[k].n == id) with
      | false =>
        have hnext : Hid (∀ j (hj : j < l.length), j < k + 1 → (l[j].n == id && decide (vo < endE 0 l[j].c)) = false) := fun j hj hjk => by
          by_cases e : j = k
          · subst e; rw [hna]; rfl
          · exact hno.out j hj (by omega)
        go_wp2
        go_roundw
        case rel => exact ⟨k + 1, by omega, by go_num, hnext, hg.alloc _⟩
        case measure => simp [intOf]; omega
      | true =>
        obtain ⟨b2, o2, rfl, hat2⟩ := hi.at (i := l[k].c.length - 1) (by omega)
        have d0 := hat2.1
        have he := endE_at l[k].c hp
        rw [← he] at d0
        obtain ⟨E, hE⟩ : ∃ E, endE 0 l[k].c = E := ⟨_, rfl⟩
        rw [hE] at d0
        have HE := hide hE
        have d1 := fun o => ((Grew.refl wr).alloc o).keep d0
        clear hat2 he hE hi d0
        cases hgt : decide (vo < E) with
        | false =>
          have hgt' : ¬ vo < E := by simpa using hgt
          have hnext : Hid (∀ j (hj : j < l.length), j < k + 1 → (l[j].n == id && decide (vo < endE 0 l[j].c)) = false) := fun j hj hjk => by
            by_cases e : j = k
            · subst e; rw [HE.out, hgt, Bool.and_false]
            · exact hno.out j hj (by omega)
          go_wp2
          go_roundw
          case rel => exact ⟨k + 1, by omega, by go_num, hnext, hg.alloc _⟩
          case measure => simp [intOf]; omega
        | true =>
          have hgt' : vo < E := by simpa using hgt
          have hend : Hid (ownB l id vo = false) := ownB_no hlt (by rw [HE.out, hna, hgt]; rfl)
          go_wp2
          go_ret
          exact ⟨ret_bool hend.out.symm, hg.alloc _⟩
    · have hle : (l.length : Int) ≤ (k : Int) := by omega
      have hend : Hid (ownB l id vo = true) := ownB_yes fun j hj => hno.out j hj (by omega)
      go_wp2
      go_ret
      exact ⟨ret_bool hend.out.symm, hg⟩

set_option maxHeartbeats 2000000 in
theorem implNodeOk (x : Nd) (v : Value) (w : World) (h : NdV w v x) (hs : Short x.s) (hn : x.s.length ≤ 1048576) :
    Calls Try.prog 34 #[v] w fun r w' => r = .returned (.bool (nodeB x)) ∧ Grew w w' := by
  obtain ⟨sv, rfl, a, cap, rfl, hcap, hv⟩ := h
  have HV := hide hv
  clear hv
  cases h1 : inB x.id 1 4 with
  | false =>
    have hx : Hid (nodeB x = false) := by show nodeB x = false; unfold nodeB; rw [h1]; rfl
    go_enter Try.func34, Try.ntmps34
    go_wp2_with fail
    refine (isNode_any _ _).mono ?_
    rw [h1]
    rintro r w1 ⟨rfl, rfl⟩
    go_wp2
    go_ret
    exact ⟨ret_bool hx.out.symm, (Grew.refl _).alloc _⟩
  | true =>
    by_cases h2 : 30 < x.ep
    · have hx : Hid (nodeB x = false) := by
        show nodeB x = false
        have : inB x.ep 0 30 = false := by unfold inB; rw [decide_eq_false (show ¬ x.ep ≤ 30 by omega), Bool.and_false]
        unfold nodeB; rw [h1, this]; rfl
      go_enter Try.func34, Try.ntmps34
      go_wp2_with fail
      refine (isNode_any _ _).mono ?_
      rw [h1]
      rintro r w1 ⟨rfl, rfl⟩
      go_wp2
      go_ret
      exact ⟨ret_bool hx.out.symm, (Grew.refl _).alloc _⟩
    · have h2' : decide (30 < x.ep) = false := by simpa using h2
      by_cases h3 : x.vo < 0
      · have hx : Hid (nodeB x = false) := by
          show nodeB x = false
          have : inB x.vo 0 x.ep = false := by unfold inB; rw [decide_eq_false (show ¬ 0 ≤ x.vo by omega), Bool.false_and]
          unfold nodeB; rw [h1, this, Bool.false_and, Bool.and_false]; rfl
        go_enter Try.func34, Try.ntmps34
        go_wp2_with fail
        refine (isNode_any _ _).mono ?_
        rw [h1]
        rintro r w1 ⟨rfl, rfl⟩
        go_wp2
        go_ret
        exact ⟨ret_bool hx.out.symm, (Grew.refl _).alloc _⟩
      · have h3' : decide (x.vo < 0) = false := by simpa using h3
        by_cases h4 : x.ep < x.vo
        · have hx : Hid (nodeB x = false) := by
            show nodeB x = false
            have : inB x.vo 0 x.ep = false := by unfold inB; rw [decide_eq_false (show ¬ x.vo ≤ x.ep by omega), Bool.and_false]
            unfold nodeB; rw [h1, this, Bool.false_and, Bool.and_false]; rfl
          go_enter Try.func34, Try.ntmps34
          go_wp2_with fail
          refine (isNode_any _ _).mono ?_
          rw [h1]
          rintro r w1 ⟨rfl, rfl⟩
          go_wp2
          go_ret
          exact ⟨ret_bool hx.out.symm, (Grew.refl _).alloc _⟩
        · have h4' : decide (x.ep < x.vo) = false := by simpa using h4
          have hx : Hid (nodeB x = (decide (x.s.length ≤ 80) && (votesB x.s && ownB x.s x.id x.vo))) := by
            show nodeB x = _
            have e1 : inB x.ep 0 30 = true := by unfold inB; rw [decide_eq_true (show 0 ≤ x.ep by omega), decide_eq_true (show x.ep ≤ 30 by omega)]; rfl
            have e2 : inB x.vo 0 x.ep = true := by unfold inB; rw [decide_eq_true (show 0 ≤ x.vo by omega), decide_eq_true (show x.vo ≤ x.ep by omega)]; rfl
            unfold nodeB; rw [h1, e1, e2]; rfl
          by_cases h5 : x.s.length ≤ 80
          · have h5' : decide ((x.s.length : Int) ≤ 80) = true := by simp; omega
            have h5'' : decide (x.s.length ≤ 80) = true := by simpa using h5
            cases h6 : votesB x.s with
            | false =>
              have hX := fun W => hide (fun (g : Grew w W) => implVotesOk a cap x.s W ((unhide HV).grew g) hs hn)
              rw [h6] at hX hx
              go_enter Try.func34, Try.ntmps34
              go_wp2_with fail
              refine (isNode_any _ _).mono ?_
              rw [h1]
              rintro r w1 ⟨rfl, rfl⟩
              go_wp2_with fail
              refine (unhide (hX _) ((Grew.refl _).alloc _)).mono ?_
              rintro r w1 ⟨rfl, g1⟩
              go_wp2
              go_ret
              exact ⟨ret_bool (by rw [hx.out, h5'']; rfl), ((Grew.refl _).alloc _).trans g1⟩
            | true =>
              have hX := fun W => hide (fun (g : Grew w W) => implVotesOk a cap x.s W ((unhide HV).grew g) hs hn)
              have hY := fun W => hide (fun (g : Grew w W) => ownUpTo_any a cap x.s x.id x.vo W ((unhide HV).grew g) hs hn h6)
              rw [h6] at hX hx
              clear h6
              go_enter Try.func34, Try.ntmps34
              go_wp2_with fail
              refine (isNode_any _ _).mono ?_
              rw [h1]
              rintro r w1 ⟨rfl, rfl⟩
              go_wp2_with fail
              refine (unhide (hX _) ((Grew.refl _).alloc _)).mono ?_
              rintro r w1 ⟨rfl, g1⟩
              have p0 := g1.keep (p := ⟨w.heap.size, 0, none⟩) (v := .int .i64 x.id) (by simp [go_sem])
              have p2 := g1.keep (p := ⟨w.heap.size, 2, none⟩) (v := .int .i64 x.vo) (by simp [go_sem])
              have p3 := g1.keep (p := ⟨w.heap.size, 3, none⟩) (v := .slice a x.s.length cap) (by simp [go_sem])
              have G1 := hide (((Grew.refl w).alloc _).trans g1)
              clear g1
              go_wp2_with fail
              refine (unhide (hY _) (unhide G1)).mono ?_
              rintro r w2 ⟨rfl, g2⟩
              go_wp2
              go_ret
              exact ⟨ret_bool (by rw [hx.out, h5'']; rfl), (unhide G1).trans g2⟩
          · have h5' : decide ((x.s.length : Int) ≤ 80) = false := by simp; omega
            have h5'' : decide (x.s.length ≤ 80) = false := by simpa using h5
            have h5n : ¬ (x.s.length : Int) ≤ 80 := by omega
            go_enter Try.func34, Try.ntmps34
            go_wp2_with fail
            refine (isNode_any _ _).mono ?_
            rw [h1]
            rintro r w1 ⟨rfl, rfl⟩
            go_wp2
            go_ret
            exact ⟨ret_bool (by rw [hx.out, h5'']; rfl), (Grew.refl _).alloc _⟩
end Go.Proofs.Ytkegdjfpeocndaa
