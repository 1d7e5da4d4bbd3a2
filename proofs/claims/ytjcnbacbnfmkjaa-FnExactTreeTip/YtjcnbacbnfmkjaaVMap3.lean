/-
  What the program's VotesOk and VotesFor answer at every row of votes.
-/
import Derived.Test.YtjcnbacbnfmkjaaVMap2
import Derived.Test.YtjcnbacbnfmkjaaNums1
import Derived.Test.YtjcnbacbnfmkjaaVSpec1
namespace Go.Proofs.Ytjcnbacbnfmkjaa
set_option linter.unusedVariables false
open Go.RowKit Go.Maps
attribute [local simp] far_const

theorem votesB_takes {l : List Vt} {k : Nat} (hk : k ≤ l.length) (h : ∀ j (hj : j < l.length), j < k → vokB l[j] = true ∧ hasB (l.take j) l[j] = false) : ∀ y ∈ l.take k, vokB y = true := by
  intro y hy
  obtain ⟨i, hi, rfl⟩ := List.getElem_of_mem hy
  simp only [List.length_take] at hi
  rw [List.getElem_take]
  exact (h i (by omega) (by omega)).1
theorem addL_take {l : List Vt} {k : Nat} (hk : k < l.length) (h : hasB (l.take k) l[k] = false) : addL (l.take k) l[k] = l.take (k + 1) := by
  rw [addL_new h, List.take_succ_eq_append_getElem hk]

/-- What votersOf answers. -/
def VotersA (w : World) (base : Nat) (l : List Vt) (s : Option Nat) : Prop := votesB l = true → ∃ B, s = some B ∧ Voters w base B (2 * l.length) l

set_option maxRecDepth 20000 in
set_option maxHeartbeats 2000000 in
theorem votersOf_any (a : Option Addr) (cap : Nat) (l : List Vt) (w : World) (hl : Vts w a l) (hs : Short l) (hn : l.length ≤ 1048576) :
    Calls Try.prog 85 #[.slice a l.length cap] w fun r w' => ∃ s, r = .returned (.tuple #[.map s, .bool (votesB l)]) ∧ VotersA w' w.heap.size l s ∧ Grew w w' := by
  have hmm := @run_makeMap Try.prog
  go_enter Try.func85, Try.ntmps85
  go_wp2_with fail
  clear hmm
  go_loopw [9] (fun i wr => ∃ k : Nat, k ≤ l.length ∧ i = .int .i64 k ∧ Hid (∀ j (hj : j < l.length), j < k → vokB l[j] = true ∧ hasB (l.take j) l[j] = false) ∧ Hid (Voters wr w.heap.size w.heap.size (2 * k) (l.take k)) ∧ Grew w wr) (fun i _ => l.length - (intOf i).toNat)
  case atStart => exact ⟨0, Nat.zero_le _, rfl, fun j _ h => absurd h (Nat.not_lt_zero _), Voters.made w, (Grew.refl _).alloc _⟩
  case round =>
    obtain ⟨k, hk, rfl, hno, hv, hg⟩ := hrel
    by_cases hlt : k < l.length
    · obtain ⟨b, off, rfl, hat⟩ := hl.at hlt
      obtain ⟨c0, a1, cap1, c1, hi⟩ := hat.grew hg
      have hs1 := hs.at hlt
      clear hat
      go_wp2_with fail
      refine (implVoteOk l[k] _ _ ⟨_, _, rfl, hi⟩ hs1).mono ?_
      rintro r w1 ⟨rfl, g1⟩
      have hg1 := hg.trans g1
      cases hvk : vokB l[k] with
      | false =>
        have hend : Hid (votesB l = false) := votesB_at k hlt (by rw [hvk]; rfl)
        go_wp2
        go_ret2
        exact ⟨none, (by rw [hend.out]; rfl), (fun h => by rw [hend.out] at h; cases h), hg1⟩
      | true =>
        have c0 := g1.keep c0
        have c1 := g1.keep c1
        have hi1 := hi.grew g1
        go_wp2_with fail
        refine (votersAdd_any w.heap.size w.heap.size (2 * k) (l.take k) l[k] _ _ ((unhide hv).grew g1) (votesB_takes hk hno.out) hvk ⟨_, _, rfl, hi1⟩ (by omega)).mono ?_
        rintro r w2 ⟨rfl, hv2, g2⟩
        have hg2 : Grew w w2 := .of_below (hg1.below.trans g2)
        cases hhk : hasB (l.take k) l[k] with
        | true =>
          have hend : Hid (votesB l = false) := votesB_at k hlt (by rw [hvk, hhk]; rfl)
          clear hv2
          go_wp2
          go_ret2
          exact ⟨none, (by rw [hend.out]; rfl), (fun h => by rw [hend.out] at h; cases h), hg2⟩
        | false =>
          have hnext : Hid (∀ j (hj : j < l.length), j < k + 1 → vokB l[j] = true ∧ hasB (l.take j) l[j] = false) := fun j hj hjk => by
            by_cases e : j = k
            · subst e; exact ⟨hvk, hhk⟩
            · exact hno.out j hj (by omega)
          have hvn : Hid (Voters w2 w.heap.size w.heap.size (2 * (k + 1)) (l.take (k + 1))) := by
            show Voters w2 w.heap.size w.heap.size (2 * (k + 1)) (l.take (k + 1))
            rw [← addL_take hlt hhk]; exact hv2
          clear hv2
          go_wp2
          go_roundw
          case rel => exact ⟨k + 1, by omega, by go_num, hnext, hvn, hg2⟩
          case measure => simp [intOf]; omega
    · have hkl : k = l.length := by omega
      have hend : Hid (votesB l = true) := votesB_take_all fun j hj _ => hno.out j hj (by omega)
      have hle : (l.length : Int) ≤ (k : Int) := by omega
      have hv' : Hid (Voters wr w.heap.size w.heap.size (2 * l.length) l) := by
        show Voters wr w.heap.size w.heap.size (2 * l.length) l
        have := unhide hv
        rw [hkl, List.take_length] at this
        exact this
      clear hkl
      go_wp2
      go_ret2
      exact ⟨some w.heap.size, (by rw [hend.out]; rfl), (fun _ => ⟨_, rfl, unhide hv'⟩), hg⟩

theorem implVotesOk (a : Option Addr) (cap : Nat) (l : List Vt) (w : World) (hl : Vts w a l) (hs : Short l) (hn : l.length ≤ 1048576) :
    Calls Try.prog 61 #[.slice a l.length cap] w fun r w' => r = .returned (.bool (votesB l)) ∧ Grew w w' := by
  go_enter Try.func61, Try.ntmps61
  go_wp2_with fail
  refine (votersOf_any a cap l _ hl hs hn).mono ?_
  rintro r w1 ⟨s, rfl, _, g1⟩
  go_wp2
  go_ret
  exact ⟨rfl, g1⟩

/-- The nodes up to k that are for a chain. -/
def forUp (l : List Vt) (c : List It) (k : Nat) : List Int := ((List.range k).map (fun i : Nat => (i : Int) + 1)).filter (fun n => hasB l ⟨n, c⟩)
theorem forUp_four (l : List Vt) (c : List It) : forUp l c 4 = forN l c := rfl
theorem forUp_in {l : List Vt} {c : List It} {k : Nat} (h : hasB l ⟨(k : Int) + 1, c⟩ = true) : forUp l c (k + 1) = forUp l c k ++ [(k : Int) + 1] := by
  unfold forUp
  rw [List.range_succ, List.map_append, List.filter_append]
  simp [h]
theorem forUp_out {l : List Vt} {c : List It} {k : Nat} (h : hasB l ⟨(k : Int) + 1, c⟩ = false) : forUp l c (k + 1) = forUp l c k := by
  unfold forUp
  rw [List.range_succ, List.map_append, List.filter_append]
  simp [h]
theorem forUp_len (l : List Vt) (c : List It) (k : Nat) : (forUp l c k).length ≤ k := by
  unfold forUp
  have := List.length_filter_le (fun n => hasB l ⟨n, c⟩) ((List.range k).map (fun i : Nat => (i : Int) + 1))
  simpa using this
theorem wf_nat (k : Nat) (h : k ≤ 4) : (Lit.int .i64 ((k : Int) + 1)).wf = true := by
  rcases (show k = 0 ∨ k = 1 ∨ k = 2 ∨ k = 3 ∨ k = 4 by omega) with rfl | rfl | rfl | rfl | rfl <;> decide
/-- 'append' onto what may be nothing at all. -/
theorem wpList_ansN {ops : Array Oper} {rest : List Oper} {o : Oper} {a : Act} {Q : Exit → Act → World → Prop} {w : World} (hgd : o.guard = none) (s x : Operand)
    (ho : o.op = .call { callee := .builtin .append, args := #[s, x], argTypes := #[50, 50] })
    (base : Nat) (v : Value) (l : List Int) (hs : a.eval s = v) (hown : AnsN w base v l)
    (ad : Addr) (c : Nat) (y : Int) (hx : a.eval x = .slice (some ad) 1 c) (hm : Ints w (some ad) [y]) (hn : l.length + 1 ≤ 1048576) (hbase : base ≤ w.heap.size)
    (h : ∀ v' w', OwnN w' base v' (l ++ [y]) → w.grownBy w' v.ownBlock → wpList Try.prog ops Q rest (a.put o.dst v') w') : wpList Try.prog ops Q (o :: rest) a w := by
  rcases hown with ⟨rfl, rfl⟩ | hown
  · obtain ⟨i, hi, hz0, hz1, hz2⟩ := info_parts int_info
    refine wpList_append_own w hgd s x 50 ho base 3 i _ 1 8 Try.underlying50 hi hz0 hz1 hz2 rfl (by omega) (.slice none 0 0) 0 [] hs (World.ownsRow_nil _ _ _ _) ad 1 c (nums [y]) hx (by simp [nums]) hm.nums (nums_one [y]) (by unfold maxLen; omega) (by omega) hbase ?_
    intro v' w' h1 h2 h3
    exact h v' w' ⟨fun e => by have := (h3.1 e).2; omega, h1⟩ h2
  · exact wpList_nums hgd s x ho base v l hs hown ad c [y] 1 rfl hx hm hn hbase h
theorem AnsN.bl {w : World} {base : Nat} {v : Value} {l : List Int} (h : AnsN w base v l) : ∀ k, v.ownBlock = some k → base ≤ k ∧ k < w.heap.size := by
  rcases h with ⟨rfl, rfl⟩ | h
  · intro k hk; cases hk
  · exact h.block
theorem ints_one (w : World) (y : Int) (t : TypeId) : Ints (w.alloc (.cells #[.int .i64 y] t)) (some ⟨w.heap.size, 0, none⟩) [y] := by
  refine .inr ⟨_, _, rfl, fun i hi => ?_⟩
  obtain rfl : i = 0 := by simpa using hi
  simp [go_sem]

end Go.Proofs.Ytjcnbacbnfmkjaa
