/-
  Votes copied: by the program (copyVote, copyVotes), by the specification (l3VoteCopy, l3Copy), and with one more.
-/
import Derived.Test.YtkegdjfpeocndaaVMapA
import Derived.Test.YtkegdjfpeocndaaVRows
import Derived.Test.YtkegdjfpeocndaaVConv
import Derived.Test.YtkegdjfpeocndaaBothA
namespace Go.Proofs.Ytkegdjfpeocndaa
set_option linter.unusedVariables false
open Go.RowKit
attribute [local simp] far_const

theorem its_row2 (w : World) (o1 o2 : Obj) (l : List It) : Its (((w.alloc o1).alloc o2).alloc (rowObj l)) (some ⟨w.heap.size + 1 + 1, 0, none⟩) l := by
  have := its_row ((w.alloc o1).alloc o2) l; simpa using this
theorem own_row2 (w : World) (o1 o2 : Obj) (l : List It) : Own (((w.alloc o1).alloc o2).alloc (rowObj l)) (w.heap.size + 1 + 1) l.length := by
  have := own_row ((w.alloc o1).alloc o2) l; simpa using this

set_option maxHeartbeats 1000000 in
theorem copyVote_any (x : Vt) (v : Value) (w : World) (hv : VtV w v x) (hn : x.c.length ≤ 1048576) :
    Calls Try.prog 121 #[v] w fun r w' => ∃ q, r = .returned (.agg #[.int .i64 x.n, .slice (some ⟨q, 0, none⟩) x.c.length x.c.length]) ∧ w.heap.size ≤ q ∧ q < w'.heap.size ∧ Its w' (some ⟨q, 0, none⟩) x.c ∧ Own w' q x.c.length ∧ Grew w w' := by
  obtain ⟨a, cap, rfl, hl⟩ := hv
  have hmk := make_items x.c.length hn
  have hcp := fun w' (g : Grew w w') ty => copy_items w' x.c.length a cap x.c ty (hl.grew g) (Nat.le_refl _)
  have hc := hcp _ (((Grew.refl w).alloc (.cells #[.int .i64 x.n, .slice a x.c.length cap] 45)).alloc (.cells #[.int .i64 0, .slice none 0 0] 45))
  rw [List.take_length] at hc
  clear hcp
  simp only [World.size_alloc] at hc
  go_enter Try.func121, Try.ntmps121
  go_wp2
  go_returns
  exact ⟨w.heap.size + 1 + 1, rfl, by omega, by simp, its_row2 _ _ _ _, own_row2 _ _ _ _, (((Grew.refl _).alloc _).alloc _).alloc _⟩

set_option maxHeartbeats 1000000 in
theorem copyVotes_any (a : Option Addr) (cap : Nat) (l : List Vt) (w : World) (hl : Vts w a l) (hs : Short l) (hn : l.length ≤ 1048576) :
    Calls Try.prog 158 #[.slice a l.length cap] w fun r w' => ∃ v hs, r = .returned v ∧ VOwn w' w.heap.size v hs l ∧ Grew w w' := by
  have hmk := make_votes l.length hn
  go_enter Try.func158, Try.ntmps158
  go_wp2_with fail
  clear hmk
  go_loopw [10] (fun i wr => ∃ (k : Nat) (hs : List Nat), k ≤ l.length ∧ i = .int .i64 k ∧ Hid (VPart wr w.heap.size (.slice (some ⟨w.heap.size, 0, none⟩) l.length l.length) hs l.length (l.take k)) ∧ Grew w wr) (fun i _ => l.length - (intOf i).toNat)
  case atStart => exact ⟨0, [], Nat.zero_le _, rfl, VPart.made w l.length hn, (Grew.refl _).alloc _⟩
  case round =>
    obtain ⟨k, hh, hk, rfl, hp, hg⟩ := hrel
    by_cases hlt : k < l.length
    · obtain ⟨b, off, rfl, hat⟩ := hl.at hlt
      obtain ⟨c0, a1, cap1, c1, hi⟩ := hat.grew hg
      have hs1 := hs.at hlt
      have hsz := hg.size
      clear hat
      go_wp2_with fail
      refine (copyVote_any l[k] _ _ ⟨_, _, rfl, hi⟩ hs1).mono ?_
      rintro r w1 ⟨q, rfl, hq1, hq2, qi, qo, g1⟩
      have hp1 := hide ((unhide hp).grew g1)
      have hlk : (l.take k).length = k := by simp; omega
      obtain ⟨⟨v0, d0⟩, z0⟩ := (unhide hp1).cells (j := k * 2) (by omega)
      obtain ⟨⟨v1, d1⟩, z1⟩ := (unhide hp1).cells (j := k * 2 + 1) (by omega)
      have hlow := fun h hm => ((unhide hp).low h hm).2
      have hg0 : w.heap.size < wr.heap.size := by obtain ⟨g, c, e, _, _, h⟩ := (unhide hp).shape; simp at e; omega
      have hput := hide ((unhide hp1).put (by omega) l[k] q l[k].c.length (by omega) hq2 (fun hm => by have := hlow q hm; omega) (by omega) qi qo (Nat.le_refl _))
      rw [hlk, ← List.take_succ_eq_append_getElem hlt] at hput
      have G1 := hg.trans g1
      clear hp hlow hlk
      go_wp2
      go_roundw
      case rel => exact ⟨k + 1, hh ++ [q], by omega, by go_num, hput, (G1.setCell (p := ⟨w.heap.size, k * 2, none⟩) (Nat.le_refl _) _).setCell (p := ⟨w.heap.size, k * 2 + 1, none⟩) (Nat.le_refl _) _⟩
      case measure => simp [intOf]; omega
    · have hkl : k = l.length := by omega
      have hp' : Hid (VOwn wr w.heap.size (.slice (some ⟨w.heap.size, 0, none⟩) l.length l.length) hh l) := by
        have := unhide hp
        rw [hkl, List.take_length] at this
        exact this
      have hle : (l.length : Int) ≤ (k : Int) := by omega
      clear hkl hp
      go_wp2
      go_ret
      exact ⟨_, hh, rfl, unhide hp', hg⟩

/-- What VotesAdd answers: nothing at all, or a row of its own. -/
def VAns (w : World) (base : Nat) (v : Value) (hs : List Nat) (l : List Vt) : Prop := (v = .slice none 0 0 ∧ l = [] ∧ hs = []) ∨ VOwn w base v hs l
theorem VAns.vtsV {w : World} {base : Nat} {v : Value} {hs : List Nat} {l : List Vt} (h : VAns w base v hs l) : VtsV w v l := by
  rcases h with ⟨rfl, rfl, _⟩ | h
  · exact ⟨none, 0, rfl, Nat.le_refl _, .inl rfl⟩
  · exact h.vtsV
theorem VAns.kept {w w' : World} {base : Nat} {v : Value} {hs : List Nat} {l : List Vt} (h : VAns w base v hs l) (hz : w.heap.size ≤ w'.heap.size) (e : ∀ g, base ≤ g → g < w.heap.size → w'.heap[g]? = w.heap[g]?) : VAns w' base v hs l := by
  rcases h with h | h
  · exact .inl h
  · exact .inr (h.kept hz e)
theorem VAns.grew {w w' : World} {base : Nat} {v : Value} {hs : List Nat} {l : List Vt} (h : VAns w base v hs l) (g : Grew w w') : VAns w' base v hs l := h.kept g.size fun b _ hb => g.below.block b hb
theorem VAns.lower {w : World} {base base' : Nat} {v : Value} {hs : List Nat} {l : List Vt} (h : VAns w base v hs l) (hb : base' ≤ base) : VAns w base' v hs l := by
  rcases h with h | h
  · exact .inl h
  · exact .inr (h.lower hb)
theorem addV_no {l : List Vt} {x : Vt} (h : votesB l = false ∨ vokB x = false) : addV l x = ([], false) := by
  unfold addV
  rw [if_neg]
  rintro ⟨h1, h2⟩
  rcases h with h | h
  · rw [h] at h1; cases h1
  · rw [h] at h2; cases h2
theorem addV_old {l : List Vt} {x : Vt} (h1 : votesB l = true) (h2 : vokB x = true) (h3 : hasB l x = true) : addV l x = (l, false) := by
  unfold addV; rw [if_pos ⟨h1, h2⟩, if_pos h3]
theorem addV_new {l : List Vt} {x : Vt} (h1 : votesB l = true) (h2 : vokB x = true) (h3 : hasB l x = false) : addV l x = (l ++ [x], true) := by
  unfold addV; rw [if_pos ⟨h1, h2⟩, if_neg (by rw [h3]; simp)]
theorem below_grew {w w1 w2 : World} (g : Grew w w1) (h : Below w.heap.size w1 w2) : Grew w w2 := .of_below (g.below.trans h)

set_option maxRecDepth 20000 in
set_option maxHeartbeats 4000000 in
theorem implVotesAdd (a : Option Addr) (cap : Nat) (l : List Vt) (x : Vt) (v : Value) (w : World) (hl : Vts w a l) (hs : Short l) (hn : l.length ≤ 1048576) (hv : VtV w v x) (hx : x.c.length ≤ 1048576) :
    Calls Try.prog 178 #[.slice a l.length cap, v] w fun r w' => ∃ u hs, r = .returned (.tuple #[u, .bool (addV l x).2]) ∧ VAns w' w.heap.size u hs (addV l x).1 ∧ Grew w w' := by
  obtain ⟨b, cb, rfl, hxl⟩ := hv
  go_enter Try.func178, Try.ntmps178
  go_wp2_with fail
  refine (votersOf_any a cap l _ (hl.grew ((Grew.refl _).alloc _)) hs hn).mono ?_
  rintro r w1 ⟨s, rfl, hvs, g1⟩
  have p0 := g1.keep (p := ⟨w.heap.size, 0, none⟩) (v := .int .i64 x.n) (by simp [go_sem])
  have p1 := g1.keep (p := ⟨w.heap.size, 1, none⟩) (v := .slice b x.c.length cb) (by simp [go_sem])
  have G1 := hide (((Grew.refl w).alloc _).trans g1)
  cases hb : votesB l with
  | false =>
    have e := hide (addV_no (x := x) (.inl hb))
    clear hvs g1
    go_wp2
    go_ret2
    exact ⟨.slice none 0 0, [], (by rw [unhide e]; rfl), .inl ⟨rfl, (by rw [unhide e]), rfl⟩, unhide G1⟩
  | true =>
    obtain ⟨B, rfl, hvs2⟩ := hvs hb
    clear hvs
    simp only [World.size_alloc] at hvs2
    have HV := hide hvs2
    clear hvs2 g1
    go_wp2_with fail
    refine (implVoteOk x _ _ ⟨_, _, rfl, hxl.grew (unhide G1)⟩ hx).mono ?_
    rintro r w2 ⟨rfl, g2⟩
    have p0 := g2.keep p0
    have p1 := g2.keep p1
    have HV2 := hide ((unhide HV).grew g2)
    have G2 := hide ((unhide G1).trans g2)
    clear g2 G1 HV
    cases hvx : vokB x with
    | false =>
      have e := hide (addV_no (l := l) (.inr hvx))
      go_wp2
      go_ret2
      exact ⟨.slice none 0 0, [], (by rw [unhide e]; rfl), .inl ⟨rfl, (by rw [unhide e]), rfl⟩, unhide G2⟩
    | true =>
      go_wp2_with fail
      refine (votersAdd_any _ _ _ l x _ _ (unhide HV2) ((votesB_iff l).1 hb).1 hvx ⟨_, _, rfl, hxl.grew (unhide G2)⟩ (by omega)).mono ?_
      rintro r w3 ⟨rfl, hv3, g3⟩
      have hz3 : w.heap.size + 1 ≤ w2.heap.size := by have := World.block_lt_of_cell? _ _ p0; exact this
      have p0 : w3.cell? ⟨w.heap.size, 0, none⟩ = some (.int .i64 x.n) := by rw [g3.cell (by show w.heap.size < w.heap.size + 1; omega)]; exact p0
      have p1 : w3.cell? ⟨w.heap.size, 1, none⟩ = some (.slice b x.c.length cb) := by rw [g3.cell (by show w.heap.size < w.heap.size + 1; omega)]; exact p1
      have G3 := hide (below_grew (unhide G2) (g3.mono (by omega)))
      clear hv3 g3 HV2 G2
      cases hh : hasB l x with
      | true =>
        have e := hide (addV_old hb hvx hh)
        go_wp2_with fail
        refine (copyVotes_any a cap l _ (hl.grew (unhide G3)) hs hn).mono ?_
        rintro r w4 ⟨u, hu, rfl, o4, g4⟩
        have O4 := hide (o4.lower (unhide G3).size)
        have G4 := hide ((unhide G3).trans g4)
        clear o4 g4
        go_wp2
        go_ret2
        exact ⟨u, hu, (by rw [unhide e]; rfl), .inr (by rw [unhide e]; exact unhide O4), unhide G4⟩
      | false =>
        have e := hide (addV_new hb hvx hh)
        have HP := hide (And.intro p0 p1)
        have hz3 : w.heap.size < w3.heap.size := (by have := World.block_lt_of_cell? _ _ p0; exact this)
        go_wp2_with fail
        go_region_held_law (fun w' => w'.cell? ⟨w.heap.size, 0, none⟩ = some (.int .i64 x.n) ∧ w'.cell? ⟨w.heap.size, 1, none⟩ = some (.slice b x.c.length cb))
          (first | exact ⟨((Grew.refl _).alloc _).keep (g5.keep (g4.keep ((unhide HP).1))), ((Grew.refl _).alloc _).keep (g5.keep (g4.keep ((unhide HP).2)))⟩ | exact ⟨g5.keep (g4.keep ((unhide HP).1)), g5.keep (g4.keep ((unhide HP).2))⟩ | exact ⟨g4.keep ((unhide HP).1), g4.keep ((unhide HP).2)⟩ | exact unhide HP | exact ⟨g6.cell (((Grew.refl _).alloc _).keep (g5.keep (g4.keep ((unhide HP).1)))) hne6, g6.cell (((Grew.refl _).alloc _).keep (g5.keep (g4.keep ((unhide HP).2)))) hne6⟩)
          (first
            | (go_at_call 158; refine (copyVotes_any a cap l _ (hl.grew (unhide G3).drew) hs hn).mono ?_; rintro r w4 ⟨u, hu, rfl, o4, g4⟩)
            | (go_at_call 121; refine (copyVote_any x _ _ ⟨_, _, rfl, hxl.grew ((unhide G3).drew.trans g4)⟩ hx).mono ?_; rintro r w5 ⟨q, rfl, hq1, hq2, qi, qo, g5⟩; have o5 := o4.grew g5; have hbl : ∀ k, u.ownBlock = some k → w3.heap.size ≤ k ∧ k < w4.heap.size := o4.block; have hzz := g5.size; have hz4 : w3.heap.size ≤ w4.heap.size := g4.size)
            | (with_reducible refine at_ite ?_; refine step_vote rfl _ _ rfl w3.heap.size u hu l rfl (o5.grew ((Grew.refl _).alloc _)) ⟨w5.heap.size, 0, none⟩ 1 rfl x q x.c.length (cells_two _ _ _ _ _ _) (by omega) (by simp; omega) (fun hm => by have := (o4.low q hm).2; omega) (fun e => by have := hbl _ e; omega) (qi.grew ((Grew.refl _).alloc _)) (qo.grew ((Grew.refl _).alloc _)) (Nat.le_refl _) (by omega) (by simp; omega) ?_; intro v6 w6 o6 g6; have hne6 : some w.heap.size ≠ u.ownBlock := (fun e => by have := hbl _ e.symm; omega)))
        simp only [List.getElem_toArray, List.getElem_cons_succ, List.getElem_cons_zero, List.setIfInBounds_toArray, List.set_cons_succ, List.set_cons_zero]
        have O6 := hide (o6.lower (Nat.le_of_lt hz3))
        have G6 := hide (((((unhide G3).drew.trans g4).trans g5).alloc _).grown g6 (fun k hk => by have := hbl k hk; omega))
        clear o4 o5 o6 g4 g5 g6 hbl hne6
        go_wp2
        go_ret2
        exact ⟨v6, _, (by rw [unhide e]; rfl), .inr (by rw [unhide e]; exact unhide O6), unhide G6⟩
end Go.Proofs.Ytkegdjfpeocndaa
