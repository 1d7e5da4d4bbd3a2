/-
  What the branches' small functions answer: nothing, next, follows, endsRow.
-/
import Derived.Test.YtibhfiamibccnacTree1
import Derived.Test.YtibhfiamibccnacSame
namespace Go.Proofs.Ytibhfiamibccnac
set_option linter.unusedVariables false
open Go.RowKit
attribute [local simp] far_const

theorem ownsRow_at {w : World} {base : Nat} {v : Value} {n : Nat} {xs : List Value} (h : w.ownsRow base 58 1 v n xs) : (n = 0 ∧ v = .slice none 0 0) ∨ ∃ g cap, v = .slice (some ⟨g, 0, none⟩) n cap ∧ ∀ i (hi : i < xs.length), w.cell? ⟨g, i, none⟩ = some xs[i] := by
  rcases h.2 with ⟨hv, hn⟩ | ⟨g, cap, cur, hv, _⟩
  · exact .inl ⟨hn, hv⟩
  · refine .inr ⟨g, cap, hv, fun i hi => ?_⟩
    have := h.cells (g := g) (by rw [hv]; rfl) i xs[i] (by simp [hi])
    have hadd : (⟨g, 0, none⟩ : Addr).add i = ⟨g, i, none⟩ := by unfold Addr.add; split <;> simp_all
    rw [hadd] at this
    exact this

set_option maxRecDepth 20000 in
set_option maxHeartbeats 2000000 in
theorem nothing_any {w : World} {base n : Nat} {M : List It → Prop} {vt pos : List It → Nat} {kv : List It → Value} {kd : List It → List It} {tb : Nat} {cv : Value} {L : List (List It)}
    (h : TreeF w base n M vt pos kv kd tb cv ([] :: L)) :
    Calls Try.prog 65 #[ptr tb] w fun r w' => r = .returned (ptr (pos [])) ∧ Grew w w' := by
  rcases ownsRow_at h.trow with ⟨hn, _⟩ | ⟨g, cap, rfl, hc⟩
  · simp at hn
  · have c0 : w.cell? ⟨tb, 0, none⟩ = some (.slice (some ⟨g, 0, none⟩) (List.length ([] :: L)) cap) := by simp [World.cell?, h.tblk]
    have c1 := hc 0 (by simp)
    simp only [List.map_cons, List.getElem_cons_zero] at c1
    unfold ptr at c1 ⊢
    clear h hc
    go_enter Try.func65, Try.ntmps65
    go_wp2
    go_ret
    exact ⟨rfl, Grew.refl _⟩

set_option maxRecDepth 20000 in
set_option maxHeartbeats 2000000 in
theorem next_any {w : World} {base n : Nat} {M : List It → Prop} {vt pos : List It → Nat} {kv : List It → Value} {kd : List It → List It} {tb : Nat} {cv : Value} {L : List (List It)}
    (h : TreeF w base n M vt pos kv kd tb cv L) (c : List It) (x : It) (hc : M c) (hn : n ≤ 1073741824) :
    Calls Try.prog 71 #[ptr (pos c), .agg #[.int .i64 x.e, .int .i64 x.f, .int .i64 x.t, .int .i64 x.s]] w fun r w' =>
      ((x ∈ kd c ∧ r = .returned (ptr (pos (c ++ [x])))) ∨ (x ∉ kd c ∧ r = .returned (.pointer none))) ∧ Grew w w' := by
  obtain ⟨c0, ⟨i0, i1, i2, i3⟩, c5, c6, c7, _⟩ := brO_cells (h.blk c hc)
  obtain ⟨a, cap, hkv, hrow⟩ : ∃ a cap, kv c = .slice a (kd c).length cap ∧ ∀ j (hj : j < (kd c).length), ∃ g, a = some ⟨g, 0, none⟩ ∧ w.cell? ⟨g, j, none⟩ = some (ptr (pos (c ++ [(kd c)[j]]))) := by
    rcases ownsRow_at (h.row c hc) with ⟨h0, hv⟩ | ⟨g, cap, hv, hx⟩
    · exact ⟨none, 0, by rw [hv, h0], fun j hj => by omega⟩
    · refine ⟨_, cap, hv, fun j hj => ⟨g, rfl, ?_⟩⟩
      rw [hx j (by simp [kidsV]; exact hj)]
      simp [kidsV]
  have hlen : (kd c).length ≤ 1073741824 := Nat.le_trans (h.few c hc) hn
  have hbr : Hid (∀ j (hj : j < (kd c).length), ItAt w (pos (c ++ [(kd c)[j]])) 1 (kd c)[j]) := fun j hj => by
    have := (brO_cells (h.blk _ (h.dn c _ hc (List.getElem_mem hj)))).2.1
    rw [lastI_snoc] at this
    exact this
  rw [hkv] at c7
  have HR : Hid (∀ j (hj : j < (kd c).length), ∃ g, a = some ⟨g, 0, none⟩ ∧ w.cell? ⟨g, j, none⟩ = some (ptr (pos (c ++ [(kd c)[j]])))) := hrow
  clear hrow hkv h
  have g7 : (w.alloc (.cells #[.int .i64 x.e, .int .i64 x.f, .int .i64 x.t, .int .i64 x.s] 63)).cell? ⟨pos c, 7, none⟩ = some (.slice a (kd c).length cap) := ((Grew.refl w).alloc _).keep c7
  have hx0 := its_one w x 63
  clear c0 i0 i1 i2 i3 c5 c6 c7
  unfold ptr
  go_enter Try.func71, Try.ntmps71
  go_wp2_with fail
  go_loopw [12] (fun i wr => ∃ k : Nat, k ≤ (kd c).length ∧ i = .int .i64 k ∧ Hid (∀ j (hj : j < (kd c).length), j < k → (kd c)[j] ≠ x) ∧ Grew (w.alloc (.cells #[.int .i64 x.e, .int .i64 x.f, .int .i64 x.t, .int .i64 x.s] 63)) wr) (fun i _ => (kd c).length - (intOf i).toNat)
  case atStart => exact ⟨0, Nat.zero_le _, rfl, fun j _ h => absurd h (Nat.not_lt_zero _), Grew.refl _⟩
  case round =>
    obtain ⟨k, hk, rfl, hno, hg⟩ := hrel
    have hG : Grew w wr := ((Grew.refl w).alloc _).trans hg
    by_cases hlt : k < (kd c).length
    · obtain ⟨gb, rfl, hp⟩ := HR.out k hlt
      have hat := (hbr.out k hlt).grew hG
      obtain ⟨u0, u1, u2, u3⟩ := hat
      have hxx := hx0.grew hg
      obtain ⟨b1, o1, e1, hat2⟩ := hxx.at (i := 0) (by simp)
      simp only [Option.some.injEq, Addr.mk.injEq, and_true] at e1
      obtain ⟨rfl, rfl⟩ := e1
      obtain ⟨d0, d1, d2, d3⟩ := hat2
      simp only [List.getElem_cons_zero, Nat.zero_mul, Nat.add_zero, Nat.zero_add] at d0 d1 d2 d3
      have p0 := hG.keep hp
      unfold ptr at p0
      obtain ⟨B, hB⟩ : ∃ B, Hid (B = pos (c ++ [(kd c)[k]])) := ⟨_, hide rfl⟩
      rw [← hB.out] at p0 u0 u1 u2 u3
      simp only [Nat.reduceAdd] at u1 u2 u3
      have e0 := Grew.gcell u0
      have e1 := Grew.gcell u1
      have e2 := Grew.gcell u2
      have e3 := Grew.gcell u3
      have f0 := Grew.gcell d0
      have f1 := Grew.gcell d1
      have f2 := Grew.gcell d2
      have f3 := Grew.gcell d3
      have heq := equal_item (kd c)[k] x
      cases hb : eqB (kd c)[k] x with
      | true =>
        rw [hb] at heq
        have hx : Hid ((kd c)[k] = x) := (eqB_iff _ _).1 hb
        go_wp2_with fail
        refine quietly (by kernel_rfl) (by kernel_rfl) ?_
        repeat (go_big_quiet_step (first | fail))
        refine wpQuiet_nil ?_
        intro _ hw'
        obtain ⟨⟨nq, osq⟩, hw''⟩ := hw'
        subst hw''
        go_wp2
        go_ret
        refine ⟨.inl ⟨by rw [← hx.out]; exact List.getElem_mem hlt, ?_⟩, hG.trans ⟨_, _, rfl⟩⟩
        rw [hB.out, hx.out]
        rfl
      | false =>
        rw [hb] at heq
        have hnext : Hid (∀ j (hj : j < (kd c).length), j < k + 1 → (kd c)[j] ≠ x) := fun j hj hjk => by
          by_cases e : j = k
          · subst e
            intro e2
            rw [(eqB_iff _ _).2 e2] at hb
            cases hb
          · exact hno.out j hj (by omega)
        go_wp2_with fail
        refine quietly (by kernel_rfl) (by kernel_rfl) ?_
        repeat (go_big_quiet_step (first | fail))
        refine wpQuiet_nil ?_
        intro _ hw'
        obtain ⟨⟨nq, osq⟩, hw''⟩ := hw'
        subst hw''
        go_wp2
        go_roundw
        case rel => exact ⟨k + 1, by omega, by go_num, hnext, hg.trans ⟨_, _, rfl⟩⟩
        case measure => simp [intOf]; omega
    · have hle : ((kd c).length : Int) ≤ (k : Int) := by omega
      have hno' : Hid (x ∉ kd c) := fun hm => by
        obtain ⟨j, hj, e⟩ := List.getElem_of_mem hm
        exact hno.out j hj (by omega) e
      go_wp2
      go_ret
      exact ⟨.inr ⟨hno'.out, rfl⟩, hG⟩

/-- Whether a branch's epoch is one behind that of the branch ahead of it. -/
def folB (c : List It) : Bool := (lastI c).e == wrap64 ((lastI c.dropLast).e + 1)
set_option maxRecDepth 20000 in
set_option maxHeartbeats 2000000 in
theorem follows_any {w : World} {base n : Nat} {M : List It → Prop} {vt pos : List It → Nat} {kv : List It → Value} {kd : List It → List It} {tb : Nat} {cv : Value} {L : List (List It)}
    (h : TreeF w base n M vt pos kv kd tb cv L) (c : List It) (x : It) (hc : M (c ++ [x])) :
    Calls Try.prog 88 #[ptr (pos (c ++ [x]))] w fun r w' => r = .returned (.bool (folB (c ++ [x]))) ∧ Grew w w' := by
  obtain ⟨c0, ⟨i0, i1, i2, i3⟩, _⟩ := brO_cells (h.blk _ hc)
  obtain ⟨_, ⟨j0, j1, j2, j3⟩, _⟩ := brO_cells (h.blk _ (h.up _ _ hc).1)
  rw [aheadP_snoc] at c0
  have hf : folB (c ++ [x]) = ((lastI (c ++ [x])).e == wrap64 ((lastI c).e + 1)) := by unfold folB; rw [List.dropLast_concat]
  rw [hf]
  unfold ptr
  clear h
  have e0 := Grew.gcell c0
  have e1 := Grew.gcell i0
  have e2 := Grew.gcell j0
  go_enter Try.func88, Try.ntmps88
  go_wp2_with fail
  refine quietly (by kernel_rfl) (by kernel_rfl) ?_
  repeat (go_big_quiet_step (first | fail))
  refine wpQuiet_nil ?_
  intro _ hw'
  obtain ⟨⟨nq, osq⟩, hw''⟩ := hw'
  subst hw''
  go_wp2
  go_ret
  exact ⟨rfl, ⟨_, _, rfl⟩⟩

def endsB (c : List It) : Bool := decide (3 ≤ c.length) && (folB c && folB c.dropLast)
theorem split_last {c : List It} (h : 1 ≤ c.length) : ∃ d x, c = d ++ [x] := by
  rcases List.eq_nil_or_concat c with rfl | ⟨d, x, rfl⟩
  · simp at h
  · exact ⟨d, x, by simp⟩
set_option maxRecDepth 20000 in
set_option maxHeartbeats 2000000 in
theorem endsRow_any {w : World} {base n : Nat} {M : List It → Prop} {vt pos : List It → Nat} {kv : List It → Value} {kd : List It → List It} {tb : Nat} {cv : Value} {L : List (List It)}
    (h : TreeF w base n M vt pos kv kd tb cv L) (c : List It) (hc : M c) (hl : c.length ≤ 1048576) :
    Calls Try.prog 83 #[ptr (pos c)] w fun r w' => r = .returned (.bool (endsB c)) ∧ Grew w w' := by
  obtain ⟨c0, _, c5, _⟩ := brO_cells (h.blk _ hc)
  by_cases h3 : 3 ≤ c.length
  · obtain ⟨d, x, rfl⟩ := split_last (c := c) (by omega)
    have hd := (h.up _ _ hc).1
    rw [aheadP_snoc] at c0
    obtain ⟨d', x', rfl⟩ := split_last (c := d) (by simp at h3; omega)
    have hge : (3 : Int) ≤ ((d' ++ [x'] ++ [x]).length : Int) := by omega
    have he : endsB (d' ++ [x'] ++ [x]) = (folB (d' ++ [x'] ++ [x]) && folB (d' ++ [x'])) := by
      unfold endsB; rw [List.dropLast_concat]; simp only [decide_eq_true h3, Bool.true_and]
    rw [he]
    have F1 : ∀ W, Grew w W → Hid (Calls Try.prog 88 #[.pointer (some ⟨pos (d' ++ [x'] ++ [x]), 0, none⟩)] W fun r w' => r = .returned (.bool (folB (d' ++ [x'] ++ [x]))) ∧ Grew W w') := fun W g => follows_any (h.grew g) _ _ hc
    have F2 : ∀ W, Grew w W → Hid (Calls Try.prog 88 #[.pointer (some ⟨pos (d' ++ [x']), 0, none⟩)] W fun r w' => r = .returned (.bool (folB (d' ++ [x']))) ∧ Grew W w') := fun W g => follows_any (h.grew g) _ _ hd
    obtain ⟨N, hN⟩ : ∃ N : Nat, (d' ++ [x'] ++ [x]).length = N := ⟨_, rfl⟩
    rw [hN] at c5 hge
    unfold ptr
    generalize pos (d' ++ [x'] ++ [x]) = P1 at *
    generalize pos (d' ++ [x']) = P2 at *
    generalize folB (d' ++ [x'] ++ [x]) = f1 at *
    generalize folB (d' ++ [x']) = f2 at *
    clear hN h3 he hl hc hd h
    go_enter Try.func83, Try.ntmps83
    go_wp2_with fail
    refine (F1 _ (Grew.refl _)).out.mono ?_
    rintro r w1 ⟨rfl, g1⟩
    have c0' := g1.keep c0
    cases f1 with
    | true =>
      go_wp2_with fail
      refine (F2 _ g1).out.mono ?_
      rintro r w2 ⟨rfl, g2⟩
      go_wp2
      go_ret
      exact ⟨rfl, g1.trans g2⟩
    | false =>
      go_wp2
      go_ret
      exact ⟨rfl, g1⟩
  · have hlt : decide ((3 : Int) ≤ (c.length : Int)) = false := by simp; omega
    have he : Hid (endsB c = false) := by show endsB c = false; unfold endsB; simp [h3]
    unfold ptr
    go_enter Try.func83, Try.ntmps83
    go_wp2
    go_ret
    exact ⟨ret_bool he.out.symm, Grew.refl _⟩
end Go.Proofs.Ytibhfiamibccnac
