/-
  A tree of chains in memory, how it grows, and where a chain is in it.
-/
import Derived.Test.YtjbnohepbmejkaaVMapA
import Derived.Test.YtjbnohepbmejkaaVote3
import Derived.Deep.AppendLies
import Derived.Test.YtjbnohepbmejkaaSame
namespace Go.Proofs.Ytjbnohepbmejkaa
set_option linter.unusedVariables false
open Go.RowKit

/-- How many votes are for a chain. -/
def cnt (l : List Vt) (c : List It) : Nat := (l.filter (fun x => sameB x.c c)).length

def lastI (c : List It) : It := c.getLast?.getD ⟨0, 0, 0, 0⟩
def aheadP (pos : List It → Nat) (c : List It) : Option Addr := if c.isEmpty then none else some ⟨pos c.dropLast, 0, none⟩
theorem lastI_snoc (c : List It) (x : It) : lastI (c ++ [x]) = x := by simp [lastI]
theorem aheadP_snoc (pos : List It → Nat) (c : List It) (x : It) : aheadP pos (c ++ [x]) = some ⟨pos c, 0, none⟩ := by simp [aheadP]
theorem aheadP_nil (pos : List It → Nat) : aheadP pos [] = none := rfl

/-- A branch's block. -/
def brO (a : Option Addr) (x : It) (n v : Nat) (k : Value) : Obj :=
  .cells #[.pointer a, .int .i64 x.e, .int .i64 x.f, .int .i64 x.t, .int .i64 x.s, .int .i64 n, .int .i64 v, k] 146
def ptr (n : Nat) : Value := .pointer (some ⟨n, 0, none⟩)
/-- The pointers to what is behind a branch. -/
def kidsV (pos : List It → Nat) (c : List It) (l : List It) : List Value := l.map (fun x => ptr (pos (c ++ [x])))

structure TreeF (w : World) (base n : Nat) (M : List It → Prop) (vt pos : List It → Nat) (kv : List It → Value) (kd : List It → List It) (tb : Nat) (cv : Value) (L : List (List It)) : Prop where
  nil : M []
  up : ∀ c x, M (c ++ [x]) → M c ∧ x ∈ kd c
  dn : ∀ c x, M c → x ∈ kd c → M (c ++ [x])
  inj : ∀ c d, M c → M d → pos c = pos d → c = d
  zero : ∀ c, ¬ M c → vt c = 0
  few : ∀ c, M c → (kd c).length ≤ n
  low : ∀ c, M c → base ≤ pos c
  blk : ∀ c, M c → w.heap[pos c]? = some (brO (aheadP pos c) (lastI c) c.length (vt c) (kv c))
  row : ∀ c, M c → w.ownsRow base 95 1 (kv c) (kd c).length (kidsV pos c (kd c))
  kk : ∀ c d k, M c → M d → (kv c).ownBlock = some k → (kv d).ownBlock = some k → c = d
  tlow : base ≤ tb
  tblk : w.heap[tb]? = some (.cells #[cv] 148)
  trow : w.ownsRow base 95 1 cv L.length (L.map (fun c => ptr (pos c)))
  mem : ∀ c ∈ L, M c
  kt : ∀ c k, M c → (kv c).ownBlock = some k → cv.ownBlock ≠ some k
/-- The same, without what only who builds it asks. -/
def Tree (w : World) (base n : Nat) (M : List It → Prop) (vt pos : List It → Nat) (tb : Nat) (L : List (List It)) : Prop := ∃ kv kd cv, TreeF w base n M vt pos kv kd tb cv L

theorem TreeF.kept {w w' : World} {base n : Nat} {M : List It → Prop} {vt pos : List It → Nat} {kv : List It → Value} {kd : List It → List It} {tb : Nat} {cv : Value} {L : List (List It)}
    (h : TreeF w base n M vt pos kv kd tb cv L) (e : ∀ k, base ≤ k → k < w.heap.size → w'.heap[k]? = w.heap[k]?) : TreeF w' base n M vt pos kv kd tb cv L := by
  have lt : ∀ {k : Nat} {o : Obj}, w.heap[k]? = some o → k < w.heap.size := fun h => (Array.getElem?_eq_some_iff.1 h).1
  have rk : ∀ {v : Value} {m : Nat} {xs : List Value}, w.ownsRow base 95 1 v m xs → w'.ownsRow base 95 1 v m xs := fun hr => by
    refine ⟨hr.1, ?_⟩
    rcases hr.2 with h0 | ⟨g, cap, cur, hv, hb, hg, hx⟩
    · exact .inl h0
    · exact .inr ⟨g, cap, cur, hv, hb, by rw [e g hb (lt hg)]; exact hg, hx⟩
  exact { h with
    blk := fun c hc => by rw [e _ (h.low c hc) (lt (h.blk c hc))]; exact h.blk c hc
    row := fun c hc => rk (h.row c hc)
    tblk := by rw [e _ h.tlow (lt h.tblk)]; exact h.tblk
    trow := rk h.trow }
theorem TreeF.grew {w w' : World} {base n : Nat} {M : List It → Prop} {vt pos : List It → Nat} {kv : List It → Value} {kd : List It → List It} {tb : Nat} {cv : Value} {L : List (List It)}
    (h : TreeF w base n M vt pos kv kd tb cv L) (g : Grew w w') : TreeF w' base n M vt pos kv kd tb cv L := h.kept fun k _ hk => g.below.block k hk
theorem Tree.grew {w w' : World} {base n : Nat} {M : List It → Prop} {vt pos : List It → Nat} {tb : Nat} {L : List (List It)}
    (h : Tree w base n M vt pos tb L) (g : Grew w w') : Tree w' base n M vt pos tb L := by
  obtain ⟨kv, kd, cv, h⟩ := h; exact ⟨kv, kd, cv, h.grew g⟩

theorem brO_cells {w : World} {b : Nat} {a : Option Addr} {x : It} {n v : Nat} {k : Value} (h : w.heap[b]? = some (brO a x n v k)) :
    w.cell? ⟨b, 0, none⟩ = some (.pointer a) ∧ ItAt w b 1 x ∧ w.cell? ⟨b, 5, none⟩ = some (.int .i64 n) ∧ w.cell? ⟨b, 6, none⟩ = some (.int .i64 v) ∧ w.cell? ⟨b, 7, none⟩ = some k ∧ (∀ i, w.frozen? ⟨b, i, none⟩ = false) := by
  refine ⟨?_, ⟨?_, ?_, ?_, ?_⟩, ?_, ?_, ?_, ?_⟩ <;> simp [World.cell?, World.frozen?, h, brO]
theorem setCell_heap {w : World} {b i : Nat} {cs : Array Value} {t : TypeId} {u : Value} (h : w.heap[b]? = some (.cells cs t (0, 0))) : (w.setCell ⟨b, i, none⟩ u).heap[b]? = some (.cells (cs.setIfInBounds i u) t (0, 0)) := by
  simp [World.setCell, Array.getElem?_modify, h]

theorem ptr_info : (Try.prog.info? 95).map (fun i => (i.zero, i.size, i.bytes)) = some (some (.pointer none), 1, 8) := by kernel_rfl

/-- What 'append' answers lies in the row's own block, or in a new one. -/
theorem run_append_sep {P : Program} (w : World) (base : Nat) (t ty e : TypeId) (i : TypeInfo) (z : Value) (size bytes : Nat) (ht : P.underlying t = some (.slice e)) (hi : P.info? e = some i) (hz : i.zero = some z)
    (hsize : i.size = size) (hby : i.bytes = bytes) (hzs : z.cells.size = size) (hsz : 0 < size)
    (v : Value) (n : Nat) (xs : List Value) (hown : w.ownsRow base e size v n xs)
    (a : Addr) (m c : Nat) (hm : 0 < m) (news : List Value) (hl : news.length = m * size) (hnews : ∀ j u, news[j]? = some u → w.cell? (a.add j) = some u) (h1 : ∀ u ∈ news, u.oneCell' = true)
    (h63 : n + m ≤ maxLen) (hbytes : (n + m) * bytes ≤ 140737488355328) (hbase : base ≤ w.heap.size) :
    ∃ v' w', (Builtin.append_ #[t, t] ty #[v, .slice (some a) m c]).run P w = .ok v' w' ∧ w'.ownsRow base e size v' (n + m) (xs ++ news) ∧ w.grownBy w' v.ownBlock ∧
      ∃ g, v'.ownBlock = some g ∧ (v.ownBlock = some g ∨ w.heap.size ≤ g) := by
  obtain ⟨v', w', hr, h2, h3, h4⟩ := run_append_own (P := P) w base t ty e i z size bytes ht hi hz hsize hby hzs hsz v n xs hown a m c news hl hnews h1 h63 hbytes hbase
  refine ⟨v', w', hr, h2, h3, ?_⟩
  have hsmall : n + m ≤ 9223372036854775807 := by simp only [maxLen] at h63; omega
  rcases hown.2 with ⟨rfl, rfl⟩ | ⟨g, cap, cur, rfl, hbg, hg, hnc, hcm, hcs, htake⟩
  · obtain ⟨v2, w2, hr2, h22, _, _⟩ := run_append_own (P := P) w w.heap.size t ty e i z size bytes ht hi hz hsize hby hzs hsz (.slice none 0 0) 0 [] (World.ownsRow_nil _ _ _ _) a m c news hl hnews h1 h63 hbytes (Nat.le_refl _)
    rw [hr] at hr2
    injection hr2 with e1 e2
    subst e1 e2
    rcases h22.2 with ⟨_, hn⟩ | ⟨g, cap, cur, hv, hb, _⟩
    · omega
    · exact ⟨g, by rw [hv]; rfl, .inr hb⟩
  · subst hsize
    by_cases hroom : n + m ≤ cap
    · have hfit : n * i.size + news.length ≤ cur.size := by rw [hl, hcs, ← Nat.add_mul]; exact Nat.mul_le_mul_right _ hroom
      have hr2 := run_append_room (P := P) w t ty e i ht hi g n cap cur hg a m c news hl hnews h1 hroom hfit
      rw [hr] at hr2
      injection hr2 with e1 e2
      exact ⟨g, by rw [e1]; rfl, .inl rfl⟩
    · subst hby
      have holds : ∀ j u, xs[j]? = some u → w.cell? ((⟨g, 0, none⟩ : Addr).add j) = some u := hown.cells (g := g) rfl
      have hr2 := run_append_grow (P := P) w t ty e i z ht hi hz ⟨g, 0, none⟩ n cap xs hown.1 holds a m c news hl hnews (by omega) (by omega) (growslice_fits (by omega) hbytes)
      rw [hr] at hr2
      injection hr2 with e1 e2
      exact ⟨w.heap.size, by rw [e1]; rfl, .inr (Nat.le_refl _)⟩

/-- 'append' of one pointer. -/
theorem wpList_ptr {ops : Array Oper} {rest : List Oper} {o : Oper} {a : Act} {Q : Exit → Act → World → Prop} {w : World} (hgd : o.guard = none) (s x : Operand)
    (ho : o.op = .call { callee := .builtin .append, args := #[s, x], argTypes := #[144, 144] })
    (base : Nat) (v : Value) (n : Nat) (xs : List Value) (hs : a.eval s = v) (hown : w.ownsRow base 95 1 v n xs)
    (ad : Addr) (c b : Nat) (hx : a.eval x = .slice (some ad) 1 c) (hm : w.cell? ad = some (ptr b)) (hn : n ≤ 1073741824) (hbase : base ≤ w.heap.size)
    (h : ∀ v' w', w'.ownsRow base 95 1 v' (n + 1) (xs ++ [ptr b]) → w.grownBy w' v.ownBlock → Hid (∃ g, v'.ownBlock = some g ∧ (v.ownBlock = some g ∨ w.heap.size ≤ g)) → wpList Try.prog ops Q rest (a.put o.dst v') w') : wpList Try.prog ops Q (o :: rest) a w := by
  obtain ⟨i, hi, hz0, hz1, hz2⟩ := info_parts ptr_info
  obtain ⟨v', w', hr, h2, h3, h4⟩ := run_append_sep (P := Try.prog) w base 144 o.type 95 i _ 1 8 Try.underlying144 hi hz0 hz1 hz2 rfl (by omega) v n xs hown ad 1 c (by omega) [ptr b] rfl
    (fun j u hj => by
      rcases j with _ | j
      · simp only [List.getElem?_cons_zero, Option.some.injEq] at hj
        subst hj
        have : ad.add 0 = ad := by unfold Addr.add; split <;> simp_all
        rw [this]; exact hm
      · simp at hj) (fun u hu => by simp only [List.mem_singleton] at hu; subst hu; rfl) (by unfold maxLen; omega) (by omega) hbase
  refine wpList_plain hgd fun _ hK => ?_
  unfold Oper.wp execOp
  simp only [ho, resolve, invoke, builtin, Sem.run_bind, Sem.run_pure, Result.andThen_ok, List.map_toArray, List.map_cons, List.map_nil, hs, hx, hr]
  exact hK _ _ (h v' w' h2 h3 (hide h4))

set_option linter.unusedVariables false
open Go.RowKit
attribute [local simp] far_const

theorem ownsRow_at {w : World} {base : Nat} {v : Value} {n : Nat} {xs : List Value} (h : w.ownsRow base 95 1 v n xs) : (n = 0 ∧ v = .slice none 0 0) ∨ ∃ g cap, v = .slice (some ⟨g, 0, none⟩) n cap ∧ ∀ i (hi : i < xs.length), w.cell? ⟨g, i, none⟩ = some xs[i] := by
  rcases h.2 with ⟨hv, hn⟩ | ⟨g, cap, cur, hv, _⟩
  · exact .inl ⟨hn, hv⟩
  · refine .inr ⟨g, cap, hv, fun i hi => ?_⟩
    have := h.cells (g := g) (by rw [hv]; rfl) i xs[i] (by simp [hi])
    have hadd : (⟨g, 0, none⟩ : Addr).add i = ⟨g, i, none⟩ := by unfold Addr.add; split <;> simp_all
    rw [hadd] at this
    exact this

set_option maxRecDepth 20000 in
set_option maxHeartbeats 2000000 in
theorem nothing_any {w : World} {base n : Nat} {M : List It → Prop} {vt pos : List It → Nat} {kv : List It → Value} {kd : List It → List It} {tb : Nat} {cv : Value} {L : List (List It)}
    (h : TreeF w base n M vt pos kv kd tb cv ([] :: L)) :
    Calls Try.prog 111 #[ptr tb] w fun r w' => r = .returned (ptr (pos [])) ∧ Grew w w' := by
  rcases ownsRow_at h.trow with ⟨hn, _⟩ | ⟨g, cap, rfl, hc⟩
  · simp at hn
  · have c0 : w.cell? ⟨tb, 0, none⟩ = some (.slice (some ⟨g, 0, none⟩) (List.length ([] :: L)) cap) := by simp [World.cell?, h.tblk]
    have c1 := hc 0 (by simp)
    simp only [List.map_cons, List.getElem_cons_zero] at c1
    unfold ptr at c1 ⊢
    clear h hc
    go_enter Try.func111, Try.ntmps111
    go_wp2
    go_ret
    exact ⟨rfl, Grew.refl _⟩

set_option maxRecDepth 20000 in
set_option maxHeartbeats 2000000 in
theorem next_any {w : World} {base n : Nat} {M : List It → Prop} {vt pos : List It → Nat} {kv : List It → Value} {kd : List It → List It} {tb : Nat} {cv : Value} {L : List (List It)}
    (h : TreeF w base n M vt pos kv kd tb cv L) (c : List It) (x : It) (hc : M c) (hn : n ≤ 1073741824) :
    Calls Try.prog 156 #[ptr (pos c), .agg #[.int .i64 x.e, .int .i64 x.f, .int .i64 x.t, .int .i64 x.s]] w fun r w' =>
      ((x ∈ kd c ∧ r = .returned (ptr (pos (c ++ [x])))) ∨ (x ∉ kd c ∧ r = .returned (.pointer none))) ∧ Grew w w' := by
  obtain ⟨c0, ⟨i0, i1, i2, i3⟩, c5, c6, c7, _⟩ := brO_cells (h.blk c hc)
  obtain ⟨a, cap, hkv, hrow⟩ : ∃ a cap, kv c = .slice a (kd c).length cap ∧ ∀ j (hj : j < (kd c).length), ∃ g, a = some ⟨g, 0, none⟩ ∧ w.cell? ⟨g, j, none⟩ = some (ptr (pos (c ++ [(kd c)[j]]))) := by
    rcases ownsRow_at (h.row c hc) with ⟨h0, hv⟩ | ⟨g, cap, hv, hx⟩
    · exact ⟨none, 0, by rw [hv, h0], fun j hj => by omega⟩
    · refine ⟨_, cap, hv, fun j hj => ⟨g, rfl, ?_⟩⟩
      rw [hx j (by simp [kidsV]; exact hj)]
      simp [kidsV]
  have hlen : (kd c).length ≤ 1073741824 := Nat.le_trans (h.few c hc) hn
  have hbr : Hid (∀ j (hj : j < (kd c).length), ItAt w (pos (c ++ [(kd c)[j]])) 1 (kd c)[j]) := fun j hj => by
    have := (brO_cells (h.blk _ (h.dn c _ hc (List.getElem_mem hj)))).2.1
    rw [lastI_snoc] at this
    exact this
  rw [hkv] at c7
  have HR : Hid (∀ j (hj : j < (kd c).length), ∃ g, a = some ⟨g, 0, none⟩ ∧ w.cell? ⟨g, j, none⟩ = some (ptr (pos (c ++ [(kd c)[j]])))) := hrow
  clear hrow hkv h
  have g7 : (w.alloc (.cells #[.int .i64 x.e, .int .i64 x.f, .int .i64 x.t, .int .i64 x.s] 33)).cell? ⟨pos c, 7, none⟩ = some (.slice a (kd c).length cap) := ((Grew.refl w).alloc _).keep c7
  have hx0 := its_one w x 33
  clear c0 i0 i1 i2 i3 c5 c6 c7
  unfold ptr
  go_enter Try.func156, Try.ntmps156
  go_wp2_with fail
  go_loopw [12] (fun i wr => ∃ k : Nat, k ≤ (kd c).length ∧ i = .int .i64 k ∧ Hid (∀ j (hj : j < (kd c).length), j < k → (kd c)[j] ≠ x) ∧ Grew (w.alloc (.cells #[.int .i64 x.e, .int .i64 x.f, .int .i64 x.t, .int .i64 x.s] 33)) wr) (fun i _ => (kd c).length - (intOf i).toNat)
  case atStart => exact ⟨0, Nat.zero_le _, rfl, fun j _ h => absurd h (Nat.not_lt_zero _), Grew.refl _⟩
  case round =>
    obtain ⟨k, hk, rfl, hno, hg⟩ := hrel
    have hG : Grew w wr := ((Grew.refl w).alloc _).trans hg
    by_cases hlt : k < (kd c).length
    · obtain ⟨gb, rfl, hp⟩ := HR.out k hlt
      have hat := (hbr.out k hlt).grew hG
      obtain ⟨u0, u1, u2, u3⟩ := hat
      have hxx := hx0.grew hg
      obtain ⟨b1, o1, e1, hat2⟩ := hxx.at (i := 0) (by simp)
      simp only [Option.some.injEq, Addr.mk.injEq, and_true] at e1
      obtain ⟨rfl, rfl⟩ := e1
      obtain ⟨d0, d1, d2, d3⟩ := hat2
      simp only [List.getElem_cons_zero, Nat.zero_mul, Nat.add_zero, Nat.zero_add] at d0 d1 d2 d3
      have p0 := hG.keep hp
      unfold ptr at p0
      obtain ⟨B, hB⟩ : ∃ B, Hid (B = pos (c ++ [(kd c)[k]])) := ⟨_, hide rfl⟩
      rw [← hB.out] at p0 u0 u1 u2 u3
      simp only [Nat.reduceAdd] at u1 u2 u3
      have e0 := Grew.gcell u0
      have e1 := Grew.gcell u1
      have e2 := Grew.gcell u2
      have e3 := Grew.gcell u3
      have f0 := Grew.gcell d0
      have f1 := Grew.gcell d1
      have f2 := Grew.gcell d2
      have f3 := Grew.gcell d3
      have heq := equal_item (kd c)[k] x
      cases hb : eqB (kd c)[k] x with
      | true =>
        rw [hb] at heq
        have hx : Hid ((kd c)[k] = x) := (eqB_iff _ _).1 hb
        go_wp2_with fail
        refine quietly (by kernel_rfl) (by kernel_rfl) ?_
        repeat (go_big_quiet_step (first | fail))
        refine wpQuiet_nil ?_
        intro _ hw'
        obtain ⟨⟨nq, osq⟩, hw''⟩ := hw'
        subst hw''
        go_wp2
        go_ret
        refine ⟨.inl ⟨by rw [← hx.out]; exact List.getElem_mem hlt, ?_⟩, hG.trans ⟨_, _, rfl⟩⟩
        rw [hB.out, hx.out]
        rfl
      | false =>
        rw [hb] at heq
        have hnext : Hid (∀ j (hj : j < (kd c).length), j < k + 1 → (kd c)[j] ≠ x) := fun j hj hjk => by
          by_cases e : j = k
          · subst e
            intro e2
            rw [(eqB_iff _ _).2 e2] at hb
            cases hb
          · exact hno.out j hj (by omega)
        go_wp2_with fail
        refine quietly (by kernel_rfl) (by kernel_rfl) ?_
        repeat (go_big_quiet_step (first | fail))
        refine wpQuiet_nil ?_
        intro _ hw'
        obtain ⟨⟨nq, osq⟩, hw''⟩ := hw'
        subst hw''
        go_wp2
        go_roundw
        case rel => exact ⟨k + 1, by omega, by go_num, hnext, hg.trans ⟨_, _, rfl⟩⟩
        case measure => simp [intOf]; omega
    · have hle : ((kd c).length : Int) ≤ (k : Int) := by omega
      have hno' : Hid (x ∉ kd c) := fun hm => by
        obtain ⟨j, hj, e⟩ := List.getElem_of_mem hm
        exact hno.out j hj (by omega) e
      go_wp2
      go_ret
      exact ⟨.inr ⟨hno'.out, rfl⟩, hG⟩

/-- Whether a branch's epoch is one behind that of the branch ahead of it. -/
def folB (c : List It) : Bool := (lastI c).e == wrap64 ((lastI c.dropLast).e + 1)
set_option maxRecDepth 20000 in
set_option maxHeartbeats 2000000 in
theorem follows_any {w : World} {base n : Nat} {M : List It → Prop} {vt pos : List It → Nat} {kv : List It → Value} {kd : List It → List It} {tb : Nat} {cv : Value} {L : List (List It)}
    (h : TreeF w base n M vt pos kv kd tb cv L) (c : List It) (x : It) (hc : M (c ++ [x])) :
    Calls Try.prog 157 #[ptr (pos (c ++ [x]))] w fun r w' => r = .returned (.bool (folB (c ++ [x]))) ∧ Grew w w' := by
  obtain ⟨c0, ⟨i0, i1, i2, i3⟩, _⟩ := brO_cells (h.blk _ hc)
  obtain ⟨_, ⟨j0, j1, j2, j3⟩, _⟩ := brO_cells (h.blk _ (h.up _ _ hc).1)
  rw [aheadP_snoc] at c0
  have hf : folB (c ++ [x]) = ((lastI (c ++ [x])).e == wrap64 ((lastI c).e + 1)) := by unfold folB; rw [List.dropLast_concat]
  rw [hf]
  unfold ptr
  clear h
  have e0 := Grew.gcell c0
  have e1 := Grew.gcell i0
  have e2 := Grew.gcell j0
  go_enter Try.func157, Try.ntmps157
  go_wp2_with fail
  refine quietly (by kernel_rfl) (by kernel_rfl) ?_
  repeat (go_big_quiet_step (first | fail))
  refine wpQuiet_nil ?_
  intro _ hw'
  obtain ⟨⟨nq, osq⟩, hw''⟩ := hw'
  subst hw''
  go_wp2
  go_ret
  exact ⟨rfl, ⟨_, _, rfl⟩⟩

def endsB (c : List It) : Bool := decide (3 ≤ c.length) && (folB c && folB c.dropLast)
theorem split_last {c : List It} (h : 1 ≤ c.length) : ∃ d x, c = d ++ [x] := by
  rcases List.eq_nil_or_concat c with rfl | ⟨d, x, rfl⟩
  · simp at h
  · exact ⟨d, x, by simp⟩
set_option maxRecDepth 20000 in
set_option maxHeartbeats 2000000 in
theorem endsRow_any {w : World} {base n : Nat} {M : List It → Prop} {vt pos : List It → Nat} {kv : List It → Value} {kd : List It → List It} {tb : Nat} {cv : Value} {L : List (List It)}
    (h : TreeF w base n M vt pos kv kd tb cv L) (c : List It) (hc : M c) (hl : c.length ≤ 1048576) :
    Calls Try.prog 145 #[ptr (pos c)] w fun r w' => r = .returned (.bool (endsB c)) ∧ Grew w w' := by
  obtain ⟨c0, _, c5, _⟩ := brO_cells (h.blk _ hc)
  by_cases h3 : 3 ≤ c.length
  · obtain ⟨d, x, rfl⟩ := split_last (c := c) (by omega)
    have hd := (h.up _ _ hc).1
    rw [aheadP_snoc] at c0
    obtain ⟨d', x', rfl⟩ := split_last (c := d) (by simp at h3; omega)
    have hge : (3 : Int) ≤ ((d' ++ [x'] ++ [x]).length : Int) := by omega
    have he : endsB (d' ++ [x'] ++ [x]) = (folB (d' ++ [x'] ++ [x]) && folB (d' ++ [x'])) := by
      unfold endsB; rw [List.dropLast_concat]; simp only [decide_eq_true h3, Bool.true_and]
    rw [he]
    have F1 : ∀ W, Grew w W → Hid (Calls Try.prog 157 #[.pointer (some ⟨pos (d' ++ [x'] ++ [x]), 0, none⟩)] W fun r w' => r = .returned (.bool (folB (d' ++ [x'] ++ [x]))) ∧ Grew W w') := fun W g => follows_any (h.grew g) _ _ hc
    have F2 : ∀ W, Grew w W → Hid (Calls Try.prog 157 #[.pointer (some ⟨pos (d' ++ [x']), 0, none⟩)] W fun r w' => r = .returned (.bool (folB (d' ++ [x']))) ∧ Grew W w') := fun W g => follows_any (h.grew g) _ _ hd
    obtain ⟨N, hN⟩ : ∃ N : Nat, (d' ++ [x'] ++ [x]).length = N := ⟨_, rfl⟩
    rw [hN] at c5 hge
    unfold ptr
    generalize pos (d' ++ [x'] ++ [x]) = P1 at *
    generalize pos (d' ++ [x']) = P2 at *
    generalize folB (d' ++ [x'] ++ [x]) = f1 at *
    generalize folB (d' ++ [x']) = f2 at *
    clear hN h3 he hl hc hd h
    go_enter Try.func145, Try.ntmps145
    go_wp2_with fail
    refine (F1 _ (Grew.refl _)).out.mono ?_
    rintro r w1 ⟨rfl, g1⟩
    have c0' := g1.keep c0
    cases f1 with
    | true =>
      go_wp2_with fail
      refine (F2 _ g1).out.mono ?_
      rintro r w2 ⟨rfl, g2⟩
      go_wp2
      go_ret
      exact ⟨rfl, g1.trans g2⟩
    | false =>
      go_wp2
      go_ret
      exact ⟨rfl, g1⟩
  · have hlt : decide ((3 : Int) ≤ (c.length : Int)) = false := by simp; omega
    have he : Hid (endsB c = false) := by show endsB c = false; unfold endsB; simp [h3]
    unfold ptr
    go_enter Try.func145, Try.ntmps145
    go_wp2
    go_ret
    exact ⟨ret_bool he.out.symm, Grew.refl _⟩

set_option linter.unusedVariables false
open Go.RowKit

def upd {α : Type} (f : List It → α) (k : List It) (v : α) (d : List It) : α := if sameB d k = true then v else f d
theorem upd_same {α : Type} (f : List It → α) (k : List It) (v : α) : upd f k v k = v := by unfold upd; rw [if_pos ((sameB_iff k k).2 rfl)]
theorem upd_other {α : Type} (f : List It → α) {k d : List It} (v : α) (h : d ≠ k) : upd f k v d = f d := by unfold upd; rw [if_neg (fun e => h ((sameB_iff d k).1 e))]

theorem cells_type {w : World} {g : Nat} {a b : Array Value} {s t : TypeId} {f1 f2 : Nat × Nat} (h : w.heap[g]? = some (.cells a s f1)) (h' : w.heap[g]? = some (.cells b t f2)) : s = t := by
  rw [h] at h'; cases h'; rfl
theorem ownsRow_block' {w : World} {base : Nat} {v : Value} {n g : Nat} {xs : List Value} (h : w.ownsRow base 95 1 v n xs) (hg : v.ownBlock = some g) : ∃ cur, w.heap[g]? = some (.cells cur 95 (0, 0)) := by
  rcases h.2 with ⟨rfl, _⟩ | ⟨g', cap, cur, rfl, _, hgg, _⟩
  · cases hg
  · simp only [Value.ownBlock, Option.some.injEq] at hg
    subst hg
    exact ⟨cur, hgg⟩
theorem ownsRow_keep {w w' : World} {base : Nat} {v : Value} {n : Nat} {xs : List Value} (h : w.ownsRow base 95 1 v n xs) (hk : ∀ g, v.ownBlock = some g → w'.heap[g]? = w.heap[g]?) : w'.ownsRow base 95 1 v n xs := by
  refine ⟨h.1, ?_⟩
  rcases h.2 with h0 | ⟨g, cap, cur, hv, hb, hg, hr⟩
  · exact .inl h0
  · exact .inr ⟨g, cap, cur, hv, hb, by rw [hk g (by rw [hv]; rfl)]; exact hg, hr⟩
theorem snoc_ne {c d : List It} {x y : It} (h : d ≠ c) : d ++ [y] ≠ c ++ [x] := fun e => h (List.append_inj_left' e rfl)
theorem snoc_ne' {c : List It} {x y : It} (h : y ≠ x) : c ++ [y] ≠ c ++ [x] := fun e => h (by simpa using e)
theorem ne_snoc (c : List It) (x : It) : c ≠ c ++ [x] := fun e => by have := congrArg List.length e; simp at this

section
variable {w : World} {base n : Nat} {M : List It → Prop} {vt pos : List It → Nat} {kv : List It → Value} {kd : List It → List It} {tb : Nat} {cv : Value} {L : List (List It)}

theorem TreeF.more (h : TreeF w base n M vt pos kv kd tb cv L) {m : Nat} (hm : n ≤ m) : TreeF w base m M vt pos kv kd tb cv L := { h with few := fun c hc => Nat.le_trans (h.few c hc) hm }
theorem TreeF.rowBlk (h : TreeF w base n M vt pos kv kd tb cv L) {c : List It} (hc : M c) {g : Nat} (hg : (kv c).ownBlock = some g) : ∃ cur, w.heap[g]? = some (.cells cur 95 (0, 0)) := ownsRow_block' (h.row c hc) hg
theorem TreeF.notKid (h : TreeF w base n M vt pos kv kd tb cv L) {c : List It} {x : It} (hx : x ∉ kd c) : ¬ M (c ++ [x]) := fun hm => hx (h.up c x hm).2
theorem TreeF.drop (h : TreeF w base n M vt pos kv kd tb cv L) {d : List It} (hd : M d) : M d.dropLast := by
  rcases List.eq_nil_or_concat d with rfl | ⟨e, y, rfl⟩
  · exact h.nil
  · rw [List.concat_eq_append] at hd ⊢
    rw [List.dropLast_concat]
    exact (h.up _ _ hd).1

theorem TreeF.grown (h : TreeF w base n M vt pos kv kd tb cv L) {c : List It} {x : It} (hc : M c) (hx : x ∉ kd c) {nb : Nat} (hlow : base ≤ nb) (hnb : w.heap[nb]? = some (brO (some ⟨pos c, 0, none⟩) x (c.length + 1) 0 (.slice none 0 0)))
    (hnew : ∀ d, M d → pos d ≠ nb) {w' : World} {v' : Value} (hrow : w'.ownsRow base 95 1 v' ((kd c).length + 1) (kidsV pos c (kd c) ++ [ptr nb])) (hg : w.grownBy w' (kv c).ownBlock)
    (hsep : ∃ g, v'.ownBlock = some g ∧ ((kv c).ownBlock = some g ∨ w.heap.size ≤ g)) :
    TreeF (w'.setCell ⟨pos c, 7, none⟩ v') base (n + 1) (fun d => M d ∨ d = c ++ [x]) vt (upd pos (c ++ [x]) nb) (upd (upd kv (c ++ [x]) (.slice none 0 0)) c v') (upd (upd kd (c ++ [x]) []) c (kd c ++ [x])) tb cv L := by
  have hnm := h.notKid hx
  have lt : ∀ {k : Nat} {o : Obj}, w.heap[k]? = some o → k < w.heap.size := fun h => (Array.getElem?_eq_some_iff.1 h).1
  have hdne : ∀ {d}, M d → d ≠ c ++ [x] := fun hd e => hnm (e ▸ hd)
  have hpos : ∀ {d}, M d → upd pos (c ++ [x]) nb d = pos d := fun hd => upd_other _ _ (hdne hd)
  have hposn : upd pos (c ++ [x]) nb (c ++ [x]) = nb := upd_same _ _ _
  have hkvc : upd (upd kv (c ++ [x]) (.slice none 0 0)) c v' c = v' := upd_same _ _ _
  have hkvn : upd (upd kv (c ++ [x]) (.slice none 0 0)) c v' (c ++ [x]) = .slice none 0 0 := by rw [upd_other _ _ (ne_snoc c x).symm, upd_same]
  have hkv : ∀ {d}, M d → d ≠ c → upd (upd kv (c ++ [x]) (.slice none 0 0)) c v' d = kv d := fun hd e => by rw [upd_other _ _ e, upd_other _ _ (hdne hd)]
  have hkdc : upd (upd kd (c ++ [x]) []) c (kd c ++ [x]) c = kd c ++ [x] := upd_same _ _ _
  have hkdn : upd (upd kd (c ++ [x]) []) c (kd c ++ [x]) (c ++ [x]) = [] := by rw [upd_other _ _ (ne_snoc c x).symm, upd_same]
  have hkd : ∀ {d}, M d → d ≠ c → upd (upd kd (c ++ [x]) []) c (kd c ++ [x]) d = kd d := fun hd e => by rw [upd_other _ _ e, upd_other _ _ (hdne hd)]
  -- which blocks stay
  have stay : ∀ {k : Nat}, k < w.heap.size → (kv c).ownBlock ≠ some k → k ≠ pos c → (w'.setCell ⟨pos c, 7, none⟩ v').heap[k]? = w.heap[k]? := fun hk h1 h2 => by
    rw [Below.heap_setCell _ _ _ _ h2]
    exact hg.block _ hk (fun e => h1 e.symm)
  have brRow : ∀ {k : Nat} {a : Option Addr} {y : It} {p q : Nat} {u : Value}, w.heap[k]? = some (brO a y p q u) → (kv c).ownBlock ≠ some k := fun hk e => by
    obtain ⟨cur, hcur⟩ := h.rowBlk hc e
    exact absurd (cells_type hcur hk) (by decide)
  have hpc := h.blk c hc
  have hpc' : w'.heap[pos c]? = some (brO (aheadP pos c) (lastI c) c.length (vt c) (kv c)) := by rw [hg.block _ (lt hpc) (fun e => brRow hpc e.symm)]; exact hpc
  have hpc2 : (w'.setCell ⟨pos c, 7, none⟩ v').heap[pos c]? = some (brO (aheadP pos c) (lastI c) c.length (vt c) v') := by
    rw [setCell_heap (cs := _) (t := _) hpc']; rfl
  obtain ⟨g', hg', hsep⟩ := hsep
  have hahead : ∀ {d}, M d → aheadP (upd pos (c ++ [x]) nb) d = aheadP pos d := fun {d} hd => by
    unfold aheadP
    split
    · rfl
    · rw [hpos (h.drop hd)]
  have rowNotPos : ∀ {v : Value} {m : Nat} {xs : List Value} {g : Nat}, w.ownsRow base 95 1 v m xs → v.ownBlock = some g → g ≠ pos c := fun hr hv e => by
    obtain ⟨cur, hcur⟩ := ownsRow_block' hr hv
    rw [e] at hcur
    exact absurd (cells_type hcur hpc) (by decide)
  refine { nil := .inl h.nil, up := ?_, dn := ?_, inj := ?_, zero := fun d hd => h.zero d (fun hm => hd (.inl hm)), few := ?_, low := ?_, blk := ?_, row := ?_, kk := ?_, tlow := h.tlow, tblk := ?_, trow := ?_, mem := fun d hd => .inl (h.mem d hd), kt := ?_ }
  · intro d y hd
    rcases hd with hd | hd
    · obtain ⟨h1, h2⟩ := h.up d y hd
      refine ⟨.inl h1, ?_⟩
      by_cases e : d = c
      · subst e; rw [hkdc]; exact List.mem_append.2 (.inl h2)
      · rw [hkd h1 e]; exact h2
    · have e1 : d = c := List.append_inj_left' hd rfl
      subst e1
      have e2 : y = x := by simpa using hd
      subst e2
      exact ⟨.inl hc, by rw [hkdc]; simp⟩
  · intro d y hd hy
    rcases hd with hd | rfl
    · by_cases e : d = c
      · subst e
        rw [hkdc] at hy
        rcases List.mem_append.1 hy with hy | hy
        · exact .inl (h.dn _ _ hd hy)
        · simp only [List.mem_singleton] at hy; subst hy; exact .inr rfl
      · rw [hkd hd e] at hy
        exact .inl (h.dn _ _ hd hy)
    · rw [hkdn] at hy; cases hy
  · intro d e hd he hp
    rcases hd with hd | rfl <;> rcases he with he | rfl
    · rw [hpos hd, hpos he] at hp; exact h.inj _ _ hd he hp
    · rw [hpos hd, hposn] at hp; exact absurd hp (hnew d hd)
    · rw [hpos he, hposn] at hp; exact absurd hp.symm (hnew e he)
    · rfl
  · intro d hd
    rcases hd with hd | rfl
    · by_cases e : d = c
      · subst e; rw [hkdc]; have := h.few _ hd; simp; omega
      · rw [hkd hd e]; have := h.few _ hd; omega
    · rw [hkdn]; simp
  · intro d hd
    rcases hd with hd | rfl
    · rw [hpos hd]; exact h.low d hd
    · rw [hposn]; exact hlow
  · intro d hd
    rcases hd with hd | rfl
    · rw [hpos hd, hahead hd]
      by_cases e : d = c
      · subst e; rw [hkvc]; exact hpc2
      · rw [hkv hd e, stay (lt (h.blk d hd)) (brRow (h.blk d hd)) (fun e' => e (h.inj _ _ hd hc e'))]
        exact h.blk d hd
    · rw [hposn, hkvn, aheadP_snoc, lastI_snoc, hpos hc, h.zero _ hnm, stay (lt hnb) (brRow hnb) (fun e => hnew c hc e.symm), hnb]
      simp
  · intro d hd
    rcases hd with hd | rfl
    · by_cases e : d = c
      · subst e
        rw [hkvc, hkdc]
        have ek : kidsV (upd pos (d ++ [x]) nb) d (kd d ++ [x]) = kidsV pos d (kd d) ++ [ptr nb] := by
          unfold kidsV
          rw [List.map_append]
          congr 1
          · apply List.map_congr_left
            intro y hy
            rw [hpos (h.dn _ _ hd hy)]
          · simp only [List.map_cons, List.map_nil, hposn]
        rw [ek, List.length_append]
        refine ownsRow_keep hrow (fun g e => Below.heap_setCell _ _ _ _ (fun e' => ?_))
        obtain ⟨cur, hcur⟩ := ownsRow_block' hrow e
        have e'' : g = pos d := e'
        rw [e''] at hcur
        exact absurd (cells_type hcur hpc') (by decide)
      · rw [hkv hd e, hkd hd e]
        have ek : kidsV (upd pos (c ++ [x]) nb) d (kd d) = kidsV pos d (kd d) := by
          unfold kidsV
          apply List.map_congr_left
          intro y hy
          rw [hpos (h.dn _ _ hd hy)]
        rw [ek]
        refine ownsRow_keep (h.row d hd) (fun g hgd => stay ((h.row d hd).lt g hgd).2 (fun e' => e (h.kk _ _ g hd hc hgd e')) (rowNotPos (h.row d hd) hgd))
    · rw [hkvn, hkdn]; exact World.ownsRow_nil _ _ _ _
  · intro d e k hd he h1 h2
    have key : ∀ {d}, M d → d ≠ c → (kv d).ownBlock = some k → v'.ownBlock = some k → False := fun hd e h1 h2 => by
      rw [hg'] at h2
      cases h2
      rcases hsep with hs | hs
      · exact e (h.kk _ _ _ hd hc h1 hs)
      · have := ((h.row _ hd).lt _ h1).2; omega
    rcases hd with hd | rfl
    · by_cases ed : d = c
      · subst ed
        rw [hkvc] at h1
        rcases he with he | rfl
        · by_cases ee : e = d
          · exact ee.symm
          · rw [hkv he ee] at h2; exact (key he ee h2 h1).elim
        · rw [hkvn] at h2; cases h2
      · rw [hkv hd ed] at h1
        rcases he with he | rfl
        · by_cases ee : e = c
          · subst ee; rw [hkvc] at h2; exact (key hd ed h1 h2).elim
          · rw [hkv he ee] at h2; exact h.kk _ _ _ hd he h1 h2
        · rw [hkvn] at h2; cases h2
    · rw [hkvn] at h1; cases h1
  · rw [stay (lt h.tblk) (fun e => ?_) (fun e => ?_)]
    · exact h.tblk
    · obtain ⟨cur, hcur⟩ := h.rowBlk hc e
      exact absurd (cells_type hcur h.tblk) (by decide)
    · have := h.tblk
      rw [e] at this
      exact absurd (cells_type this hpc) (by decide)
  · have ek : L.map (fun d => ptr (upd pos (c ++ [x]) nb d)) = L.map (fun d => ptr (pos d)) := by
      apply List.map_congr_left
      intro d hd
      rw [hpos (h.mem d hd)]
    rw [ek]
    exact ownsRow_keep h.trow (fun g hgd => stay (h.trow.lt g hgd).2 (fun e' => h.kt c g hc e' hgd) (rowNotPos h.trow hgd))
  · intro d k hd h1 h2
    rcases hd with hd | rfl
    · by_cases e : d = c
      · subst e
        rw [hkvc, hg'] at h1
        cases h1
        rcases hsep with hs | hs
        · exact h.kt _ _ hc hs h2
        · have := (h.trow.lt _ h2).2; omega
      · rw [hkv hd e] at h1
        exact h.kt _ _ hd h1 h2
    · rw [hkvn] at h1; cases h1

/-- A vote more. -/
theorem TreeF.voted (h : TreeF w base n M vt pos kv kd tb cv L) {c : List It} (hc : M c) : TreeF (w.setCell ⟨pos c, 6, none⟩ (.int .i64 ((vt c + 1 : Nat) : Int))) base n M (upd vt c (vt c + 1)) pos kv kd tb cv L := by
  have hpc := h.blk c hc
  have hpc2 : (w.setCell ⟨pos c, 6, none⟩ (.int .i64 ((vt c + 1 : Nat) : Int))).heap[pos c]? = some (brO (aheadP pos c) (lastI c) c.length (vt c + 1) (kv c)) := by
    rw [setCell_heap (cs := _) (t := _) hpc]; rfl
  have stay : ∀ {k : Nat}, k ≠ pos c → (w.setCell ⟨pos c, 6, none⟩ (.int .i64 ((vt c + 1 : Nat) : Int))).heap[k]? = w.heap[k]? := fun h2 => Below.heap_setCell _ _ _ _ h2
  have rowNotPos : ∀ {v : Value} {m : Nat} {xs : List Value} {g : Nat}, w.ownsRow base 95 1 v m xs → v.ownBlock = some g → g ≠ pos c := fun hr hv e => by
    obtain ⟨cur, hcur⟩ := ownsRow_block' hr hv
    rw [e] at hcur
    exact absurd (cells_type hcur hpc) (by decide)
  exact { h with
    zero := fun d hd => by
      have e : d ≠ c := fun e => hd (by rw [e]; exact hc)
      rw [upd_other _ _ e]; exact h.zero d hd
    blk := fun d hd => by
      by_cases e : d = c
      · subst e; rw [upd_same]; exact hpc2
      · rw [upd_other _ _ e, stay (fun e' => e (h.inj _ _ hd hc e'))]; exact h.blk d hd
    row := fun d hd => ownsRow_keep (h.row d hd) (fun g hg => stay (rowNotPos (h.row d hd) hg))
    tblk := by rw [stay (fun e => by have := h.tblk; rw [e] at this; exact absurd (cells_type this hpc) (by decide))]; exact h.tblk
    trow := ownsRow_keep h.trow (fun g hg => stay (rowNotPos h.trow hg)) }

/-- A chain more that has votes. -/
theorem TreeF.listed (h : TreeF w base n M vt pos kv kd tb cv L) {c : List It} (hc : M c) {w' : World} {v' : Value} (hrow : w'.ownsRow base 95 1 v' (L.length + 1) (L.map (fun d => ptr (pos d)) ++ [ptr (pos c)])) (hg : w.grownBy w' cv.ownBlock)
    (hsep : ∃ g, v'.ownBlock = some g ∧ (cv.ownBlock = some g ∨ w.heap.size ≤ g)) :
    TreeF (w'.setCell ⟨tb, 0, none⟩ v') base n M vt pos kv kd tb v' (L ++ [c]) := by
  have lt : ∀ {k : Nat} {o : Obj}, w.heap[k]? = some o → k < w.heap.size := fun h => (Array.getElem?_eq_some_iff.1 h).1
  have stay : ∀ {k : Nat}, k < w.heap.size → cv.ownBlock ≠ some k → k ≠ tb → (w'.setCell ⟨tb, 0, none⟩ v').heap[k]? = w.heap[k]? := fun hk h1 h2 => by
    rw [Below.heap_setCell _ _ _ _ h2]
    exact hg.block _ hk (fun e => h1 e.symm)
  have tbRow : cv.ownBlock ≠ some tb := fun e => by
    obtain ⟨cur, hcur⟩ := ownsRow_block' h.trow e
    exact absurd (cells_type hcur h.tblk) (by decide)
  have htb : w'.heap[tb]? = some (.cells #[cv] 148) := by rw [hg.block _ (lt h.tblk) (fun e => tbRow e.symm)]; exact h.tblk
  have rowNotTb : ∀ {v : Value} {m : Nat} {xs : List Value} {g : Nat}, w.ownsRow base 95 1 v m xs → v.ownBlock = some g → g ≠ tb := fun hr hv e => by
    obtain ⟨cur, hcur⟩ := ownsRow_block' hr hv
    rw [e] at hcur
    exact absurd (cells_type hcur h.tblk) (by decide)
  obtain ⟨g', hg', hsep⟩ := hsep
  exact { h with
    blk := fun d hd => by
      rw [stay (lt (h.blk d hd)) (fun e => ?_) (fun e => ?_)]
      · exact h.blk d hd
      · obtain ⟨cur, hcur⟩ := ownsRow_block' h.trow e
        exact absurd (cells_type hcur (h.blk d hd)) (by decide)
      · have := h.tblk
        rw [← e] at this
        exact absurd (cells_type this (h.blk d hd)) (by decide)
    row := fun d hd => ownsRow_keep (h.row d hd) (fun g hgd => stay ((h.row d hd).lt g hgd).2 (fun e' => h.kt d g hd hgd e') (rowNotTb (h.row d hd) hgd))
    tblk := by rw [setCell_heap (cs := _) (t := _) htb]; rfl
    trow := by
      rw [List.length_append, List.map_append]
      refine ownsRow_keep hrow (fun g e => Below.heap_setCell _ _ _ _ (fun e' => ?_))
      obtain ⟨cur, hcur⟩ := ownsRow_block' hrow e
      have e'' : g = tb := e'
      rw [e''] at hcur
      exact absurd (cells_type hcur htb) (by decide)
    mem := fun d hd => by
      rcases List.mem_append.1 hd with hd | hd
      · exact h.mem d hd
      · simp only [List.mem_singleton] at hd; subst hd; exact hc
    kt := fun d k hd h1 h2 => by
      rw [hg'] at h2
      cases h2
      rcases hsep with hs | hs
      · exact h.kt _ _ hd h1 hs
      · have := ((h.row _ hd).lt _ h1).2; omega }
end

set_option linter.unusedVariables false
open Go.RowKit
attribute [local simp] far_const

section
variable {w : World} {base n : Nat} {M : List It → Prop} {vt pos : List It → Nat} {kv : List It → Value} {kd : List It → List It} {tb : Nat} {cv : Value} {L : List (List It)}
/-- What grow leaves. -/
def Grown (w w' : World) (base n : Nat) (M : List It → Prop) (vt : List It → Nat) (tb : Nat) (cv : Value) (L : List (List It)) (c : List It) (b : Nat) : Prop :=
  ∃ M' pos' kv' kd', TreeF w' base (n + 1) M' vt pos' kv' kd' tb cv L ∧ (∀ d, M' d ↔ M d ∨ d = c) ∧ pos' c = b ∧ Below base w w'
set_option maxRecDepth 20000 in
set_option maxHeartbeats 4000000 in
theorem grow_any (h : TreeF w base n M vt pos kv kd tb cv L) (hb : base ≤ w.heap.size) (c : List It) (x : It) (hc : M c) (hn : n ≤ 1073741823) (hl : c.length ≤ 1048576) :
    Calls Try.prog 142 #[ptr (pos c), .agg #[.int .i64 x.e, .int .i64 x.f, .int .i64 x.t, .int .i64 x.s]] w fun r w' => ∃ b, r = .returned (ptr b) ∧ Grown w w' base n M vt tb cv L (c ++ [x]) b := by
  have hx0 := its_one w x 33
  obtain ⟨b1, o1, e1, hat2⟩ := hx0.at (i := 0) (by simp)
  simp only [Option.some.injEq, Addr.mk.injEq, and_true] at e1
  obtain ⟨rfl, rfl⟩ := e1
  obtain ⟨d0, d1, d2, d3⟩ := hat2
  simp only [List.getElem_cons_zero, Nat.zero_mul, Nat.add_zero, Nat.zero_add] at d0 d1 d2 d3
  have gA : Grew w (w.alloc (.cells #[.int .i64 x.e, .int .i64 x.f, .int .i64 x.t, .int .i64 x.s] 33)) := (Grew.refl w).alloc _
  have hN := next_any (h.grew gA) c x hc (by omega)
  have HT := hide h
  clear h
  unfold ptr at hN ⊢
  go_enter Try.func142, Try.ntmps142
  go_wp2_with fail
  refine hN.mono ?_
  clear hN
  rintro r w1 ⟨(⟨hx, rfl⟩ | ⟨hx, rfl⟩), g1⟩
  · have HX := hide hx
    clear hx
    go_wp2
    go_ret
    exact ⟨_, rfl, M, pos, kv, kd, ((unhide HT).grew (gA.trans g1)).more (by omega), fun d => ⟨.inl, fun hd => hd.elim id (fun e => by rw [e]; exact (unhide HT).dn _ _ hc HX.out)⟩, rfl, (gA.trans g1).below.mono hb⟩
  · have HX := hide hx
    clear hx
    have hT1 := (unhide HT).grew (gA.trans g1)
    obtain ⟨_, _, c5, _, c7, cf⟩ := brO_cells (hT1.blk c hc)
    have HT1 := hide hT1
    have e0 := g1.keep d0
    have e1 := g1.keep d1
    have e2 := g1.keep d2
    have e3 := g1.keep d3
    clear d0 d1 d2 d3 hx0 hT1
    go_wp2_with fail
    go_region
    obtain ⟨W2, hW2⟩ : ∃ W2, Hid (W2 = (w1.alloc (.cells #[.pointer (some ⟨pos c, 0, none⟩), .int .i64 x.e, .int .i64 x.f, .int .i64 x.t, .int .i64 x.s, .int .i64 ((c.length : Int) + 1), .int .i64 0, .slice none 0 0] 146)).drew) := ⟨_, hide rfl⟩
    rw [← hW2.out]
    have g2 : Grew w1 W2 := by rw [hW2.out]; exact ((Grew.refl w1).alloc _).drew
    have hnb : Hid (W2.heap[w1.heap.size]? = some (brO (some ⟨pos c, 0, none⟩) x (c.length + 1) 0 (.slice none 0 0))) := by
      show W2.heap[w1.heap.size]? = _
      rw [hW2.out]
      exact heap_alloc_new w1 _
    have hsz : Hid (W2.heap.size = w1.heap.size + 1) := by show W2.heap.size = _; rw [hW2.out]; simp [World.drew]
    have hT2 := (unhide HT1).grew g2
    have gB : Grew W2 (W2.alloc (.cells #[.pointer (some ⟨w1.heap.size, 0, none⟩)] 95)) := (Grew.refl _).alloc _
    have hT3 := hT2.grew gB
    have k7 := g2.keep c7
    have k7b := gB.keep k7
    have hR := hide (hT3.row c hc)
    obtain ⟨ka, kcap, hkv⟩ : ∃ a cap, Hid (kv c = .slice a (kd c).length cap) := by
      rcases ownsRow_at (hT3.row c hc) with ⟨h0, hv⟩ | ⟨g, cap, hv, _⟩
      · exact ⟨none, 0, hide (by rw [hv, h0])⟩
      · exact ⟨_, cap, hide hv⟩
    rw [hkv.out] at k7 k7b
    have hne : (kv c).ownBlock ≠ some (pos c) := fun e => by
      obtain ⟨cur, hcur⟩ := hT2.rowBlk hc e
      exact absurd (cells_type hcur (hT2.blk c hc)) (by decide)
    have hfew := hT2.few c hc
    have HT3 := hide hT3
    have hcell : Hid ((W2.alloc (.cells #[.pointer (some ⟨w1.heap.size, 0, none⟩)] 95)).cell? ⟨W2.heap.size, 0, none⟩ = some (ptr w1.heap.size)) := by
      show World.cell? _ _ = _
      have h0 : (W2.alloc (.cells #[.pointer (some ⟨w1.heap.size, 0, none⟩)] 95)).heap[W2.heap.size]? = some (.cells #[.pointer (some ⟨w1.heap.size, 0, none⟩)] 95 (0, 0)) := heap_alloc_new W2 _
      unfold World.cell?; simp only; rw [h0]; rfl
    have hbW : Hid (base ≤ (W2.alloc (.cells #[.pointer (some ⟨w1.heap.size, 0, none⟩)] 95)).heap.size) := by
      show base ≤ _
      have := gA.size; have := g1.size; have := hsz.out; simp; omega
    clear c5 c7 cf e0 e1 e2 e3 hT2 hT3
    go_wp2_with (first | (at_builtin; refine wpList_ptr rfl _ _ rfl base (.slice ka (kd c).length kcap) (kd c).length (kidsV pos c (kd c)) rfl (by rw [← hkv.out]; exact unhide hR) ⟨W2.heap.size, 0, none⟩ 1 w1.heap.size rfl hcell.out (by omega) hbW.out ?_))
    intro v' w4 hrow hg HS
    rw [← hkv.out] at hg HS
    rcases hrow.2 with ⟨_, h0⟩ | ⟨g', cap', cur', rfl, _⟩
    · omega
    have k7c : w4.cell? ⟨pos c, 7, none⟩ = some (.slice ka (kd c).length kcap) := hg.cell k7b (fun e => hne e.symm)
    have hf4 : ∀ i, w4.frozen? ⟨pos c, i, none⟩ = false := fun i => by
      have h3 := (brO_cells ((unhide HT3).blk c hc)).2.2.2.2.2 i
      rw [World.frozen?_of_block (hg.block (pos c) (World.block_lt_of_cell? _ ⟨pos c, 7, none⟩ k7b) (fun e => hne e.symm))]
      exact h3
    have HR4 := hide hrow
    clear hrow
    go_wp2
    go_ret
    have hGr := (unhide HT3).grown hc HX.out (nb := w1.heap.size) (by have := gA.size; have := g1.size; omega) (by rw [gB.below.block _ (by have := hsz.out; omega)]; exact hnb.out)
      (fun d hd e => by
        have := (Array.getElem?_eq_some_iff.1 ((unhide HT1).blk d hd)).1
        omega) (unhide HR4) hg (by
        obtain ⟨g, h1, h2⟩ := unhide HS
        exact ⟨g, h1, h2.imp id (fun h => by rw [World.size_alloc]; exact h)⟩)
    refine ⟨w1.heap.size, rfl, _, _, _, _, hGr, fun d => Iff.rfl, upd_same _ _ _, ?_⟩
    have hB3 : Below base w (W2.alloc (.cells #[.pointer (some ⟨w1.heap.size, 0, none⟩)] 95)) := (((gA.trans g1).trans g2).trans gB).below.mono hb
    refine (hB3.grown hg hbW.out (fun k hk => ((unhide hR).lt k hk).1)).setCell (p := ⟨pos c, 7, none⟩) ?_ _
    exact (unhide HT3).low c hc
end

set_option linter.unusedVariables false
open Go.RowKit
attribute [local simp] far_const

/-- What add leaves, of a vote for the chain c. -/
def Added (w w' : World) (base n : Nat) (M : List It → Prop) (vt : List It → Nat) (tb : Nat) (L : List (List It)) (c : List It) : Prop :=
  ∃ M' pos' kv' kd' cv', TreeF w' base (n + c.length) M' (upd vt c (vt c + 1)) pos' kv' kd' tb cv' (if vt c = 0 then L ++ [c] else L) ∧ (∀ d, M' d ↔ M d ∨ d <+: c) ∧ Below base w w'

theorem prefix_take_succ {c d : List It} {k : Nat} (hk : k < c.length) : d <+: c.take (k + 1) ↔ d <+: c.take k ∨ d = c.take (k + 1) := by
  rw [List.take_succ_eq_append_getElem hk, List.prefix_concat_iff]
  exact Or.comm

set_option maxRecDepth 20000 in
set_option maxHeartbeats 4000000 in
theorem treeAdd_any {w : World} {base n : Nat} {M : List It → Prop} {vt pos : List It → Nat} {kv : List It → Value} {kd : List It → List It} {tb : Nat} {cv : Value} {L : List (List It)}
    (h : TreeF w base n M vt pos kv kd tb cv ([] :: L)) (hb : base ≤ w.heap.size) (a : Option Addr) (cap : Nat) (c : List It) (hc : Its w a c) (hlow : ∀ x, a = some x → x.block < base) (hl : c.length ≤ 1048576) (hn : n ≤ 536870912) (hL : L.length ≤ 1048576) (hv : vt c ≤ 1048576) :
    Calls Try.prog 110 #[ptr tb, .slice a c.length cap] w fun r w' => (∃ v, r = .returned v) ∧ Added w w' base n M vt tb ([] :: L) c := by
  have hN := nothing_any h
  have HT := hide h
  clear h
  unfold ptr at hN ⊢
  go_enter Try.func110, Try.ntmps110
  go_wp2_with fail
  refine hN.mono ?_
  clear hN
  rintro r w1 ⟨rfl, g1⟩
  go_wp2_with fail
  go_loopw [4, 10] (fun b i wr => ∃ k : Nat, k ≤ c.length ∧ i = .int .i64 k ∧ ∃ M' pos' kv' kd', b = .pointer (some ⟨pos' (c.take k), 0, none⟩) ∧ Hid (TreeF wr base (n + k) M' vt pos' kv' kd' tb cv ([] :: L)) ∧ Hid (∀ d, M' d ↔ M d ∨ d <+: c.take k) ∧ Below base w wr) (fun _ i _ => c.length - (intOf i).toNat)
  case atStart =>
    refine ⟨0, Nat.zero_le _, rfl, M, pos, kv, kd, by rw [List.take_zero], hide ((unhide HT).grew g1), hide (fun d => ⟨.inl, fun hd => hd.elim id (fun e => ?_)⟩), g1.below.mono hb⟩
    rw [List.take_zero, List.prefix_nil] at e
    rw [e]
    exact (unhide HT).nil
  case round =>
    obtain ⟨k, hk, rfl, M', pos', kv', kd', rfl, hT', hM', hB'⟩ := hrel
    by_cases hlt : k < c.length
    · obtain ⟨b1, o1, rfl, hat⟩ := hc.at hlt
      have hbl := hlow _ rfl
      obtain ⟨c0, c1, c2, c3⟩ := hat
      have e0 := (hB'.cell (p := ⟨b1, o1 + k * 4, none⟩) hbl).trans c0
      have e1 := (hB'.cell (p := ⟨b1, o1 + k * 4 + 1, none⟩) hbl).trans c1
      have e2 := (hB'.cell (p := ⟨b1, o1 + k * 4 + 2, none⟩) hbl).trans c2
      have e3 := (hB'.cell (p := ⟨b1, o1 + k * 4 + 3, none⟩) hbl).trans c3
      clear c0 c1 c2 c3
      have hbw : base ≤ wr.heap.size := Nat.le_trans hb hB'.size
      have hmk : M' (c.take k) := (hM'.out _).2 (.inr (List.prefix_refl _))
      have hG := grow_any (unhide hT') hbw (c.take k) c[k] hmk (by omega) (by simp; omega)
      unfold ptr at hG
      clear hmk
      go_wp2_with fail
      refine hG.mono ?_
      clear hG
      rintro r w2 ⟨b, rfl, M2, pos2, kv2, kd2, hT2, hM2, rfl, hB2⟩
      have ht : c.take (k + 1) = c.take k ++ [c[k]] := List.take_succ_eq_append_getElem hlt
      rw [← ht] at hM2 ⊢
      have HT2 := hide hT2
      have HM2 : Hid (∀ d, M2 d ↔ M d ∨ d <+: c.take (k + 1)) := hide (fun d => by
        rw [hM2 d, hM'.out d, prefix_take_succ hlt, or_assoc])
      clear hT2 hM2 ht
      have HB2 := hB'.trans hB2
      go_wp2
      go_roundw
      case rel => exact ⟨k + 1, by omega, by go_num, M2, pos2, kv2, kd2, rfl, HT2, HM2, HB2⟩
      case measure => simp [intOf]; omega
    · have hkl : k = c.length := by omega
      have hle : (c.length : Int) ≤ (k : Int) := by omega
      have HM : Hid (∀ d, M' d ↔ M d ∨ d <+: c) := hide (fun d => by have := hM'.out d; rw [hkl, List.take_length] at this; exact this)
      have e1 : c.take k = c := by rw [hkl, List.take_length]
      rw [e1]
      have HT3 : Hid (TreeF wr base (n + c.length) M' vt pos' kv' kd' tb cv ([] :: L)) := by rw [← hkl]; exact hT'
      clear hM' hT' hkl e1
      have hmc : M' c := (HM.out _).2 (.inr (List.prefix_refl _))
      obtain ⟨_, _, _, c6, _, cf⟩ := brO_cells ((unhide HT3).blk c hmc)
      have hbw : base ≤ wr.heap.size := Nat.le_trans hb hB'.size
      by_cases h0 : vt c = 0
      · have HH : Hid (vt c = 0) := h0
        obtain ⟨ca, ccap, hcv⟩ : ∃ a cap, Hid (cv = .slice a (L.length + 1) cap) := by
          rcases ownsRow_at (unhide HT3).trow with ⟨h1, hv⟩ | ⟨g, cap, hv, _⟩
          · simp at h1
          · exact ⟨_, cap, hide hv⟩
        have t0 : wr.cell? ⟨tb, 0, none⟩ = some (.slice ca (L.length + 1) ccap) := by rw [← hcv.out]; simp [World.cell?, (unhide HT3).tblk]
        rw [h0] at c6
        have gB : Grew wr (wr.alloc (.cells #[.pointer (some ⟨pos' c, 0, none⟩)] 95)) := (Grew.refl _).alloc _
        have HT4 := hide ((unhide HT3).grew gB)
        have t1 := gB.keep t0
        have hcell : Hid ((wr.alloc (.cells #[.pointer (some ⟨pos' c, 0, none⟩)] 95)).cell? ⟨wr.heap.size, 0, none⟩ = some (ptr (pos' c))) := by
          show World.cell? _ _ = _
          have h0 : (wr.alloc (.cells #[.pointer (some ⟨pos' c, 0, none⟩)] 95)).heap[wr.heap.size]? = some (.cells #[.pointer (some ⟨pos' c, 0, none⟩)] 95 (0, 0)) := heap_alloc_new wr _
          unfold World.cell?; simp only; rw [h0]; rfl
        have hR := hide (unhide HT4).trow
        have hne : Hid (cv.ownBlock ≠ some tb) := fun e => by
          obtain ⟨cur, hcur⟩ := ownsRow_block' (unhide HT4).trow e
          exact absurd (cells_type hcur (unhide HT4).tblk) (by decide)
        clear h0
        go_wp2_with (first | (at_builtin; refine wpList_ptr rfl _ _ rfl base (.slice ca (L.length + 1) ccap) (L.length + 1) (([] :: L).map (fun d => ptr (pos' d))) rfl (by rw [← hcv.out]; exact unhide hR) ⟨wr.heap.size, 0, none⟩ 1 (pos' c) rfl hcell.out (by omega) (by simp; omega) ?_))
        intro v' w4 hrow hg HS
        rw [← hcv.out] at hg HS
        have hT5 := (unhide HT4).listed hmc hrow hg (by
          obtain ⟨g, h1, h2⟩ := unhide HS
          exact ⟨g, h1, h2.imp id (fun h => by rw [World.size_alloc]; exact h)⟩)
        have hB5 : Below base w (w4.setCell ⟨tb, 0, none⟩ v') := ((hB'.trans (gB.below.mono hbw)).grown hg (by simp; omega) (fun k hk => ((unhide hR).lt k hk).1)).setCell (p := ⟨tb, 0, none⟩) (unhide HT3).tlow _
        have t4 : w4.cell? ⟨tb, 0, none⟩ = some (.slice ca (L.length + 1) ccap) := hg.cell t1 (fun e => hne.out e.symm)
        have tf4 : w4.frozen? ⟨tb, 0, none⟩ = false := by
          rw [World.frozen?_of_block (hg.block tb (World.block_lt_of_cell? _ ⟨tb, 0, none⟩ t1) (fun e => hne.out e.symm))]
          simp [World.frozen?, (unhide HT4).tblk]
        obtain ⟨_, _, _, k6, _, kf⟩ := brO_cells (hT5.blk c hmc)
        rw [HH.out] at k6
        have HT5 := hide hT5
        rcases hrow.2 with ⟨_, h0⟩ | ⟨g', cap', cur', rfl, _⟩
        · simp at h0
        clear hrow hT5
        go_wp2
        go_end0
        refine ⟨⟨_, rfl⟩, M', pos', kv', kd', .slice (some ⟨g', 0, none⟩) (L.length + 1 + 1) cap', ?_, HM.out, hB5.setCell (p := ⟨pos' c, 6, none⟩) ((unhide HT3).low c hmc) _⟩
        have hT6 := (unhide HT5).voted hmc
        rw [if_pos HH.out]
        have e : Value.int .i64 ((vt c + 1 : Nat) : Int) = .int .i64 1 := by rw [HH.out]; rfl
        rw [e] at hT6
        exact hT6
      · have hd : (((vt c : Nat) : Int) == 0) = false := by simp; exact h0
        have HH : Hid (¬ vt c = 0) := h0
        clear h0
        go_wp2
        go_end0
        refine ⟨⟨_, rfl⟩, M', pos', kv', kd', cv, ?_, HM.out, hB'.setCell (p := ⟨pos' c, 6, none⟩) ((unhide HT3).low c hmc) _⟩
        rw [if_neg HH.out]
        exact (unhide HT3).voted hmc

set_option linter.unusedVariables false
open Go.RowKit
attribute [local simp] far_const

/-- The chains that votes are for, as they stand first, behind nothing. -/
def firstsL (l : List Vt) : List (List It) := l.foldl (fun acc x => if acc.any (fun d => sameB d x.c) then acc else acc ++ [x.c]) [[]]
theorem firstsL_snoc (l : List Vt) (x : Vt) : firstsL (l ++ [x]) = if (firstsL l).any (fun d => sameB d x.c) then firstsL l else firstsL l ++ [x.c] := by simp [firstsL]
theorem firstsL_mem (l : List Vt) (c : List It) : c ∈ firstsL l ↔ c = [] ∨ ∃ x ∈ l, x.c = c := by
  obtain ⟨n, hn⟩ : ∃ n, l.length = n := ⟨_, rfl⟩
  induction n generalizing l with
  | zero => have := List.eq_nil_of_length_eq_zero hn; subst this; simp [firstsL]
  | succ n ih =>
    rcases List.eq_nil_or_concat l with rfl | ⟨m, x, rfl⟩
    · simp at hn
    rw [List.concat_eq_append] at hn ⊢
    have hi := ih m (by simp at hn; exact hn)
    rw [firstsL_snoc]
    split
    · rename_i h
      rw [hi]
      constructor
      · rintro (h | ⟨y, hy, e⟩)
        · exact .inl h
        · exact .inr ⟨y, List.mem_append.2 (.inl hy), e⟩
      · rintro (h' | ⟨y, hy, e⟩)
        · exact .inl h'
        · rcases List.mem_append.1 hy with hy | hy
          · exact .inr ⟨y, hy, e⟩
          · simp only [List.mem_singleton] at hy
            subst hy
            rw [List.any_eq_true] at h
            obtain ⟨d, hd, hs⟩ := h
            rw [sameB_iff] at hs
            rw [← hi, ← e, ← hs]
            exact hd
    · rw [List.mem_append, hi]
      constructor
      · rintro ((h | ⟨y, hy, e⟩) | h)
        · exact .inl h
        · exact .inr ⟨y, List.mem_append.2 (.inl hy), e⟩
        · simp only [List.mem_singleton] at h
          exact .inr ⟨x, by simp, h.symm⟩
      · rintro (h | ⟨y, hy, e⟩)
        · exact .inl (.inl h)
        · rcases List.mem_append.1 hy with hy | hy
          · exact .inl (.inr ⟨y, hy, e⟩)
          · simp only [List.mem_singleton] at hy
            subst hy
            exact .inr (by simp [e])
theorem firstsL_head (l : List Vt) : ∃ r, firstsL l = [] :: r := by
  obtain ⟨n, hn⟩ : ∃ n, l.length = n := ⟨_, rfl⟩
  induction n generalizing l with
  | zero => have := List.eq_nil_of_length_eq_zero hn; subst this; exact ⟨[], rfl⟩
  | succ n ih =>
    rcases List.eq_nil_or_concat l with rfl | ⟨m, x, rfl⟩
    · simp at hn
    rw [List.concat_eq_append] at hn ⊢
    obtain ⟨r, hr⟩ := ih m (by simp at hn; exact hn)
    rw [firstsL_snoc]
    split
    · exact ⟨r, hr⟩
    · exact ⟨r ++ [x.c], by rw [hr]; rfl⟩
theorem firstsL_len (l : List Vt) : (firstsL l).length ≤ l.length + 1 := by
  obtain ⟨n, hn⟩ : ∃ n, l.length = n := ⟨_, rfl⟩
  induction n generalizing l with
  | zero => have := List.eq_nil_of_length_eq_zero hn; subst this; simp [firstsL]
  | succ n ih =>
    rcases List.eq_nil_or_concat l with rfl | ⟨m, x, rfl⟩
    · simp at hn
    rw [List.concat_eq_append] at hn ⊢
    have hi := ih m (by simp at hn; exact hn)
    rw [firstsL_snoc]
    split <;> simp <;> omega
theorem cnt_zero (l : List Vt) (c : List It) : cnt l c = 0 ↔ ∀ x ∈ l, x.c ≠ c := by
  unfold cnt
  rw [List.length_eq_zero_iff, List.filter_eq_nil_iff]
  constructor
  · intro h x hx e; exact h x hx ((sameB_iff _ _).2 e)
  · intro h x hx e; exact h x hx ((sameB_iff _ _).1 e)
theorem cnt_snoc (l : List Vt) (x : Vt) : cnt (l ++ [x]) = upd (cnt l) x.c (cnt l x.c + 1) := by
  funext c
  unfold cnt
  rw [List.filter_append, List.length_append]
  by_cases e : c = x.c
  · subst e
    rw [upd_same]
    have : sameB x.c x.c = true := (sameB_iff _ _).2 rfl
    simp [this]
  · rw [upd_other _ _ e]
    have : sameB x.c c = false := by
      cases h : sameB x.c c with
      | false => rfl
      | true => exact absurd ((sameB_iff _ _).1 h).symm e
    simp [this]
theorem cnt_le (l : List Vt) (c : List It) : cnt l c ≤ l.length := List.length_filter_le _ _
theorem firstsL_step {l : List Vt} {x : Vt} (hx : x.c ≠ []) : (if cnt l x.c = 0 then firstsL l ++ [x.c] else firstsL l) = firstsL (l ++ [x]) := by
  rw [firstsL_snoc]
  by_cases h : (firstsL l).any (fun d => sameB d x.c) = true
  · rw [if_pos h, if_neg]
    rw [List.any_eq_true] at h
    obtain ⟨d, hd, hs⟩ := h
    rw [sameB_iff] at hs
    subst hs
    rw [firstsL_mem] at hd
    rcases hd with hd | ⟨y, hy, e⟩
    · exact absurd hd hx
    · rw [cnt_zero]
      exact fun h => h y hy e
  · rw [if_neg h, if_pos]
    rw [cnt_zero]
    intro y hy e
    apply h
    rw [List.any_eq_true]
    exact ⟨x.c, (firstsL_mem _ _).2 (.inr ⟨y, hy, e⟩), (sameB_iff _ _).2 rfl⟩

/-- The tree of votes in memory. -/
def TreeV (w : World) (base : Nat) (l : List Vt) (tb : Nat) : Prop :=
  ∃ M pos kv kd cv, TreeF w base (16 * l.length) M (cnt l) pos kv kd tb cv (firstsL l) ∧ ∀ d, M d ↔ d = [] ∨ ∃ x ∈ l, d <+: x.c
theorem TreeV.grew {w w' : World} {base : Nat} {l : List Vt} {tb : Nat} (h : TreeV w base l tb) (g : Grew w w') : TreeV w' base l tb := by
  obtain ⟨M, pos, kv, kd, cv, h, hm⟩ := h; exact ⟨M, pos, kv, kd, cv, h.grew g, hm⟩

theorem treeStart (w : World) : TreeV (((w.alloc (.cells #[.pointer none, .int .i64 0, .int .i64 0, .int .i64 0, .int .i64 0, .int .i64 0, .int .i64 0, .slice none 0 0] 146)).alloc (.cells #[.pointer (some ⟨w.heap.size, 0, none⟩)] 95)).alloc (.cells #[.slice (some ⟨w.heap.size + 1, 0, none⟩) 1 1] 148)) w.heap.size [] (w.heap.size + 1 + 1) := by
  obtain ⟨A, hA⟩ : ∃ A, A = w.alloc (.cells #[.pointer none, .int .i64 0, .int .i64 0, .int .i64 0, .int .i64 0, .int .i64 0, .int .i64 0, .slice none 0 0] 146) := ⟨_, rfl⟩
  obtain ⟨B, hB⟩ : ∃ B, B = A.alloc (.cells #[.pointer (some ⟨w.heap.size, 0, none⟩)] 95) := ⟨_, rfl⟩
  obtain ⟨C, hC⟩ : ∃ C, C = B.alloc (.cells #[.slice (some ⟨w.heap.size + 1, 0, none⟩) 1 1] 148) := ⟨_, rfl⟩
  rw [← hA, ← hB, ← hC]
  have sA : A.heap.size = w.heap.size + 1 := by rw [hA]; simp
  have sB : B.heap.size = w.heap.size + 1 + 1 := by rw [hB]; simp [sA]
  have hA0 : A.heap[w.heap.size]? = some (brO none ⟨0, 0, 0, 0⟩ 0 0 (.slice none 0 0)) := by rw [hA]; exact heap_alloc_new w _
  have hB0 : B.heap[w.heap.size]? = some (brO none ⟨0, 0, 0, 0⟩ 0 0 (.slice none 0 0)) := by rw [hB, heap_alloc_old _ _ (by omega)]; exact hA0
  have hB1 : B.heap[w.heap.size + 1]? = some (.cells #[.pointer (some ⟨w.heap.size, 0, none⟩)] 95 (0, 0)) := by rw [hB, ← sA]; exact heap_alloc_new A _
  have hC0 : C.heap[w.heap.size]? = some (brO none ⟨0, 0, 0, 0⟩ 0 0 (.slice none 0 0)) := by rw [hC, heap_alloc_old _ _ (by omega)]; exact hB0
  have hC1 : C.heap[w.heap.size + 1]? = some (.cells #[.pointer (some ⟨w.heap.size, 0, none⟩)] 95 (0, 0)) := by rw [hC, heap_alloc_old _ _ (by omega)]; exact hB1
  have hC2 : C.heap[w.heap.size + 1 + 1]? = some (.cells #[.slice (some ⟨w.heap.size + 1, 0, none⟩) 1 1] 148 (0, 0)) := by rw [hC, ← sB]; exact heap_alloc_new B _
  refine ⟨fun d => d = [], fun _ => w.heap.size, fun _ => .slice none 0 0, fun _ => [], .slice (some ⟨w.heap.size + 1, 0, none⟩) 1 1, ?_, fun d => by simp⟩
  refine { nil := rfl, up := fun c x h => (by simp at h), dn := fun c x _ h => (by cases h), inj := fun c d h1 h2 _ => (by rw [h1, h2]), zero := fun c _ => rfl, few := fun c _ => (by simp), low := fun c _ => Nat.le_refl _, blk := ?_, row := fun c _ => World.ownsRow_nil _ _ _ _, kk := fun c d k _ _ h _ => (by cases h), tlow := (by omega), tblk := hC2, trow := ?_, mem := fun c h => (by simpa [firstsL] using h), kt := fun c k _ h => (by cases h) }
  · intro c hc
    subst hc
    exact hC0
  · refine ⟨by simp [firstsL], .inr ⟨w.heap.size + 1, 1, _, rfl, by omega, hC1, by simp [firstsL], by unfold maxLen; omega, rfl, rfl⟩⟩

set_option maxRecDepth 20000 in
set_option maxHeartbeats 4000000 in
theorem treeOf_any (a : Option Addr) (cap : Nat) (l : List Vt) (w : World) (hl : Vts w a l) (hs : Short l) (hn : l.length ≤ 1048576) :
    Calls Try.prog 60 #[.slice a l.length cap] w fun r w' => ((votesB l = true ∧ ∃ tb base, r = .returned (.tuple #[ptr tb, .bool true]) ∧ TreeV w' base l tb ∧ w.heap.size ≤ base ∧ base ≤ w'.heap.size) ∨ (votesB l = false ∧ r = .returned (.tuple #[.pointer none, .bool false]))) ∧ Grew w w' := by
  go_enter Try.func60, Try.ntmps60
  go_wp2_with fail
  refine (implVotesOk a cap l _ hl hs hn).mono ?_
  rintro r w1 ⟨rfl, g1⟩
  cases hv : votesB l with
  | false =>
    go_wp2
    go_ret2
    exact ⟨.inr ⟨hv, rfl⟩, g1⟩
  | true =>
    have hst := hide (treeStart w1)
    have HV := hide ((votesB_iff l).1 hv).1
    have HVB := hide hv
    clear hv
    go_wp2_with fail
    obtain ⟨W, hW⟩ : ∃ W, Hid (W = ((w1.alloc (.cells #[.pointer none, .int .i64 0, .int .i64 0, .int .i64 0, .int .i64 0, .int .i64 0, .int .i64 0, .slice none 0 0] 146)).alloc (.cells #[.pointer (some ⟨w1.heap.size, 0, none⟩)] 95)).alloc (.cells #[.slice (some ⟨w1.heap.size + 1, 0, none⟩) 1 1] 148)) := ⟨_, hide rfl⟩
    rw [← hW.out] at hst ⊢
    have gW : Grew w1 W := by rw [hW.out]; exact (((Grew.refl w1).alloc _).alloc _).alloc _
    go_loopw [16] (fun i wr => ∃ k : Nat, k ≤ l.length ∧ i = .int .i64 k ∧ Hid (TreeV wr w1.heap.size (l.take k) (w1.heap.size + 1 + 1)) ∧ Grew w1 wr) (fun i _ => l.length - (intOf i).toNat)
    case atStart => exact ⟨0, Nat.zero_le _, rfl, by rw [List.take_zero]; exact hst, gW⟩
    case round =>
      obtain ⟨k, hk, rfl, hT, hg⟩ := hrel
      by_cases hlt : k < l.length
      · obtain ⟨b, off, rfl, hat⟩ := hl.at hlt
        have hat1 := hat.grew g1
        obtain ⟨c0, a1, cap1, c1, hi⟩ := hat1
        have k1 := hg.keep c1
        have hs1 := hs.at hlt
        have hvk : vokB l[k] = true := HV.out _ (List.getElem_mem hlt)
        have h16 : l[k].c.length ≤ 16 ∧ l[k].c ≠ [] := by
          simp only [vokB, okB, Bool.and_eq_true, decide_eq_true_eq] at hvk
          exact ⟨hvk.1.2.1, fun e => by rw [e] at hvk; simp at hvk⟩
        obtain ⟨M, pos, kv, kd, cv, hF, hM⟩ := unhide hT
        obtain ⟨r, hr⟩ := firstsL_head (l.take k)
        have hfl := firstsL_len (l.take k)
        have hcl := cnt_le (l.take k) l[k].c
        rw [hr] at hF hfl
        have hA := treeAdd_any hF hg.size a1 cap1 l[k].c (hi.grew hg) (fun y hy => by
          rcases hi with h0 | ⟨bb, oo, e1, hh⟩
          · exact absurd h0 h16.2
          · rw [e1] at hy
            cases hy
            have := World.block_lt_of_cell? _ _ (hh 0 (by have := h16.2; cases e : l[k].c <;> simp_all)).1
            exact this) hs1 (by simp; omega) (by simp at hfl; omega) (by simp at hcl; omega)
        have HA := hide hA
        have HM := hide hM
        have HC := hide h16
        clear hA hT hF hM hat hfl hcl h16 hvk
        unfold ptr at HA
        go_wp2_with fail
        refine HA.out.mono ?_
        clear HA
        rintro r2 w2 ⟨⟨v, rfl⟩, M2, pos2, kv2, kd2, cv2, hT2, hM2, hB2⟩
        have HT2 : Hid (TreeV w2 w1.heap.size (l.take (k + 1)) (w1.heap.size + 1 + 1)) := by
          show TreeV _ _ _ _
          have ht : l.take (k + 1) = l.take k ++ [l[k]] := List.take_succ_eq_append_getElem hlt
          rw [ht]
          refine ⟨M2, pos2, kv2, kd2, cv2, ?_, fun d => ?_⟩
          · rw [cnt_snoc, ← firstsL_step HC.out.2, hr]
            refine hT2.more ?_
            have := HC.out.1
            simp
            omega
          · rw [hM2 d, HM.out d]
            constructor
            · rintro ((h | ⟨y, hy, e⟩) | h)
              · exact .inl h
              · exact .inr ⟨y, List.mem_append.2 (.inl hy), e⟩
              · exact .inr ⟨l[k], List.mem_append.2 (.inr (List.mem_singleton.2 rfl)), h⟩
            · rintro (h | ⟨y, hy, e⟩)
              · exact .inl (.inl h)
              · rcases List.mem_append.1 hy with hy | hy
                · exact .inl (.inr ⟨y, hy, e⟩)
                · simp only [List.mem_singleton] at hy
                  subst hy
                  exact .inr e
        clear hT2 hM2
        have hg2 : Grew w1 w2 := .of_below (hg.below.trans hB2)
        go_wp2
        go_roundw
        case rel => exact ⟨k + 1, by omega, by go_num, HT2, hg2⟩
        case measure => simp [intOf]; omega
      · have hkl : k = l.length := by omega
        have hle : (l.length : Int) ≤ (k : Int) := by omega
        have HT2 : Hid (TreeV wr w1.heap.size l (w1.heap.size + 1 + 1)) := by
          have := hT
          rw [hkl, List.take_length] at this
          exact this
        clear hkl hT
        go_wp2
        go_ret2
        exact ⟨.inl ⟨HVB.out, w1.heap.size + 1 + 1, w1.heap.size, rfl, HT2.out, g1.size, hg.size⟩, g1.trans hg⟩

set_option linter.unusedVariables false
open Go.RowKit
attribute [local simp] far_const

theorem TreeF.pre {w : World} {base n : Nat} {M : List It → Prop} {vt pos : List It → Nat} {kv : List It → Value} {kd : List It → List It} {tb : Nat} {cv : Value} {L : List (List It)}
    (h : TreeF w base n M vt pos kv kd tb cv L) {c : List It} {k : Nat} (hk : k < c.length) (hm : ¬ M (c.take k)) : ¬ M (c.take (k + 1)) := fun h1 => by
  rw [List.take_succ_eq_append_getElem hk] at h1
  exact hm (h.up _ _ h1).1

end Go.Proofs.Ytjbnohepbmejkaa
