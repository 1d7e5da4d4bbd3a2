/-
  A tree of chains as it lies in memory: branches (eight cells each), rows of pointers to what is behind, the row of the chains that have votes.
-/
import Derived.Test.YtibhfiamibccnacVMap3
import Derived.Test.YtibhfiamibccnacVote3
import Derived.Deep.AppendLies
namespace Go.Proofs.Ytibhfiamibccnac
set_option linter.unusedVariables false
open Go.RowKit

/-- How many votes are for a chain. -/
def cnt (l : List Vt) (c : List It) : Nat := (l.filter (fun x => sameB x.c c)).length

def lastI (c : List It) : It := c.getLast?.getD ⟨0, 0, 0, 0⟩
def aheadP (pos : List It → Nat) (c : List It) : Option Addr := if c.isEmpty then none else some ⟨pos c.dropLast, 0, none⟩
theorem lastI_snoc (c : List It) (x : It) : lastI (c ++ [x]) = x := by simp [lastI]
theorem aheadP_snoc (pos : List It → Nat) (c : List It) (x : It) : aheadP pos (c ++ [x]) = some ⟨pos c, 0, none⟩ := by simp [aheadP]
theorem aheadP_nil (pos : List It → Nat) : aheadP pos [] = none := rfl

/-- A branch's block. -/
def brO (a : Option Addr) (x : It) (n v : Nat) (k : Value) : Obj :=
  .cells #[.pointer a, .int .i64 x.e, .int .i64 x.f, .int .i64 x.t, .int .i64 x.s, .int .i64 n, .int .i64 v, k] 66
def ptr (n : Nat) : Value := .pointer (some ⟨n, 0, none⟩)
/-- The pointers to what is behind a branch. -/
def kidsV (pos : List It → Nat) (c : List It) (l : List It) : List Value := l.map (fun x => ptr (pos (c ++ [x])))

structure TreeF (w : World) (base n : Nat) (M : List It → Prop) (vt pos : List It → Nat) (kv : List It → Value) (kd : List It → List It) (tb : Nat) (cv : Value) (L : List (List It)) : Prop where
  nil : M []
  up : ∀ c x, M (c ++ [x]) → M c ∧ x ∈ kd c
  dn : ∀ c x, M c → x ∈ kd c → M (c ++ [x])
  inj : ∀ c d, M c → M d → pos c = pos d → c = d
  zero : ∀ c, ¬ M c → vt c = 0
  few : ∀ c, M c → (kd c).length ≤ n
  low : ∀ c, M c → base ≤ pos c
  blk : ∀ c, M c → w.heap[pos c]? = some (brO (aheadP pos c) (lastI c) c.length (vt c) (kv c))
  row : ∀ c, M c → w.ownsRow base 58 1 (kv c) (kd c).length (kidsV pos c (kd c))
  kk : ∀ c d k, M c → M d → (kv c).ownBlock = some k → (kv d).ownBlock = some k → c = d
  tlow : base ≤ tb
  tblk : w.heap[tb]? = some (.cells #[cv] 90)
  trow : w.ownsRow base 58 1 cv L.length (L.map (fun c => ptr (pos c)))
  mem : ∀ c ∈ L, M c
  kt : ∀ c k, M c → (kv c).ownBlock = some k → cv.ownBlock ≠ some k
/-- The same, without what only who builds it asks. -/
def Tree (w : World) (base n : Nat) (M : List It → Prop) (vt pos : List It → Nat) (tb : Nat) (L : List (List It)) : Prop := ∃ kv kd cv, TreeF w base n M vt pos kv kd tb cv L

theorem TreeF.kept {w w' : World} {base n : Nat} {M : List It → Prop} {vt pos : List It → Nat} {kv : List It → Value} {kd : List It → List It} {tb : Nat} {cv : Value} {L : List (List It)}
    (h : TreeF w base n M vt pos kv kd tb cv L) (e : ∀ k, base ≤ k → k < w.heap.size → w'.heap[k]? = w.heap[k]?) : TreeF w' base n M vt pos kv kd tb cv L := by
  have lt : ∀ {k : Nat} {o : Obj}, w.heap[k]? = some o → k < w.heap.size := fun h => (Array.getElem?_eq_some_iff.1 h).1
  have rk : ∀ {v : Value} {m : Nat} {xs : List Value}, w.ownsRow base 58 1 v m xs → w'.ownsRow base 58 1 v m xs := fun hr => by
    refine ⟨hr.1, ?_⟩
    rcases hr.2 with h0 | ⟨g, cap, cur, hv, hb, hg, hx⟩
    · exact .inl h0
    · exact .inr ⟨g, cap, cur, hv, hb, by rw [e g hb (lt hg)]; exact hg, hx⟩
  exact { h with
    blk := fun c hc => by rw [e _ (h.low c hc) (lt (h.blk c hc))]; exact h.blk c hc
    row := fun c hc => rk (h.row c hc)
    tblk := by rw [e _ h.tlow (lt h.tblk)]; exact h.tblk
    trow := rk h.trow }
theorem TreeF.grew {w w' : World} {base n : Nat} {M : List It → Prop} {vt pos : List It → Nat} {kv : List It → Value} {kd : List It → List It} {tb : Nat} {cv : Value} {L : List (List It)}
    (h : TreeF w base n M vt pos kv kd tb cv L) (g : Grew w w') : TreeF w' base n M vt pos kv kd tb cv L := h.kept fun k _ hk => g.below.block k hk
theorem Tree.grew {w w' : World} {base n : Nat} {M : List It → Prop} {vt pos : List It → Nat} {tb : Nat} {L : List (List It)}
    (h : Tree w base n M vt pos tb L) (g : Grew w w') : Tree w' base n M vt pos tb L := by
  obtain ⟨kv, kd, cv, h⟩ := h; exact ⟨kv, kd, cv, h.grew g⟩

theorem brO_cells {w : World} {b : Nat} {a : Option Addr} {x : It} {n v : Nat} {k : Value} (h : w.heap[b]? = some (brO a x n v k)) :
    w.cell? ⟨b, 0, none⟩ = some (.pointer a) ∧ ItAt w b 1 x ∧ w.cell? ⟨b, 5, none⟩ = some (.int .i64 n) ∧ w.cell? ⟨b, 6, none⟩ = some (.int .i64 v) ∧ w.cell? ⟨b, 7, none⟩ = some k ∧ (∀ i, w.frozen? ⟨b, i, none⟩ = false) := by
  refine ⟨?_, ⟨?_, ?_, ?_, ?_⟩, ?_, ?_, ?_, ?_⟩ <;> simp [World.cell?, World.frozen?, h, brO]
theorem setCell_heap {w : World} {b i : Nat} {cs : Array Value} {t : TypeId} {u : Value} (h : w.heap[b]? = some (.cells cs t (0, 0))) : (w.setCell ⟨b, i, none⟩ u).heap[b]? = some (.cells (cs.setIfInBounds i u) t (0, 0)) := by
  simp [World.setCell, Array.getElem?_modify, h]

theorem ptr_info : (Try.prog.info? 58).map (fun i => (i.zero, i.size, i.bytes)) = some (some (.pointer none), 1, 8) := by kernel_rfl

/-- What 'append' answers lies in the row's own block, or in a new one. -/
theorem run_append_sep {P : Program} (w : World) (base : Nat) (t ty e : TypeId) (i : TypeInfo) (z : Value) (size bytes : Nat) (ht : P.underlying t = some (.slice e)) (hi : P.info? e = some i) (hz : i.zero = some z)
    (hsize : i.size = size) (hby : i.bytes = bytes) (hzs : z.cells.size = size) (hsz : 0 < size)
    (v : Value) (n : Nat) (xs : List Value) (hown : w.ownsRow base e size v n xs)
    (a : Addr) (m c : Nat) (hm : 0 < m) (news : List Value) (hl : news.length = m * size) (hnews : ∀ j u, news[j]? = some u → w.cell? (a.add j) = some u) (h1 : ∀ u ∈ news, u.oneCell' = true)
    (h63 : n + m ≤ maxLen) (hbytes : (n + m) * bytes ≤ 140737488355328) (hbase : base ≤ w.heap.size) :
    ∃ v' w', (Builtin.append_ #[t, t] ty #[v, .slice (some a) m c]).run P w = .ok v' w' ∧ w'.ownsRow base e size v' (n + m) (xs ++ news) ∧ w.grownBy w' v.ownBlock ∧
      ∃ g, v'.ownBlock = some g ∧ (v.ownBlock = some g ∨ w.heap.size ≤ g) := by
  obtain ⟨v', w', hr, h2, h3, h4⟩ := run_append_own (P := P) w base t ty e i z size bytes ht hi hz hsize hby hzs hsz v n xs hown a m c news hl hnews h1 h63 hbytes hbase
  refine ⟨v', w', hr, h2, h3, ?_⟩
  have hsmall : n + m ≤ 9223372036854775807 := by simp only [maxLen] at h63; omega
  rcases hown.2 with ⟨rfl, rfl⟩ | ⟨g, cap, cur, rfl, hbg, hg, hnc, hcm, hcs, htake⟩
  · obtain ⟨v2, w2, hr2, h22, _, _⟩ := run_append_own (P := P) w w.heap.size t ty e i z size bytes ht hi hz hsize hby hzs hsz (.slice none 0 0) 0 [] (World.ownsRow_nil _ _ _ _) a m c news hl hnews h1 h63 hbytes (Nat.le_refl _)
    rw [hr] at hr2
    injection hr2 with e1 e2
    subst e1 e2
    rcases h22.2 with ⟨_, hn⟩ | ⟨g, cap, cur, hv, hb, _⟩
    · omega
    · exact ⟨g, by rw [hv]; rfl, .inr hb⟩
  · subst hsize
    by_cases hroom : n + m ≤ cap
    · have hfit : n * i.size + news.length ≤ cur.size := by rw [hl, hcs, ← Nat.add_mul]; exact Nat.mul_le_mul_right _ hroom
      have hr2 := run_append_room (P := P) w t ty e i ht hi g n cap cur hg a m c news hl hnews h1 hroom hfit
      rw [hr] at hr2
      injection hr2 with e1 e2
      exact ⟨g, by rw [e1]; rfl, .inl rfl⟩
    · subst hby
      have holds : ∀ j u, xs[j]? = some u → w.cell? ((⟨g, 0, none⟩ : Addr).add j) = some u := hown.cells (g := g) rfl
      have hr2 := run_append_grow (P := P) w t ty e i z ht hi hz ⟨g, 0, none⟩ n cap xs hown.1 holds a m c news hl hnews (by omega) (by omega) (growslice_fits (by omega) hbytes)
      rw [hr] at hr2
      injection hr2 with e1 e2
      exact ⟨w.heap.size, by rw [e1]; rfl, .inr (Nat.le_refl _)⟩

/-- 'append' of one pointer. -/
theorem wpList_ptr {ops : Array Oper} {rest : List Oper} {o : Oper} {a : Act} {Q : Exit → Act → World → Prop} {w : World} (hgd : o.guard = none) (s x : Operand)
    (ho : o.op = .call { callee := .builtin .append, args := #[s, x], argTypes := #[64, 64] })
    (base : Nat) (v : Value) (n : Nat) (xs : List Value) (hs : a.eval s = v) (hown : w.ownsRow base 58 1 v n xs)
    (ad : Addr) (c b : Nat) (hx : a.eval x = .slice (some ad) 1 c) (hm : w.cell? ad = some (ptr b)) (hn : n ≤ 1073741824) (hbase : base ≤ w.heap.size)
    (h : ∀ v' w', w'.ownsRow base 58 1 v' (n + 1) (xs ++ [ptr b]) → w.grownBy w' v.ownBlock → Hid (∃ g, v'.ownBlock = some g ∧ (v.ownBlock = some g ∨ w.heap.size ≤ g)) → wpList Try.prog ops Q rest (a.put o.dst v') w') : wpList Try.prog ops Q (o :: rest) a w := by
  obtain ⟨i, hi, hz0, hz1, hz2⟩ := info_parts ptr_info
  obtain ⟨v', w', hr, h2, h3, h4⟩ := run_append_sep (P := Try.prog) w base 64 o.type 58 i _ 1 8 Try.underlying64 hi hz0 hz1 hz2 rfl (by omega) v n xs hown ad 1 c (by omega) [ptr b] rfl
    (fun j u hj => by
      rcases j with _ | j
      · simp only [List.getElem?_cons_zero, Option.some.injEq] at hj
        subst hj
        have : ad.add 0 = ad := by unfold Addr.add; split <;> simp_all
        rw [this]; exact hm
      · simp at hj) (fun u hu => by simp only [List.mem_singleton] at hu; subst hu; rfl) (by unfold maxLen; omega) (by omega) hbase
  refine wpList_plain hgd fun _ hK => ?_
  unfold Oper.wp execOp
  simp only [ho, resolve, invoke, builtin, Sem.run_bind, Sem.run_pure, Result.andThen_ok, List.map_toArray, List.map_cons, List.map_nil, hs, hx, hr]
  exact hK _ _ (h v' w' h2 h3 (hide h4))
end Go.Proofs.Ytibhfiamibccnac
