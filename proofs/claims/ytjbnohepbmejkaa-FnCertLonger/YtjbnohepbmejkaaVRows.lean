/-
  Rows of votes that a call owns, each vote's chain in a row of its own: filled vote by vote, appended to, read as votes.
-/
import Derived.Test.YtjbnohepbmejkaaVoteA
import Derived.Test.YtjbnohepbmejkaaMarkHeld
import Derived.Test.YtjbnohepbmejkaaBothA
import Derived.Deep.RegionHeldLaw
import Derived.Deep.AppendLies
import Derived.Deep.DeepFit
namespace Go.Proofs.Ytjbnohepbmejkaa
set_option linter.unusedVariables false
open Go.RowKit

theorem vote_info : (Try.prog.info? 45).map (fun i => (i.zero, i.size, i.bytes)) = some (some (.agg #[.int .i64 0, .slice none 0 0]), 2, 32) := by kernel_rfl
def zerosV (n : Nat) : Obj := .cells (madeCells #[.int .i64 0, .slice none 0 0] (n * 2)) 45
theorem make_votes (n : Nat) (hn : n ≤ 1048576) (w : World) : (Instr.makeSlice 35 (.int .i64 (n : Int)) (.int .i64 (n : Int))).run Try.prog w = .ok (.slice (some ⟨w.heap.size, 0, none⟩) n n) (w.alloc (zerosV n)) := by
  obtain ⟨i, hi, hz⟩ := Option.map_eq_some_iff.1 vote_info
  simp only [Prod.mk.injEq] at hz
  obtain ⟨hz, hs, hb⟩ := hz
  have hr := run_make (P := Try.prog) w 35 45 i _ Try.underlying35 hi hz .i64 .i64 n n (by omega) (Int.le_refl _) (by rw [hb]; omega) (by omega)
  simp only [Int.toNat_natCast, hs] at hr
  exact hr

theorem Its.block {w w' : World} {b off : Nat} {l : List It} (h : Its w (some ⟨b, off, none⟩) l) (e : w'.heap[b]? = w.heap[b]?) : Its w' (some ⟨b, off, none⟩) l := by
  rcases h with h | ⟨b', off', ha, h⟩
  · exact .inl h
  · simp only [Option.some.injEq, Addr.mk.injEq, and_true] at ha
    obtain ⟨rfl, rfl⟩ := ha
    refine .inr ⟨_, _, rfl, fun i hi => ?_⟩
    obtain ⟨c0, c1, c2, c3⟩ := h i hi
    exact ⟨by rw [World.cell?_of_block (w := w) e]; exact c0, by rw [World.cell?_of_block (w := w) e]; exact c1, by rw [World.cell?_of_block (w := w) e]; exact c2, by rw [World.cell?_of_block (w := w) e]; exact c3⟩
theorem Own.block {w w' : World} {b n : Nat} (h : Own w b n) (e : w'.heap[b]? = w.heap[b]?) : Own w' b n := by
  obtain ⟨f, hf⟩ := h; exact ⟨f, hf.of_block e⟩
theorem ownsRow_block {w w' : World} {base : Nat} {e : TypeId} {size : Nat} {v : Value} {n : Nat} {xs : List Value} (h : w.ownsRow base e size v n xs) (hk : ∀ g, v.ownBlock = some g → w'.heap[g]? = w.heap[g]?) : w'.ownsRow base e size v n xs := by
  refine ⟨h.1, ?_⟩
  rcases h.2 with h0 | ⟨g, cap, cur, hv, hb, hg, hr⟩
  · exact .inl h0
  · exact .inr ⟨g, cap, cur, hv, hb, by rw [hk g (by rw [hv]; rfl)]; exact hg, hr⟩

/-- A row of N votes, the first of which are l; the chain of each in a row of its own (the blocks hs). -/
structure VPart (w : World) (base : Nat) (v : Value) (hs : List Nat) (N : Nat) (l : List Vt) : Prop where
  nz : v ≠ .slice none 0 0
  row : ∃ cs, w.ownsRow base 45 2 v N cs ∧ ∀ i (h : i < l.length) (h' : i < hs.length), cs[i * 2]? = some (.int .i64 l[i].n) ∧ ∃ cap, cs[i * 2 + 1]? = some (.slice (some ⟨hs[i], 0, none⟩) l[i].c.length cap) ∧ l[i].c.length ≤ cap
  len : hs.length = l.length
  le : l.length ≤ N
  apart : hs.Nodup
  off : ∀ h ∈ hs, v.ownBlock ≠ some h
  low : ∀ h ∈ hs, base ≤ h ∧ h < w.heap.size
  its : ∀ i (h : i < l.length) (h' : i < hs.length), Its w (some ⟨hs[i], 0, none⟩) l[i].c ∧ Own w hs[i] l[i].c.length
/-- A row of votes of the call's own. -/
abbrev VOwn (w : World) (base : Nat) (v : Value) (hs : List Nat) (l : List Vt) : Prop := VPart w base v hs l.length l

theorem VPart.kept {w w' : World} {base : Nat} {v : Value} {hs : List Nat} {N : Nat} {l : List Vt} (h : VPart w base v hs N l) (hz : w.heap.size ≤ w'.heap.size) (e : ∀ g, base ≤ g → g < w.heap.size → w'.heap[g]? = w.heap[g]?) : VPart w' base v hs N l := by
  obtain ⟨nz, ⟨cs, row, hc⟩, len, le, apart, off, low, its⟩ := h
  refine ⟨nz, ⟨cs, ownsRow_block row (fun g hg => by obtain ⟨h1, h2⟩ := row.lt g hg; exact e g h1 h2), hc⟩, len, le, apart, off, fun h hh => ⟨(low h hh).1, Nat.lt_of_lt_of_le (low h hh).2 hz⟩, fun i h h' => ?_⟩
  obtain ⟨h1, h2⟩ := low hs[i] (List.getElem_mem h')
  exact ⟨(its i h h').1.block (e _ h1 h2), (its i h h').2.block (e _ h1 h2)⟩
theorem VPart.grew {w w' : World} {base : Nat} {v : Value} {hs : List Nat} {N : Nat} {l : List Vt} (h : VPart w base v hs N l) (g : Grew w w') : VPart w' base v hs N l :=
  h.kept g.size fun b _ hb => g.below.block b hb
theorem VPart.lower {w : World} {base base' : Nat} {v : Value} {hs : List Nat} {N : Nat} {l : List Vt} (h : VPart w base v hs N l) (hb : base' ≤ base) : VPart w base' v hs N l := by
  obtain ⟨nz, ⟨cs, row, hc⟩, len, le, apart, off, low, its⟩ := h
  refine ⟨nz, ⟨cs, ⟨row.1, ?_⟩, hc⟩, len, le, apart, off, fun h hh => ⟨Nat.le_trans hb (low h hh).1, (low h hh).2⟩, its⟩
  rcases row.2 with h0 | ⟨g, cap, cur, hv, hb', hr⟩
  · exact .inl h0
  · exact .inr ⟨g, cap, cur, hv, Nat.le_trans hb hb', hr⟩
theorem VPart.shape {w : World} {base : Nat} {v : Value} {hs : List Nat} {N : Nat} {l : List Vt} (h : VPart w base v hs N l) : ∃ g cap, v = .slice (some ⟨g, 0, none⟩) N cap ∧ N ≤ cap ∧ base ≤ g ∧ g < w.heap.size := by
  obtain ⟨cs, row, _⟩ := h.row
  rcases row.2 with ⟨hv, hn⟩ | ⟨g, cap, cur, hv, hb, hg, hnc, _⟩
  · exact absurd hv h.nz
  · exact ⟨g, cap, hv, hnc, hb, (Array.getElem?_eq_some_iff.1 hg).1⟩
theorem VPart.made (w : World) (n : Nat) (hn : n ≤ 1048576) : VPart (w.alloc (zerosV n)) w.heap.size (.slice (some ⟨w.heap.size, 0, none⟩) n n) [] n [] :=
  ⟨(fun e => by simp at e), ⟨_, World.ownsRow_lit w (madeCells #[.int .i64 0, .slice none 0 0] (n * 2)) n (Nat.le_refl _) (by unfold maxLen; omega) (by rw [size_madeCells]), fun i h => absurd h (Nat.not_lt_zero _)⟩, rfl, Nat.zero_le _, List.nodup_nil, (fun h hh => by cases hh), (fun h hh => by cases hh), fun i h => absurd h (Nat.not_lt_zero _)⟩
/-- The cells of the row are there, and can be written. -/
theorem VPart.cells {w : World} {base g N cap : Nat} {hs : List Nat} {l : List Vt} (h : VPart w base (.slice (some ⟨g, 0, none⟩) N cap) hs N l) {j : Nat} (hj : j < N * 2) : (∃ u, w.cell? ⟨g, j, none⟩ = some u) ∧ w.frozen? ⟨g, j, none⟩ = false := by
  obtain ⟨cs, row, _⟩ := h.row
  refine ⟨?_, row.frozenAt j⟩
  have hl : j < cs.length := by rw [row.1]; exact hj
  exact ⟨cs[j], by rw [row.cellAt j hj, List.getElem?_eq_getElem hl]⟩
/-- One vote more is stored. -/
theorem VPart.put {w : World} {base g N cap : Nat} {hs : List Nat} {l : List Vt} (h : VPart w base (.slice (some ⟨g, 0, none⟩) N cap) hs N l) (hN : l.length < N) (x : Vt) (q c : Nat) (hq : base ≤ q) (hql : q < w.heap.size) (hqn : q ∉ hs) (hqg : q ≠ g)
    (hi : Its w (some ⟨q, 0, none⟩) x.c) (ho : Own w q x.c.length) (hcp : x.c.length ≤ c) :
    VPart ((w.setCell ⟨g, l.length * 2, none⟩ (.int .i64 x.n)).setCell ⟨g, l.length * 2 + 1, none⟩ (.slice (some ⟨q, 0, none⟩) x.c.length c)) base (.slice (some ⟨g, 0, none⟩) N cap) (hs ++ [q]) N (l ++ [x]) := by
  obtain ⟨nz, ⟨cs, row, hc⟩, len, le, apart, off, low, its⟩ := h
  have r1 := (row.stored (l.length * 2) (.int .i64 x.n)).1
  have r2 := (r1.stored (l.length * 2 + 1) (.slice (some ⟨q, 0, none⟩) x.c.length c)).1
  have hcl : cs.length = N * 2 := row.1
  have other : ∀ b, b ≠ g → ((w.setCell ⟨g, l.length * 2, none⟩ (.int .i64 x.n)).setCell ⟨g, l.length * 2 + 1, none⟩ (.slice (some ⟨q, 0, none⟩) x.c.length c)).heap[b]? = w.heap[b]? := fun b hb => by
    rw [Below.heap_setCell _ _ _ _ hb, Below.heap_setCell _ _ _ _ hb]
  have hne : ∀ h ∈ hs, h ≠ g := fun h hh e => off h hh (by rw [e]; rfl)
  refine ⟨nz, ⟨_, r2, fun i hi1 hi2 => ?_⟩, by simp [len], by simp; omega, ?_, fun h hh => ?_, fun h hh => ?_, fun i hi1 hi2 => ?_⟩
  · simp only [List.length_append, List.length_singleton] at hi1 hi2
    rw [List.getElem?_set, List.getElem?_set, List.getElem?_set, List.getElem?_set]
    by_cases e : i < l.length
    · have h1 := hc i e (by omega)
      rw [if_neg (by omega), if_neg (by omega), if_neg (by omega), if_neg (by omega), List.getElem_append_left e, List.getElem_append_left (by omega)]
      exact h1
    · have e' : i = l.length := by omega
      subst e'
      rw [if_neg (by omega), if_pos rfl, if_pos (by omega), if_pos rfl, if_pos (by rw [List.length_set]; omega), List.getElem_append_right (by omega), List.getElem_append_right (by omega)]
      simp [len, hcp]
  · rw [List.nodup_append]
    exact ⟨apart, by simp, fun a ha b hb e => hqn (by simp at hb; rw [← hb, ← e]; exact ha)⟩
  · rcases List.mem_append.1 hh with hh | hh
    · exact off h hh
    · simp at hh; rw [hh]; intro e; exact hqg (Option.some.inj e).symm
  · have hz : ((w.setCell ⟨g, l.length * 2, none⟩ (.int .i64 x.n)).setCell ⟨g, l.length * 2 + 1, none⟩ (.slice (some ⟨q, 0, none⟩) x.c.length c)).heap.size = w.heap.size := by simp [World.setCell]
    rw [hz]
    rcases List.mem_append.1 hh with hh | hh
    · exact low h hh
    · simp at hh; rw [hh]; exact ⟨hq, hql⟩
  · simp only [List.length_append, List.length_singleton] at hi1 hi2
    by_cases e : i < l.length
    · have h1 := its i e (by omega)
      rw [List.getElem_append_left (by omega), List.getElem_append_left e]
      have hn := hne hs[i] (List.getElem_mem (by omega))
      exact ⟨h1.1.block (other _ hn), h1.2.block (other _ hn)⟩
    · have e' : i = l.length := by omega
      subst e'
      have e1 : (hs ++ [q])[l.length] = q := by rw [List.getElem_append_right (by omega)]; simp [len]
      have e2 : (l ++ [x])[l.length] = x := by rw [List.getElem_append_right (by omega)]; simp
      rw [e1, e2]
      exact ⟨hi.block (other _ hqg), ho.block (other _ hqg)⟩
/-- A row of the call's own is read as votes. -/
theorem VPart.vts {w : World} {base g N cap : Nat} {hs : List Nat} {l : List Vt} (h : VPart w base (.slice (some ⟨g, 0, none⟩) N cap) hs N l) : Vts w (some ⟨g, 0, none⟩) l := by
  obtain ⟨nz, ⟨cs, row, hc⟩, len, le, apart, off, low, its⟩ := h
  refine .inr ⟨g, 0, rfl, fun i hi => ?_⟩
  have hi' : i < hs.length := by omega
  obtain ⟨h1, c, h2, _⟩ := hc i hi hi'
  rw [Nat.zero_add]
  exact ⟨by rw [row.cellAt (i * 2) (by omega)]; exact h1, some ⟨hs[i], 0, none⟩, c, by rw [row.cellAt (i * 2 + 1) (by omega)]; exact h2, (its i hi (by omega)).1⟩
theorem VPart.block {w : World} {base : Nat} {v : Value} {hs : List Nat} {N : Nat} {l : List Vt} (h : VPart w base v hs N l) : ∀ k, v.ownBlock = some k → base ≤ k ∧ k < w.heap.size := by
  obtain ⟨cs, row, _⟩ := h.row; exact row.lt
/-- A row of votes, as a value. -/
def VtsV (w : World) (v : Value) (l : List Vt) : Prop := ∃ a cap, v = .slice a l.length cap ∧ l.length ≤ cap ∧ Vts w a l
theorem VtsV.grew {w w' : World} {v : Value} {l : List Vt} (h : VtsV w v l) (g : Grew w w') : VtsV w' v l := by
  obtain ⟨a, cap, h1, h2, h3⟩ := h; exact ⟨a, cap, h1, h2, h3.grew g⟩
theorem VPart.vtsV {w : World} {base : Nat} {v : Value} {hs : List Nat} {l : List Vt} (h : VOwn w base v hs l) : VtsV w v l := by
  obtain ⟨g, cap, rfl, hc, _, _⟩ := h.shape
  exact ⟨_, cap, rfl, hc, h.vts⟩
/-- Each chain of a row of the call's own has room. -/
theorem VPart.cap {w : World} {base g N cap : Nat} {hs : List Nat} {l : List Vt} (h : VPart w base (.slice (some ⟨g, 0, none⟩) N cap) hs N l) {i : Nat} (hi : i < l.length) {u : Option Addr} {n cp : Nat} (hc : w.cell? ⟨g, i * 2 + 1, none⟩ = some (.slice u n cp)) : n ≤ cp := by
  obtain ⟨nz, ⟨cs, row, hcs⟩, len, le, _⟩ := h
  obtain ⟨_, c, h2, h3⟩ := hcs i hi (by omega)
  rw [row.cellAt (i * 2 + 1) (by omega), h2] at hc
  simp only [Option.some.injEq, Value.slice.injEq] at hc
  obtain ⟨_, rfl, rfl⟩ := hc
  exact h3
/-- The two cells that 'append' is handed. -/
theorem cells_two (w : World) (n : Int) (a : Option Addr) (len cap : Nat) (t : TypeId) : ∀ j u, ([.int .i64 n, .slice a len cap] : List Value)[j]? = some u → (w.alloc (.cells #[.int .i64 n, .slice a len cap] t)).cell? ((⟨w.heap.size, 0, none⟩ : Addr).add j) = some u := by
  intro j u hj
  match j with
  | 0 => simp at hj; subst hj; simp [Addr.add, go_sem]
  | 1 => simp at hj; subst hj; simp [Addr.add, go_sem]
  | j + 2 => simp at hj
theorem at_ite {c : Prop} [Decidable c] {A B : Prop} (h : if c then A else B) : if c then A else B := h
/-- What a row is behind 'append' of one vote whose chain lies in a row of its own. -/
theorem VPart.grow {w : World} {base : Nat} {v : Value} {hs : List Nat} {l : List Vt} (hown : VOwn w base v hs l) (y : Vt) (q cq : Nat)
    (hq : base ≤ q) (hql : q < w.heap.size) (hqn : q ∉ hs) (hqg : v.ownBlock ≠ some q) (hi : Its w (some ⟨q, 0, none⟩) y.c) (hoo : Own w q y.c.length) (hcp : y.c.length ≤ cq) :
    ∃ cs, w.ownsRow base 45 2 v l.length cs ∧ ∀ v' w', w'.ownsRow base 45 2 v' (l.length + 1) (cs ++ [.int .i64 y.n, .slice (some ⟨q, 0, none⟩) y.c.length cq]) → v' ≠ .slice none 0 0 → w.grownBy w' v.ownBlock →
      (v'.ownBlock = v.ownBlock ∨ v'.ownBlock = some w.heap.size) → VOwn w' base v' (hs ++ [q]) (l ++ [y]) := by
  obtain ⟨nz, ⟨cs, row, hcs⟩, len, le, apart, off, low, its⟩ := hown
  have hcl : cs.length = l.length * 2 := row.1
  refine ⟨cs, row, fun v' w' h1 h3 h2 h4 => ?_⟩
  have hnew : ∀ g, g < w.heap.size → v.ownBlock ≠ some g → v'.ownBlock ≠ some g ∧ w'.heap[g]? = w.heap[g]? := fun g hg hne => by
    refine ⟨fun e => ?_, h2.block g hg (fun e => hne e.symm)⟩
    rcases h4 with h4 | h4
    · exact hne (h4.symm.trans e)
    · rw [h4] at e; have := Option.some.inj e; omega
  refine ⟨h3, ⟨_, (by rw [List.length_append]; exact h1), fun i hi1 hi2 => ?_⟩, by simp [len], Nat.le_refl _, ?_, fun h hh => ?_, fun h hh => ?_, fun i hi1 hi2 => ?_⟩
  · simp only [List.length_append, List.length_singleton] at hi1 hi2
    by_cases e : i < l.length
    · have h1 := hcs i e (by omega)
      rw [List.getElem?_append_left (by omega), List.getElem?_append_left (by omega), List.getElem_append_left e, List.getElem_append_left (by omega)]
      exact h1
    · have e' : i = l.length := by omega
      subst e'
      rw [List.getElem?_append_right (by omega), List.getElem?_append_right (by omega), List.getElem_append_right (by omega), List.getElem_append_right (by omega), hcl]
      simp [len, hcp, show l.length * 2 + 1 - l.length * 2 = 1 by omega]
  · rw [List.nodup_append]
    exact ⟨apart, by simp, fun a ha b hb e => hqn (by simp at hb; rw [← hb, ← e]; exact ha)⟩
  · rcases List.mem_append.1 hh with hh | hh
    · exact (hnew h (low h hh).2 (off h hh)).1
    · simp at hh; rw [hh]; exact (hnew q hql hqg).1
  · have hz := h2.size
    rcases List.mem_append.1 hh with hh | hh
    · exact ⟨(low h hh).1, Nat.lt_of_lt_of_le (low h hh).2 hz⟩
    · simp at hh; rw [hh]; exact ⟨hq, Nat.lt_of_lt_of_le hql hz⟩
  · simp only [List.length_append, List.length_singleton] at hi1 hi2
    by_cases e : i < l.length
    · have h1 := its i e (by omega)
      have hm : hs[i] ∈ hs := List.getElem_mem (by omega)
      have hn := (hnew hs[i] (low _ hm).2 (off _ hm)).2
      rw [List.getElem_append_left (by omega), List.getElem_append_left e]
      exact ⟨h1.1.block hn, h1.2.block hn⟩
    · have e' : i = l.length := by omega
      subst e'
      have e1 : (hs ++ [q])[l.length] = q := by rw [List.getElem_append_right (by omega)]; simp [len]
      have e2 : (l ++ [y])[l.length] = y := by rw [List.getElem_append_right (by omega)]; simp
      rw [e1, e2]
      exact ⟨hi.block (hnew q hql hqg).2, hoo.block (hnew q hql hqg).2⟩
/-- 'append' of one vote onto a row of the call's own. -/
theorem wpList_vote {ops : Array Oper} {rest : List Oper} {o : Oper} {a : Act} {Q : Exit → Act → World → Prop} {w : World} (hgd : o.guard = none) (s x : Operand)
    (ho : o.op = .call { callee := .builtin .append, args := #[s, x], argTypes := #[35, 35] })
    (base : Nat) (v : Value) (hs : List Nat) (l : List Vt) (hse : a.eval s = v) (hown : VOwn w base v hs l)
    (ad : Addr) (c : Nat) (hx : a.eval x = .slice (some ad) 1 c) (y : Vt) (q cq : Nat) (hc : ∀ j u, ([.int .i64 y.n, .slice (some ⟨q, 0, none⟩) y.c.length cq] : List Value)[j]? = some u → w.cell? (ad.add j) = some u)
    (hq : base ≤ q) (hql : q < w.heap.size) (hqn : q ∉ hs) (hqg : v.ownBlock ≠ some q) (hi : Its w (some ⟨q, 0, none⟩) y.c) (hoo : Own w q y.c.length) (hcp : y.c.length ≤ cq) (hn : l.length + 1 ≤ 1048577) (hbase : base ≤ w.heap.size)
    (h : ∀ v' w', VOwn w' base v' (hs ++ [q]) (l ++ [y]) → w.grownBy w' v.ownBlock → wpList Try.prog ops Q rest (a.put o.dst v') w') : wpList Try.prog ops Q (o :: rest) a w := by
  obtain ⟨i, hi0, hz0, hz1, hz2⟩ := info_parts vote_info
  obtain ⟨cs, row, hgrow⟩ := hown.grow y q cq hq hql hqn hqg hi hoo hcp
  refine wpList_append_own_at w hgd s x 35 ho base 45 i _ 2 32 Try.underlying35 hi0 hz0 hz1 hz2 rfl (by omega) v l.length cs hse row ad 1 c [.int .i64 y.n, .slice (some ⟨q, 0, none⟩) y.c.length cq] hx rfl hc (by simp [Value.oneCell']) (by unfold maxLen; omega) (by omega) hbase ?_
  intro v' w' h1 h2 h3 h4
  exact h v' w' (hgrow v' w' h1 (fun e => by have := (h3.1 e).2; omega) h2 h4) h2
/-- .. inside a region that draws its order. -/
theorem step_vote {ops : Array Oper} {o : Oper} {a : Act} {w : World} {K : Act → World → Prop} {Q : Exit → Act → World → Prop} {E : Prop} (hgd : o.guard = none) (s x : Operand)
    (ho : o.op = .call { callee := .builtin .append, args := #[s, x], argTypes := #[35, 35] })
    (base : Nat) (v : Value) (hs : List Nat) (l : List Vt) (hse : a.eval s = v) (hown : VOwn w base v hs l)
    (ad : Addr) (c : Nat) (hx : a.eval x = .slice (some ad) 1 c) (y : Vt) (q cq : Nat) (hc : ∀ j u, ([.int .i64 y.n, .slice (some ⟨q, 0, none⟩) y.c.length cq] : List Value)[j]? = some u → w.cell? (ad.add j) = some u)
    (hq : base ≤ q) (hql : q < w.heap.size) (hqn : q ∉ hs) (hqg : v.ownBlock ≠ some q) (hi : Its w (some ⟨q, 0, none⟩) y.c) (hoo : Own w q y.c.length) (hcp : y.c.length ≤ cq) (hn : l.length + 1 ≤ 1048577) (hbase : base ≤ w.heap.size)
    (h : ∀ v' w', VOwn w' base v' (hs ++ [q]) (l ++ [y]) → w.grownBy w' v.ownBlock → K (a.put o.dst v') w') :
    if Region.wanted o (yielded ops a.tmps) = true then Oper.wp Try.prog o a w K Q else E := by
  obtain ⟨i, hi0, hz0, hz1, hz2⟩ := info_parts vote_info
  obtain ⟨cs, row, hgrow⟩ := hown.grow y q cq hq hql hqn hqg hi hoo hcp
  refine step_append_lies w hgd s x 35 ho base 45 i _ 2 32 Try.underlying35 hi0 hz0 hz1 hz2 rfl (by omega) v l.length cs hse row ad 1 c [.int .i64 y.n, .slice (some ⟨q, 0, none⟩) y.c.length cq] hx rfl hc (by simp [Value.oneCell']) (by omega) (by unfold maxLen; omega) (by omega) hbase _ rfl ?_
  intro g cap w' h1 h2 h3 h4
  refine h _ w' (hgrow _ w' h1 (fun e => by simp at e) h2 ?_) h2
  rcases h3 with h3 | h3
  · exact .inl h3.symm
  · exact .inr (by rw [h3]; rfl)

/-- A row of votes that the call may append to; the chains lie where they lie, in no row that is appended to. -/
structure VRow (w : World) (base : Nat) (v : Value) (l : List Vt) : Prop where
  nz : v ≠ .slice none 0 0
  row : ∃ cs, w.ownsRow base 45 2 v l.length cs ∧ ∀ i (h : i < l.length), ∃ a cap, cs[i * 2]? = some (.int .i64 l[i].n) ∧ cs[i * 2 + 1]? = some (.slice a l[i].c.length cap) ∧ Its w a l[i].c ∧ (∀ x, a = some x → x.off = 0 ∧ x.spot = none ∧ base ≤ x.block ∧ x.block < w.heap.size ∧ v.ownBlock ≠ some x.block) ∧ l[i].c.length ≤ cap
theorem Its.block' {w w' : World} {a : Option Addr} {l : List It} (h : Its w a l) (e : ∀ x, a = some x → w'.heap[x.block]? = w.heap[x.block]?) : Its w' a l := by
  rcases h with h | ⟨b, off, rfl, h⟩
  · exact .inl h
  · exact Its.block (.inr ⟨b, off, rfl, h⟩) (e _ rfl)
theorem VRow.kept {w w' : World} {base : Nat} {v : Value} {l : List Vt} (h : VRow w base v l) (hz : w.heap.size ≤ w'.heap.size) (e : ∀ g, base ≤ g → g < w.heap.size → w'.heap[g]? = w.heap[g]?) : VRow w' base v l := by
  obtain ⟨nz, cs, row, hc⟩ := h
  refine ⟨nz, cs, ownsRow_block row (fun g hg => by obtain ⟨h1, h2⟩ := row.lt g hg; exact e g h1 h2), fun i hi => ?_⟩
  obtain ⟨a, cap, h1, h2, h3, h4, h5⟩ := hc i hi
  exact ⟨a, cap, h1, h2, h3.block' (fun x hx => e _ (h4 x hx).2.2.1 (h4 x hx).2.2.2.1), fun x hx => ⟨(h4 x hx).1, (h4 x hx).2.1, (h4 x hx).2.2.1, Nat.lt_of_lt_of_le (h4 x hx).2.2.2.1 hz, (h4 x hx).2.2.2.2⟩, h5⟩
theorem VRow.grew {w w' : World} {base : Nat} {v : Value} {l : List Vt} (h : VRow w base v l) (g : Grew w w') : VRow w' base v l := h.kept g.size fun b _ hb => g.below.block b hb
theorem VRow.ran {w w' : World} {R base : Nat} {v : Value} {l : List Vt} (h : VRow w base v l) (g : Ran R w w') (hR : R < base) : VRow w' base v l := h.kept g.size fun b h1 h2 => g.keep b h2 (by omega)
theorem VRow.shape {w : World} {base : Nat} {v : Value} {l : List Vt} (h : VRow w base v l) : ∃ g cap, v = .slice (some ⟨g, 0, none⟩) l.length cap ∧ l.length ≤ cap ∧ base ≤ g ∧ g < w.heap.size ∧ Vts w (some ⟨g, 0, none⟩) l := by
  obtain ⟨cs, row, hc⟩ := h.row
  rcases row.2 with ⟨hv, hn⟩ | ⟨g, cap, cur, hv, hb, hg, hnc, _⟩
  · exact absurd hv h.nz
  · refine ⟨g, cap, hv, hnc, hb, (Array.getElem?_eq_some_iff.1 hg).1, .inr ⟨g, 0, rfl, fun i hi => ?_⟩⟩
    subst hv
    obtain ⟨a, c, h1, h2, h3, _⟩ := hc i hi
    rw [Nat.zero_add]
    exact ⟨by rw [row.cellAt (i * 2) (by omega)]; exact h1, a, c, by rw [row.cellAt (i * 2 + 1) (by omega)]; exact h2, h3⟩
theorem VRow.room {w : World} {base g cap : Nat} {l : List Vt} (h : VRow w base (.slice (some ⟨g, 0, none⟩) l.length cap) l) : ∀ b off, (some ⟨g, 0, none⟩ : Option Addr) = some ⟨b, off, none⟩ → ∀ i, i < l.length → ∀ u n cp, w.cell? ⟨b, off + i * 2 + 1, none⟩ = some (.slice u n cp) → n ≤ cp := by
  intro b off e i hi u n cp hc
  simp only [Option.some.injEq, Addr.mk.injEq, and_true] at e
  obtain ⟨rfl, rfl⟩ := e
  obtain ⟨cs, row, hcs⟩ := h.row
  obtain ⟨a, c, _, h2, _, _, h5⟩ := hcs i hi
  rw [Nat.zero_add, row.cellAt (i * 2 + 1) (by omega), h2] at hc
  simp only [Option.some.injEq, Value.slice.injEq] at hc
  obtain ⟨_, rfl, rfl⟩ := hc
  exact h5
theorem VRow.block {w : World} {base : Nat} {v : Value} {l : List Vt} (h : VRow w base v l) : ∀ k, v.ownBlock = some k → base ≤ k ∧ k < w.heap.size := by
  obtain ⟨cs, row, _⟩ := h.row; exact row.lt
theorem VRow.vtsV {w : World} {base : Nat} {v : Value} {l : List Vt} (h : VRow w base v l) : VtsV w v l := by
  obtain ⟨g, cap, rfl, h1, _, _, h2⟩ := h.shape; exact ⟨_, cap, rfl, h1, h2⟩
theorem VRow.empty {w : World} {base : Nat} (hb : base ≤ w.heap.size) : VRow (w.alloc (.cells #[] 45)) base (.slice (some ⟨w.heap.size, 0, none⟩) 0 0) [] :=
  ⟨(fun e => by simp at e), _, World.ownsRow_lit w #[] 0 hb (by unfold maxLen; omega) rfl, fun i h => absurd h (Nat.not_lt_zero _)⟩
theorem VRow.grow {w : World} {base : Nat} {v : Value} {l : List Vt} (hown : VRow w base v l) (y : Vt) (ay : Option Addr) (cq : Nat) (hi : Its w ay y.c) (ha : ∀ x, ay = some x → x.off = 0 ∧ x.spot = none ∧ base ≤ x.block ∧ x.block < w.heap.size ∧ v.ownBlock ≠ some x.block) (hcp : y.c.length ≤ cq) :
    ∃ cs, w.ownsRow base 45 2 v l.length cs ∧ ∀ v' w', w'.ownsRow base 45 2 v' (l.length + 1) (cs ++ [.int .i64 y.n, .slice ay y.c.length cq]) → v' ≠ .slice none 0 0 → w.grownBy w' v.ownBlock →
      (v'.ownBlock = v.ownBlock ∨ v'.ownBlock = some w.heap.size) → VRow w' base v' (l ++ [y]) := by
  obtain ⟨nz, cs, row, hcs⟩ := hown
  have hcl : cs.length = l.length * 2 := row.1
  refine ⟨cs, row, fun v' w' h1 h3 h2 h4 => ?_⟩
  have hnew : ∀ g, g < w.heap.size → v.ownBlock ≠ some g → v'.ownBlock ≠ some g ∧ w'.heap[g]? = w.heap[g]? := fun g hg hne => by
    refine ⟨fun e => ?_, h2.block g hg (fun e => hne e.symm)⟩
    rcases h4 with h4 | h4
    · exact hne (h4.symm.trans e)
    · rw [h4] at e; have := Option.some.inj e; omega
  have hat : ∀ (a : Option Addr) (m : List It), Its w a m → (∀ x, a = some x → x.off = 0 ∧ x.spot = none ∧ base ≤ x.block ∧ x.block < w.heap.size ∧ v.ownBlock ≠ some x.block) → Its w' a m ∧ (∀ x, a = some x → x.off = 0 ∧ x.spot = none ∧ base ≤ x.block ∧ x.block < w'.heap.size ∧ v'.ownBlock ≠ some x.block) := fun a m k1 k2 =>
    ⟨k1.block' (fun x hx => (hnew _ (k2 x hx).2.2.2.1 (k2 x hx).2.2.2.2).2), fun x hx => ⟨(k2 x hx).1, (k2 x hx).2.1, (k2 x hx).2.2.1, Nat.lt_of_lt_of_le (k2 x hx).2.2.2.1 h2.size, (hnew _ (k2 x hx).2.2.2.1 (k2 x hx).2.2.2.2).1⟩⟩
  refine ⟨h3, _, (by rw [List.length_append]; exact h1), fun i hi1 => ?_⟩
  simp only [List.length_append, List.length_singleton] at hi1
  by_cases e : i < l.length
  · obtain ⟨a, cap, k1, k2, k3, k4, k5⟩ := hcs i e
    obtain ⟨m1, m2⟩ := hat a _ k3 k4
    refine ⟨a, cap, ?_, ?_, ?_, m2, ?_⟩
    · rw [List.getElem?_append_left (by omega), List.getElem_append_left e]; exact k1
    · rw [List.getElem?_append_left (by omega), List.getElem_append_left e]; exact k2
    · rw [List.getElem_append_left e]; exact m1
    · rw [List.getElem_append_left e]; exact k5
  · have e' : i = l.length := by omega
    subst e'
    have e2 : (l ++ [y])[l.length] = y := by rw [List.getElem_append_right (by omega)]; simp
    obtain ⟨m1, m2⟩ := hat ay _ hi ha
    refine ⟨ay, cq, ?_, ?_, ?_, m2, ?_⟩
    · rw [e2, List.getElem?_append_right (by omega), hcl]; simp
    · rw [e2, List.getElem?_append_right (by omega), hcl]; simp [show l.length * 2 + 1 - l.length * 2 = 1 by omega]
    · rw [e2]; exact m1
    · rw [e2]; exact hcp
/-- 'append' of one vote. -/
theorem wpList_vrow {ops : Array Oper} {rest : List Oper} {o : Oper} {a : Act} {Q : Exit → Act → World → Prop} {w : World} (hgd : o.guard = none) (s x : Operand)
    (ho : o.op = .call { callee := .builtin .append, args := #[s, x], argTypes := #[35, 35] })
    (base : Nat) (v : Value) (l : List Vt) (hse : a.eval s = v) (hown : VRow w base v l)
    (ad : Addr) (c : Nat) (hx : a.eval x = .slice (some ad) 1 c) (y : Vt) (ay : Option Addr) (cq : Nat) (hc : ∀ j u, ([.int .i64 y.n, .slice ay y.c.length cq] : List Value)[j]? = some u → w.cell? (ad.add j) = some u)
    (hi : Its w ay y.c) (ha : ∀ x, ay = some x → x.off = 0 ∧ x.spot = none ∧ base ≤ x.block ∧ x.block < w.heap.size ∧ v.ownBlock ≠ some x.block) (hcp : y.c.length ≤ cq) (hn : l.length + 1 ≤ 1048577) (hbase : base ≤ w.heap.size)
    (h : ∀ v' w', VRow w' base v' (l ++ [y]) → w.grownBy w' v.ownBlock → (v'.ownBlock = v.ownBlock ∨ v'.ownBlock = some w.heap.size) → wpList Try.prog ops Q rest (a.put o.dst v') w') : wpList Try.prog ops Q (o :: rest) a w := by
  obtain ⟨i, hi0, hz0, hz1, hz2⟩ := info_parts vote_info
  obtain ⟨cs, row, hgrow⟩ := hown.grow y ay cq hi ha hcp
  refine wpList_append_own_at w hgd s x 35 ho base 45 i _ 2 32 Try.underlying35 hi0 hz0 hz1 hz2 rfl (by omega) v l.length cs hse row ad 1 c [.int .i64 y.n, .slice ay y.c.length cq] hx rfl hc (by simp [Value.oneCell']) (by unfold maxLen; omega) (by omega) hbase ?_
  intro v' w' h1 h2 h3 h4
  exact h v' w' (hgrow v' w' h1 (fun e => by have := (h3.1 e).2; omega) h2 h4) h2 h4
end Go.Proofs.Ytjbnohepbmejkaa
