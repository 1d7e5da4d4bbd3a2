/-
  Certs that are drawn: of whatever content; rows of rows of numbers that the call may append to and write into.
-/
import Derived.Test.YteemihgakcmamaaCerS2
import Derived.Test.YteemihgakcmamaaVDraw34
import Derived.Test.YteemihgakcmamaaTDrawA
namespace Go.Proofs.Yteemihgakcmamaa
set_option linter.unusedVariables false
open Go.RowKit
attribute [local simp] far_const

theorem Ints.block' {w w' : World} {a : Option Addr} {l : List Int} (h : Ints w a l) (e : ∀ x, a = some x → w'.heap[x.block]? = w.heap[x.block]?) : Ints w' a l := by
  rcases h with h | ⟨b, off, rfl, h⟩
  · exact .inl h
  · exact .inr ⟨b, off, rfl, fun i hi => by rw [World.cell?_of_block (w := w) (a := ⟨b, off + i, none⟩) (e ⟨b, off, none⟩ rfl)]; exact h i hi⟩
/-- Rows of numbers, each with room, one behind the other. -/
def IntsR (w : World) (a : Option Addr) (ls : List (List Int)) : Prop := ls = [] ∨ ∃ b off, a = some ⟨b, off, none⟩ ∧ ∀ i (h : i < ls.length), ∃ ai ci, w.cell? ⟨b, off + i, none⟩ = some (.slice ai ls[i].length ci) ∧ ls[i].length ≤ ci ∧ Ints w ai ls[i]
theorem IntsR.ints {w : World} {a : Option Addr} {ls : List (List Int)} (h : IntsR w a ls) : IntsS w a ls := by
  rcases h with h | ⟨b, off, h1, h2⟩
  · exact .inl h
  · exact .inr ⟨b, off, h1, fun i hi => by obtain ⟨ai, ci, h3, _, h4⟩ := h2 i hi; exact ⟨ai, ci, h3, h4⟩⟩
theorem IntsR.grew {w w' : World} {a : Option Addr} {ls : List (List Int)} (h : IntsR w a ls) (g : Grew w w') : IntsR w' a ls := by
  rcases h with h | ⟨b, off, h1, h2⟩
  · exact .inl h
  · exact .inr ⟨b, off, h1, fun i hi => by obtain ⟨ai, ci, h3, h5, h4⟩ := h2 i hi; exact ⟨ai, ci, g.keep h3, h5, h4.grew g⟩⟩
theorem IntsR.at {w : World} {a : Option Addr} {ls : List (List Int)} (h : IntsR w a ls) {i : Nat} (hi : i < ls.length) : ∃ b off ai ci, a = some ⟨b, off, none⟩ ∧ w.cell? ⟨b, off + i, none⟩ = some (.slice ai ls[i].length ci) ∧ ls[i].length ≤ ci ∧ Ints w ai ls[i] := by
  rcases h with h | ⟨b, off, ha, h⟩
  · subst h; exact absurd hi (Nat.not_lt_zero _)
  · obtain ⟨ai, ci, h1, h2, h3⟩ := h i hi; exact ⟨b, off, ai, ci, ha, h1, h2, h3⟩
/-- A cert whose parts have room. -/
def CtR (w : World) (u v : Value) (x : Ct) : Prop := ∃ a cap b capb, u = .slice a x.c.length cap ∧ v = .slice b x.b.length capb ∧ x.c.length ≤ cap ∧ x.b.length ≤ capb ∧ Its w a x.c ∧ IntsR w b x.b
theorem CtR.ctV {w : World} {u v : Value} {x : Ct} (h : CtR w u v x) : CtV w (.agg #[u, v]) x := by
  obtain ⟨a, cap, b, capb, rfl, rfl, h1, _, h2, h3⟩ := h
  exact ⟨a, cap, b, capb, rfl, h1, h2, h3.ints⟩
theorem CtR.grew {w w' : World} {u v : Value} {x : Ct} (h : CtR w u v x) (g : Grew w w') : CtR w' u v x := by
  obtain ⟨a, cap, b, capb, h1, h2, h3, h4, h5, h6⟩ := h
  exact ⟨a, cap, b, capb, h1, h2, h3, h4, h5.grew g, h6.grew g⟩
/-- A row of rows of numbers that the call owns; the rows lie where they lie; none of it in block B. -/
def IRow (w : World) (base B : Nat) (v : Value) (ls : List (List Int)) : Prop := v.ownBlock ≠ some B ∧ ∃ vs, w.ownsRow base 47 1 v ls.length vs ∧ ∀ i (h : i < ls.length), ∃ ai ci, vs[i]? = some (.slice ai ls[i].length ci) ∧ ls[i].length ≤ ci ∧ Ints w ai ls[i] ∧ (∀ x, ai = some x → base ≤ x.block ∧ x.block < w.heap.size ∧ x.block ≠ B ∧ v.ownBlock ≠ some x.block)
theorem IRow.kept {w w' : World} {base B : Nat} {v : Value} {ls : List (List Int)} (h : IRow w base B v ls) (hz : w.heap.size ≤ w'.heap.size) (e : ∀ g, base ≤ g → g < w.heap.size → g ≠ B → w'.heap[g]? = w.heap[g]?) : IRow w' base B v ls := by
  obtain ⟨hB, vs, row, hc⟩ := h
  refine ⟨hB, vs, ownsRow_block row (fun g hg => by obtain ⟨h1, h2⟩ := row.lt g hg; exact e g h1 h2 (fun e2 => hB (by rw [hg, e2]))), fun i hi => ?_⟩
  obtain ⟨ai, ci, h1, h2, h3, h4⟩ := hc i hi
  exact ⟨ai, ci, h1, h2, h3.block' (fun x hx => e _ (h4 x hx).1 (h4 x hx).2.1 (h4 x hx).2.2.1), fun x hx => ⟨(h4 x hx).1, Nat.lt_of_lt_of_le (h4 x hx).2.1 hz, (h4 x hx).2.2⟩⟩
theorem IRow.grew {w w' : World} {base B : Nat} {v : Value} {ls : List (List Int)} (h : IRow w base B v ls) (g : Grew w w') : IRow w' base B v ls := h.kept g.size fun b _ hb _ => g.below.block b hb
theorem IRow.block {w : World} {base B : Nat} {v : Value} {ls : List (List Int)} (h : IRow w base B v ls) : ∀ k, v.ownBlock = some k → base ≤ k ∧ k < w.heap.size := by
  obtain ⟨_, vs, row, _⟩ := h; exact row.lt
theorem IRow.shape {w : World} {base B : Nat} {v : Value} {ls : List (List Int)} (h : IRow w base B v ls) : (v = .slice none 0 0 ∧ ls = []) ∨ ∃ g cap, v = .slice (some ⟨g, 0, none⟩) ls.length cap ∧ ls.length ≤ cap ∧ base ≤ g ∧ g < w.heap.size ∧ g ≠ B := by
  obtain ⟨hB, vs, row, _⟩ := h
  rcases row.2 with ⟨hv, hn⟩ | ⟨g, cap, cur, hv, hb, hg, hnc, _⟩
  · exact .inl ⟨hv, List.eq_nil_of_length_eq_zero hn⟩
  · exact .inr ⟨g, cap, hv, hnc, hb, (Array.getElem?_eq_some_iff.1 hg).1, fun e => hB (by rw [hv, e]; rfl)⟩
theorem IRow.ctR {w : World} {base B : Nat} {v : Value} {ls : List (List Int)} (h : IRow w base B v ls) : ∃ b capb, v = .slice b ls.length capb ∧ ls.length ≤ capb ∧ IntsR w b ls := by
  rcases h.shape with ⟨rfl, rfl⟩ | ⟨g, cap, rfl, hc, _, _, _⟩
  · exact ⟨none, 0, rfl, Nat.le_refl _, .inl rfl⟩
  · refine ⟨_, cap, rfl, hc, .inr ⟨g, 0, rfl, fun i hi => ?_⟩⟩
    obtain ⟨_, vs, row, hcs⟩ := h
    obtain ⟨ai, ci, h1, h2, h3, _⟩ := hcs i hi
    exact ⟨ai, ci, by rw [Nat.zero_add, row.cellAt i (by omega)]; exact h1, h2, h3⟩
theorem IRow.cells {w : World} {base B g cap n : Nat} {ls : List (List Int)} (h : IRow w base B (.slice (some ⟨g, 0, none⟩) n cap) ls) {j : Nat} (hj : j < ls.length) : (∃ u, w.cell? ⟨g, j, none⟩ = some u) ∧ w.frozen? ⟨g, j, none⟩ = false := by
  obtain ⟨_, vs, row, hc⟩ := h
  have hn : n = ls.length := by
    rcases row.2 with ⟨hv, _⟩ | ⟨_, _, _, hv, _⟩ <;> simp at hv
    exact hv.2.1
  subst hn
  refine ⟨?_, row.frozenAt j⟩
  have hl : j < vs.length := by rw [row.1]; omega
  exact ⟨vs[j], by rw [row.cellAt j (by omega), List.getElem?_eq_getElem hl]⟩
theorem IRow.set {w : World} {base B g cap n : Nat} {ls : List (List Int)} (h : IRow w base B (.slice (some ⟨g, 0, none⟩) n cap) ls) (hn : n = ls.length) {j : Nat} (hj : j < ls.length) (x : List Int) (m : Nat) (hm : x.length = m) (q c : Nat) (hq : base ≤ q) (hql : q < w.heap.size) (hqg : q ≠ g) (hqB : q ≠ B) (hc : m ≤ c) (hi : Ints w (some ⟨q, 0, none⟩) x) :
    IRow (w.setCell ⟨g, j, none⟩ (.slice (some ⟨q, 0, none⟩) m c)) base B (.slice (some ⟨g, 0, none⟩) n cap) (ls.set j x) := by
  subst hn hm
  obtain ⟨hB, vs, row, hcs⟩ := h
  have r1 := (row.stored j (.slice (some ⟨q, 0, none⟩) x.length c)).1
  have hvl : vs.length = ls.length := by rw [row.1]; omega
  have other : ∀ b, b ≠ g → (w.setCell ⟨g, j, none⟩ (.slice (some ⟨q, 0, none⟩) x.length c)).heap[b]? = w.heap[b]? := fun b hb => Below.heap_setCell _ _ _ _ hb
  refine ⟨hB, _, by rw [List.length_set]; exact r1, fun i hi1 => ?_⟩
  rw [List.length_set] at hi1
  rw [List.getElem?_set]
  by_cases e : j = i
  · subst e
    refine ⟨some ⟨q, 0, none⟩, c, ?_, ?_, ?_, ?_⟩
    · rw [if_pos rfl, if_pos (by omega), List.getElem_set, if_pos rfl]
    · rw [List.getElem_set, if_pos rfl]; exact hc
    · rw [List.getElem_set, if_pos rfl]; exact hi.block' (fun y hy => by cases hy; exact other q hqg)
    · intro y hy; cases hy; exact ⟨hq, by simpa [World.setCell] using hql, hqB, fun e => hqg (Option.some.inj e).symm⟩
  · obtain ⟨ai, ci, h1, h2, h3, h4⟩ := hcs i hi1
    refine ⟨ai, ci, ?_, ?_, ?_, ?_⟩
    · rw [if_neg e, List.getElem_set, if_neg e]; exact h1
    · rw [List.getElem_set, if_neg e]; exact h2
    · rw [List.getElem_set, if_neg e]; exact h3.block' (fun y hy => other _ (fun e2 => (h4 y hy).2.2.2 (by rw [e2]; rfl)))
    · intro y hy; exact ⟨(h4 y hy).1, by simpa [World.setCell] using (h4 y hy).2.1, (h4 y hy).2.2⟩
/-- 'append' of one row of numbers. -/
theorem wpList_irow {ops : Array Oper} {rest : List Oper} {o : Oper} {a : Act} {Q : Exit → Act → World → Prop} {w : World} (hgd : o.guard = none) (s x : Operand)
    (ho : o.op = .call { callee := .builtin .append, args := #[s, x], argTypes := #[23, 23] })
    (base B : Nat) (v : Value) (l : List (List Int)) (hse : a.eval s = v) (hown : IRow w base B v l)
    (ad : Addr) (c : Nat) (hx : a.eval x = .slice (some ad) 1 c) (y : List Int) (m : Nat) (hm : y.length = m) (q cq : Nat) (hc : ∀ j u, ([.slice (some ⟨q, 0, none⟩) m cq] : List Value)[j]? = some u → w.cell? (ad.add j) = some u)
    (hq : base ≤ q) (hql : q < w.heap.size) (hqB : q ≠ B) (hqg : v.ownBlock ≠ some q) (hcq : m ≤ cq) (hi : Ints w (some ⟨q, 0, none⟩) y) (hn : l.length + 1 ≤ 1048577) (hbase : base ≤ w.heap.size) (hBl : B < w.heap.size)
    (h : ∀ g cap w', IRow w' base B (.slice (some ⟨g, 0, none⟩) (l.length + 1) cap) (l ++ [y]) → w.grownBy w' v.ownBlock → (v.ownBlock = some g ∨ g = w.heap.size) → wpList Try.prog ops Q rest (a.put o.dst (.slice (some ⟨g, 0, none⟩) (l.length + 1) cap)) w') : wpList Try.prog ops Q (o :: rest) a w := by
  subst hm
  obtain ⟨i, hi0, hz0, hz1, hz2⟩ := info_parts ints_info
  obtain ⟨hB, vs, row, hcs⟩ := hown
  have hvl : vs.length = l.length := by rw [row.1]; omega
  refine wpList_append_own_at w hgd s x 23 ho base 47 i _ 1 24 Try.underlying23 hi0 hz0 hz1 hz2 rfl (by omega) v l.length vs hse row ad 1 c [.slice (some ⟨q, 0, none⟩) y.length cq] hx rfl hc (by simp [Value.oneCell']) (by unfold maxLen; omega) (by omega) hbase ?_
  intro v' w' h1 h2 h3 h4
  have hnew : ∀ b, b < w.heap.size → v.ownBlock ≠ some b → v'.ownBlock ≠ some b ∧ w'.heap[b]? = w.heap[b]? := fun b hb hne => by
    refine ⟨fun e => ?_, h2.block b hb (fun e => hne e.symm)⟩
    rcases h4 with h4 | h4
    · exact hne (h4.symm.trans e)
    · rw [h4] at e; have := Option.some.inj e; omega
  have hrow : IRow w' base B v' (l ++ [y]) := by
    refine ⟨(hnew B hBl hB).1, _, by rw [List.length_append]; exact h1, fun i hi1 => ?_⟩
    simp only [List.length_append, List.length_singleton] at hi1
    by_cases e : i < l.length
    · obtain ⟨ai, ci, k1, k2, k3, k4⟩ := hcs i e
      refine ⟨ai, ci, ?_, ?_, ?_, fun z hz => ⟨(k4 z hz).1, Nat.lt_of_lt_of_le (k4 z hz).2.1 h2.size, (k4 z hz).2.2.1, (hnew _ (k4 z hz).2.1 (k4 z hz).2.2.2).1⟩⟩
      · rw [List.getElem?_append_left (by omega), List.getElem_append_left e]; exact k1
      · rw [List.getElem_append_left e]; exact k2
      · rw [List.getElem_append_left e]; exact k3.block' (fun z hz => (hnew _ (k4 z hz).2.1 (k4 z hz).2.2.2).2)
    · have e' : i = l.length := by omega
      subst e'
      have e2 : (l ++ [y])[l.length] = y := by rw [List.getElem_append_right (by omega)]; simp
      refine ⟨some ⟨q, 0, none⟩, cq, ?_, ?_, ?_, fun z hz => ?_⟩
      · rw [e2, List.getElem?_append_right (by omega)]; simp [hvl]
      · rw [e2]; exact hcq
      · rw [e2]; exact hi.block' (fun z hz => by cases hz; exact (hnew q hql hqg).2)
      · cases hz; exact ⟨hq, Nat.lt_of_lt_of_le hql h2.size, hqB, (hnew q hql hqg).1⟩
  rcases hrow.shape with ⟨_, h0⟩ | ⟨g, cap, rfl, _, _, _, _⟩
  · simp at h0
  · have e3 : (l ++ [y]).length = l.length + 1 := by simp
    rw [e3] at hrow ⊢
    exact h g cap w' hrow h2 (h4.imp (fun e => e.symm) (fun e => Option.some.inj e))
/-- A drawn cert: its parts are the call's own, none of them in block B. -/
def DC (w : World) (base B : Nat) (u v : Value) (x : Ct) : Prop := (∃ a cap, u = .slice a x.c.length cap ∧ x.c.length ≤ cap ∧ Its w a x.c ∧ (∀ y, a = some y → base ≤ y.block ∧ y.block < w.heap.size ∧ y.block ≠ B ∧ v.ownBlock ≠ some y.block)) ∧ IRow w base B v x.b
theorem DC.kept {w w' : World} {base B : Nat} {u v : Value} {x : Ct} (h : DC w base B u v x) (hz : w.heap.size ≤ w'.heap.size) (e : ∀ g, base ≤ g → g < w.heap.size → g ≠ B → w'.heap[g]? = w.heap[g]?) : DC w' base B u v x := by
  obtain ⟨⟨a, cap, h1, h2, h3, h4⟩, h5⟩ := h
  exact ⟨⟨a, cap, h1, h2, h3.block' (fun y hy => e _ (h4 y hy).1 (h4 y hy).2.1 (h4 y hy).2.2.1), fun y hy => ⟨(h4 y hy).1, Nat.lt_of_lt_of_le (h4 y hy).2.1 hz, (h4 y hy).2.2⟩⟩, h5.kept hz e⟩
theorem DC.grew {w w' : World} {base B : Nat} {u v : Value} {x : Ct} (h : DC w base B u v x) (g : Grew w w') : DC w' base B u v x := h.kept g.size fun b _ hb _ => g.below.block b hb
theorem DC.ran {R : Nat} {w w' : World} {base B : Nat} {u v : Value} {x : Ct} (h : DC w base B u v x) (g : Ran R w w') (hR : R < base) : DC w' base B u v x := h.kept g.size fun b h1 h2 _ => g.keep b h2 (by omega)
theorem DC.ctR {w : World} {base B : Nat} {u v : Value} {x : Ct} (h : DC w base B u v x) : CtR w u v x := by
  obtain ⟨⟨a, cap, h1, h2, h3, _⟩, h5⟩ := h
  obtain ⟨b, capb, h6, h7, h8⟩ := h5.ctR
  exact ⟨a, cap, b, capb, h1, h6, h2, h7, h3, h8⟩
theorem DC.by {W W' : World} {base B gn m cn : Nat} {u v : Value} {x : Ct} {ls : List (List Int)} (h : DC W base B u v x) (g : W.grownBy W' v.ownBlock) (hr : IRow W' base B (.slice (some ⟨gn, 0, none⟩) m cn) ls) (hown : v.ownBlock = some gn ∨ gn = W.heap.size) : DC W' base B u (.slice (some ⟨gn, 0, none⟩) m cn) ⟨x.c, ls⟩ := by
  obtain ⟨⟨a, ca, h1, h2, h3, h4⟩, h5⟩ := h
  refine ⟨⟨a, ca, h1, h2, h3.block' (fun y hy => g.block _ (h4 y hy).2.1 (fun e => (h4 y hy).2.2.2 e.symm)), fun y hy => ⟨(h4 y hy).1, Nat.lt_of_lt_of_le (h4 y hy).2.1 g.size, (h4 y hy).2.2.1, fun e => ?_⟩⟩, hr⟩
  have e2 : gn = y.block := Option.some.inj e
  rcases hown with k | k
  · exact (h4 y hy).2.2.2 (by rw [k, e2])
  · have := (h4 y hy).2.1; omega
theorem CSpec.dc {w : World} {base lo B : Nat} {u v : Value} {x : Ct} (h : CSpec w base u v x) (hlo : lo ≤ base) (hB : B < base ∨ w.heap.size ≤ B) : DC w lo B u v x := by
  rcases h with ⟨rfl, rfl, rfl⟩ | ⟨q, cq, hs, rfl, hc, h1, h2, hi, hp⟩
  · exact ⟨⟨none, 0, rfl, Nat.le_refl _, .inl rfl, fun y hy => by cases hy⟩, (fun e => by cases e), [], ⟨rfl, .inl ⟨rfl, rfl⟩⟩, fun i h => absurd h (Nat.not_lt_zero _)⟩
  · obtain ⟨g0, cp0, hv0, _, hg1, hg2⟩ := hp.shape
    refine ⟨⟨_, cq, rfl, hc, hi, fun y hy => by cases hy; exact ⟨by show lo ≤ q; omega, h2, by show q ≠ B; omega, fun e => by rw [hv0] at e; have e2 : g0 = q := Option.some.inj e; omega⟩⟩, ?_⟩
    obtain ⟨nz, ⟨vs, row, hcs⟩, len, le, apart, off, low⟩ := hp
    refine ⟨fun e => ?_, vs, ⟨row.1, ?_⟩, fun i hi => ?_⟩
    · rw [hv0] at e; have e2 : g0 = B := Option.some.inj e; omega
    · rcases row.2 with h0 | ⟨g, cap, cur, hv, hb', hr⟩
      · exact .inl h0
      · exact .inr ⟨g, cap, cur, hv, by omega, hr⟩
    · obtain ⟨cp, k1, k2⟩ := hcs i hi (by omega)
      obtain ⟨g, c2, e, hle, _, _, h7, _⟩ := k2.shape
      cases e
      have hm := List.getElem_mem (show i < hs.length by omega)
      have hl := low _ hm
      exact ⟨_, cp, k1, hle, h7, fun z hz => by cases hz; exact ⟨by show lo ≤ hs[i]; omega, hl.2, by show hs[i] ≠ B; omega, off _ hm⟩⟩
theorem Box2.kept {w w' : World} {b : Nat} {u v : Value} (h : Box2 w b u v) (e : w'.heap[b]? = w.heap[b]?) : Box2 w' b u v :=
  ⟨h.1.kept e, by rw [World.frozen?_of_block (w := w) e]; exact h.2.1, by rw [World.frozen?_of_block (w := w) e]; exact h.2.2⟩
theorem Box2.ran {R : Nat} {w w' : World} {b : Nat} {u v : Value} (h : Box2 w b u v) (g : Ran R w w') (hne : R < b) : Box2 w' b u v := h.kept (g.keep b h.lt (by omega))
theorem Box2.put {w : World} {b : Nat} {u v : Value} (h : Box2 w b u v) (x y : Value) : Box2 ((w.setCell ⟨b, 0, none⟩ x).setCell ⟨b, 1, none⟩ y) b x y := by
  obtain ⟨⟨h0, h1⟩, h2, h3⟩ := h
  refine ⟨⟨?_, ?_⟩, ?_, ?_⟩ <;> simp [go_sem, h0, h1, h2, h3]
theorem Box2.set0 {w : World} {b : Nat} {u v : Value} (h : Box2 w b u v) (x : Value) : Box2 (w.setCell ⟨b, 0, none⟩ x) b x v := by
  obtain ⟨⟨h0, h1⟩, h2, h3⟩ := h
  refine ⟨⟨?_, ?_⟩, ?_, ?_⟩ <;> simp [go_sem, h0, h1, h2, h3]
theorem certL_low {l : List Vt} (h : Low 16 l) : (certL l).1.c.length ≤ 16 := by
  unfold certL
  split
  · show (List.take _ _).length ≤ _
    rw [List.length_take]
    have : (mostF (allS l)).1.length ≤ 16 := by
      rcases (mostF_mem (allS l)).2 with e | e
      · rw [e]; simp
      · rcases (allS_mem.1 e).1 with e2 | ⟨x, hx, e2⟩
        · rw [e2]; simp
        · rw [← e2]; exact h x hx
    omega
  · simp
theorem specCertOf_r {base : Nat} {v : Value} {l : List Vt} (w : World) (h : VRow w base v l) (hs : Short l) (hn : l.length ≤ 1048576) :
    Calls Try.prog 26 #[v] w fun r w' => ∃ u v, r = .returned (.tuple #[.agg #[u, v], .bool (certL l).2]) ∧ CSpec w' w.heap.size u v (certL l).1 ∧ Grew w w' := by
  obtain ⟨g, cap, rfl, hcap, _, _, hv⟩ := h.shape
  exact specCertOf _ cap l w hv hcap h.room hs hn
end Go.Proofs.Yteemihgakcmamaa
