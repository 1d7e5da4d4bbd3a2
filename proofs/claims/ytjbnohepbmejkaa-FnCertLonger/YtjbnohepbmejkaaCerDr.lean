/-
  Texts together: CerD, CerE, CerG.
-/
import Derived.Test.YtjbnohepbmejkaaCerOf
import Derived.Test.YtjbnohepbmejkaaVDrawA
import Derived.Test.YtjbnohepbmejkaaTDrawA
namespace Go.Proofs.Ytjbnohepbmejkaa
set_option linter.unusedVariables false
open Go.RowKit
attribute [local simp] far_const

theorem Ints.block' {w w' : World} {a : Option Addr} {l : List Int} (h : Ints w a l) (e : ∀ x, a = some x → w'.heap[x.block]? = w.heap[x.block]?) : Ints w' a l := by
  rcases h with h | ⟨b, off, rfl, h⟩
  · exact .inl h
  · exact .inr ⟨b, off, rfl, fun i hi => by rw [World.cell?_of_block (w := w) (a := ⟨b, off + i, none⟩) (e ⟨b, off, none⟩ rfl)]; exact h i hi⟩
/-- Rows of numbers, each with room, one behind the other. -/
def IntsR (w : World) (a : Option Addr) (ls : List (List Int)) : Prop := ls = [] ∨ ∃ b off, a = some ⟨b, off, none⟩ ∧ ∀ i (h : i < ls.length), ∃ ai ci, w.cell? ⟨b, off + i, none⟩ = some (.slice ai ls[i].length ci) ∧ ls[i].length ≤ ci ∧ Ints w ai ls[i]
theorem IntsR.ints {w : World} {a : Option Addr} {ls : List (List Int)} (h : IntsR w a ls) : IntsS w a ls := by
  rcases h with h | ⟨b, off, h1, h2⟩
  · exact .inl h
  · exact .inr ⟨b, off, h1, fun i hi => by obtain ⟨ai, ci, h3, _, h4⟩ := h2 i hi; exact ⟨ai, ci, h3, h4⟩⟩
theorem IntsR.grew {w w' : World} {a : Option Addr} {ls : List (List Int)} (h : IntsR w a ls) (g : Grew w w') : IntsR w' a ls := by
  rcases h with h | ⟨b, off, h1, h2⟩
  · exact .inl h
  · exact .inr ⟨b, off, h1, fun i hi => by obtain ⟨ai, ci, h3, h5, h4⟩ := h2 i hi; exact ⟨ai, ci, g.keep h3, h5, h4.grew g⟩⟩
theorem IntsR.at {w : World} {a : Option Addr} {ls : List (List Int)} (h : IntsR w a ls) {i : Nat} (hi : i < ls.length) : ∃ b off ai ci, a = some ⟨b, off, none⟩ ∧ w.cell? ⟨b, off + i, none⟩ = some (.slice ai ls[i].length ci) ∧ ls[i].length ≤ ci ∧ Ints w ai ls[i] := by
  rcases h with h | ⟨b, off, ha, h⟩
  · subst h; exact absurd hi (Nat.not_lt_zero _)
  · obtain ⟨ai, ci, h1, h2, h3⟩ := h i hi; exact ⟨b, off, ai, ci, ha, h1, h2, h3⟩
/-- A cert whose parts have room. -/
def CtR (w : World) (u v : Value) (x : Ct) : Prop := ∃ a cap b capb, u = .slice a x.c.length cap ∧ v = .slice b x.b.length capb ∧ x.c.length ≤ cap ∧ x.b.length ≤ capb ∧ Its w a x.c ∧ IntsR w b x.b
theorem CtR.ctV {w : World} {u v : Value} {x : Ct} (h : CtR w u v x) : CtV w (.agg #[u, v]) x := by
  obtain ⟨a, cap, b, capb, rfl, rfl, h1, _, h2, h3⟩ := h
  exact ⟨a, cap, b, capb, rfl, h1, h2, h3.ints⟩
theorem CtR.grew {w w' : World} {u v : Value} {x : Ct} (h : CtR w u v x) (g : Grew w w') : CtR w' u v x := by
  obtain ⟨a, cap, b, capb, h1, h2, h3, h4, h5, h6⟩ := h
  exact ⟨a, cap, b, capb, h1, h2, h3, h4, h5.grew g, h6.grew g⟩
/-- A row of rows of numbers that the call owns; the rows lie where they lie; none of it in block B. -/
def IRow (w : World) (base B : Nat) (v : Value) (ls : List (List Int)) : Prop := v.ownBlock ≠ some B ∧ ∃ vs, w.ownsRow base 29 1 v ls.length vs ∧ ∀ i (h : i < ls.length), ∃ ai ci, vs[i]? = some (.slice ai ls[i].length ci) ∧ ls[i].length ≤ ci ∧ Ints w ai ls[i] ∧ (∀ x, ai = some x → base ≤ x.block ∧ x.block < w.heap.size ∧ x.block ≠ B ∧ v.ownBlock ≠ some x.block)
theorem IRow.kept {w w' : World} {base B : Nat} {v : Value} {ls : List (List Int)} (h : IRow w base B v ls) (hz : w.heap.size ≤ w'.heap.size) (e : ∀ g, base ≤ g → g < w.heap.size → g ≠ B → w'.heap[g]? = w.heap[g]?) : IRow w' base B v ls := by
  obtain ⟨hB, vs, row, hc⟩ := h
  refine ⟨hB, vs, ownsRow_block row (fun g hg => by obtain ⟨h1, h2⟩ := row.lt g hg; exact e g h1 h2 (fun e2 => hB (by rw [hg, e2]))), fun i hi => ?_⟩
  obtain ⟨ai, ci, h1, h2, h3, h4⟩ := hc i hi
  exact ⟨ai, ci, h1, h2, h3.block' (fun x hx => e _ (h4 x hx).1 (h4 x hx).2.1 (h4 x hx).2.2.1), fun x hx => ⟨(h4 x hx).1, Nat.lt_of_lt_of_le (h4 x hx).2.1 hz, (h4 x hx).2.2⟩⟩
theorem IRow.grew {w w' : World} {base B : Nat} {v : Value} {ls : List (List Int)} (h : IRow w base B v ls) (g : Grew w w') : IRow w' base B v ls := h.kept g.size fun b _ hb _ => g.below.block b hb
theorem IRow.block {w : World} {base B : Nat} {v : Value} {ls : List (List Int)} (h : IRow w base B v ls) : ∀ k, v.ownBlock = some k → base ≤ k ∧ k < w.heap.size := by
  obtain ⟨_, vs, row, _⟩ := h; exact row.lt
theorem IRow.shape {w : World} {base B : Nat} {v : Value} {ls : List (List Int)} (h : IRow w base B v ls) : (v = .slice none 0 0 ∧ ls = []) ∨ ∃ g cap, v = .slice (some ⟨g, 0, none⟩) ls.length cap ∧ ls.length ≤ cap ∧ base ≤ g ∧ g < w.heap.size ∧ g ≠ B := by
  obtain ⟨hB, vs, row, _⟩ := h
  rcases row.2 with ⟨hv, hn⟩ | ⟨g, cap, cur, hv, hb, hg, hnc, _⟩
  · exact .inl ⟨hv, List.eq_nil_of_length_eq_zero hn⟩
  · exact .inr ⟨g, cap, hv, hnc, hb, (Array.getElem?_eq_some_iff.1 hg).1, fun e => hB (by rw [hv, e]; rfl)⟩
theorem IRow.ctR {w : World} {base B : Nat} {v : Value} {ls : List (List Int)} (h : IRow w base B v ls) : ∃ b capb, v = .slice b ls.length capb ∧ ls.length ≤ capb ∧ IntsR w b ls := by
  rcases h.shape with ⟨rfl, rfl⟩ | ⟨g, cap, rfl, hc, _, _, _⟩
  · exact ⟨none, 0, rfl, Nat.le_refl _, .inl rfl⟩
  · refine ⟨_, cap, rfl, hc, .inr ⟨g, 0, rfl, fun i hi => ?_⟩⟩
    obtain ⟨_, vs, row, hcs⟩ := h
    obtain ⟨ai, ci, h1, h2, h3, _⟩ := hcs i hi
    exact ⟨ai, ci, by rw [Nat.zero_add, row.cellAt i (by omega)]; exact h1, h2, h3⟩
theorem IRow.cells {w : World} {base B g cap n : Nat} {ls : List (List Int)} (h : IRow w base B (.slice (some ⟨g, 0, none⟩) n cap) ls) {j : Nat} (hj : j < ls.length) : (∃ u, w.cell? ⟨g, j, none⟩ = some u) ∧ w.frozen? ⟨g, j, none⟩ = false := by
  obtain ⟨_, vs, row, hc⟩ := h
  have hn : n = ls.length := by
    rcases row.2 with ⟨hv, _⟩ | ⟨_, _, _, hv, _⟩ <;> simp at hv
    exact hv.2.1
  subst hn
  refine ⟨?_, row.frozenAt j⟩
  have hl : j < vs.length := by rw [row.1]; omega
  exact ⟨vs[j], by rw [row.cellAt j (by omega), List.getElem?_eq_getElem hl]⟩
theorem IRow.set {w : World} {base B g cap n : Nat} {ls : List (List Int)} (h : IRow w base B (.slice (some ⟨g, 0, none⟩) n cap) ls) (hn : n = ls.length) {j : Nat} (hj : j < ls.length) (x : List Int) (m : Nat) (hm : x.length = m) (q c : Nat) (hq : base ≤ q) (hql : q < w.heap.size) (hqg : q ≠ g) (hqB : q ≠ B) (hc : m ≤ c) (hi : Ints w (some ⟨q, 0, none⟩) x) :
    IRow (w.setCell ⟨g, j, none⟩ (.slice (some ⟨q, 0, none⟩) m c)) base B (.slice (some ⟨g, 0, none⟩) n cap) (ls.set j x) := by
  subst hn hm
  obtain ⟨hB, vs, row, hcs⟩ := h
  have r1 := (row.stored j (.slice (some ⟨q, 0, none⟩) x.length c)).1
  have hvl : vs.length = ls.length := by rw [row.1]; omega
  have other : ∀ b, b ≠ g → (w.setCell ⟨g, j, none⟩ (.slice (some ⟨q, 0, none⟩) x.length c)).heap[b]? = w.heap[b]? := fun b hb => Below.heap_setCell _ _ _ _ hb
  refine ⟨hB, _, by rw [List.length_set]; exact r1, fun i hi1 => ?_⟩
  rw [List.length_set] at hi1
  rw [List.getElem?_set]
  by_cases e : j = i
  · subst e
    refine ⟨some ⟨q, 0, none⟩, c, ?_, ?_, ?_, ?_⟩
    · rw [if_pos rfl, if_pos (by omega), List.getElem_set, if_pos rfl]
    · rw [List.getElem_set, if_pos rfl]; exact hc
    · rw [List.getElem_set, if_pos rfl]; exact hi.block' (fun y hy => by cases hy; exact other q hqg)
    · intro y hy; cases hy; exact ⟨hq, by simpa [World.setCell] using hql, hqB, fun e => hqg (Option.some.inj e).symm⟩
  · obtain ⟨ai, ci, h1, h2, h3, h4⟩ := hcs i hi1
    refine ⟨ai, ci, ?_, ?_, ?_, ?_⟩
    · rw [if_neg e, List.getElem_set, if_neg e]; exact h1
    · rw [List.getElem_set, if_neg e]; exact h2
    · rw [List.getElem_set, if_neg e]; exact h3.block' (fun y hy => other _ (fun e2 => (h4 y hy).2.2.2 (by rw [e2]; rfl)))
    · intro y hy; exact ⟨(h4 y hy).1, by simpa [World.setCell] using (h4 y hy).2.1, (h4 y hy).2.2⟩
/-- 'append' of one row of numbers. -/
theorem wpList_irow {ops : Array Oper} {rest : List Oper} {o : Oper} {a : Act} {Q : Exit → Act → World → Prop} {w : World} (hgd : o.guard = none) (s x : Operand)
    (ho : o.op = .call { callee := .builtin .append, args := #[s, x], argTypes := #[24, 24] })
    (base B : Nat) (v : Value) (l : List (List Int)) (hse : a.eval s = v) (hown : IRow w base B v l)
    (ad : Addr) (c : Nat) (hx : a.eval x = .slice (some ad) 1 c) (y : List Int) (m : Nat) (hm : y.length = m) (q cq : Nat) (hc : ∀ j u, ([.slice (some ⟨q, 0, none⟩) m cq] : List Value)[j]? = some u → w.cell? (ad.add j) = some u)
    (hq : base ≤ q) (hql : q < w.heap.size) (hqB : q ≠ B) (hqg : v.ownBlock ≠ some q) (hcq : m ≤ cq) (hi : Ints w (some ⟨q, 0, none⟩) y) (hn : l.length + 1 ≤ 1048577) (hbase : base ≤ w.heap.size) (hBl : B < w.heap.size)
    (h : ∀ g cap w', IRow w' base B (.slice (some ⟨g, 0, none⟩) (l.length + 1) cap) (l ++ [y]) → w.grownBy w' v.ownBlock → (v.ownBlock = some g ∨ g = w.heap.size) → wpList Try.prog ops Q rest (a.put o.dst (.slice (some ⟨g, 0, none⟩) (l.length + 1) cap)) w') : wpList Try.prog ops Q (o :: rest) a w := by
  subst hm
  obtain ⟨i, hi0, hz0, hz1, hz2⟩ := info_parts ints_info
  obtain ⟨hB, vs, row, hcs⟩ := hown
  have hvl : vs.length = l.length := by rw [row.1]; omega
  refine wpList_append_own_at w hgd s x 24 ho base 29 i _ 1 24 Try.underlying24 hi0 hz0 hz1 hz2 rfl (by omega) v l.length vs hse row ad 1 c [.slice (some ⟨q, 0, none⟩) y.length cq] hx rfl hc (by simp [Value.oneCell']) (by unfold maxLen; omega) (by omega) hbase ?_
  intro v' w' h1 h2 h3 h4
  have hnew : ∀ b, b < w.heap.size → v.ownBlock ≠ some b → v'.ownBlock ≠ some b ∧ w'.heap[b]? = w.heap[b]? := fun b hb hne => by
    refine ⟨fun e => ?_, h2.block b hb (fun e => hne e.symm)⟩
    rcases h4 with h4 | h4
    · exact hne (h4.symm.trans e)
    · rw [h4] at e; have := Option.some.inj e; omega
  have hrow : IRow w' base B v' (l ++ [y]) := by
    refine ⟨(hnew B hBl hB).1, _, by rw [List.length_append]; exact h1, fun i hi1 => ?_⟩
    simp only [List.length_append, List.length_singleton] at hi1
    by_cases e : i < l.length
    · obtain ⟨ai, ci, k1, k2, k3, k4⟩ := hcs i e
      refine ⟨ai, ci, ?_, ?_, ?_, fun z hz => ⟨(k4 z hz).1, Nat.lt_of_lt_of_le (k4 z hz).2.1 h2.size, (k4 z hz).2.2.1, (hnew _ (k4 z hz).2.1 (k4 z hz).2.2.2).1⟩⟩
      · rw [List.getElem?_append_left (by omega), List.getElem_append_left e]; exact k1
      · rw [List.getElem_append_left e]; exact k2
      · rw [List.getElem_append_left e]; exact k3.block' (fun z hz => (hnew _ (k4 z hz).2.1 (k4 z hz).2.2.2).2)
    · have e' : i = l.length := by omega
      subst e'
      have e2 : (l ++ [y])[l.length] = y := by rw [List.getElem_append_right (by omega)]; simp
      refine ⟨some ⟨q, 0, none⟩, cq, ?_, ?_, ?_, fun z hz => ?_⟩
      · rw [e2, List.getElem?_append_right (by omega)]; simp [hvl]
      · rw [e2]; exact hcq
      · rw [e2]; exact hi.block' (fun z hz => by cases hz; exact (hnew q hql hqg).2)
      · cases hz; exact ⟨hq, Nat.lt_of_lt_of_le hql h2.size, hqB, (hnew q hql hqg).1⟩
  rcases hrow.shape with ⟨_, h0⟩ | ⟨g, cap, rfl, _, _, _, _⟩
  · simp at h0
  · have e3 : (l ++ [y]).length = l.length + 1 := by simp
    rw [e3] at hrow ⊢
    exact h g cap w' hrow h2 (h4.imp (fun e => e.symm) (fun e => Option.some.inj e))
/-- A drawn cert: its parts are the call's own, none of them in block B. -/
def DC (w : World) (base B : Nat) (u v : Value) (x : Ct) : Prop := (∃ a cap, u = .slice a x.c.length cap ∧ x.c.length ≤ cap ∧ Its w a x.c ∧ (∀ y, a = some y → base ≤ y.block ∧ y.block < w.heap.size ∧ y.block ≠ B ∧ v.ownBlock ≠ some y.block)) ∧ IRow w base B v x.b
theorem DC.kept {w w' : World} {base B : Nat} {u v : Value} {x : Ct} (h : DC w base B u v x) (hz : w.heap.size ≤ w'.heap.size) (e : ∀ g, base ≤ g → g < w.heap.size → g ≠ B → w'.heap[g]? = w.heap[g]?) : DC w' base B u v x := by
  obtain ⟨⟨a, cap, h1, h2, h3, h4⟩, h5⟩ := h
  exact ⟨⟨a, cap, h1, h2, h3.block' (fun y hy => e _ (h4 y hy).1 (h4 y hy).2.1 (h4 y hy).2.2.1), fun y hy => ⟨(h4 y hy).1, Nat.lt_of_lt_of_le (h4 y hy).2.1 hz, (h4 y hy).2.2⟩⟩, h5.kept hz e⟩
theorem DC.grew {w w' : World} {base B : Nat} {u v : Value} {x : Ct} (h : DC w base B u v x) (g : Grew w w') : DC w' base B u v x := h.kept g.size fun b _ hb _ => g.below.block b hb
theorem DC.ran {R : Nat} {w w' : World} {base B : Nat} {u v : Value} {x : Ct} (h : DC w base B u v x) (g : Ran R w w') (hR : R < base) : DC w' base B u v x := h.kept g.size fun b h1 h2 _ => g.keep b h2 (by omega)
theorem DC.ctR {w : World} {base B : Nat} {u v : Value} {x : Ct} (h : DC w base B u v x) : CtR w u v x := by
  obtain ⟨⟨a, cap, h1, h2, h3, _⟩, h5⟩ := h
  obtain ⟨b, capb, h6, h7, h8⟩ := h5.ctR
  exact ⟨a, cap, b, capb, h1, h6, h2, h7, h3, h8⟩
theorem DC.by {W W' : World} {base B gn m cn : Nat} {u v : Value} {x : Ct} {ls : List (List Int)} (h : DC W base B u v x) (g : W.grownBy W' v.ownBlock) (hr : IRow W' base B (.slice (some ⟨gn, 0, none⟩) m cn) ls) (hown : v.ownBlock = some gn ∨ gn = W.heap.size) : DC W' base B u (.slice (some ⟨gn, 0, none⟩) m cn) ⟨x.c, ls⟩ := by
  obtain ⟨⟨a, ca, h1, h2, h3, h4⟩, h5⟩ := h
  refine ⟨⟨a, ca, h1, h2, h3.block' (fun y hy => g.block _ (h4 y hy).2.1 (fun e => (h4 y hy).2.2.2 e.symm)), fun y hy => ⟨(h4 y hy).1, Nat.lt_of_lt_of_le (h4 y hy).2.1 g.size, (h4 y hy).2.2.1, fun e => ?_⟩⟩, hr⟩
  have e2 : gn = y.block := Option.some.inj e
  rcases hown with k | k
  · exact (h4 y hy).2.2.2 (by rw [k, e2])
  · have := (h4 y hy).2.1; omega
theorem CSpec.dc {w : World} {base lo B : Nat} {u v : Value} {x : Ct} (h : CSpec w base u v x) (hlo : lo ≤ base) (hB : B < base ∨ w.heap.size ≤ B) : DC w lo B u v x := by
  rcases h with ⟨rfl, rfl, rfl⟩ | ⟨q, cq, hs, rfl, hc, h1, h2, hi, hp⟩
  · exact ⟨⟨none, 0, rfl, Nat.le_refl _, .inl rfl, fun y hy => by cases hy⟩, (fun e => by cases e), [], ⟨rfl, .inl ⟨rfl, rfl⟩⟩, fun i h => absurd h (Nat.not_lt_zero _)⟩
  · obtain ⟨g0, cp0, hv0, _, hg1, hg2⟩ := hp.shape
    refine ⟨⟨_, cq, rfl, hc, hi, fun y hy => by cases hy; exact ⟨by show lo ≤ q; omega, h2, by show q ≠ B; omega, fun e => by rw [hv0] at e; have e2 : g0 = q := Option.some.inj e; omega⟩⟩, ?_⟩
    obtain ⟨nz, ⟨vs, row, hcs⟩, len, le, apart, off, low⟩ := hp
    refine ⟨fun e => ?_, vs, ⟨row.1, ?_⟩, fun i hi => ?_⟩
    · rw [hv0] at e; have e2 : g0 = B := Option.some.inj e; omega
    · rcases row.2 with h0 | ⟨g, cap, cur, hv, hb', hr⟩
      · exact .inl h0
      · exact .inr ⟨g, cap, cur, hv, by omega, hr⟩
    · obtain ⟨cp, k1, k2⟩ := hcs i hi (by omega)
      obtain ⟨g, c2, e, hle, _, _, h7, _⟩ := k2.shape
      cases e
      have hm := List.getElem_mem (show i < hs.length by omega)
      have hl := low _ hm
      exact ⟨_, cp, k1, hle, h7, fun z hz => by cases hz; exact ⟨by show lo ≤ hs[i]; omega, hl.2, by show hs[i] ≠ B; omega, off _ hm⟩⟩
theorem Box2.kept {w w' : World} {b : Nat} {u v : Value} (h : Box2 w b u v) (e : w'.heap[b]? = w.heap[b]?) : Box2 w' b u v :=
  ⟨h.1.kept e, by rw [World.frozen?_of_block (w := w) e]; exact h.2.1, by rw [World.frozen?_of_block (w := w) e]; exact h.2.2⟩
theorem Box2.ran {R : Nat} {w w' : World} {b : Nat} {u v : Value} (h : Box2 w b u v) (g : Ran R w w') (hne : R < b) : Box2 w' b u v := h.kept (g.keep b h.lt (by omega))
theorem Box2.put {w : World} {b : Nat} {u v : Value} (h : Box2 w b u v) (x y : Value) : Box2 ((w.setCell ⟨b, 0, none⟩ x).setCell ⟨b, 1, none⟩ y) b x y := by
  obtain ⟨⟨h0, h1⟩, h2, h3⟩ := h
  refine ⟨⟨?_, ?_⟩, ?_, ?_⟩ <;> simp [go_sem, h0, h1, h2, h3]
theorem Box2.set0 {w : World} {b : Nat} {u v : Value} (h : Box2 w b u v) (x : Value) : Box2 (w.setCell ⟨b, 0, none⟩ x) b x v := by
  obtain ⟨⟨h0, h1⟩, h2, h3⟩ := h
  refine ⟨⟨?_, ?_⟩, ?_, ?_⟩ <;> simp [go_sem, h0, h1, h2, h3]
theorem certL_low {l : List Vt} (h : Low 16 l) : (certL l).1.c.length ≤ 16 := by
  unfold certL
  split
  · show (List.take _ _).length ≤ _
    rw [List.length_take]
    have : (mostF (allS l)).1.length ≤ 16 := by
      rcases (mostF_mem (allS l)).2 with e | e
      · rw [e]; simp
      · rcases (allS_mem.1 e).1 with e2 | ⟨x, hx, e2⟩
        · rw [e2]; simp
        · rw [← e2]; exact h x hx
    omega
  · simp
theorem specCertOf_r {base : Nat} {v : Value} {l : List Vt} (w : World) (h : VRow w base v l) (hs : Short l) (hn : l.length ≤ 1048576) :
    Calls Try.prog 17 #[v] w fun r w' => ∃ u v, r = .returned (.tuple #[.agg #[u, v], .bool (certL l).2]) ∧ CSpec w' w.heap.size u v (certL l).1 ∧ Grew w w' := by
  obtain ⟨g, cap, rfl, hcap, _, _, hv⟩ := h.shape
  exact specCertOf _ cap l w hv hcap h.room hs hn

set_option linter.unusedVariables false
open Go.RowKit
attribute [local simp] far_const

/-- How great a drawn cert is at most. -/
def DB (x : Ct) : Prop := x.c.length ≤ 16 ∧ x.b.length ≤ 4 ∧ ∀ y ∈ x.b, y.length ≤ 4
def DB0 (x : Ct) : Prop := x.c.length ≤ 16 ∧ x.b.length ≤ 3 ∧ ∀ y ∈ x.b, y.length ≤ 4
theorem DB0.db {x : Ct} (h : DB0 x) : DB x := ⟨h.1, Nat.le_trans h.2.1 (by omega), h.2.2⟩
theorem DB0.of {l : List Vt} (h : Low 16 l) : DB0 (certL l).1 := by
  have h2 := certL_bound (h.short (by omega))
  exact ⟨certL_low h, h2.2.1, h2.2.2.1⟩
theorem DB0.set {x : Ct} (h : DB0 x) (j : Nat) (y : List Int) (hy : y.length ≤ 4) : DB ⟨x.c, x.b.set j y⟩ := by
  refine ⟨h.1, by show (x.b.set j y).length ≤ 4; rw [List.length_set]; exact Nat.le_trans h.2.1 (by omega), fun z hz => ?_⟩
  rcases List.mem_or_eq_of_mem_set hz with e | e
  · exact h.2.2 z e
  · rw [e]; exact hy
theorem DB0.snoc {x : Ct} (h : DB0 x) (y : List Int) (hy : y.length ≤ 4) : DB ⟨x.c, x.b ++ [y]⟩ := by
  refine ⟨h.1, by show (x.b ++ [y]).length ≤ 4; have := h.2.1; simp; omega, fun z hz => ?_⟩
  rcases List.mem_append.1 hz with e | e
  · exact h.2.2 z e
  · simp at e; rw [e]; exact hy
theorem DB0.chain {x : Ct} (h : DB0 x) (c : List It) (hc : c.length ≤ 16) : DB ⟨c, x.b⟩ := ⟨hc, Nat.le_trans h.2.1 (by omega), h.2.2⟩

theorem fin72 {R N M base B : Nat} {w W : World} {u v : Value} {x : Ct} (hlt : R < w.heap.size) (D : DC W (w.heap.size + 1) B u v x) (HD : DB x) (hrd : Rd W R M) (hM : M ≤ N + 5000) (hran : Ran R w W) (p q : Value) :
    (∃ B, DC ((W.setCell ⟨w.heap.size, 0, none⟩ p).setCell ⟨w.heap.size, 1, none⟩ q) (w.heap.size + 1) B u v x) ∧ DB x ∧ Rd ((W.setCell ⟨w.heap.size, 0, none⟩ p).setCell ⟨w.heap.size, 1, none⟩ q) R (N + 5000) ∧ Ran R w ((W.setCell ⟨w.heap.size, 0, none⟩ p).setCell ⟨w.heap.size, 1, none⟩ q) := by
  refine ⟨⟨_, D.kept (w' := (W.setCell ⟨w.heap.size, 0, none⟩ p).setCell ⟨w.heap.size, 1, none⟩ q) (by simp [World.setCell]) (fun g hg _ _ => ?_)⟩, HD, ((hrd.setCell hlt p).setCell hlt q).more hM, (hran.setCell (.inr (Nat.le_refl _)) p).setCell (.inr (Nat.le_refl _)) q⟩
  rw [Below.heap_setCell _ _ _ _ (by show g ≠ w.heap.size; omega), Below.heap_setCell _ _ _ _ (by show g ≠ w.heap.size; omega)]
theorem DC.setrow {W : World} {base B g cap n : Nat} {u : Value} {x : Ct} (h : DC W base B u (.slice (some ⟨g, 0, none⟩) n cap) x) (hn : n = x.b.length) {j : Nat} (hj : j < x.b.length) (y : List Int) (m : Nat) (hm : y.length = m) (q c : Nat) (hq : base ≤ q) (hql : q < W.heap.size) (hqg : q ≠ g) (hqB : q ≠ B) (hc : m ≤ c) (hi : Ints W (some ⟨q, 0, none⟩) y) :
    DC (W.setCell ⟨g, j, none⟩ (.slice (some ⟨q, 0, none⟩) m c)) base B u (.slice (some ⟨g, 0, none⟩) n cap) ⟨x.c, x.b.set j y⟩ := by
  obtain ⟨⟨a, ca, h1, h2, h3, h4⟩, h5⟩ := h
  refine ⟨⟨a, ca, h1, h2, h3.block' (fun z hz => Below.heap_setCell _ _ _ _ (fun e => (h4 z hz).2.2.2 (by show some g = _; rw [e]))), fun z hz => ⟨(h4 z hz).1, by simpa [World.setCell] using (h4 z hz).2.1, (h4 z hz).2.2⟩⟩, ?_⟩
  exact h5.set hn hj y m hm q c hq hql hqg hqB hc hi
theorem DC.chain {W : World} {base B : Nat} {u v : Value} {x : Ct} (h : DC W base B u v x) {g cap : Nat} (c : List It) (hc : c.length ≤ cap) (hi : Its W (some ⟨g, 0, none⟩) c) (hg : base ≤ g) (hgl : g < W.heap.size) (hgB : g ≠ B) (hgv : v.ownBlock ≠ some g) (p : Value) : DC (W.setCell ⟨B, 0, none⟩ p) base B (.slice (some ⟨g, 0, none⟩) c.length cap) v ⟨c, x.b⟩ := by
  have : DC W base B (.slice (some ⟨g, 0, none⟩) c.length cap) v ⟨c, x.b⟩ := ⟨⟨_, cap, rfl, hc, hi, fun y hy => by cases hy; exact ⟨hg, hgl, hgB, hgv⟩⟩, h.2⟩
  exact this.kept (by simp [World.setCell]) (fun b _ _ hb => Below.heap_setCell _ _ _ _ hb)

set_option maxRecDepth 20000 in
set_option maxHeartbeats 16000000 in
theorem l72Cert_any (R N : Nat) (w : World) (hr : Rd w R N) (hN : N + 5000 ≤ 1048576) :
    Calls Try.prog 46 #[.pointer (some ⟨R, 0, none⟩)] w fun r w' => ∃ u v vl x, r = .returned (.tuple #[.agg #[u, v], vl]) ∧ (∃ B, DC w' (w.heap.size + 1) B u v x) ∧ DB x ∧ Rd w' R (N + 5000) ∧ Ran R w w' := by
  have hlt := hr.lt
  go_enter Try.func46, Try.ntmps46
  go_wp2_with fail
  refine (l71Votes_any R N _ (hr.grew ((Grew.refl _).alloc _)) (by omega)).mono ?_
  rintro r w1 ⟨vl, l, rfl, vr, hl, hlow, r1, g1⟩
  have R0 := hide ((Box2.box w (.slice none 0 0) (.slice none 0 0) 26).ran g1 hlt)
  have G1 := hide (((Ran.refl R w).grew ((Grew.refl _).alloc (.cells #[.slice none 0 0, .slice none 0 0] 26))).trans g1)
  have HD := hide (DB0.of hlow)
  have hzA := hide (unhide R0).lt
  have hX := hide (specCertOf_r w1 vr (hlow.short (by omega)) (by omega))
  obtain ⟨X0, hX0⟩ : ∃ X, (certL l).1 = X := ⟨_, rfl⟩
  obtain ⟨ok0, hok0⟩ : ∃ b, (certL l).2 = b := ⟨_, rfl⟩
  rw [hX0, hok0] at hX
  rw [hX0] at HD
  clear g1 vr hlow hX0 hok0
  go_wp2_with fail
  refine (unhide hX).mono ?_
  clear hX
  rintro r w2 ⟨u2, v2, rfl, cs, g2⟩
  obtain ⟨ua, un, uc, va, vn, vc, rfl, rfl⟩ := cs.open
  have D2 := hide (cs.dc (lo := w.heap.size + 1) (B := w2.heap.size) (by have := unhide hzA; omega) (.inr (Nat.le_refl _)))
  have R0 := hide ((unhide R0).grew g2)
  have G2 := hide ((unhide G1).grew g2)
  have r2 := r1.grew g2
  have hzB := hide (Nat.lt_of_lt_of_le (unhide hzA) g2.size)
  clear cs g2 r1 G1
  have X3 := hide (Box2.box w2 (.slice ua un uc) (.slice va vn vc) 26)
  have D3 := hide ((unhide D2).grew ((Grew.refl w2).alloc (.cells #[.slice ua un uc, .slice va vn vc] 26)))
  have R3 := hide ((unhide R0).grew ((Grew.refl w2).alloc (.cells #[.slice ua un uc, .slice va vn vc] 26)))
  have G3 := hide ((unhide G2).grew ((Grew.refl w2).alloc (.cells #[.slice ua un uc, .slice va vn vc] 26)))
  have r3 := r2.grew ((Grew.refl w2).alloc (.cells #[.slice ua un uc, .slice va vn vc] 26))
  obtain ⟨B, hB⟩ : ∃ B, B = w2.heap.size := ⟨_, rfl⟩
  have HB := hide hB
  have hBR : R < B := by have := unhide hzB; omega
  have hBw : w.heap.size < B := by rw [hB]; exact unhide hzB
  clear D2 R0 G2 r2
  go_wp2_with fail
  rw [← unhide HB] at X3 D3 ⊢
  clear hB
  go_loopw [4, 6, 7] (fun lv okv i wr => ∃ (k : Nat) (bb : Bool) (u v : Value) (x : Ct), k ≤ 6 ∧ okv = .bool bb ∧ i = .int .i64 k ∧ Hid (Box2 wr B u v) ∧ Hid (Box2 wr w.heap.size (.slice none 0 0) (.slice none 0 0)) ∧ Hid (DC wr (w.heap.size + 1) B u v x) ∧ Hid (DB0 x) ∧ Rd wr R (N + 700 * (k + 1)) ∧ Hid (Ran R w wr)) (fun _ _ i _ => 6 - (intOf i).toNat)
  case atStart => exact ⟨0, ok0, _, _, X0, by omega, rfl, rfl, X3, R3, D3, HD, r3.more (by omega), G3⟩
  case round =>
    clear X3 R3 D3 HD r3 G3
    obtain ⟨k, bb, u, v, x, hk, rfl, rfl, X, R0, D, HD, hrd, hran⟩ := hrel
    have hgo := Classical.em (k < 6 ∧ bb = false)
    rcases hgo with ⟨hk6, hbf⟩ | hend
    · subst hbf
      have hd6 : decide ((k : Int) < 6) = true := by simp; omega
      have hd6' : (k : Int) < 6 := by omega
      go_wp2_with fail
      refine (l71Votes_any R _ _ hrd (by omega)).mono ?_
      rintro r w4 ⟨v4, l4, rfl, vr4, hl4, hlow4, r4, g4⟩
      have X4 := hide ((unhide X).ran g4 hBR)
      have R4 := hide ((unhide R0).ran g4 hlt)
      have G4 := hide ((unhide hran).trans g4)
      have HD4 := hide (DB0.of hlow4)
      have hX := hide (specCertOf_r w4 vr4 (hlow4.short (by omega)) (by omega))
      have hz4 := hide (unhide X4).lt
      obtain ⟨Y, hY⟩ : ∃ X, (certL l4).1 = X := ⟨_, rfl⟩
      obtain ⟨ok4, hok4⟩ : ∃ b, (certL l4).2 = b := ⟨_, rfl⟩
      rw [hY, hok4] at hX
      rw [hY] at HD4
      clear g4 vr4 hlow4 hY hok4 X R0 D HD hrd hran
      go_wp2_with fail
      refine (unhide hX).mono ?_
      clear hX
      rintro r w5 ⟨u5, v5, rfl, cs5, g5⟩
      obtain ⟨xa, xn, xc, ya, yn, yc, rfl, rfl⟩ := cs5.open
      have D5 := hide (cs5.dc (lo := w.heap.size + 1) (B := B) (by have := unhide hz4; omega) (.inl (unhide hz4)))
      have X5 := hide ((unhide X4).grew g5)
      have R5 := hide ((unhide R4).grew g5)
      have G5 := hide ((unhide G4).grew g5)
      have r5 := r4.grew g5
      obtain ⟨⟨x0, x1⟩, z0, z1⟩ := unhide X5
      have X6 := hide ((unhide X5).put (.slice xa xn xc) (.slice ya yn yc))
      have oth : ∀ b, b ≠ B → ((w5.setCell ⟨B, 0, none⟩ (.slice xa xn xc)).setCell ⟨B, 1, none⟩ (.slice ya yn yc)).heap[b]? = w5.heap[b]? := fun b hb => by rw [Below.heap_setCell _ _ _ _ hb, Below.heap_setCell _ _ _ _ hb]
      have R6 := hide ((unhide R5).kept (oth _ (by omega)))
      have D6 := hide ((unhide D5).kept (w' := (w5.setCell ⟨B, 0, none⟩ (.slice xa xn xc)).setCell ⟨B, 1, none⟩ (.slice ya yn yc)) (by simp [World.setCell]) (fun g _ _ hg => oth g hg))
      have r6 := (r5.setCell (p := ⟨B, 0, none⟩) hBR (.slice xa xn xc)).setCell (p := ⟨B, 1, none⟩) hBR (.slice ya yn yc)
      have G6 := hide (((unhide G5).setCell (p := ⟨B, 0, none⟩) (.inr (Nat.le_of_lt hBw)) (.slice xa xn xc)).setCell (p := ⟨B, 1, none⟩) (.inr (Nat.le_of_lt hBw)) (.slice ya yn yc))
      clear oth X4 X5 R4 R5 G4 G5 D5 r4 r5 cs5 g5
      go_wp2
      go_roundw
      case rel => exact ⟨k + 1, ok4, _, _, Y, by omega, rfl, by go_num, X6, R6, D6, HD4, r6.more (by omega), G6⟩
      case measure => simp [intOf]; omega
    · have hz : Hid (B < wr.heap.size) := hide (unhide X).lt
      have hfin : Hid (∀ r3, decide ((k : Int) < 6) = r3 → (if r3 = true then !bb else false) = false) := hide (fun r3 h => by
        subst h
        by_cases h6 : k < 6
        · cases bb with
          | false => exact absurd ⟨h6, rfl⟩ hend
          | true => simp
        · have : decide ((k : Int) < 6) = false := by simp; omega
          rw [this]; rfl)
      obtain ⟨⟨ua, uc, rfl, hdc⟩, hir⟩ := unhide D
      obtain ⟨vb, vcap, rfl, _, _⟩ := hir.ctR
      clear hdc hir
      have hend2 : (k < 6 ∧ bb = true) ∨ ¬ k < 6 := by
        by_cases h6 : k < 6
        · cases bb with
          | false => exact absurd ⟨h6, rfl⟩ hend
          | true => exact .inl ⟨h6, rfl⟩
        · exact .inr h6
      clear hend hfin
      rcases hend2 with ⟨hk6, rfl⟩ | hk6
      · have hd6 : decide ((k : Int) < 6) = true := by simp; omega
        have hd6' : (k : Int) < 6 := by omega
        go_wp2_with fail
        refine (pick_any R _ 10 _ hrd (by omega) (by omega)).mono ?_
        rintro r w3 ⟨z, rfl, z0, z1, z2, r3, g3⟩
        have z3 := z1 (by omega)
        have X := hide ((unhide X).ran g3 hBR)
        have R0 := hide ((unhide R0).ran g3 hlt)
        have D := hide ((unhide D).ran g3 (by omega))
        have hran := hide ((unhide hran).trans g3)
        have hrd := r3
        have hz3 := hide (unhide X).lt
        clear z1 z2 g3 r3 hz
        by_cases e0 : z = 0
        · subst e0
          rcases (unhide D).2.shape with ⟨hv0, hb0⟩ | ⟨g, cap, hv0, hcap, hg1, hg2, hgB⟩
          · simp only [Value.slice.injEq] at hv0
            obtain ⟨rfl, hl0, rfl⟩ := hv0
            rw [hl0] at X D
            clear hl0 hb0
            obtain ⟨⟨a0, a1⟩, c0, c1⟩ := unhide R0
            obtain ⟨⟨b0, b1⟩, d0, d1⟩ := unhide X
            go_wp2
            refine bodyPost_ret (by simp [results, Try.results46, go_sem, a0, a1]; try rfl) rfl ?_
            exact ⟨_, _, _, _, rfl, fin72 (base := 0) hlt (unhide D) (unhide HD).db hrd (by omega) (unhide hran) _ _⟩
          · simp only [Value.slice.injEq, true_and] at hv0
            obtain ⟨rfl, rfl⟩ := hv0
            obtain ⟨n, hn⟩ : ∃ n, x.b.length = n := ⟨_, rfl⟩
            have HN := hide hn
            rw [hn] at X D hcap
            clear hn
            by_cases hn0 : 0 < n
            · have hn0' : (0 : Int) < (n : Int) := by omega
              have hn1 : decide ((0 : Int) < (n : Int)) = true := by simp; omega
              obtain ⟨⟨y0, hy0⟩, zf⟩ := (unhide D).2.cells (j := 0) (by have := unhide HN; omega)
              have ol := (unhide D).grew ((Grew.refl w3).alloc (.cells #[.int .i64 1, .int .i64 2] 3))
              have hint : Ints (w3.alloc (.cells #[.int .i64 1, .int .i64 2] 3)) (some ⟨w3.heap.size, 0, none⟩) [1, 2] := by
                have := (OwnN.lit (w := w3) (base := 0) (Nat.zero_le _) [1, 2] 2 rfl (by omega)).shape
                obtain ⟨g', c', e, _, _, _, hi, _⟩ := this
                cases e
                exact hi
              have D4 := hide (DC.setrow ol (unhide HN).symm (j := 0) (by have := unhide HN; omega) [1, 2] 2 rfl w3.heap.size 2 (by omega) (by simp) (by omega) (by have := unhide hz3; omega) (Nat.le_refl _) hint)
              have X4 := hide (((unhide X).grew ((Grew.refl w3).alloc (.cells #[.int .i64 1, .int .i64 2] 3))).kept (w' := (w3.alloc (.cells #[.int .i64 1, .int .i64 2] 3)).setCell ⟨g, 0, none⟩ (.slice (some ⟨w3.heap.size, 0, none⟩) 2 2)) (Below.heap_setCell _ _ _ _ (by show B ≠ g; omega)))
              have R4 := hide (((unhide R0).grew ((Grew.refl w3).alloc (.cells #[.int .i64 1, .int .i64 2] 3))).kept (w' := (w3.alloc (.cells #[.int .i64 1, .int .i64 2] 3)).setCell ⟨g, 0, none⟩ (.slice (some ⟨w3.heap.size, 0, none⟩) 2 2)) (Below.heap_setCell _ _ _ _ (by show w.heap.size ≠ g; omega)))
              have r4 := (hrd.grew ((Grew.refl w3).alloc (.cells #[.int .i64 1, .int .i64 2] 3))).setCell (p := ⟨g, 0, none⟩) (by show R < g; omega) (.slice (some ⟨w3.heap.size, 0, none⟩) 2 2)
              have ran4 := hide (((unhide hran).grew ((Grew.refl w3).alloc (.cells #[.int .i64 1, .int .i64 2] 3))).setCell (p := ⟨g, 0, none⟩) (.inr (by show w.heap.size ≤ g; omega)) (.slice (some ⟨w3.heap.size, 0, none⟩) 2 2))
              clear ol hint D
              obtain ⟨⟨b0, b1⟩, d0, d1⟩ := unhide X
              obtain ⟨⟨a0, a1⟩, c0, c1⟩ := unhide R0
              have hne1 : g ≠ B := hgB
              have hne2 : w.heap.size ≠ g := by omega
              have hsc : (w3.alloc (.cells #[.int .i64 1, .int .i64 2] 3)).setCell ⟨g, 0, none⟩ (.slice (some ⟨w3.heap.size, 0, none⟩) 2 2) = (w3.setCell ⟨g, 0, none⟩ (.slice (some ⟨w3.heap.size, 0, none⟩) 2 2)).alloc (.cells #[.int .i64 1, .int .i64 2] 3) := by
                exact World.setCell_alloc_past _ _ _ _ hg2
              rw [hsc] at D4 X4 R4 r4 ran4
              clear hsc
              obtain ⟨⟨f0, f1⟩, _⟩ := unhide X4
              obtain ⟨⟨e0, e1⟩, h0, h1⟩ := unhide R4
              go_wp2
              refine bodyPost_ret (by simp [results, Try.results46, go_sem, e0, e1]; try rfl) rfl ?_
              exact ⟨_, _, _, _, rfl, fin72 (base := 0) hlt (unhide D4) ((unhide HD).set _ _ (by simp)) r4 (by omega) (unhide ran4) _ _⟩
            · have hn0' : ¬ (0 : Int) < (n : Int) := by omega
              have hn1 : decide ((0 : Int) < (n : Int)) = false := by simp; omega
              obtain ⟨⟨a0, a1⟩, c0, c1⟩ := unhide R0
              obtain ⟨⟨b0, b1⟩, d0, d1⟩ := unhide X
              go_wp2
              refine bodyPost_ret (by simp [results, Try.results46, go_sem, a0, a1]; try rfl) rfl ?_
              exact ⟨_, _, _, _, rfl, fin72 (base := 0) hlt (unhide D) (unhide HD).db hrd (by omega) (unhide hran) _ _⟩
        · have e0' : (z == 0) = false := by simp; omega
          by_cases e1 : z = 1
          · subst e1
            go_wp2_with fail
            refine (l71Off_any R _ _ hrd (by omega)).mono ?_
            rintro r w4 ⟨v4, cc, rfl, oc, hcc, r4, g4⟩
            obtain ⟨g, cap, rfl, hcap, hg1, hg2, hic⟩ := oc.shape
            have hvo : (Value.slice vb x.b.length vcap).ownBlock ≠ some g := fun e => by have := ((unhide D).2.block g e).2; omega
            have X4 := hide ((unhide X).ran g4 hBR)
            have R4 := hide ((unhide R0).ran g4 hlt)
            have D4 := hide (((unhide D).ran g4 (by omega)).chain cc hcap hic (by have := unhide hz3; omega) hg2 (by have := unhide hz3; omega) hvo (.slice (some ⟨g, 0, none⟩) cc.length cap))
            have ran4 := hide (((unhide hran).trans g4).setCell (p := ⟨B, 0, none⟩) (.inr (Nat.le_of_lt hBw)) (.slice (some ⟨g, 0, none⟩) cc.length cap))
            have r5 := r4.setCell (p := ⟨B, 0, none⟩) hBR (.slice (some ⟨g, 0, none⟩) cc.length cap)
            have X5 := hide ((unhide X4).set0 (.slice (some ⟨g, 0, none⟩) cc.length cap))
            have R5 := hide ((unhide R4).kept (w' := w4.setCell ⟨B, 0, none⟩ (.slice (some ⟨g, 0, none⟩) cc.length cap)) (Below.heap_setCell _ _ _ _ (by show w.heap.size ≠ B; omega)))
            have HDD := hide ((unhide HD).chain cc (by omega))
            clear hic oc D g4 hcc hran hrd r4
            obtain ⟨⟨b0, b1⟩, d0, d1⟩ := unhide X4
            obtain ⟨⟨f0, f1⟩, _⟩ := unhide X5
            obtain ⟨⟨e0, e1⟩, h0, h1⟩ := unhide R5
            go_wp2
            refine bodyPost_ret (by simp [results, Try.results46, go_sem, e0, e1]; try rfl) rfl ?_
            exact ⟨_, _, _, _, rfl, fin72 (base := 0) hlt (unhide D4) (unhide HDD) r5 (by omega) (unhide ran4) _ _⟩
          · have e1' : (z == 1) = false := by simp; omega
            by_cases e2 : z = 2
            · subst e2
              obtain ⟨⟨b0, b1⟩, d0, d1⟩ := unhide X
              have gg := ((Grew.refl w3).alloc (.cells #[.int .i64 1, .int .i64 2, .int .i64 3] 3)).alloc (.cells #[.slice (some ⟨w3.heap.size, 0, none⟩) 3 3] 29)
              have GG := hide gg
              have HROW := hide ((unhide D).grew gg)
              have HCE : Hid (∀ j u, ([.slice (some ⟨w3.heap.size, 0, none⟩) 3 3] : List Value)[j]? = some u → ((w3.alloc (.cells #[.int .i64 1, .int .i64 2, .int .i64 3] 3)).alloc (.cells #[.slice (some ⟨w3.heap.size, 0, none⟩) 3 3] 29)).cell? ((⟨w3.heap.size + 1, 0, none⟩ : Addr).add j) = some u) := hide (by
                have := cell_row (w3.alloc (.cells #[.int .i64 1, .int .i64 2, .int .i64 3] 3)) (.slice (some ⟨w3.heap.size, 0, none⟩) 3 3) 29
                simpa using this)
              have HIN : Hid (Ints ((w3.alloc (.cells #[.int .i64 1, .int .i64 2, .int .i64 3] 3)).alloc (.cells #[.slice (some ⟨w3.heap.size, 0, none⟩) 3 3] 29)) (some ⟨w3.heap.size, 0, none⟩) [1, 2, 3]) := hide (by
                have := (OwnN.lit (w := w3) (base := 0) (Nat.zero_le _) [1, 2, 3] 3 rfl (by omega)).shape
                obtain ⟨g', c', e, _, _, _, hi, _⟩ := this
                cases e
                exact hi.grew ((Grew.refl _).alloc _))
              have hvo : Hid ((Value.slice vb x.b.length vcap).ownBlock ≠ some w3.heap.size) := hide (fun e => by have := ((unhide D).2.block _ e).2; omega)
              have hvb := hide (fun k (e : (Value.slice vb x.b.length vcap).ownBlock = some k) => ((unhide D).2.block k e).1)
              have hb3 : Hid (x.b.length ≤ 3) := hide (unhide HD).2.1
              clear gg
              go_wp2_with (first | (at_builtin; refine wpList_irow rfl _ _ rfl (w.heap.size + 1) B (.slice vb x.b.length vcap) x.b rfl (unhide HROW).2 ⟨w3.heap.size + 1, 0, none⟩ 1 rfl [1, 2, 3] 3 rfl w3.heap.size 3 (unhide HCE) (by have := unhide hz3; omega) (by simp; omega) (by have := unhide hz3; omega) (unhide hvo) (Nat.le_refl _) (unhide HIN) (by have := unhide hb3; omega) (by have := unhide hz3; simp; omega) (by have := unhide hz3; simp; omega) ?_))
              intro gn cn w4 o4 g4 hat
              have hvB : (Value.slice vb x.b.length vcap).ownBlock ≠ some B := (unhide D).2.1
              have hvW : (Value.slice vb x.b.length vcap).ownBlock ≠ some w.heap.size := fun e => by have := unhide hvb _ e; omega
              have D4 := hide (((unhide HROW).by g4 o4 (hat.imp id (fun e => by rw [e]; simp))).kept (w' := w4.setCell ⟨B, 1, none⟩ (.slice (some ⟨gn, 0, none⟩) (x.b.length + 1) cn)) (by simp [World.setCell]) (fun b _ _ hb => Below.heap_setCell _ _ _ _ hb))
              have X4 := hide (((unhide X).grew (unhide GG)).grown g4 hvB)
              have R4 := hide (((unhide R0).grew (unhide GG)).grown g4 hvW)
              have r4 := ((hrd.grew (unhide GG)).grown g4 (fun k hk => by have := unhide hvb k hk; omega)).setCell (p := ⟨B, 1, none⟩) hBR (.slice (some ⟨gn, 0, none⟩) (x.b.length + 1) cn)
              have ran4 := hide ((((unhide hran).grew (unhide GG)).grown g4 (fun k hk => by have := unhide hvb k hk; omega)).setCell (p := ⟨B, 1, none⟩) (.inr (Nat.le_of_lt hBw)) (.slice (some ⟨gn, 0, none⟩) (x.b.length + 1) cn))
              have X5 := hide ((unhide X4).set1 (.slice (some ⟨gn, 0, none⟩) (x.b.length + 1) cn))
              have R5 := hide ((unhide R4).kept (w' := w4.setCell ⟨B, 1, none⟩ (.slice (some ⟨gn, 0, none⟩) (x.b.length + 1) cn)) (Below.heap_setCell _ _ _ _ (by show w.heap.size ≠ B; omega)))
              have HDD := hide ((unhide HD).snoc [1, 2, 3] (by simp))
              clear D HROW HCE HIN hvo hvb o4 g4 hat GG hran hrd hvB hvW b0 b1 d0 d1
              obtain ⟨⟨b0, b1⟩, d0, d1⟩ := unhide X4
              obtain ⟨⟨f0, f1⟩, _⟩ := unhide X5
              obtain ⟨⟨e0, e1⟩, h0, h1⟩ := unhide R5
              go_wp2
              refine bodyPost_ret (by simp [results, Try.results46, go_sem, e0, e1]; try rfl) rfl ?_
              exact ⟨_, _, _, _, rfl, fin72 (base := 0) hlt (unhide D4) (unhide HDD) r4 (by omega) (unhide ran4) _ _⟩
            · have e2' : (z == 2) = false := by simp; omega
              by_cases e3 : z = 3
              · subst e3
                rcases (unhide D).2.shape with ⟨hv0, hb0⟩ | ⟨g, cap, hv0, hcap, hg1, hg2, hgB⟩
                · simp only [Value.slice.injEq] at hv0
                  obtain ⟨rfl, hl0, rfl⟩ := hv0
                  rw [hl0] at X D
                  clear hl0 hb0
                  obtain ⟨⟨a0, a1⟩, c0, c1⟩ := unhide R0
                  obtain ⟨⟨b0, b1⟩, d0, d1⟩ := unhide X
                  go_wp2
                  refine bodyPost_ret (by simp [results, Try.results46, go_sem, a0, a1]; try rfl) rfl ?_
                  exact ⟨_, _, _, _, rfl, fin72 (base := 0) hlt (unhide D) (unhide HD).db hrd (by omega) (unhide hran) _ _⟩
                · simp only [Value.slice.injEq, true_and] at hv0
                  obtain ⟨rfl, rfl⟩ := hv0
                  obtain ⟨n, hn⟩ : ∃ n, x.b.length = n := ⟨_, rfl⟩
                  have HN := hide hn
                  rw [hn] at X D hcap
                  clear hn
                  by_cases hn0 : 1 < n
                  · have hn0' : (1 : Int) < (n : Int) := by omega
                    have hn1 : decide ((1 : Int) < (n : Int)) = true := by simp; omega
                    obtain ⟨⟨y0, hy0⟩, zf⟩ := (unhide D).2.cells (j := 1) (by have := unhide HN; omega)
                    have ol := (unhide D).grew ((Grew.refl w3).alloc (.cells #[.int .i64 1, .int .i64 3, .int .i64 3, .int .i64 4] 3))
                    have hint : Ints (w3.alloc (.cells #[.int .i64 1, .int .i64 3, .int .i64 3, .int .i64 4] 3)) (some ⟨w3.heap.size, 0, none⟩) [1, 3, 3, 4] := by
                      have := (OwnN.lit (w := w3) (base := 0) (Nat.zero_le _) [1, 3, 3, 4] 4 rfl (by omega)).shape
                      obtain ⟨g', c', e, _, _, _, hi, _⟩ := this
                      cases e
                      exact hi
                    have D4 := hide (DC.setrow ol (unhide HN).symm (j := 1) (by have := unhide HN; omega) [1, 3, 3, 4] 4 rfl w3.heap.size 4 (by omega) (by simp) (by omega) (by have := unhide hz3; omega) (Nat.le_refl _) hint)
                    have X4 := hide (((unhide X).grew ((Grew.refl w3).alloc (.cells #[.int .i64 1, .int .i64 3, .int .i64 3, .int .i64 4] 3))).kept (w' := (w3.alloc (.cells #[.int .i64 1, .int .i64 3, .int .i64 3, .int .i64 4] 3)).setCell ⟨g, 1, none⟩ (.slice (some ⟨w3.heap.size, 0, none⟩) 4 4)) (Below.heap_setCell _ _ _ _ (by show B ≠ g; omega)))
                    have R4 := hide (((unhide R0).grew ((Grew.refl w3).alloc (.cells #[.int .i64 1, .int .i64 3, .int .i64 3, .int .i64 4] 3))).kept (w' := (w3.alloc (.cells #[.int .i64 1, .int .i64 3, .int .i64 3, .int .i64 4] 3)).setCell ⟨g, 1, none⟩ (.slice (some ⟨w3.heap.size, 0, none⟩) 4 4)) (Below.heap_setCell _ _ _ _ (by show w.heap.size ≠ g; omega)))
                    have r4 := (hrd.grew ((Grew.refl w3).alloc (.cells #[.int .i64 1, .int .i64 3, .int .i64 3, .int .i64 4] 3))).setCell (p := ⟨g, 1, none⟩) (by show R < g; omega) (.slice (some ⟨w3.heap.size, 0, none⟩) 4 4)
                    have ran4 := hide (((unhide hran).grew ((Grew.refl w3).alloc (.cells #[.int .i64 1, .int .i64 3, .int .i64 3, .int .i64 4] 3))).setCell (p := ⟨g, 1, none⟩) (.inr (by show w.heap.size ≤ g; omega)) (.slice (some ⟨w3.heap.size, 0, none⟩) 4 4))
                    clear ol hint D
                    obtain ⟨⟨b0, b1⟩, d0, d1⟩ := unhide X
                    obtain ⟨⟨a0, a1⟩, c0, c1⟩ := unhide R0
                    have hne1 : g ≠ B := hgB
                    have hne2 : w.heap.size ≠ g := by omega
                    have hsc : (w3.alloc (.cells #[.int .i64 1, .int .i64 3, .int .i64 3, .int .i64 4] 3)).setCell ⟨g, 1, none⟩ (.slice (some ⟨w3.heap.size, 0, none⟩) 4 4) = (w3.setCell ⟨g, 1, none⟩ (.slice (some ⟨w3.heap.size, 0, none⟩) 4 4)).alloc (.cells #[.int .i64 1, .int .i64 3, .int .i64 3, .int .i64 4] 3) := by
                      exact World.setCell_alloc_past _ _ _ _ hg2
                    rw [hsc] at D4 X4 R4 r4 ran4
                    clear hsc
                    obtain ⟨⟨f0, f1⟩, _⟩ := unhide X4
                    obtain ⟨⟨e0, e1⟩, h0, h1⟩ := unhide R4
                    go_wp2
                    refine bodyPost_ret (by simp [results, Try.results46, go_sem, e0, e1]; try rfl) rfl ?_
                    exact ⟨_, _, _, _, rfl, fin72 (base := 0) hlt (unhide D4) ((unhide HD).set _ _ (by simp)) r4 (by omega) (unhide ran4) _ _⟩
                  · have hn0' : ¬ (1 : Int) < (n : Int) := by omega
                    have hn1 : decide ((1 : Int) < (n : Int)) = false := by simp; omega
                    obtain ⟨⟨a0, a1⟩, c0, c1⟩ := unhide R0
                    obtain ⟨⟨b0, b1⟩, d0, d1⟩ := unhide X
                    go_wp2
                    refine bodyPost_ret (by simp [results, Try.results46, go_sem, a0, a1]; try rfl) rfl ?_
                    exact ⟨_, _, _, _, rfl, fin72 (base := 0) hlt (unhide D) (unhide HD).db hrd (by omega) (unhide hran) _ _⟩
              · have e3' : (z == 3) = false := by simp; omega
                obtain ⟨⟨a0, a1⟩, c0, c1⟩ := unhide R0
                obtain ⟨⟨b0, b1⟩, d0, d1⟩ := unhide X
                go_wp2
                refine bodyPost_ret (by simp [results, Try.results46, go_sem, a0, a1]; try rfl) rfl ?_
                exact ⟨_, _, _, _, rfl, fin72 (base := 0) hlt (unhide D) (unhide HD).db hrd (by omega) (unhide hran) _ _⟩
      · have hd6 : decide ((k : Int) < 6) = false := by simp; omega
        have hd6' : ¬ (k : Int) < 6 := by omega
        go_wp2_with fail
        refine (pick_any R _ 10 _ hrd (by omega) (by omega)).mono ?_
        rintro r w3 ⟨z, rfl, z0, z1, z2, r3, g3⟩
        have z3 := z1 (by omega)
        have X := hide ((unhide X).ran g3 hBR)
        have R0 := hide ((unhide R0).ran g3 hlt)
        have D := hide ((unhide D).ran g3 (by omega))
        have hran := hide ((unhide hran).trans g3)
        have hrd := r3
        have hz3 := hide (unhide X).lt
        clear z1 z2 g3 r3 hz
        by_cases e0 : z = 0
        · subst e0
          rcases (unhide D).2.shape with ⟨hv0, hb0⟩ | ⟨g, cap, hv0, hcap, hg1, hg2, hgB⟩
          · simp only [Value.slice.injEq] at hv0
            obtain ⟨rfl, hl0, rfl⟩ := hv0
            rw [hl0] at X D
            clear hl0 hb0
            obtain ⟨⟨a0, a1⟩, c0, c1⟩ := unhide R0
            obtain ⟨⟨b0, b1⟩, d0, d1⟩ := unhide X
            go_wp2
            refine bodyPost_ret (by simp [results, Try.results46, go_sem, a0, a1]; try rfl) rfl ?_
            exact ⟨_, _, _, _, rfl, fin72 (base := 0) hlt (unhide D) (unhide HD).db hrd (by omega) (unhide hran) _ _⟩
          · simp only [Value.slice.injEq, true_and] at hv0
            obtain ⟨rfl, rfl⟩ := hv0
            obtain ⟨n, hn⟩ : ∃ n, x.b.length = n := ⟨_, rfl⟩
            have HN := hide hn
            rw [hn] at X D hcap
            clear hn
            by_cases hn0 : 0 < n
            · have hn0' : (0 : Int) < (n : Int) := by omega
              have hn1 : decide ((0 : Int) < (n : Int)) = true := by simp; omega
              obtain ⟨⟨y0, hy0⟩, zf⟩ := (unhide D).2.cells (j := 0) (by have := unhide HN; omega)
              have ol := (unhide D).grew ((Grew.refl w3).alloc (.cells #[.int .i64 1, .int .i64 2] 3))
              have hint : Ints (w3.alloc (.cells #[.int .i64 1, .int .i64 2] 3)) (some ⟨w3.heap.size, 0, none⟩) [1, 2] := by
                have := (OwnN.lit (w := w3) (base := 0) (Nat.zero_le _) [1, 2] 2 rfl (by omega)).shape
                obtain ⟨g', c', e, _, _, _, hi, _⟩ := this
                cases e
                exact hi
              have D4 := hide (DC.setrow ol (unhide HN).symm (j := 0) (by have := unhide HN; omega) [1, 2] 2 rfl w3.heap.size 2 (by omega) (by simp) (by omega) (by have := unhide hz3; omega) (Nat.le_refl _) hint)
              have X4 := hide (((unhide X).grew ((Grew.refl w3).alloc (.cells #[.int .i64 1, .int .i64 2] 3))).kept (w' := (w3.alloc (.cells #[.int .i64 1, .int .i64 2] 3)).setCell ⟨g, 0, none⟩ (.slice (some ⟨w3.heap.size, 0, none⟩) 2 2)) (Below.heap_setCell _ _ _ _ (by show B ≠ g; omega)))
              have R4 := hide (((unhide R0).grew ((Grew.refl w3).alloc (.cells #[.int .i64 1, .int .i64 2] 3))).kept (w' := (w3.alloc (.cells #[.int .i64 1, .int .i64 2] 3)).setCell ⟨g, 0, none⟩ (.slice (some ⟨w3.heap.size, 0, none⟩) 2 2)) (Below.heap_setCell _ _ _ _ (by show w.heap.size ≠ g; omega)))
              have r4 := (hrd.grew ((Grew.refl w3).alloc (.cells #[.int .i64 1, .int .i64 2] 3))).setCell (p := ⟨g, 0, none⟩) (by show R < g; omega) (.slice (some ⟨w3.heap.size, 0, none⟩) 2 2)
              have ran4 := hide (((unhide hran).grew ((Grew.refl w3).alloc (.cells #[.int .i64 1, .int .i64 2] 3))).setCell (p := ⟨g, 0, none⟩) (.inr (by show w.heap.size ≤ g; omega)) (.slice (some ⟨w3.heap.size, 0, none⟩) 2 2))
              clear ol hint D
              obtain ⟨⟨b0, b1⟩, d0, d1⟩ := unhide X
              obtain ⟨⟨a0, a1⟩, c0, c1⟩ := unhide R0
              have hne1 : g ≠ B := hgB
              have hne2 : w.heap.size ≠ g := by omega
              have hsc : (w3.alloc (.cells #[.int .i64 1, .int .i64 2] 3)).setCell ⟨g, 0, none⟩ (.slice (some ⟨w3.heap.size, 0, none⟩) 2 2) = (w3.setCell ⟨g, 0, none⟩ (.slice (some ⟨w3.heap.size, 0, none⟩) 2 2)).alloc (.cells #[.int .i64 1, .int .i64 2] 3) := by
                exact World.setCell_alloc_past _ _ _ _ hg2
              rw [hsc] at D4 X4 R4 r4 ran4
              clear hsc
              obtain ⟨⟨f0, f1⟩, _⟩ := unhide X4
              obtain ⟨⟨e0, e1⟩, h0, h1⟩ := unhide R4
              go_wp2
              refine bodyPost_ret (by simp [results, Try.results46, go_sem, e0, e1]; try rfl) rfl ?_
              exact ⟨_, _, _, _, rfl, fin72 (base := 0) hlt (unhide D4) ((unhide HD).set _ _ (by simp)) r4 (by omega) (unhide ran4) _ _⟩
            · have hn0' : ¬ (0 : Int) < (n : Int) := by omega
              have hn1 : decide ((0 : Int) < (n : Int)) = false := by simp; omega
              obtain ⟨⟨a0, a1⟩, c0, c1⟩ := unhide R0
              obtain ⟨⟨b0, b1⟩, d0, d1⟩ := unhide X
              go_wp2
              refine bodyPost_ret (by simp [results, Try.results46, go_sem, a0, a1]; try rfl) rfl ?_
              exact ⟨_, _, _, _, rfl, fin72 (base := 0) hlt (unhide D) (unhide HD).db hrd (by omega) (unhide hran) _ _⟩
        · have e0' : (z == 0) = false := by simp; omega
          by_cases e1 : z = 1
          · subst e1
            go_wp2_with fail
            refine (l71Off_any R _ _ hrd (by omega)).mono ?_
            rintro r w4 ⟨v4, cc, rfl, oc, hcc, r4, g4⟩
            obtain ⟨g, cap, rfl, hcap, hg1, hg2, hic⟩ := oc.shape
            have hvo : (Value.slice vb x.b.length vcap).ownBlock ≠ some g := fun e => by have := ((unhide D).2.block g e).2; omega
            have X4 := hide ((unhide X).ran g4 hBR)
            have R4 := hide ((unhide R0).ran g4 hlt)
            have D4 := hide (((unhide D).ran g4 (by omega)).chain cc hcap hic (by have := unhide hz3; omega) hg2 (by have := unhide hz3; omega) hvo (.slice (some ⟨g, 0, none⟩) cc.length cap))
            have ran4 := hide (((unhide hran).trans g4).setCell (p := ⟨B, 0, none⟩) (.inr (Nat.le_of_lt hBw)) (.slice (some ⟨g, 0, none⟩) cc.length cap))
            have r5 := r4.setCell (p := ⟨B, 0, none⟩) hBR (.slice (some ⟨g, 0, none⟩) cc.length cap)
            have X5 := hide ((unhide X4).set0 (.slice (some ⟨g, 0, none⟩) cc.length cap))
            have R5 := hide ((unhide R4).kept (w' := w4.setCell ⟨B, 0, none⟩ (.slice (some ⟨g, 0, none⟩) cc.length cap)) (Below.heap_setCell _ _ _ _ (by show w.heap.size ≠ B; omega)))
            have HDD := hide ((unhide HD).chain cc (by omega))
            clear hic oc D g4 hcc hran hrd r4
            obtain ⟨⟨b0, b1⟩, d0, d1⟩ := unhide X4
            obtain ⟨⟨f0, f1⟩, _⟩ := unhide X5
            obtain ⟨⟨e0, e1⟩, h0, h1⟩ := unhide R5
            go_wp2
            refine bodyPost_ret (by simp [results, Try.results46, go_sem, e0, e1]; try rfl) rfl ?_
            exact ⟨_, _, _, _, rfl, fin72 (base := 0) hlt (unhide D4) (unhide HDD) r5 (by omega) (unhide ran4) _ _⟩
          · have e1' : (z == 1) = false := by simp; omega
            by_cases e2 : z = 2
            · subst e2
              obtain ⟨⟨b0, b1⟩, d0, d1⟩ := unhide X
              have gg := ((Grew.refl w3).alloc (.cells #[.int .i64 1, .int .i64 2, .int .i64 3] 3)).alloc (.cells #[.slice (some ⟨w3.heap.size, 0, none⟩) 3 3] 29)
              have GG := hide gg
              have HROW := hide ((unhide D).grew gg)
              have HCE : Hid (∀ j u, ([.slice (some ⟨w3.heap.size, 0, none⟩) 3 3] : List Value)[j]? = some u → ((w3.alloc (.cells #[.int .i64 1, .int .i64 2, .int .i64 3] 3)).alloc (.cells #[.slice (some ⟨w3.heap.size, 0, none⟩) 3 3] 29)).cell? ((⟨w3.heap.size + 1, 0, none⟩ : Addr).add j) = some u) := hide (by
                have := cell_row (w3.alloc (.cells #[.int .i64 1, .int .i64 2, .int .i64 3] 3)) (.slice (some ⟨w3.heap.size, 0, none⟩) 3 3) 29
                simpa using this)
              have HIN : Hid (Ints ((w3.alloc (.cells #[.int .i64 1, .int .i64 2, .int .i64 3] 3)).alloc (.cells #[.slice (some ⟨w3.heap.size, 0, none⟩) 3 3] 29)) (some ⟨w3.heap.size, 0, none⟩) [1, 2, 3]) := hide (by
                have := (OwnN.lit (w := w3) (base := 0) (Nat.zero_le _) [1, 2, 3] 3 rfl (by omega)).shape
                obtain ⟨g', c', e, _, _, _, hi, _⟩ := this
                cases e
                exact hi.grew ((Grew.refl _).alloc _))
              have hvo : Hid ((Value.slice vb x.b.length vcap).ownBlock ≠ some w3.heap.size) := hide (fun e => by have := ((unhide D).2.block _ e).2; omega)
              have hvb := hide (fun k (e : (Value.slice vb x.b.length vcap).ownBlock = some k) => ((unhide D).2.block k e).1)
              have hb3 : Hid (x.b.length ≤ 3) := hide (unhide HD).2.1
              clear gg
              go_wp2_with (first | (at_builtin; refine wpList_irow rfl _ _ rfl (w.heap.size + 1) B (.slice vb x.b.length vcap) x.b rfl (unhide HROW).2 ⟨w3.heap.size + 1, 0, none⟩ 1 rfl [1, 2, 3] 3 rfl w3.heap.size 3 (unhide HCE) (by have := unhide hz3; omega) (by simp; omega) (by have := unhide hz3; omega) (unhide hvo) (Nat.le_refl _) (unhide HIN) (by have := unhide hb3; omega) (by have := unhide hz3; simp; omega) (by have := unhide hz3; simp; omega) ?_))
              intro gn cn w4 o4 g4 hat
              have hvB : (Value.slice vb x.b.length vcap).ownBlock ≠ some B := (unhide D).2.1
              have hvW : (Value.slice vb x.b.length vcap).ownBlock ≠ some w.heap.size := fun e => by have := unhide hvb _ e; omega
              have D4 := hide (((unhide HROW).by g4 o4 (hat.imp id (fun e => by rw [e]; simp))).kept (w' := w4.setCell ⟨B, 1, none⟩ (.slice (some ⟨gn, 0, none⟩) (x.b.length + 1) cn)) (by simp [World.setCell]) (fun b _ _ hb => Below.heap_setCell _ _ _ _ hb))
              have X4 := hide (((unhide X).grew (unhide GG)).grown g4 hvB)
              have R4 := hide (((unhide R0).grew (unhide GG)).grown g4 hvW)
              have r4 := ((hrd.grew (unhide GG)).grown g4 (fun k hk => by have := unhide hvb k hk; omega)).setCell (p := ⟨B, 1, none⟩) hBR (.slice (some ⟨gn, 0, none⟩) (x.b.length + 1) cn)
              have ran4 := hide ((((unhide hran).grew (unhide GG)).grown g4 (fun k hk => by have := unhide hvb k hk; omega)).setCell (p := ⟨B, 1, none⟩) (.inr (Nat.le_of_lt hBw)) (.slice (some ⟨gn, 0, none⟩) (x.b.length + 1) cn))
              have X5 := hide ((unhide X4).set1 (.slice (some ⟨gn, 0, none⟩) (x.b.length + 1) cn))
              have R5 := hide ((unhide R4).kept (w' := w4.setCell ⟨B, 1, none⟩ (.slice (some ⟨gn, 0, none⟩) (x.b.length + 1) cn)) (Below.heap_setCell _ _ _ _ (by show w.heap.size ≠ B; omega)))
              have HDD := hide ((unhide HD).snoc [1, 2, 3] (by simp))
              clear D HROW HCE HIN hvo hvb o4 g4 hat GG hran hrd hvB hvW b0 b1 d0 d1
              obtain ⟨⟨b0, b1⟩, d0, d1⟩ := unhide X4
              obtain ⟨⟨f0, f1⟩, _⟩ := unhide X5
              obtain ⟨⟨e0, e1⟩, h0, h1⟩ := unhide R5
              go_wp2
              refine bodyPost_ret (by simp [results, Try.results46, go_sem, e0, e1]; try rfl) rfl ?_
              exact ⟨_, _, _, _, rfl, fin72 (base := 0) hlt (unhide D4) (unhide HDD) r4 (by omega) (unhide ran4) _ _⟩
            · have e2' : (z == 2) = false := by simp; omega
              by_cases e3 : z = 3
              · subst e3
                rcases (unhide D).2.shape with ⟨hv0, hb0⟩ | ⟨g, cap, hv0, hcap, hg1, hg2, hgB⟩
                · simp only [Value.slice.injEq] at hv0
                  obtain ⟨rfl, hl0, rfl⟩ := hv0
                  rw [hl0] at X D
                  clear hl0 hb0
                  obtain ⟨⟨a0, a1⟩, c0, c1⟩ := unhide R0
                  obtain ⟨⟨b0, b1⟩, d0, d1⟩ := unhide X
                  go_wp2
                  refine bodyPost_ret (by simp [results, Try.results46, go_sem, a0, a1]; try rfl) rfl ?_
                  exact ⟨_, _, _, _, rfl, fin72 (base := 0) hlt (unhide D) (unhide HD).db hrd (by omega) (unhide hran) _ _⟩
                · simp only [Value.slice.injEq, true_and] at hv0
                  obtain ⟨rfl, rfl⟩ := hv0
                  obtain ⟨n, hn⟩ : ∃ n, x.b.length = n := ⟨_, rfl⟩
                  have HN := hide hn
                  rw [hn] at X D hcap
                  clear hn
                  by_cases hn0 : 1 < n
                  · have hn0' : (1 : Int) < (n : Int) := by omega
                    have hn1 : decide ((1 : Int) < (n : Int)) = true := by simp; omega
                    obtain ⟨⟨y0, hy0⟩, zf⟩ := (unhide D).2.cells (j := 1) (by have := unhide HN; omega)
                    have ol := (unhide D).grew ((Grew.refl w3).alloc (.cells #[.int .i64 1, .int .i64 3, .int .i64 3, .int .i64 4] 3))
                    have hint : Ints (w3.alloc (.cells #[.int .i64 1, .int .i64 3, .int .i64 3, .int .i64 4] 3)) (some ⟨w3.heap.size, 0, none⟩) [1, 3, 3, 4] := by
                      have := (OwnN.lit (w := w3) (base := 0) (Nat.zero_le _) [1, 3, 3, 4] 4 rfl (by omega)).shape
                      obtain ⟨g', c', e, _, _, _, hi, _⟩ := this
                      cases e
                      exact hi
                    have D4 := hide (DC.setrow ol (unhide HN).symm (j := 1) (by have := unhide HN; omega) [1, 3, 3, 4] 4 rfl w3.heap.size 4 (by omega) (by simp) (by omega) (by have := unhide hz3; omega) (Nat.le_refl _) hint)
                    have X4 := hide (((unhide X).grew ((Grew.refl w3).alloc (.cells #[.int .i64 1, .int .i64 3, .int .i64 3, .int .i64 4] 3))).kept (w' := (w3.alloc (.cells #[.int .i64 1, .int .i64 3, .int .i64 3, .int .i64 4] 3)).setCell ⟨g, 1, none⟩ (.slice (some ⟨w3.heap.size, 0, none⟩) 4 4)) (Below.heap_setCell _ _ _ _ (by show B ≠ g; omega)))
                    have R4 := hide (((unhide R0).grew ((Grew.refl w3).alloc (.cells #[.int .i64 1, .int .i64 3, .int .i64 3, .int .i64 4] 3))).kept (w' := (w3.alloc (.cells #[.int .i64 1, .int .i64 3, .int .i64 3, .int .i64 4] 3)).setCell ⟨g, 1, none⟩ (.slice (some ⟨w3.heap.size, 0, none⟩) 4 4)) (Below.heap_setCell _ _ _ _ (by show w.heap.size ≠ g; omega)))
                    have r4 := (hrd.grew ((Grew.refl w3).alloc (.cells #[.int .i64 1, .int .i64 3, .int .i64 3, .int .i64 4] 3))).setCell (p := ⟨g, 1, none⟩) (by show R < g; omega) (.slice (some ⟨w3.heap.size, 0, none⟩) 4 4)
                    have ran4 := hide (((unhide hran).grew ((Grew.refl w3).alloc (.cells #[.int .i64 1, .int .i64 3, .int .i64 3, .int .i64 4] 3))).setCell (p := ⟨g, 1, none⟩) (.inr (by show w.heap.size ≤ g; omega)) (.slice (some ⟨w3.heap.size, 0, none⟩) 4 4))
                    clear ol hint D
                    obtain ⟨⟨b0, b1⟩, d0, d1⟩ := unhide X
                    obtain ⟨⟨a0, a1⟩, c0, c1⟩ := unhide R0
                    have hne1 : g ≠ B := hgB
                    have hne2 : w.heap.size ≠ g := by omega
                    have hsc : (w3.alloc (.cells #[.int .i64 1, .int .i64 3, .int .i64 3, .int .i64 4] 3)).setCell ⟨g, 1, none⟩ (.slice (some ⟨w3.heap.size, 0, none⟩) 4 4) = (w3.setCell ⟨g, 1, none⟩ (.slice (some ⟨w3.heap.size, 0, none⟩) 4 4)).alloc (.cells #[.int .i64 1, .int .i64 3, .int .i64 3, .int .i64 4] 3) := by
                      exact World.setCell_alloc_past _ _ _ _ hg2
                    rw [hsc] at D4 X4 R4 r4 ran4
                    clear hsc
                    obtain ⟨⟨f0, f1⟩, _⟩ := unhide X4
                    obtain ⟨⟨e0, e1⟩, h0, h1⟩ := unhide R4
                    go_wp2
                    refine bodyPost_ret (by simp [results, Try.results46, go_sem, e0, e1]; try rfl) rfl ?_
                    exact ⟨_, _, _, _, rfl, fin72 (base := 0) hlt (unhide D4) ((unhide HD).set _ _ (by simp)) r4 (by omega) (unhide ran4) _ _⟩
                  · have hn0' : ¬ (1 : Int) < (n : Int) := by omega
                    have hn1 : decide ((1 : Int) < (n : Int)) = false := by simp; omega
                    obtain ⟨⟨a0, a1⟩, c0, c1⟩ := unhide R0
                    obtain ⟨⟨b0, b1⟩, d0, d1⟩ := unhide X
                    go_wp2
                    refine bodyPost_ret (by simp [results, Try.results46, go_sem, a0, a1]; try rfl) rfl ?_
                    exact ⟨_, _, _, _, rfl, fin72 (base := 0) hlt (unhide D) (unhide HD).db hrd (by omega) (unhide hran) _ _⟩
              · have e3' : (z == 3) = false := by simp; omega
                obtain ⟨⟨a0, a1⟩, c0, c1⟩ := unhide R0
                obtain ⟨⟨b0, b1⟩, d0, d1⟩ := unhide X
                go_wp2
                refine bodyPost_ret (by simp [results, Try.results46, go_sem, a0, a1]; try rfl) rfl ?_
                exact ⟨_, _, _, _, rfl, fin72 (base := 0) hlt (unhide D) (unhide HD).db hrd (by omega) (unhide hran) _ _⟩

set_option linter.unusedVariables false
open Go.RowKit
attribute [local simp] far_const

theorem Byt.box {w : World} {a : Option Addr} {n : Nat} (hb : Byt w a w.heap.size n) (o : Obj) : Byt (w.alloc o) a (w.alloc o).heap.size n := by
  rcases hb with h | ⟨b, off, ha, hb, h⟩
  · exact .inl h
  · exact .inr ⟨b, off, ha, by simp; omega, fun i hi => by obtain ⟨z, h1, h2, h3⟩ := h i hi; exact ⟨z, h1, h2, ((Grew.refl w).alloc _).keep h3⟩⟩
theorem DC.low {w : World} {base base' B : Nat} {u v : Value} {x : Ct} (h : DC w base B u v x) (hb : base' ≤ base) : DC w base' B u v x := by
  obtain ⟨⟨a, cap, h1, h2, h3, h4⟩, hB, vs, row, hc⟩ := h
  refine ⟨⟨a, cap, h1, h2, h3, fun y hy => ⟨Nat.le_trans hb (h4 y hy).1, (h4 y hy).2⟩⟩, hB, vs, ⟨row.1, ?_⟩, fun i hi => ?_⟩
  · rcases row.2 with h0 | ⟨g, cap, cur, hv, hb', hr⟩
    · exact .inl h0
    · exact .inr ⟨g, cap, cur, hv, Nat.le_trans hb hb', hr⟩
  · obtain ⟨ai, ci, k1, k2, k3, k4⟩ := hc i hi
    exact ⟨ai, ci, k1, k2, k3, fun y hy => ⟨Nat.le_trans hb (k4 y hy).1, (k4 y hy).2⟩⟩

set_option maxHeartbeats 4000000 in
theorem drawCertOk_dc (a : Option Addr) (n cap : Nat) (w : World) (hb : Byt w a w.heap.size n) (hc : n ≤ cap) (hn : n ≤ 1048576) :
    Calls Try.prog 13 #[.slice a n cap] w fun r w' => ∃ u v x, r = .returned (.agg #[u, v]) ∧ (∃ B, DC w' (w.heap.size + 1) B u v x) ∧ DB x ∧ Grew w w' := by
  have HB := hide (hb.box (.cells #[.slice none 0 0, .slice none 0 0] 26))
  clear hb
  go_enter Try.func13, Try.ntmps13
  go_wp2_with fail
  refine (open_any a n cap _ (unhide HB) hc hn).mono ?_
  rintro r w1 ⟨rfl, r1, g1⟩
  simp only [World.size_alloc] at r1 ⊢
  have R0 := hide ((Box2.box w (.slice none 0 0) (.slice none 0 0) 26).grew g1)
  have G1 := hide (((Grew.refl w).alloc (.cells #[.slice none 0 0, .slice none 0 0] 26)).trans g1)
  have s1 := r1.lt
  clear g1
  have hne : w.heap.size ≠ w.heap.size + 1 := by omega
  go_wp2_with fail
  refine (l72Cert_any (w.heap.size + 1) 0 _ r1 (by omega)).mono ?_
  rintro r w2 ⟨u, v, vl, x, rfl, ⟨B, D⟩, hdb, r2, g2⟩
  obtain ⟨⟨ua, uc, rfl, _⟩, hir⟩ := id D
  obtain ⟨vb, vc, rfl, _, _⟩ := hir.ctR
  have R2 := hide ((unhide R0).kept (g2.keep _ (unhide R0).lt hne))
  have G2 := hide (g2.from (unhide G1) (by omega))
  have z12 := g2.size
  have D2 := hide (D.grew ((Grew.refl w2).alloc (.cells #[.slice ua x.c.length uc, .slice vb x.b.length vc] 26)))
  have R3 := hide ((unhide R2).grew ((Grew.refl w2).alloc (.cells #[.slice ua x.c.length uc, .slice vb x.b.length vc] 26)))
  have G3 := hide ((unhide G2).alloc (.cells #[.slice ua x.c.length uc, .slice vb x.b.length vc] 26))
  have HDB := hide hdb
  have hlt2 := (unhide R2).lt
  clear D hir g2 r2 hdb R0 G1
  obtain ⟨W3, hW3⟩ : ∃ W, W = w2.alloc (.cells #[.slice ua x.c.length uc, .slice vb x.b.length vc] 26) := ⟨_, rfl⟩
  have hsc : ∀ p q, (((w2.setCell ⟨w.heap.size, 0, none⟩ p).setCell ⟨w.heap.size, 1, none⟩ q).alloc (.cells #[.slice ua x.c.length uc, .slice vb x.b.length vc] 26)) = (W3.setCell ⟨w.heap.size, 0, none⟩ p).setCell ⟨w.heap.size, 1, none⟩ q := fun p q => by
    rw [hW3, World.setCell_alloc_past _ _ _ _ hlt2, World.setCell_alloc_past _ _ _ _ (by simpa [World.setCell] using hlt2)]
  have HSC := hide hsc
  have HW3 := hide hW3
  clear hsc hW3
  obtain ⟨⟨a0, a1⟩, c0, c1⟩ := unhide R2
  go_wp2
  refine bodyPost_ret (by simp [results, Try.results13, go_sem, a0, a1, hlt2]; try rfl) rfl ?_
  refine ⟨_, _, x, rfl, ⟨B, ?_⟩, unhide HDB, ?_⟩
  · rw [unhide HSC]
    refine (((unhide D2).low (base' := w.heap.size + 1) (by omega)).kept (w' := (W3.setCell ⟨w.heap.size, 0, none⟩ _).setCell ⟨w.heap.size, 1, none⟩ _) (by simp [World.setCell, unhide HW3]) (fun g hg _ _ => ?_))
    rw [Below.heap_setCell _ _ _ _ (by show g ≠ w.heap.size; omega), Below.heap_setCell _ _ _ _ (by show g ≠ w.heap.size; omega), unhide HW3]
  · rw [unhide HSC, unhide HW3]
    exact ((unhide G3).setCell (p := ⟨w.heap.size, 0, none⟩) (Nat.le_refl _) _).setCell (p := ⟨w.heap.size, 1, none⟩) (Nat.le_refl _) _
set_option maxHeartbeats 1000000 in
theorem drawCertVotes_dc (a : Option Addr) (n cap : Nat) (w : World) (hb : Byt w a w.heap.size n) (hc : n ≤ cap) (hn : n ≤ 1048576) :
    Calls Try.prog 25 #[.slice a n cap] w fun r w' => ∃ u v x, r = .returned (.agg #[u, v]) ∧ CtR w' u v x ∧ DB x ∧ Grew w w' := by
  have HB := hide (hb.box (.cells #[.slice none 0 0, .slice none 0 0] 26))
  clear hb
  go_enter Try.func25, Try.ntmps25
  go_wp2_with fail
  refine (drawCertOk_dc a n cap _ (unhide HB) hc hn).mono ?_
  rintro r w1 ⟨u, v, x, rfl, ⟨B, D⟩, hdb, g1⟩
  obtain ⟨⟨ua, uc, rfl, _⟩, hir⟩ := id D
  obtain ⟨vb, vc, rfl, _, _⟩ := hir.ctR
  have R0 := hide ((Box2.box w (.slice none 0 0) (.slice none 0 0) 26).grew g1)
  have G1 := hide (((Grew.refl w).alloc (.cells #[.slice none 0 0, .slice none 0 0] 26)).trans g1)
  simp only [World.size_alloc] at D
  have HD := hide D
  have HDB := hide hdb
  clear D hir g1 hdb
  obtain ⟨⟨a0, a1⟩, c0, c1⟩ := unhide R0
  go_wp2
  refine bodyPost_ret (by simp [results, Try.results25, go_sem, a0, a1]; try rfl) rfl ?_
  refine ⟨_, _, x, rfl, ?_, unhide HDB, ?_⟩
  · refine ((unhide HD).kept (w' := (w1.setCell ⟨w.heap.size, 0, none⟩ _).setCell ⟨w.heap.size, 1, none⟩ _) (by simp [World.setCell]) (fun g hg _ _ => ?_)).ctR
    rw [Below.heap_setCell _ _ _ _ (by show g ≠ w.heap.size; omega), Below.heap_setCell _ _ _ _ (by show g ≠ w.heap.size; omega)]
  · exact ((unhide G1).setCell (p := ⟨w.heap.size, 0, none⟩) (Nat.le_refl _) _).setCell (p := ⟨w.heap.size, 1, none⟩) (Nat.le_refl _) _
theorem drawCertOk_any (a : Option Addr) (n cap : Nat) (w : World) (hb : Byt w a w.heap.size n) (hc : n ≤ cap) (hn : n ≤ 1048576) :
    Calls Try.prog 13 #[.slice a n cap] w fun r w' => ∃ u v x, r = .returned (.agg #[u, v]) ∧ CtR w' u v x ∧ DB x ∧ Grew w w' := by
  refine (drawCertOk_dc a n cap w hb hc hn).mono ?_
  rintro r w1 ⟨u, v, x, rfl, ⟨B, D⟩, hdb, g1⟩
  exact ⟨u, v, x, rfl, D.ctR, hdb, g1⟩
theorem drawCertOf_any (a : Option Addr) (n cap : Nat) (w : World) (hb : Byt w a w.heap.size n) (hc : n ≤ cap) (hn : n ≤ 1048576) :
    Calls Try.prog 16 #[.slice a n cap] w fun r w' => ∃ v l base, r = .returned v ∧ VRow w' base v l ∧ l.length ≤ 193 ∧ Low 16 l ∧ Grew w w' := by
  have hX := hide (drawTreeFinal_any a n cap w hb hc hn)
  clear hb
  go_enter Try.func16, Try.ntmps16
  go_wp2_with fail
  refine (unhide hX).mono ?_
  clear hX
  rintro r w1 ⟨v, l, base, rfl, h1, h2, h3, g⟩
  have H1 := hide h1
  have H3 := hide h3
  clear h1 h3
  go_wp2
  go_ret
  exact ⟨v, l, base, rfl, unhide H1, h2, unhide H3, g⟩
end Go.Proofs.Ytjbnohepbmejkaa
