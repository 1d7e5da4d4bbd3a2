/-
  Texts together: TAll1, TAmong.
-/
import Derived.Test.YtjbnohepbmejkaaTreeT
import Derived.Test.YtjbnohepbmejkaaTSpec24
import Derived.Test.YtjbnohepbmejkaaSame
namespace Go.Proofs.Ytjbnohepbmejkaa
set_option linter.unusedVariables false
open Go.RowKit
attribute [local simp] far_const

/-- A row of chains that the call owns, the chain number i in the block hs[i]; nothing at all, if there is none. -/
structure KRow (w : World) (base : Nat) (v : Value) (hs : List Nat) (cs : List (List It)) : Prop where
  row : ∃ vs, w.ownsRow base 23 1 v cs.length vs ∧ ∀ i (h : i < cs.length) (h' : i < hs.length), vs[i]? = some (.slice (some ⟨hs[i], 0, none⟩) cs[i].length cs[i].length)
  len : hs.length = cs.length
  apart : hs.Nodup
  off : ∀ h ∈ hs, v.ownBlock ≠ some h
  low : ∀ h ∈ hs, base ≤ h ∧ h < w.heap.size
  its : ∀ i (h : i < cs.length) (h' : i < hs.length), Its w (some ⟨hs[i], 0, none⟩) cs[i] ∧ Own w hs[i] cs[i].length
theorem KRow.kept {w w' : World} {base : Nat} {v : Value} {hs : List Nat} {cs : List (List It)} (h : KRow w base v hs cs) (hz : w.heap.size ≤ w'.heap.size) (e : ∀ g, base ≤ g → g < w.heap.size → w'.heap[g]? = w.heap[g]?) : KRow w' base v hs cs := by
  obtain ⟨⟨vs, row, hc⟩, len, apart, off, low, its⟩ := h
  refine ⟨⟨vs, ownsRow_block row (fun g hg => by obtain ⟨h1, h2⟩ := row.lt g hg; exact e g h1 h2), hc⟩, len, apart, off, fun h hh => ⟨(low h hh).1, Nat.lt_of_lt_of_le (low h hh).2 hz⟩, fun i h h' => ?_⟩
  obtain ⟨h1, h2⟩ := low hs[i] (List.getElem_mem h')
  exact ⟨(its i h h').1.block (e _ h1 h2), (its i h h').2.block (e _ h1 h2)⟩
theorem KRow.grew {w w' : World} {base : Nat} {v : Value} {hs : List Nat} {cs : List (List It)} (h : KRow w base v hs cs) (g : Grew w w') : KRow w' base v hs cs := h.kept g.size fun b _ hb => g.below.block b hb
theorem KRow.nil (w : World) (base : Nat) : KRow w base (.slice none 0 0) [] [] :=
  ⟨⟨[], World.ownsRow_nil _ _ _ _, fun i h => absurd h (Nat.not_lt_zero _)⟩, rfl, List.nodup_nil, (fun h hh => by cases hh), (fun h hh => by cases hh), fun i h => absurd h (Nat.not_lt_zero _)⟩
theorem KRow.block {w : World} {base : Nat} {v : Value} {hs : List Nat} {cs : List (List It)} (h : KRow w base v hs cs) : ∀ k, v.ownBlock = some k → base ≤ k ∧ k < w.heap.size := by
  obtain ⟨vs, row, _⟩ := h.row; exact row.lt
/-- What a row is behind 'append' of one chain that lies in a row of its own. -/
theorem KRow.grow {w : World} {base : Nat} {v : Value} {hs : List Nat} {cs : List (List It)} (hown : KRow w base v hs cs) (c : List It) (q : Nat)
    (hq : base ≤ q) (hql : q < w.heap.size) (hqn : q ∉ hs) (hqg : v.ownBlock ≠ some q) (hi : Its w (some ⟨q, 0, none⟩) c) (hoo : Own w q c.length) :
    ∃ vs, w.ownsRow base 23 1 v cs.length vs ∧ ∀ v' w', w'.ownsRow base 23 1 v' (cs.length + 1) (vs ++ [.slice (some ⟨q, 0, none⟩) c.length c.length]) → w.grownBy w' v.ownBlock →
      (∃ g, v'.ownBlock = some g ∧ (v.ownBlock = some g ∨ w.heap.size ≤ g)) → KRow w' base v' (hs ++ [q]) (cs ++ [c]) := by
  obtain ⟨⟨vs, row, hcs⟩, len, apart, off, low, its⟩ := hown
  have hvl : vs.length = cs.length := by have := row.1; omega
  refine ⟨vs, row, fun v' w' h1 h2 h4 => ?_⟩
  obtain ⟨g', hg', h4⟩ := h4
  have hnew : ∀ g, g < w.heap.size → v.ownBlock ≠ some g → v'.ownBlock ≠ some g ∧ w'.heap[g]? = w.heap[g]? := fun g hg hne => by
    refine ⟨fun e => ?_, h2.block g hg (fun e => hne e.symm)⟩
    rw [hg'] at e
    cases e
    rcases h4 with h4 | h4
    · exact hne h4
    · omega
  refine ⟨⟨_, (by rw [List.length_append]; exact h1), fun i hi1 hi2 => ?_⟩, by simp [len], ?_, fun h hh => ?_, fun h hh => ?_, fun i hi1 hi2 => ?_⟩
  · simp only [List.length_append, List.length_singleton] at hi1 hi2
    by_cases e : i < cs.length
    · have h1 := hcs i e (by omega)
      rw [List.getElem?_append_left (by omega), List.getElem_append_left (by omega)]
      simp only [List.getElem_append_left e]
      exact h1
    · have e' : i = cs.length := by omega
      subst e'
      rw [List.getElem?_append_right (by omega), List.getElem_append_right (by omega)]
      simp [len, hvl]
  · rw [List.nodup_append]
    exact ⟨apart, by simp, fun a ha b hb e => hqn (by simp at hb; rw [← hb, ← e]; exact ha)⟩
  · rcases List.mem_append.1 hh with hh | hh
    · exact (hnew h (low h hh).2 (off h hh)).1
    · simp at hh; rw [hh]; exact (hnew q hql hqg).1
  · have hz := h2.size
    rcases List.mem_append.1 hh with hh | hh
    · exact ⟨(low h hh).1, Nat.lt_of_lt_of_le (low h hh).2 hz⟩
    · simp at hh; rw [hh]; exact ⟨hq, Nat.lt_of_lt_of_le hql hz⟩
  · simp only [List.length_append, List.length_singleton] at hi1 hi2
    by_cases e : i < cs.length
    · have h1 := its i e (by omega)
      have hm : hs[i] ∈ hs := List.getElem_mem (by omega)
      have hn := (hnew hs[i] (low _ hm).2 (off _ hm)).2
      rw [List.getElem_append_left (by omega)]
      simp only [List.getElem_append_left e]
      exact ⟨h1.1.block hn, h1.2.block hn⟩
    · have e' : i = cs.length := by omega
      subst e'
      have e1 : (hs ++ [q])[cs.length] = q := by rw [List.getElem_append_right (by omega)]; simp [len]
      have e2 : (cs ++ [c])[cs.length] = c := by rw [List.getElem_append_right (by omega)]; simp
      simp only [e1, e2]
      exact ⟨hi.block (hnew q hql hqg).2, hoo.block (hnew q hql hqg).2⟩
/-- It is read as a row of chains. -/
theorem KRow.chs {w : World} {base : Nat} {v : Value} {hs : List Nat} {cs : List (List It)} (h : KRow w base v hs cs) : (v = .slice none 0 0 ∧ cs = []) ∨ OwnC w base v cs := by
  obtain ⟨⟨vs, row, hcs⟩, len, apart, off, low, its⟩ := h
  by_cases hz : v = .slice none 0 0
  · refine .inl ⟨hz, ?_⟩
    rcases row.2 with ⟨_, h0⟩ | ⟨g, cap, cur, hv, _⟩
    · exact List.eq_nil_of_length_eq_zero h0
    · rw [hz] at hv; cases hv
  · refine .inr ⟨hz, vs, row, fun i hi => ?_⟩
    have hi' : i < hs.length := by omega
    refine ⟨_, hcs i hi hi', _, _, rfl, Nat.le_refl _, (its i hi hi').1, fun x hx => ?_⟩
    cases hx
    have hm := List.getElem_mem hi'
    exact ⟨(low _ hm).1, (low _ hm).2, off _ hm⟩
theorem KRow.turn {A B : World} {row : Option Nat} {base : Nat} {v : Value} {hs : List Nat} {cs : List (List It)} (h : KRow A base v hs cs) (hg : A.grownBy B row) (hr : ∀ r, row = some r → ∃ o : Obj, A.heap[r]? = some o ∧ o.isCells = false) : KRow B base v hs cs := by
  obtain ⟨⟨vs, rw', hc⟩, len, apart, off, low, its⟩ := h
  have same : ∀ {g : Nat} {c : Array Value} {t : TypeId} {f : Nat × Nat}, A.heap[g]? = some (.cells c t f) → B.heap[g]? = A.heap[g]? := fun {g c t f} hgc => hg.block g (Array.getElem?_eq_some_iff.1 hgc).1 (fun e => by
    obtain ⟨o, ho, hcell⟩ := hr g e.symm
    rw [hgc] at ho
    cases ho
    cases hcell)
  refine ⟨⟨vs, ownsRow_block rw' (fun g hgv => ?_), hc⟩, len, apart, off, fun h hh => ⟨(low h hh).1, Nat.lt_of_lt_of_le (low h hh).2 hg.size⟩, fun i h h' => ?_⟩
  · rcases rw'.2 with ⟨e, _⟩ | ⟨g', cap, cur, e, _, hgg, _⟩
    · rw [e] at hgv; cases hgv
    · rw [e] at hgv
      simp only [Value.ownBlock, Option.some.injEq] at hgv
      subst hgv
      exact same hgg
  · obtain ⟨f, hf⟩ := (its i h h').2
    have hb := hf
    obtain ⟨cs', hcs', _⟩ := hb
    have := same hcs'
    exact ⟨(its i h h').1.block this, (its i h h').2.block this⟩
theorem KRow.lower {w : World} {base base' : Nat} {v : Value} {hs : List Nat} {cs : List (List It)} (h : KRow w base v hs cs) (hb : base' ≤ base) : KRow w base' v hs cs := by
  obtain ⟨⟨vs, row, hc⟩, len, apart, off, low, its⟩ := h
  refine ⟨⟨vs, ⟨row.1, ?_⟩, hc⟩, len, apart, off, fun h hh => ⟨Nat.le_trans hb (low h hh).1, (low h hh).2⟩, its⟩
  rcases row.2 with h0 | ⟨g, cap, cur, hv, hb', hr⟩
  · exact .inl h0
  · exact .inr ⟨g, cap, cur, hv, Nat.le_trans hb hb', hr⟩
/-- 'append' of one chain, inside a region that draws its order. -/
theorem step_chs {ops : Array Oper} {o : Oper} {a : Act} {w : World} {K : Act → World → Prop} {Q : Exit → Act → World → Prop} {E : Prop} (hgd : o.guard = none) (s x : Operand)
    (ho : o.op = .call { callee := .builtin .append, args := #[s, x], argTypes := #[88, 88] })
    (base : Nat) (v : Value) (hs : List Nat) (cs : List (List It)) (hse : a.eval s = v) (hown : KRow w base v hs cs)
    (ad : Addr) (cp : Nat) (c : List It) (q : Nat) (hx : a.eval x = .slice (some ad) 1 cp) (hm : w.cell? ad = some (.slice (some ⟨q, 0, none⟩) c.length c.length))
    (hq : base ≤ q) (hql : q < w.heap.size) (hqn : q ∉ hs) (hqg : v.ownBlock ≠ some q) (hi : Its w (some ⟨q, 0, none⟩) c) (hoo : Own w q c.length) (hn : cs.length ≤ 1073741823) (hbase : base ≤ w.heap.size)
    (h : ∀ v' w', Hid (KRow w' base v' (hs ++ [q]) (cs ++ [c])) → w.grownBy w' v.ownBlock → K (a.put o.dst v') w') :
    if Region.wanted o (yielded ops a.tmps) = true then Oper.wp Try.prog o a w K Q else E := by
  obtain ⟨i, hi0, hz0, hz1, hz2⟩ := info_parts chs_info
  obtain ⟨vs, row, hgrow⟩ := hown.grow c q hq hql hqn hqg hi hoo
  obtain ⟨v', w', hrun, h2, h3, h4⟩ := run_append_sep (P := Try.prog) w base 88 o.type 23 i _ 1 24 Try.underlying88 hi0 hz0 hz1 hz2 rfl (by omega) v cs.length vs row ad 1 cp (by omega) [.slice (some ⟨q, 0, none⟩) c.length c.length] rfl
    (fun j u hj => by
      rcases j with _ | j
      · simp only [List.getElem?_cons_zero, Option.some.injEq] at hj
        subst hj
        have : ad.add 0 = ad := by unfold Addr.add; split <;> simp_all
        rw [this]; exact hm
      · simp at hj) (fun u hu => by simp only [List.mem_singleton] at hu; subst hu; rfl) (by unfold maxLen; omega) (by omega) hbase
  have hw : Region.wanted o (yielded ops a.tmps) = true := by simp [Region.wanted, hgd]
  rw [if_pos hw]
  unfold Oper.wp execOp
  simp only [ho, resolve, invoke, builtin, Sem.run_bind, Sem.run_pure, Result.andThen_ok, List.map_toArray, List.map_cons, List.map_nil, hse, hx, hrun]
  exact h v' w' (hide (hgrow v' w' h2 h3 h4)) h3

set_option linter.unusedVariables false
open Go.RowKit
attribute [local simp] far_const

/-- A row of chains, as a value that is read. -/
def ChsV (w : World) (v : Value) (cs : List (List It)) : Prop := ∃ a cap, v = .slice a cs.length cap ∧ cs.length ≤ cap ∧ ∀ i (h : i < cs.length), ∃ b off ai ci, a = some ⟨b, off, none⟩ ∧ w.cell? ⟨b, off + i, none⟩ = some (.slice ai cs[i].length ci) ∧ cs[i].length ≤ ci ∧ Its w ai cs[i]
theorem ChsV.grew {w w' : World} {v : Value} {cs : List (List It)} (h : ChsV w v cs) (g : Grew w w') : ChsV w' v cs := by
  obtain ⟨a, cap, h1, h2, h3⟩ := h
  exact ⟨a, cap, h1, h2, fun i hi => by obtain ⟨b, off, ai, ci, e1, e2, e3, e4⟩ := h3 i hi; exact ⟨b, off, ai, ci, e1, g.keep e2, e3, e4.grew g⟩⟩
theorem OwnC.chsV {w : World} {base : Nat} {v : Value} {cs : List (List It)} (h : OwnC w base v cs) : ChsV w v cs := by
  obtain ⟨g, cap, hv, hc, _, _, hx⟩ := h.at
  refine ⟨_, cap, hv, hc, fun i hi => ?_⟩
  obtain ⟨u, hu, ai, ci, e1, e2, e3, _⟩ := hx i hi
  exact ⟨g, 0, ai, ci, rfl, by rw [Nat.zero_add, hu, e1], e2, e3⟩
theorem KRow.chsV {w : World} {base : Nat} {v : Value} {hs : List Nat} {cs : List (List It)} (h : KRow w base v hs cs) : ChsV w v cs := by
  rcases h.chs with ⟨rfl, rfl⟩ | h
  · exact ⟨none, 0, rfl, Nat.le_refl _, fun i hi => absurd hi (Nat.not_lt_zero _)⟩
  · exact h.chsV
/-- Whether a chain is among others. -/
def amongB (cs : List (List It)) (c : List It) : Bool := cs.any (fun d => sameB d c)

end Go.Proofs.Ytjbnohepbmejkaa
