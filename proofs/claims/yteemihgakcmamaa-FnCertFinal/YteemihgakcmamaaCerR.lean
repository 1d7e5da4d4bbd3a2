/-
  A row of numbers appended to a row of rows; what CertOf answers, as mathematics.
-/
import Derived.Test.YteemihgakcmamaaCerB
import Derived.Test.YteemihgakcmamaaCerW2
import Derived.Test.YteemihgakcmamaaTFormsA
import Derived.Test.YteemihgakcmamaaTSpecB
import Derived.Test.YteemihgakcmamaaTMath2
namespace Go.Proofs.Yteemihgakcmamaa
set_option linter.unusedVariables false
open Go.RowKit
attribute [local simp] far_const

/-- Nothing at all, or a row of rows of numbers of the call's own. -/
def RAns (w : World) (base : Nat) (v : Value) (hs : List Nat) (ls : List (List Int)) : Prop := (v = .slice none 0 0 ∧ ls = [] ∧ hs = []) ∨ PRow w base v hs ls.length ls
theorem RAns.kept {w w' : World} {base : Nat} {v : Value} {hs : List Nat} {l : List (List Int)} (h : RAns w base v hs l) (hz : w.heap.size ≤ w'.heap.size) (e : ∀ g, base ≤ g → g < w.heap.size → w'.heap[g]? = w.heap[g]?) : RAns w' base v hs l := by
  rcases h with h | h
  · exact .inl h
  · exact .inr (h.kept hz e)
theorem RAns.grew {w w' : World} {base : Nat} {v : Value} {hs : List Nat} {l : List (List Int)} (h : RAns w base v hs l) (g : Grew w w') : RAns w' base v hs l := h.kept g.size fun b _ hb => g.below.block b hb
theorem RAns.parts {w : World} {base : Nat} {v : Value} {hs : List Nat} {l : List (List Int)} (h : RAns w base v hs l) : ∃ vs, w.ownsRow base 47 1 v l.length vs ∧ (∀ i (h : i < l.length) (h' : i < hs.length), ∃ cap, vs[i]? = some (.slice (some ⟨hs[i], 0, none⟩) l[i].length cap) ∧ OwnN w base (.slice (some ⟨hs[i], 0, none⟩) l[i].length cap) l[i]) ∧ hs.length = l.length ∧ hs.Nodup ∧ (∀ h ∈ hs, v.ownBlock ≠ some h) ∧ (∀ h ∈ hs, base ≤ h ∧ h < w.heap.size) := by
  rcases h with ⟨rfl, rfl, rfl⟩ | h
  · exact ⟨[], ⟨rfl, .inl ⟨rfl, rfl⟩⟩, (fun i h => absurd h (Nat.not_lt_zero _)), rfl, List.nodup_nil, (fun h hh => by cases hh), (fun h hh => by cases hh)⟩
  · obtain ⟨nz, ⟨vs, row, hc⟩, len, le, apart, off, low⟩ := h
    exact ⟨vs, row, hc, len, apart, off, low⟩
theorem RAns.block {w : World} {base : Nat} {v : Value} {hs : List Nat} {l : List (List Int)} (h : RAns w base v hs l) : ∀ k, v.ownBlock = some k → base ≤ k ∧ k < w.heap.size := by
  obtain ⟨cs, row, _⟩ := h.parts; exact row.lt
theorem RAns.low {w : World} {base : Nat} {v : Value} {hs : List Nat} {l : List (List Int)} (h : RAns w base v hs l) : ∀ k ∈ hs, base ≤ k ∧ k < w.heap.size := by
  obtain ⟨cs, _, _, _, _, _, h⟩ := h.parts; exact h
theorem RAns.grow {w : World} {base : Nat} {v : Value} {hs : List Nat} {l : List (List Int)} (h : RAns w base v hs l) (x : List Int) (q c : Nat) (hq : base ≤ q) (hql : q < w.heap.size) (hqn : q ∉ hs) (hqg : v.ownBlock ≠ some q) (ho : OwnN w base (.slice (some ⟨q, 0, none⟩) x.length c) x) :
    ∃ vs, w.ownsRow base 47 1 v l.length vs ∧ ∀ v' w', w'.ownsRow base 47 1 v' (l.length + 1) (vs ++ [.slice (some ⟨q, 0, none⟩) x.length c]) → v' ≠ .slice none 0 0 → w.grownBy w' v.ownBlock → (v'.ownBlock = v.ownBlock ∨ v'.ownBlock = some w.heap.size) → RAns w' base v' (hs ++ [q]) (l ++ [x]) := by
  obtain ⟨vs, row, hc, len, apart, off, low⟩ := h.parts
  have hvl : vs.length = l.length := by have := row.1; omega
  refine ⟨vs, row, fun v' w' r nz g at' => .inr ?_⟩
  have hnew : ∀ b, b < w.heap.size → v.ownBlock ≠ some b → v'.ownBlock ≠ some b ∧ w'.heap[b]? = w.heap[b]? := fun b hb hne => by
    refine ⟨fun e => ?_, g.block b hb (fun e => hne e.symm)⟩
    rcases at' with h4 | h4
    · exact hne (h4.symm.trans e)
    · rw [h4] at e; have := Option.some.inj e; omega
  refine ⟨nz, ⟨_, (by rw [List.length_append]; exact r), fun i hi1 hi2 => ?_⟩, by simp [len], Nat.le_refl _, ?_, fun h hh => ?_, fun h hh => ?_⟩
  · simp only [List.length_append, List.length_singleton] at hi1 hi2
    by_cases e : i < l.length
    · obtain ⟨cp, h1, h2⟩ := hc i e (by omega)
      have hm : hs[i] ∈ hs := List.getElem_mem (by omega)
      have hn := (hnew hs[i] (low _ hm).2 (off _ hm)).2
      refine ⟨cp, ?_, ?_⟩
      · rw [List.getElem?_append_left (by omega), List.getElem_append_left e, List.getElem_append_left (by omega)]; exact h1
      · simp only [List.getElem_append_left e, List.getElem_append_left (show i < hs.length by omega)]
        exact h2.kept (fun b _ _ hb => by simp [Value.ownBlock] at hb; rw [← hb]; exact hn)
    · have e' : i = l.length := by omega
      subst e'
      refine ⟨c, ?_, ?_⟩
      · rw [List.getElem?_append_right (by omega), List.getElem_append_right (by omega), List.getElem_append_right (by omega)]
        simp [len, hvl]
      · simp only [List.getElem_append_right (Nat.le_refl _), Nat.sub_self, List.getElem_cons_zero]
        have e1 : (hs ++ [q])[l.length]'(by simp [len]) = q := by rw [List.getElem_append_right (by omega)]; simp [len]
        rw [e1]
        exact ho.kept (fun b _ _ hb => by simp [Value.ownBlock] at hb; rw [← hb]; exact (hnew q hql hqg).2)
  · rw [List.nodup_append]
    exact ⟨apart, by simp, fun a ha b hb e => hqn (by simp at hb; rw [← hb, ← e]; exact ha)⟩
  · rcases List.mem_append.1 hh with hh | hh
    · exact (hnew h (low h hh).2 (off h hh)).1
    · simp at hh; rw [hh]; exact (hnew q hql hqg).1
  · have hz := g.size
    rcases List.mem_append.1 hh with hh | hh
    · exact ⟨(low h hh).1, Nat.lt_of_lt_of_le (low h hh).2 hz⟩
    · simp at hh; rw [hh]; exact ⟨hq, Nat.lt_of_lt_of_le hql hz⟩
/-- 'append' of one row of numbers inside a region that draws its order. -/
theorem step_prow {ops : Array Oper} {o : Oper} {a : Act} {w : World} {K : Act → World → Prop} {Q : Exit → Act → World → Prop} {E : Prop} (hgd : o.guard = none) (s x : Operand)
    (ho : o.op = .call { callee := .builtin .append, args := #[s, x], argTypes := #[23, 23] })
    (base : Nat) (v : Value) (hs : List Nat) (l : List (List Int)) (hse : a.eval s = v) (hown : RAns w base v hs l)
    (ad : Addr) (c : Nat) (hx : a.eval x = .slice (some ad) 1 c) (y : List Int) (q cq : Nat) (hc : ∀ j u, ([.slice (some ⟨q, 0, none⟩) y.length cq] : List Value)[j]? = some u → w.cell? (ad.add j) = some u)
    (hq : base ≤ q) (hql : q < w.heap.size) (hqn : q ∉ hs) (hqg : v.ownBlock ≠ some q) (hoo : OwnN w base (.slice (some ⟨q, 0, none⟩) y.length cq) y) (hn : l.length + 1 ≤ 1048577) (hbase : base ≤ w.heap.size)
    (h : ∀ g cap w', RAns w' base (.slice (some ⟨g, 0, none⟩) (l ++ [y]).length cap) (hs ++ [q]) (l ++ [y]) → w.grownBy w' v.ownBlock → K (a.put o.dst (.slice (some ⟨g, 0, none⟩) (l.length + 1) cap)) w') :
    if Region.wanted o (yielded ops a.tmps) = true then Oper.wp Try.prog o a w K Q else E := by
  obtain ⟨i, hi0, hz0, hz1, hz2⟩ := info_parts ints_info
  obtain ⟨vs, row, hgrow⟩ := hown.grow y q cq hq hql hqn hqg hoo
  refine step_append_lies w hgd s x 23 ho base 47 i _ 1 24 Try.underlying23 hi0 hz0 hz1 hz2 rfl (by omega) v l.length vs hse row ad 1 c [.slice (some ⟨q, 0, none⟩) y.length cq] hx rfl hc (by simp [Value.oneCell']) (by omega) (by unfold maxLen; omega) (by omega) hbase _ rfl ?_
  intro g cap w' h1 h2 h3 h4
  refine h g cap w' ?_ h2
  have := hgrow _ w' h1 (fun e => by simp at e) h2 (by
    rcases h3 with h3 | h3
    · exact .inl h3.symm
    · exact .inr (by rw [h3]; rfl))
  simpa using this
theorem cell_row (w : World) (u : Value) (t : TypeId) : ∀ j x, ([u] : List Value)[j]? = some x → (w.alloc (.cells #[u] t)).cell? ((⟨w.heap.size, 0, none⟩ : Addr).add j) = some x := by
  intro j x hj
  match j with
  | 0 => simp at hj; subst hj; simp [Addr.add, go_sem]
  | j + 1 => simp at hj

/-- The cert of a sure chain. -/
def certOf (l : List Vt) (m : List It) : Ct := ⟨m.take (finN m + 1), [forL l (m.take (finN m - 1)), forL l (m.take (finN m)), forL l (m.take (finN m + 1))]⟩
/-- What CertOf answers. -/
def certL (l : List Vt) : Ct × Bool := if votesB l = true ∧ 0 < (mostF (allS l)).2 then (certOf l (mostF (allS l)).1, true) else (⟨[], []⟩, false)
theorem forL_cnt {l : List Vt} (h : votesB l = true) (c : List It) : (forL l c).length = cnt l c := by
  unfold forL
  rw [if_pos h]
  exact forN_count l.length l c rfl h
theorem forL_le (l : List Vt) (c : List It) : (forL l c).length ≤ 4 := by
  unfold forL; split
  · exact forN_len l c
  · simp
theorem most_parts {l : List Vt} (h : 0 < (mostF (allS l)).2) : (mostF (allS l)).1 ∈ allS l ∧ (mostF (allS l)).2 = finN (mostF (allS l)).1 ∧ 2 ≤ finN (mostF (allS l)).1 ∧ finN (mostF (allS l)).1 < (mostF (allS l)).1.length := by
  rcases mostF_is (allS l) with h0 | ⟨h1, h2⟩
  · omega
  · have h3 : 0 < finN (mostF (allS l)).1 := by omega
    exact ⟨h1, h2, finN_two h3, (finN_is h3).1⟩
theorem certOf_by {l : List Vt} (hv : votesB l = true) {m : List It} (hm : m ∈ allS l) (h2 : 2 ≤ finN m) (h3 : finN m < m.length) : ∀ x ∈ (certOf l m).b, 3 ≤ x.length ∧ x.length ≤ 4 := by
  have hs := (allS_mem.1 hm).2
  have key : ∀ k, 0 < k → k ≤ m.length → 3 ≤ (forL l (m.take k)).length ∧ (forL l (m.take k)).length ≤ 4 := fun k h1 h2 => ⟨by rw [forL_cnt hv]; exact sureF_at hs h1 h2, forL_le _ _⟩
  intro x hx
  simp only [certOf, List.mem_cons, List.not_mem_nil, or_false] at hx
  rcases hx with rfl | rfl | rfl
  · exact key _ (by omega) (by omega)
  · exact key _ (by omega) (by omega)
  · exact key _ (by omega) (by omega)
end Go.Proofs.Yteemihgakcmamaa
