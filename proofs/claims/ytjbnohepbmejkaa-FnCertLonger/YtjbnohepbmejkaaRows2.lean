/-
  Rows of items that a call owns: appended to, cut, stored into, read as items.
-/
import Derived.Test.YtjbnohepbmejkaaDraw1
namespace Go.Proofs.Ytjbnohepbmejkaa
set_option linter.unusedVariables false
open Go.RowKit

def It.row (x : It) : List Value := [.int .i64 x.e, .int .i64 x.f, .int .i64 x.t, .int .i64 x.s]
def flat : List It → List Value
  | [] => []
  | x :: r => x.row ++ flat r
theorem flat_length : ∀ l : List It, (flat l).length = l.length * 4
  | [] => rfl
  | x :: r => by simp [flat, It.row, flat_length r]; omega
theorem flat_get : ∀ (l : List It) (i : Nat) (h : i < l.length) (j : Nat), j < 4 → (flat l)[i * 4 + j]? = (l[i]).row[j]?
  | [], i, h, _, _ => absurd h (Nat.not_lt_zero _)
  | x :: r, 0, _, j, hj => by
    simp only [flat, Nat.zero_mul, Nat.zero_add, List.getElem_cons_zero]
    rw [List.getElem?_append_left (by simpa [It.row] using hj)]
  | x :: r, i + 1, h, j, hj => by
    have hr := flat_get r i (by simpa using h) j hj
    simp only [flat, List.getElem_cons_succ]
    rw [List.getElem?_append_right (by simp [It.row]; omega)]
    rw [show (i + 1) * 4 + j - x.row.length = i * 4 + j by simp [It.row]; omega]
    exact hr
theorem flat_app (l m : List It) : flat (l ++ m) = flat l ++ flat m := by
  induction l with
  | nil => rfl
  | cons x r ih => simp [flat, ih]
theorem flat_take : ∀ (l : List It) (k : Nat), flat (l.take k) = (flat l).take (k * 4)
  | [], k => by simp [flat]
  | x :: r, 0 => by simp [flat]
  | x :: r, k + 1 => by
    simp only [List.take_succ_cons, flat, flat_take r k]
    rw [show (k + 1) * 4 = x.row.length + k * 4 by simp [It.row]; omega, List.take_length_add_append]
/-- Cells that are all numbers are items. -/
theorem flat_of : ∀ (n : Nat) (xs : List Value), xs.length = n * 4 → (∀ u ∈ xs, ∃ z : Int, u = .int .i64 z) → ∃ l : List It, l.length = n ∧ xs = flat l
  | 0, xs, h, _ => ⟨[], rfl, List.eq_nil_of_length_eq_zero (by simpa using h)⟩
  | n + 1, xs, h, hz => by
    match xs, h, hz with
    | a :: b :: c :: d :: r, h, hz =>
      obtain ⟨e, rfl⟩ := hz a (by simp)
      obtain ⟨f, rfl⟩ := hz b (by simp)
      obtain ⟨t, rfl⟩ := hz c (by simp)
      obtain ⟨s, rfl⟩ := hz d (by simp)
      obtain ⟨l, hl, hr⟩ := flat_of n r (by simp at h; omega) (fun u hu => hz u (by simp [hu]))
      exact ⟨⟨e, f, t, s⟩ :: l, by simp [hl], by simp [flat, It.row, hr]⟩
    | [], h, _ => simp at h
    | [_], h, _ => simp at h; omega
    | [_, _], h, _ => simp at h; omega
    | [_, _, _], h, _ => simp at h; omega
theorem flat_ints (l : List It) : ∀ u ∈ flat l, ∃ z : Int, u = .int .i64 z := by
  induction l with
  | nil => intro u hu; simp [flat] at hu
  | cons x r ih =>
    intro u hu
    simp only [flat, It.row, List.mem_append, List.mem_cons, List.not_mem_nil, or_false] at hu
    rcases hu with (h | h | h | h) | h
    · exact ⟨_, h⟩
    · exact ⟨_, h⟩
    · exact ⟨_, h⟩
    · exact ⟨_, h⟩
    · exact ih u h
theorem flat_one (l : List It) : ∀ u ∈ flat l, u.oneCell' = true := fun u hu => by
  obtain ⟨z, rfl⟩ := flat_ints l u hu; rfl

/-- The cells of items that lie in memory. -/
theorem Its.flat {w : World} {ad : Addr} {l : List It} (h : Its w (some ad) l) : ∀ j u, (flat l)[j]? = some u → w.cell? (ad.add j) = some u := by
  intro j u hj
  rcases h with h | ⟨b, off, ha, h⟩
  · subst h; simp [Go.Proofs.Ytjbnohepbmejkaa.flat] at hj
  · simp only [Option.some.injEq] at ha
    subst ha
    have hjl : j < l.length * 4 := by
      rw [← flat_length l]; exact (List.getElem?_eq_some_iff.1 hj).1
    have hadd : (⟨b, off, none⟩ : Addr).add j = ⟨b, off + j, none⟩ := by unfold Addr.add; split <;> simp_all
    rw [hadd]
    obtain ⟨i, r, hr, rfl⟩ : ∃ i r, r < 4 ∧ j = i * 4 + r := ⟨j / 4, j % 4, by omega, by omega⟩
    have hi : i < l.length := by omega
    rw [flat_get l i hi r hr] at hj
    obtain ⟨c0, c1, c2, c3⟩ := h i hi
    rw [← Nat.add_assoc]
    match r, hr with
    | 0, _ => rw [← hj]; simpa [It.row] using c0
    | 1, _ => rw [← hj]; simpa [It.row] using c1
    | 2, _ => rw [← hj]; simpa [It.row] using c2
    | 3, _ => rw [← hj]; simpa [It.row] using c3

theorem Its.take {w : World} {a : Option Addr} {l : List It} (h : Its w a l) (k : Nat) : Its w a (l.take k) := by
  rcases h with h | ⟨b, off, ha, h⟩
  · exact .inl (by rw [h]; simp)
  · refine .inr ⟨b, off, ha, fun i hi => ?_⟩
    have hi' : i < l.length := by simp at hi; omega
    have := h i hi'
    simpa using this

/-- A row of items that the call owns; never nil. -/
def OwnL (w : World) (base : Nat) (v : Value) (l : List It) : Prop := v ≠ .slice none 0 0 ∧ w.ownsRow base 33 4 v l.length (flat l)
theorem OwnL.shape {w : World} {base : Nat} {v : Value} {l : List It} (h : OwnL w base v l) : ∃ g cap, v = .slice (some ⟨g, 0, none⟩) l.length cap ∧ l.length ≤ cap ∧ base ≤ g ∧ g < w.heap.size ∧ Its w (some ⟨g, 0, none⟩) l := by
  rcases h.2.2 with ⟨hv, hn⟩ | ⟨g, cap, cur, hv, hb, hg, hnc, hcm, hcs, htake⟩
  · exact absurd hv h.1
  · have hlt : g < w.heap.size := (Array.getElem?_eq_some_iff.1 hg).1
    refine ⟨g, cap, hv, hnc, hb, hlt, .inr ⟨g, 0, rfl, fun i hi => ?_⟩⟩
    have hv' : w.ownsRow base 33 4 (.slice (some ⟨g, 0, none⟩) l.length cap) l.length (Go.Proofs.Ytjbnohepbmejkaa.flat l) := by rw [← hv]; exact h.2
    have c : ∀ j, j < 4 → w.cell? ⟨g, 0 + i * 4 + j, none⟩ = (l[i]).row[j]? := fun j hj => by
      rw [Nat.zero_add, hv'.cellAt (i * 4 + j) (by omega), flat_get l i hi j hj]
    exact ⟨by simpa [It.row] using c 0 (by omega), by simpa [It.row] using c 1 (by omega), by simpa [It.row] using c 2 (by omega), by simpa [It.row] using c 3 (by omega)⟩
theorem OwnL.kept {w w' : World} {base : Nat} {v : Value} {l : List It} (h : OwnL w base v l) (e : ∀ g, base ≤ g → g < w.heap.size → v.ownBlock = some g → w'.heap[g]? = w.heap[g]?) : OwnL w' base v l := by
  refine ⟨h.1, h.2.1, ?_⟩
  rcases h.2.2 with h0 | ⟨g, cap, cur, hv, hb, hg, hr⟩
  · exact .inl h0
  · exact .inr ⟨g, cap, cur, hv, hb, by rw [e g hb (Array.getElem?_eq_some_iff.1 hg).1 (by rw [hv]; rfl)]; exact hg, hr⟩
theorem OwnL.ran {w w' : World} {R base : Nat} {v : Value} {l : List It} (h : OwnL w base v l) (g : Ran R w w') (hR : R < base) : OwnL w' base v l :=
  h.kept fun k hk hl _ => g.keep k hl (by omega)
theorem OwnL.grew {w w' : World} {base : Nat} {v : Value} {l : List It} (h : OwnL w base v l) (g : Grew w w') : OwnL w' base v l :=
  h.kept fun k _ hl _ => g.below.block k hl
theorem OwnL.low {w : World} {base base' : Nat} {v : Value} {l : List It} (h : OwnL w base v l) (hb : base' ≤ base) : OwnL w base' v l := by
  refine ⟨h.1, h.2.1, ?_⟩
  rcases h.2.2 with h0 | ⟨g, cap, cur, hv, hb', hr⟩
  · exact .inl h0
  · exact .inr ⟨g, cap, cur, hv, by omega, hr⟩

theorem OwnL.empty {w : World} {base : Nat} (hb : base ≤ w.heap.size) : OwnL (w.alloc (.cells #[] 33)) base (.slice (some ⟨w.heap.size, 0, none⟩) 0 0) [] :=
  ⟨fun e => by simp at e, World.ownsRow_lit w #[] 0 hb (by unfold maxLen; omega) rfl⟩
theorem OwnL.block {w : World} {base : Nat} {v : Value} {l : List It} (h : OwnL w base v l) : ∀ k, v.ownBlock = some k → base ≤ k ∧ k < w.heap.size := World.ownsRow.lt h.2
/-- One item in a block of its own: what 'append' is handed. -/
theorem its_one (w : World) (x : It) (t : TypeId) : Its (w.alloc (.cells #[.int .i64 x.e, .int .i64 x.f, .int .i64 x.t, .int .i64 x.s] t)) (some ⟨w.heap.size, 0, none⟩) [x] := by
  refine .inr ⟨_, _, rfl, fun i hi => ?_⟩
  obtain rfl : i = 0 := by simpa using hi
  exact ⟨by simp [go_sem], by simp [go_sem], by simp [go_sem], by simp [go_sem]⟩
theorem item_info : ∃ i, Try.prog.info? 33 = some i ∧ i.zero = some (.agg #[.int .i64 0, .int .i64 0, .int .i64 0, .int .i64 0]) ∧ i.size = 4 ∧ i.bytes = 32 := info_parts info_item

/-- 'append' onto a row of items that the call owns, from items that lie in memory. -/
theorem wpList_items {ops : Array Oper} {rest : List Oper} {o : Oper} {a : Act} {Q : Exit → Act → World → Prop} {w : World} (hgd : o.guard = none) (s x : Operand)
    (ho : o.op = .call { callee := .builtin .append, args := #[s, x], argTypes := #[23, 23] })
    (base : Nat) (v : Value) (l : List It) (hs : a.eval s = v) (hown : OwnL w base v l)
    (ad : Addr) (c : Nat) (m : List It) (mn : Nat) (hmn : m.length = mn) (hx : a.eval x = .slice (some ad) mn c) (hm : Its w (some ad) m) (hn : l.length + m.length ≤ 1048576) (hbase : base ≤ w.heap.size)
    (h : ∀ v' w', OwnL w' base v' (l ++ m) → w.grownBy w' v.ownBlock → wpList Try.prog ops Q rest (a.put o.dst v') w') : wpList Try.prog ops Q (o :: rest) a w := by
  obtain ⟨i, hi, hz0, hz1, hz2⟩ := item_info
  subst hmn
  refine wpList_append_own w hgd s x 23 ho base 33 i _ 4 32 Try.underlying23 hi hz0 hz1 hz2 rfl (by omega) v l.length (flat l) hs hown.2 ad m.length c (flat m) hx (flat_length m) hm.flat (flat_one m) (by unfold maxLen; omega) (by omega) hbase ?_
  intro v' w' h1 h2 h3
  refine h v' w' ⟨fun e => hown.1 (h3.1 e).1, ?_⟩ h2
  show w'.ownsRow base 33 4 v' (l ++ m).length (Go.Proofs.Ytjbnohepbmejkaa.flat (l ++ m))
  rw [List.length_append, flat_app]
  exact h1
end Go.Proofs.Ytjbnohepbmejkaa
