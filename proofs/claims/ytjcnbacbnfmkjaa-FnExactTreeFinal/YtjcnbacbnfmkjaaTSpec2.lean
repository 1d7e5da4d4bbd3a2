/-
  Rows of chains that a call owns, and what the specification's l11All answers.
-/
import Derived.Test.YtjcnbacbnfmkjaaTreeS
import Derived.Test.YtjcnbacbnfmkjaaVSpec3
namespace Go.Proofs.Ytjcnbacbnfmkjaa
set_option linter.unusedVariables false
open Go.RowKit
attribute [local simp] far_const

theorem chs_info : (Try.prog.info? 24).map (fun i => (i.zero, i.size, i.bytes)) = some (some (.slice none 0 0), 1, 24) := by kernel_rfl
/-- A chain as a value, away from the block that is named. -/
def ChAt (w : World) (base : Nat) (far : Option Nat) (u : Value) (c : List It) : Prop := ∃ a cap, u = .slice a c.length cap ∧ c.length ≤ cap ∧ Its w a c ∧ ∀ x, a = some x → base ≤ x.block ∧ x.block < w.heap.size ∧ far ≠ some x.block
theorem ChAt.grew {w w' : World} {base : Nat} {f : Option Nat} {u : Value} {c : List It} (h : ChAt w base f u c) (g : Grew w w') : ChAt w' base f u c := by
  obtain ⟨a, cap, h1, h2, h3, h4⟩ := h
  exact ⟨a, cap, h1, h2, h3.grew g, fun x hx => ⟨(h4 x hx).1, Nat.lt_of_lt_of_le (h4 x hx).2.1 g.size, (h4 x hx).2.2⟩⟩
/-- A row of chains that the call owns. -/
def OwnC (w : World) (base : Nat) (v : Value) (cs : List (List It)) : Prop :=
  v ≠ .slice none 0 0 ∧ ∃ vs : List Value, w.ownsRow base 24 1 v cs.length vs ∧ ∀ i (h : i < cs.length), ∃ u, vs[i]? = some u ∧ ChAt w base v.ownBlock u cs[i]
theorem OwnC.grew {w w' : World} {base : Nat} {v : Value} {cs : List (List It)} (h : OwnC w base v cs) (g : Grew w w') : OwnC w' base v cs := by
  obtain ⟨hz, vs, hr, hc⟩ := h
  exact ⟨hz, vs, ownsRow_block hr (fun b hb => g.below.block b (hr.lt b hb).2), fun i hi => by obtain ⟨u, hu, hat⟩ := hc i hi; exact ⟨u, hu, hat.grew g⟩⟩
theorem OwnC.at {w : World} {base : Nat} {v : Value} {cs : List (List It)} (h : OwnC w base v cs) : ∃ g cap, v = .slice (some ⟨g, 0, none⟩) cs.length cap ∧ cs.length ≤ cap ∧ base ≤ g ∧ g < w.heap.size ∧ ∀ i (hi : i < cs.length), ∃ u, w.cell? ⟨g, i, none⟩ = some u ∧ ChAt w base (some g) u cs[i] := by
  obtain ⟨hz, vs, hr, hc⟩ := h
  rcases hr.2 with ⟨h1, _⟩ | ⟨g, cap, cur, hv, hb, hg, hn, _⟩
  · exact absurd h1 hz
  · refine ⟨g, cap, hv, hn, hb, (Array.getElem?_eq_some_iff.1 hg).1, fun i hi => ?_⟩
    obtain ⟨u, hu, hat⟩ := hc i hi
    have := hr.cells (g := g) (by rw [hv]; rfl) i u hu
    have hadd : (⟨g, 0, none⟩ : Addr).add i = ⟨g, i, none⟩ := by unfold Addr.add; split <;> simp_all
    rw [hadd] at this
    rw [hv] at hat
    exact ⟨u, this, hat⟩

/-- 'append' of one chain. -/
theorem wpList_chs {ops : Array Oper} {rest : List Oper} {o : Oper} {a : Act} {Q : Exit → Act → World → Prop} {w : World} (hgd : o.guard = none) (s x : Operand)
    (ho : o.op = .call { callee := .builtin .append, args := #[s, x], argTypes := #[33, 33] })
    (base : Nat) (v : Value) (cs : List (List It)) (hs : a.eval s = v) (hown : OwnC w base v cs)
    (ad : Addr) (cp : Nat) (u : Value) (c : List It) (hx : a.eval x = .slice (some ad) 1 cp) (hm : w.cell? ad = some u) (hu : ChAt w base v.ownBlock u c) (hn : cs.length ≤ 1073741824) (hbase : base ≤ w.heap.size)
    (h : ∀ v' w', Hid (OwnC w' base v' (cs ++ [c])) → w.grownBy w' v.ownBlock → wpList Try.prog ops Q rest (a.put o.dst v') w') : wpList Try.prog ops Q (o :: rest) a w := by
  obtain ⟨i, hi, hz0, hz1, hz2⟩ := info_parts chs_info
  obtain ⟨hz, vs, hr, hc⟩ := hown
  obtain ⟨ua, ucap, rfl, hul, hui, hub⟩ := hu
  have hvl : vs.length = cs.length := by have := hr.1; omega
  obtain ⟨v', w', hrun, h2, h3, g, hg, hsep⟩ := run_append_sep (P := Try.prog) w base 33 o.type 24 i _ 1 24 Try.underlying33 hi hz0 hz1 hz2 rfl (by omega) v cs.length vs hr ad 1 cp (by omega) [.slice ua c.length ucap] rfl
    (fun j u hj => by
      rcases j with _ | j
      · simp only [List.getElem?_cons_zero, Option.some.injEq] at hj
        subst hj
        have : ad.add 0 = ad := by unfold Addr.add; split <;> simp_all
        rw [this]; exact hm
      · simp at hj) (fun u hu => by simp only [List.mem_singleton] at hu; subst hu; rfl) (by unfold maxLen; omega) (by omega) hbase
  have keep : ∀ {y : Value} {d : List It}, ChAt w base v.ownBlock y d → ChAt w' base v'.ownBlock y d := fun {y d} hy => by
    obtain ⟨a, cap, e1, e2, e3, e4⟩ := hy
    refine ⟨a, cap, e1, e2, ?_, fun z hz => ?_⟩
    · rcases e3 with h0 | ⟨b, off, ha, hh⟩
      · exact .inl h0
      · obtain ⟨_, hlt, hne⟩ := e4 _ ha
        refine .inr ⟨b, off, ha, fun i hi => ?_⟩
        obtain ⟨c0, c1, c2, c3⟩ := hh i hi
        exact ⟨h3.cell c0 (fun e => hne e.symm), h3.cell c1 (fun e => hne e.symm), h3.cell c2 (fun e => hne e.symm), h3.cell c3 (fun e => hne e.symm)⟩
    · obtain ⟨h5, h6, h7⟩ := e4 z hz
      refine ⟨h5, Nat.lt_of_lt_of_le h6 h3.size, fun e => ?_⟩
      rw [hg] at e
      cases e
      rcases hsep with hs | hs
      · exact h7 hs
      · omega
  refine wpList_plain hgd fun _ hK => ?_
  unfold Oper.wp execOp
  simp only [ho, resolve, invoke, builtin, Sem.run_bind, Sem.run_pure, Result.andThen_ok, List.map_toArray, List.map_cons, List.map_nil, hs, hx, hrun]
  refine hK _ _ (h v' w' (hide ⟨fun e => (by rw [e] at hg; cases hg), vs ++ [.slice ua c.length ucap], by rw [List.length_append]; exact h2, fun i hi => ?_⟩) h3)
  by_cases hi2 : i < cs.length
  · obtain ⟨y, hy, hat⟩ := hc i hi2
    refine ⟨y, by rw [List.getElem?_append_left (by omega)]; exact hy, ?_⟩
    rw [List.getElem_append_left hi2]
    exact keep hat
  · have hie : i = cs.length := by simp at hi; omega
    subst hie
    refine ⟨.slice ua c.length ucap, by rw [← hvl]; simp, ?_⟩
    rw [List.getElem_append_right (Nat.le_refl _)]
    simp only [Nat.sub_self, List.getElem_cons_zero]
    exact keep ⟨ua, ucap, rfl, hul, hui, hub⟩
theorem ownC_start (w : World) : OwnC ((w.alloc (.cells #[] 77)).alloc (.cells #[.slice (some ⟨w.heap.size, 0, none⟩) 0 0] 24)) w.heap.size (.slice (some ⟨w.heap.size + 1, 0, none⟩) 1 1) [[]] := by
  obtain ⟨A, hA⟩ : ∃ A, A = w.alloc (.cells #[] 77) := ⟨_, rfl⟩
  rw [← hA]
  have sA : A.heap.size = w.heap.size + 1 := by rw [hA]; simp
  refine ⟨by simp, [.slice (some ⟨w.heap.size, 0, none⟩) 0 0], ⟨rfl, .inr ⟨w.heap.size + 1, 1, #[.slice (some ⟨w.heap.size, 0, none⟩) 0 0], rfl, by omega, by rw [← sA]; exact heap_alloc_new A _, Nat.le_refl _, by unfold maxLen; omega, rfl, rfl⟩⟩, fun i hi => ?_⟩
  obtain rfl : i = 0 := by simpa using hi
  refine ⟨_, rfl, some ⟨w.heap.size, 0, none⟩, 0, rfl, Nat.le_refl _, .inl rfl, fun x hx => ?_⟩
  cases hx
  refine ⟨Nat.le_refl _, by simp [sA]; omega, ?_⟩
  simp [Value.ownBlock]

/-- The sure chains of the first votes. -/
def allK (l : List Vt) (k : Nat) : List (List It) := (firstsL (l.take k)).filter (sureF (cnt l))
theorem sureF_nil (vt : List It → Nat) : sureF vt [] = true := rfl
theorem allK_zero (l : List Vt) : allK l 0 = [[]] := by unfold allK; rw [List.take_zero]; rfl
theorem any_same (cs : List (List It)) (c : List It) : cs.any (fun d => sameB d c) = true ↔ c ∈ cs := by
  rw [List.any_eq_true]
  constructor
  · rintro ⟨d, hd, e⟩; rw [sameB_iff] at e; exact e ▸ hd
  · intro h; exact ⟨c, h, (sameB_iff _ _).2 rfl⟩
theorem allK_known {l : List Vt} {k : Nat} (hk : k < l.length) (h : (allK l k).any (fun d => sameB d l[k].c) = true) : allK l (k + 1) = allK l k := by
  rw [any_same] at h
  unfold allK at h ⊢
  rw [List.take_succ_eq_append_getElem hk, firstsL_snoc, if_pos ((any_same _ _).2 (List.mem_filter.1 h).1)]
theorem allK_poor {l : List Vt} {k : Nat} (hk : k < l.length) (h : sureF (cnt l) l[k].c = false) : allK l (k + 1) = allK l k := by
  unfold allK
  rw [List.take_succ_eq_append_getElem hk, firstsL_snoc]
  split
  · rfl
  · rw [List.filter_append]; simp [h]
theorem allK_new {l : List Vt} {k : Nat} (hk : k < l.length) (h : (allK l k).any (fun d => sameB d l[k].c) = false) (hs : sureF (cnt l) l[k].c = true) : allK l (k + 1) = allK l k ++ [l[k].c] := by
  unfold allK at h ⊢
  rw [List.take_succ_eq_append_getElem hk, firstsL_snoc, if_neg]
  · rw [List.filter_append]; simp [hs]
  · intro e
    rw [any_same] at e
    have : l[k].c ∈ (firstsL (l.take k)).filter (sureF (cnt l)) := List.mem_filter.2 ⟨e, hs⟩
    rw [← any_same, h] at this
    cases this
theorem allK_len (l : List Vt) (k : Nat) : (allK l k).length ≤ l.length + 1 := by
  have h1 := List.length_filter_le (sureF (cnt l)) (firstsL (l.take k))
  have h2 := firstsL_len (l.take k)
  unfold allK
  simp at h2
  omega
theorem allK_short {l : List Vt} (h : Short l) (k : Nat) : ∀ c ∈ allK l k, c.length ≤ 1048576 := by
  intro c hc
  have := (List.mem_filter.1 hc).1
  rcases (firstsL_mem _ c).1 this with rfl | ⟨x, hx, rfl⟩
  · simp
  · exact h x (List.mem_of_mem_take hx)

end Go.Proofs.Ytjcnbacbnfmkjaa
