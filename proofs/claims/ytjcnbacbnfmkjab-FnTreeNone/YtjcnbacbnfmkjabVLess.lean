/-
  'append' of older votes inside a region that draws its order; votes cut and joined, cell by cell.
-/
import Derived.Test.YtjcnbacbnfmkjabVLwA
namespace Go.Proofs.Ytjcnbacbnfmkjab
set_option linter.unusedVariables false
open Go.RowKit

theorem Lies.up {w : World} {H H' : Nat} {e : Vl} (h : Lies w H e) (hH : H ≤ H') : Lies w H' e := by
  refine ⟨h.1, ?_⟩
  rcases h.2 with h0 | ⟨x, hx, hb⟩
  · exact .inl h0
  · exact .inr ⟨x, hx, Nat.lt_of_lt_of_le hb hH⟩
theorem VShr.empty' (w : World) {H : Nat} (hH : H ≤ w.heap.size) : VShr (w.alloc (.cells #[] 32)) H (.slice (some ⟨w.heap.size, 0, none⟩) 0 0) [] :=
  ⟨(fun e => by simp at e), [], rfl, World.ownsRow_lit w #[] 0 hH (by unfold maxLen; omega) rfl, (fun e he => by cases he)⟩
theorem step_shr {ops : Array Oper} {o : Oper} {a : Act} {w : World} {K : Act → World → Prop} {Q : Exit → Act → World → Prop} {E : Prop} (hgd : o.guard = none) (s x : Operand)
    (ho : o.op = .call { callee := .builtin .append, args := #[s, x], argTypes := #[23, 23] })
    (H : Nat) (v : Value) (l : List Vt) (hse : a.eval s = v) (hown : VShr w H v l) (hH : H ≤ w.heap.size)
    (ad : Addr) (c : Nat) (M : List Vl) (mn : Nat) (hmn : M.length = mn) (hx : a.eval x = .slice (some ad) mn c) (hc : ∀ j u, (cellsV M)[j]? = some u → w.cell? (ad.add j) = some u) (hM : ∀ e ∈ M, Lies w H e) (hn : l.length + mn ≤ 1048577)
    (h : ∀ v' w', VShr w' H v' (l ++ M.map (·.1)) → w.grownBy w' v.ownBlock → K (a.put o.dst v') w') :
    if Region.wanted o (yielded ops a.tmps) = true then Oper.wp Try.prog o a w K Q else E := by
  have hw : Region.wanted o (yielded ops a.tmps) = true := by simp [Region.wanted, hgd]
  rw [if_pos hw]
  obtain ⟨i, hi0, hz0, hz1, hz2⟩ := info_parts vote_info
  subst hmn
  have nz := hown.1
  obtain ⟨cs, row, hgrow⟩ := hown.grow M hM hH
  refine wp_append_own w s x 23 ho H 32 i _ 2 32 Try.underlying23 hi0 hz0 hz1 hz2 rfl (by omega) v l.length cs hse row ad M.length c (cellsV M) hx (cellsV_length M) hc (cellsV_one M) (by unfold maxLen; omega) (by omega) hH ?_
  intro v' w' h1 h2 h3
  exact h v' w' (hgrow v' w' h1 (fun e => nz (h3.1 e).1) h2) h2
theorem cellsV_take {L : List Vl} {k j : Nat} {u : Value} (h : (cellsV (L.take k))[j]? = some u) : (cellsV L)[j]? = some u := by
  have hj := (List.getElem?_eq_some_iff.1 h).1
  have e : cellsV L = cellsV (L.take k) ++ cellsV (L.drop k) := by rw [← cellsV_app, List.take_append_drop]
  rw [e, List.getElem?_append_left hj]; exact h
theorem cellsV_drop {L : List Vl} {k j : Nat} {u : Value} (hk : k ≤ L.length) (h : (cellsV (L.drop k))[j]? = some u) : (cellsV L)[k * 2 + j]? = some u := by
  have e : cellsV L = cellsV (L.take k) ++ cellsV (L.drop k) := by rw [← cellsV_app, List.take_append_drop]
  have hl : (cellsV (L.take k)).length = k * 2 := by rw [cellsV_length, List.length_take, Nat.min_eq_left hk]
  rw [e, List.getElem?_append_right (by omega), hl, Nat.add_sub_cancel_left]; exact h
theorem addr_add (b off i j : Nat) : (⟨b, off, none⟩ : Addr).add (i + j) = (⟨b, off + i, none⟩ : Addr).add j := by
  have h : ∀ o j, (⟨b, o, none⟩ : Addr).add j = ⟨b, o + j, none⟩ := fun o j => by unfold Addr.add; split <;> simp_all
  rw [h, h, Nat.add_assoc]
end Go.Proofs.Ytjcnbacbnfmkjab
