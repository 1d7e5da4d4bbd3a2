/-
  'append' onto a row of items that the call owns, inside a region that draws its order.
-/
import Derived.Test.YteemihgakcmamaaRows2
import Derived.Deep.RegionHeld3
import Derived.Deep.AppendLies
import Derived.Deep.DeepFit
namespace Go.Proofs.Yteemihgakcmamaa
set_option linter.unusedVariables false
open Go.RowKit

theorem step_items {ops : Array Oper} {o : Oper} {a : Act} {w : World} {K : Act → World → Prop} {Q : Exit → Act → World → Prop} {E : Prop} (hgd : o.guard = none) (s x : Operand)
    (ho : o.op = .call { callee := .builtin .append, args := #[s, x], argTypes := #[29, 29] })
    (base : Nat) (v : Value) (l : List It) (hs : a.eval s = v) (hown : OwnL w base v l)
    (ad : Addr) (c : Nat) (m : List It) (mn : Nat) (hmn : m.length = mn) (hx : a.eval x = .slice (some ad) mn c) (hm : Its w (some ad) m) (h0 : 0 < m.length) (hn : l.length + m.length ≤ 1048576) (hbase : base ≤ w.heap.size)
    (h : ∀ v' w', OwnL w' base v' (l ++ m) → w.grownBy w' v.ownBlock → K (a.put o.dst v') w') :
    if Region.wanted o (yielded ops a.tmps) = true then Oper.wp Try.prog o a w K Q else E := by
  obtain ⟨i, hi, hz0, hz1, hz2⟩ := item_info
  subst hmn
  refine step_append_lies w hgd s x 29 ho base 51 i _ 4 32 Try.underlying29 hi hz0 hz1 hz2 rfl (by omega) v l.length (flat l) hs hown.2 ad m.length c (flat m) hx (flat_length m) hm.flat (flat_one m) h0 (by unfold maxLen; omega) (by omega) hbase _ rfl ?_
  intro g cap w' h1 h2 _ _
  refine h _ w' ⟨fun e => by simp at e, ?_⟩ h2
  rw [List.length_append, flat_app]
  exact h1
theorem at_cond {c : Prop} [Decidable c] {A B : Prop} (h : if c then A else B) : if c then A else B := h
/-- Items that another row's growth leaves alone. -/
theorem Its.grown {w w' : World} {ad : Addr} {l : List It} {row : Option Nat} (h : Its w (some ad) l) (g : w.grownBy w' row) (hne : some ad.block ≠ row) : Its w' (some ad) l := by
  rcases h with h | ⟨b, off, ha, h⟩
  · exact .inl h
  · simp only [Option.some.injEq] at ha
    subst ha
    refine .inr ⟨b, off, rfl, fun i hi => ?_⟩
    obtain ⟨c0, c1, c2, c3⟩ := h i hi
    exact ⟨g.cell c0 hne, g.cell c1 hne, g.cell c2 hne, g.cell c3 hne⟩
end Go.Proofs.Yteemihgakcmamaa
