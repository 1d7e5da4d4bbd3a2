/-
  Texts together: Nod1, Nod2.
-/
import Derived.Test.YteemihgakcmamaaVForms
import Derived.Test.YteemihgakcmamaaVOk
namespace Go.Proofs.Yteemihgakcmamaa
set_option linter.unusedVariables false
open Go.RowKit
attribute [local simp] far_const

/-- A node: which, in which epoch, in which it voted last, and what it has seen. -/
structure Nd where
  id : Int
  ep : Int
  vo : Int
  s : List Vt
/-- A node as a value. -/
def NdV (w : World) (v : Value) (x : Nd) : Prop := ∃ sv, v = .agg #[.int .i64 x.id, .int .i64 x.ep, .int .i64 x.vo, sv] ∧ VtsV w sv x.s
theorem NdV.grew {w w' : World} {v : Value} {x : Nd} (h : NdV w v x) (g : Grew w w') : NdV w' v x := by
  obtain ⟨sv, h1, h2⟩ := h; exact ⟨sv, h1, h2.grew g⟩
/-- A node of a call's own: its votes lie in a row of its own, or there are none. -/
def NdO (w : World) (base : Nat) (v : Value) (hs : List Nat) (x : Nd) : Prop := ∃ sv, v = .agg #[.int .i64 x.id, .int .i64 x.ep, .int .i64 x.vo, sv] ∧ VAns w base sv hs x.s
theorem NdO.ndV {w : World} {base : Nat} {v : Value} {hs : List Nat} {x : Nd} (h : NdO w base v hs x) : NdV w v x := by
  obtain ⟨sv, h1, h2⟩ := h; exact ⟨sv, h1, h2.vtsV⟩
theorem NdO.grew {w w' : World} {base : Nat} {v : Value} {hs : List Nat} {x : Nd} (h : NdO w base v hs x) (g : Grew w w') : NdO w' base v hs x := by
  obtain ⟨sv, h1, h2⟩ := h; exact ⟨sv, h1, h2.grew g⟩
theorem NdO.lower {w : World} {base base' : Nat} {v : Value} {hs : List Nat} {x : Nd} (h : NdO w base v hs x) (hb : base' ≤ base) : NdO w base' v hs x := by
  obtain ⟨sv, h1, h2⟩ := h; exact ⟨sv, h1, h2.lower hb⟩
/-- The four cells of a node. -/
def NdAt (w : World) (b : Nat) (i e o : Int) (sv : Value) : Prop := w.cell? ⟨b, 0, none⟩ = some (.int .i64 i) ∧ w.cell? ⟨b, 1, none⟩ = some (.int .i64 e) ∧ w.cell? ⟨b, 2, none⟩ = some (.int .i64 o) ∧ w.cell? ⟨b, 3, none⟩ = some sv
theorem NdAt.grew {w w' : World} {b : Nat} {i e o : Int} {sv : Value} (h : NdAt w b i e o sv) (g : Grew w w') : NdAt w' b i e o sv := ⟨g.keep h.1, g.keep h.2.1, g.keep h.2.2.1, g.keep h.2.2.2⟩
theorem NdAt.box (w : World) (i e o : Int) (sv : Value) (t : TypeId) : NdAt (w.alloc (.cells #[.int .i64 i, .int .i64 e, .int .i64 o, sv] t)) w.heap.size i e o sv := by
  refine ⟨?_, ?_, ?_, ?_⟩ <;> simp [go_sem]
def sameN (x y : Nd) : Bool := x.id == y.id && (x.ep == y.ep && (x.vo == y.vo && sameVs x.s y.s))
theorem sameN_iff (x y : Nd) : sameN x y = true ↔ x = y := by
  cases x; cases y
  simp only [sameN, Bool.and_eq_true, beq_iff_eq, sameVs_iff, Nd.mk.injEq]

theorem VPart.past {w w' : World} {base : Nat} {v : Value} {hs : List Nat} {N : Nat} {l : List Vt} (h : VPart w base v hs N l) (hz : w.heap.size ≤ w'.heap.size) (e : ∀ g, base ≤ g → g < w.heap.size → w'.heap[g]? = w.heap[g]?) : VPart w' base v hs N l := h.kept hz e

set_option linter.unusedVariables false
open Go.RowKit
attribute [local simp] far_const

theorem endE_at (l : List It) (h : 0 < l.length) : endE 0 l = (l[l.length - 1]'(by omega)).e := by
  have e : l = l.take (l.length - 1) ++ [l[l.length - 1]'(by omega)] := by
    rw [← List.take_succ_eq_append_getElem (by omega), show l.length - 1 + 1 = l.length by omega, List.take_length]
  conv => lhs; rw [e]
  rw [endE_snoc]
/-- No vote by that node is for an item of a later epoch than that. -/
def ownB (l : List Vt) (id vo : Int) : Bool := l.all (fun v => !(v.n == id && decide (vo < endE 0 v.c)))
theorem ownB_no {l : List Vt} {id vo : Int} {k : Nat} (hk : k < l.length) (h : (l[k].n == id && decide (vo < endE 0 l[k].c)) = true) : ownB l id vo = false := by
  unfold ownB
  rw [List.all_eq_false]
  exact ⟨l[k], List.getElem_mem hk, by rw [h]; decide⟩
theorem ownB_yes {l : List Vt} {id vo : Int} (h : ∀ k (hk : k < l.length), (l[k].n == id && decide (vo < endE 0 l[k].c)) = false) : ownB l id vo = true := by
  unfold ownB
  rw [List.all_eq_true]
  intro x hx
  obtain ⟨k, hk, rfl⟩ := List.getElem_of_mem hx
  rw [h k hk]; rfl
/-- A node is ok. -/
def nodeB (x : Nd) : Bool := inB x.id 1 4 && (inB x.ep 0 30 && (inB x.vo 0 x.ep && (decide (x.s.length ≤ 80) && (votesB x.s && ownB x.s x.id x.vo))))

theorem isNode_any (x : Int) (w : World) : Calls Try.prog 119 #[.int .i64 x] w fun e w' => e = .returned (.bool (inB x 1 4)) ∧ w' = w := by
  by_cases h1 : 1 ≤ x
  · by_cases h2 : x ≤ 4
    · go_enter Try.func119, Try.ntmps119
      go_wp2
      go_ret
      exact ⟨ret_bool (by simp [inB, h1, h2]), rfl⟩
    · have h2' : decide (x ≤ 4) = false := by simpa using h2
      go_enter Try.func119, Try.ntmps119
      go_wp2
      go_ret
      exact ⟨ret_bool (by unfold inB; rw [h2', Bool.and_false]), rfl⟩
  · have h1' : decide (1 ≤ x) = false := by simpa using h1
    go_enter Try.func119, Try.ntmps119
    go_wp2
    go_ret
    exact ⟨ret_bool (by unfold inB; rw [h1']; rfl), rfl⟩

/-- What NodeNew answers. -/
def newN (id : Int) : Nd := if inB id 1 4 = true then ⟨id, 0, 0, []⟩ else ⟨0, 0, 0, []⟩

theorem implNodeNew (id : Int) (w : World) : Calls Try.prog 62 #[.int .i64 id] w fun r w' => r = .returned (.tuple #[.agg #[.int .i64 (newN id).id, .int .i64 0, .int .i64 0, .slice none 0 0], .bool (inB id 1 4)]) ∧ Grew w w' := by
  cases hin : inB id 1 4 with
  | false =>
    have hx : Hid ((newN id).id = 0) := by show (newN id).id = 0; unfold newN; rw [hin]; rfl
    go_enter Try.func62, Try.ntmps62
    go_wp2_with fail
    refine (isNode_any _ _).mono ?_
    rw [hin]
    rintro r w1 ⟨rfl, rfl⟩
    go_wp2
    first | go_ret2 | go_returns
    exact ⟨by rw [hx.out], by repeat (first | exact Grew.refl _ | refine Grew.alloc ?_ _)⟩
  | true =>
    have hx : Hid ((newN id).id = id) := by show (newN id).id = id; unfold newN; rw [hin]; rfl
    go_enter Try.func62, Try.ntmps62
    go_wp2_with fail
    refine (isNode_any _ _).mono ?_
    rw [hin]
    rintro r w1 ⟨rfl, rfl⟩
    go_wp2
    first | go_ret2 | go_returns
    exact ⟨by rw [hx.out], by repeat (first | exact Grew.refl _ | refine Grew.alloc ?_ _)⟩

theorem specNodeNew (id : Int) (w : World) : Calls Try.prog 61 #[.int .i64 id] w fun r w' => ∃ a, r = .returned (.tuple #[.agg #[.int .i64 (newN id).id, .int .i64 0, .int .i64 0, .slice a 0 0], .bool (inB id 1 4)]) ∧ Grew w w' := by
  cases hin : inB id 1 4 with
  | false =>
    have hx : Hid ((newN id).id = 0) := by show (newN id).id = 0; unfold newN; rw [hin]; rfl
    go_enter Try.func61, Try.ntmps61
    go_wp2_with fail
    refine (l6In_any _ _ _ _).mono ?_
    rw [hin]
    rintro r w1 ⟨rfl, rfl⟩
    go_wp2
    first | go_ret2 | go_returns
    exact ⟨_, by rw [hx.out], by repeat (first | exact Grew.refl _ | refine Grew.alloc ?_ _)⟩
  | true =>
    have hx : Hid ((newN id).id = id) := by show (newN id).id = id; unfold newN; rw [hin]; rfl
    go_enter Try.func61, Try.ntmps61
    go_wp2_with fail
    refine (l6In_any _ _ _ _).mono ?_
    rw [hin]
    rintro r w1 ⟨rfl, rfl⟩
    go_wp2
    first | go_ret2 | go_returns
    exact ⟨_, by rw [hx.out], by repeat (first | exact Grew.refl _ | refine Grew.alloc ?_ _)⟩
end Go.Proofs.Yteemihgakcmamaa
