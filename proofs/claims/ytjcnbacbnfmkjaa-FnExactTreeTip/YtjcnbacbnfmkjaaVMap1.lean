/-
  Sets and maps of sets in memory: which block stands at a text, and which numbers are in a set.
-/
import Derived.Test.YtjcnbacbnfmkjaaVote2
import Derived.Test.YtjcnbacbnfmkjaaText3
import Derived.Maps.OwnSet
namespace Go.Proofs.Ytjcnbacbnfmkjaa
set_option linter.unusedVariables false
open Go.RowKit Go.Maps

theorem lawS : Keyed Try.prog 9 := string_keyed Try.underlying9
theorem lawI : Keyed Try.prog 3 := int_keyed Try.underlying3
theorem zeroSet (w : World) : (zeroValue 148).run Try.prog w = .ok (.map none) w := by kernel_rfl
theorem zeroUnit (w : World) : (zeroValue 156).run Try.prog w = .ok (.agg #[]) w := by kernel_rfl

/-- How a set in a map reads: as the number of its block. -/
def handle : Value → Option (DataW Unit × List MemPlace)
  | .map none => some (.nil, [])
  | .map (some b) => some (.lit (.int .i64 (b : Int)), [])
  | _ => none
theorem handle_some (b : Nat) : handle (.map (some b)) = some (.lit (.int .i64 (b : Int)), []) := rfl
theorem handle_none : handle (.map none) = some (.nil, []) := rfl

/-- Block b is a set of at most n numbers, of just those of S. -/
def SetAt (w : World) (b n : Nat) (S : Int → Bool) : Prop := ∃ D : DataW Unit, w.ownsMap Try.prog 3 unitElem b n D ∧ ∀ x : Int, (Lit.int .i64 x).wf = true → Maps.has D (.int .i64 x) = S x
def atOf : Option Nat → DataW Unit
  | none => .nil
  | some c => .lit (.int .i64 (c : Int))
/-- Block b is a map of at most n texts, each to the set in the block that m tells. -/
def MapAt (w : World) (b n : Nat) (m : List UInt8 → Option Nat) : Prop :=
  ∃ D : DataW Unit, w.ownsMap Try.prog 9 handle b n D ∧ ∀ s : List UInt8, D.atKey (.string s) .nil = atOf (m s)

theorem SetAt.lt {w : World} {b n : Nat} {S : Int → Bool} (h : SetAt w b n S) : b < w.heap.size := by obtain ⟨D, h, _⟩ := h; exact h.lt
theorem MapAt.lt {w : World} {b n : Nat} {m : List UInt8 → Option Nat} (h : MapAt w b n m) : b < w.heap.size := by obtain ⟨D, h, _⟩ := h; exact h.lt
theorem SetAt.kept {w w' : World} {b n : Nat} {S : Int → Bool} {row : Option Nat} (h : SetAt w b n S) (g : w.grownBy w' row) (hne : some b ≠ row) : SetAt w' b n S := by
  obtain ⟨D, h, k⟩ := h; exact ⟨D, h.kept g hne, k⟩
theorem MapAt.kept {w w' : World} {b n : Nat} {m : List UInt8 → Option Nat} {row : Option Nat} (h : MapAt w b n m) (g : w.grownBy w' row) (hne : some b ≠ row) : MapAt w' b n m := by
  obtain ⟨D, h, k⟩ := h; exact ⟨D, h.kept g hne, k⟩
theorem ownsMap_block {H : Type} {P : Program} {k : TypeId} {R : Value → Option (DataW H × List MemPlace)} {w w' : World} {b n : Nat} {D : DataW H} (h : w.ownsMap P k R b n D) (e : w'.heap[b]? = w.heap[b]?) : w'.ownsMap P k R b n D := by
  obtain ⟨es, clock, hb, r⟩ := h
  exact ⟨es, clock, e.trans hb, r⟩
theorem SetAt.block {w w' : World} {b n : Nat} {S : Int → Bool} (h : SetAt w b n S) (e : w'.heap[b]? = w.heap[b]?) : SetAt w' b n S := by
  obtain ⟨D, h, k⟩ := h; exact ⟨D, ownsMap_block h e, k⟩
theorem MapAt.block {w w' : World} {b n : Nat} {m : List UInt8 → Option Nat} (h : MapAt w b n m) (e : w'.heap[b]? = w.heap[b]?) : MapAt w' b n m := by
  obtain ⟨D, h, k⟩ := h; exact ⟨D, ownsMap_block h e, k⟩
theorem SetAt.mono {w : World} {b n n' : Nat} {S : Int → Bool} (h : SetAt w b n S) (hn : n ≤ n') : SetAt w b n' S := by
  obtain ⟨D, h, k⟩ := h; exact ⟨D, h.mono hn, k⟩
theorem SetAt.made (w : World) : SetAt (w.alloc (.map #[] 0)) w.heap.size 0 (fun _ => false) := ⟨_, World.ownsMap_made w _ _ _, fun _ _ => rfl⟩
theorem MapAt.made (w : World) : MapAt (w.alloc (.map #[] 0)) w.heap.size 0 (fun _ => none) := ⟨_, World.ownsMap_made w _ _ _, fun _ => rfl⟩

/-- 'all[text]'. -/
theorem MapAt.look {w : World} {b n : Nat} {m : List UInt8 → Option Nat} (h : MapAt w b n m) (s : ByteArray) (hs : s.size ≤ maxLen) :
    (Instr.lookup 113 (.map (some b)) (.string s) false).run Try.prog w = .ok (.map (m s.data.toList)) w := by
  obtain ⟨D, h, k⟩ := h
  obtain ⟨v, ps, hrun, hv⟩ := h.lookup lawS Try.underlying113 (zeroSet w) handle_none (WideMaps.keyOf_string_mk Try.underlying9 hs)
  rw [k] at hv
  cases hm : m s.data.toList with
  | none =>
    rw [hm] at hv
    have : v = .map none := by
      unfold handle atOf at hv
      split at hv
      · rfl
      · simp at hv
      · cases hv
    rw [hrun, this]
  | some c =>
    rw [hm] at hv
    have : v = .map (some c) := by
      unfold handle atOf at hv
      split at hv
      · simp at hv
      · rename_i b'; simp at hv; rw [show b' = c by omega]
      · cases hv
    rw [hrun, this]
theorem MapAt.look_nil {w : World} (s : ByteArray) (hs : s.size ≤ maxLen) : (Instr.lookup 113 (.map none) (.string s) false).run Try.prog w = .ok (.map none) w :=
  Maps.look_nil false lawS Try.underlying113 (zeroSet w) (WideMaps.keyOf_string_mk Try.underlying9 hs)
/-- 'all[text] = ..'. -/
theorem MapAt.store {w : World} {b n : Nat} {m : List UInt8 → Option Nat} (h : MapAt w b n m) (hn : n < maxLen) (s : ByteArray) (hs : s.size ≤ maxLen) (c : Nat) :
    ∃ w', (Instr.mapUpdate 113 (.map (some b)) (.string s) (.map (some c))).run Try.prog w = .ok () w' ∧ MapAt w' b (n + 1) (fun t => if t = s.data.toList then some c else m t) ∧ w.grownBy w' (some b) := by
  obtain ⟨D, h, k⟩ := h
  obtain ⟨w', hrun, hown, hg⟩ := h.update lawS Try.underlying113 hn (WideMaps.keyOf_string_mk Try.underlying9 hs) (handle_some c)
  refine ⟨w', hrun, ⟨_, hown, fun t => ?_⟩, hg⟩
  show _ = atOf (if t = s.data.toList then some c else m t)
  by_cases e : t = s.data.toList
  · subst e
    rw [if_pos rfl, atKey_put_same h.isMap (show WideAt.IsKeyLit (.string s.data.toList) from trivial)]; rfl
  · rw [if_neg e, atKey_put_other (by intro c; injection c with c; exact e c), k]
/-- 's[one]', asked. -/
theorem SetAt.look {w : World} {b n : Nat} {S : Int → Bool} (h : SetAt w b n S) (x : Int) (hx : (Lit.int .i64 x).wf = true) :
    (Instr.lookup 148 (.map (some b)) (.int .i64 x) true).run Try.prog w = .ok (.tuple #[.agg #[], .bool (S x)]) w := by
  obtain ⟨D, h, k⟩ := h
  obtain ⟨v, ps, hrun, hv⟩ := h.look_ok lawI Try.underlying148 (zeroUnit w) unitElem_mk (keyOf_int_mk Try.underlying3 hx)
  obtain ⟨rfl, _⟩ := unitElem_inv hv
  rw [hrun, k x hx]
theorem SetAt.look_nil {w : World} (x : Int) (hx : (Lit.int .i64 x).wf = true) : (Instr.lookup 148 (.map none) (.int .i64 x) true).run Try.prog w = .ok (.tuple #[.agg #[], .bool false]) w :=
  Maps.look_nil true lawI Try.underlying148 (zeroUnit w) (keyOf_int_mk Try.underlying3 hx)
/-- 's[one] = struct{}{}'. -/
theorem SetAt.store {w : World} {b n : Nat} {S : Int → Bool} (h : SetAt w b n S) (hn : n < maxLen) (x : Int) (hx : (Lit.int .i64 x).wf = true) :
    ∃ w', (Instr.mapUpdate 148 (.map (some b)) (.int .i64 x) (.agg #[])).run Try.prog w = .ok () w' ∧ SetAt w' b (n + 1) (fun y => y == x || S y) ∧ w.grownBy w' (some b) := by
  obtain ⟨D, h, k⟩ := h
  obtain ⟨w', hrun, hown, hg⟩ := h.update lawI Try.underlying148 hn (keyOf_int_mk Try.underlying3 hx) unitElem_mk
  refine ⟨w', hrun, ⟨_, hown, fun y hy => ?_⟩, hg⟩
  show _ = (y == x || S y)
  by_cases e : y = x
  · subst e
    rw [has_put_same h.isMap (show WideAt.IsKeyLit (.int .i64 y) from trivial)]; simp
  · rw [has_put_other (by intro c; injection c with _ c; exact e c), k y hy]
    have : (y == x) = false := by simpa using e
    rw [this, Bool.false_or]

theorem has_any (s : Option Nat) (n : Nat) (S : Int → Bool) (x : Int) (w : World) (hs : ∀ b, s = some b → SetAt w b n S) (h0 : s = none → S x = false) (hx : (Lit.int .i64 x).wf = true) :
    Calls Try.prog 116 #[.map s, .int .i64 x] w fun r w' => r = .returned (.bool (S x)) ∧ Grew w w' := by
  have hr : (Instr.lookup 148 (.map s) (.int .i64 x) true).run Try.prog w = .ok (.tuple #[.agg #[], .bool (S x)]) w := by
    cases s with
    | none => rw [SetAt.look_nil x hx, h0 rfl]
    | some b => exact (hs b rfl).look x hx
  go_enter Try.func116, Try.ntmps116
  go_wp2
  go_ret
  exact ⟨rfl, (Grew.refl _).alloc _⟩

theorem add_any (b n : Nat) (S : Int → Bool) (x : Int) (w : World) (hs : SetAt w b n S) (hn : n < maxLen) (hx : (Lit.int .i64 x).wf = true) :
    Calls Try.prog 117 #[.map (some b), .int .i64 x] w fun r w' => r = .returned (.tuple #[]) ∧ SetAt w' b (n + 1) (fun y => y == x || S y) ∧ w.grownBy w' (some b) := by
  obtain ⟨w1, hr, h1, h2⟩ := hs.store hn x hx
  go_enter Try.func117, Try.ntmps117
  go_wp2
  go_end0
  exact ⟨rfl, h1, h2⟩
end Go.Proofs.Ytjcnbacbnfmkjaa
