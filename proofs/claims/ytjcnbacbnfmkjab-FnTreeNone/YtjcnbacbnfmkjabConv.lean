/-
  The laws' own helpers: items copied field by field, held against each other, counted.
-/
import Derived.Test.YtjcnbacbnfmkjabChain2
import Derived.Deep.OwnRows
namespace Go.Proofs.Ytjcnbacbnfmkjab
set_option linter.unusedVariables false
open Go.RowKit
attribute [local simp] far_const

theorem rowIs_grew {w w' : World} {b : Nat} {t : TypeId} {n : Nat} {f : Nat → Value} (h : w.rowIs b t n f) (g : Grew w w') : w'.rowIs b t n f := h.of_block (g.below.block b h.lt)

/-- Items that were made: a row of its own. -/
def Own (w : World) (b n : Nat) : Prop := ∃ f, w.rowIs b 42 (n * 4) f
theorem Own.grew {w w' : World} {b n : Nat} (h : Own w b n) (g : Grew w w') : Own w' b n := by
  obtain ⟨f, hf⟩ := h; exact ⟨f, rowIs_grew hf g⟩
theorem Own.cell {w : World} {b n : Nat} (h : Own w b n) {i : Nat} (hi : i < n * 4) : ∃ v, w.cell? ⟨b, i, none⟩ = some v := by
  obtain ⟨f, hf⟩ := h; exact ⟨_, hf.cell hi⟩
theorem Own.frozen {w : World} {b n : Nat} (h : Own w b n) (i : Nat) : w.frozen? ⟨b, i, none⟩ = false := by
  obtain ⟨f, hf⟩ := h; exact hf.frozen i
theorem Own.set {w : World} {b n : Nat} (h : Own w b n) (i : Nat) (v : Value) : Own (w.setCell ⟨b, i, none⟩ v) b n := by
  obtain ⟨f, hf⟩ := h; exact ⟨_, hf.set i v⟩
theorem Own.lt {w : World} {b n : Nat} (h : Own w b n) : b < w.heap.size := by
  obtain ⟨f, hf⟩ := h; exact hf.lt

def zeros (n : Nat) : Obj := .cells (madeCells #[.int .i64 0, .int .i64 0, .int .i64 0, .int .i64 0] (n * 4)) 42
theorem own_zeros (w : World) (n : Nat) : Own (w.alloc (zeros n)) w.heap.size n := by
  refine ⟨fun i => (madeCells #[.int .i64 0, .int .i64 0, .int .i64 0, .int .i64 0] (n * 4)).getD i undef, ?_⟩
  have := World.rowIs_alloc w (madeCells #[.int .i64 0, .int .i64 0, .int .i64 0, .int .i64 0] (n * 4)) 42 (fun i => (madeCells #[.int .i64 0, .int .i64 0, .int .i64 0, .int .i64 0] (n * 4)).getD i undef) (fun i hi => by simp [Array.getD, hi])
  rwa [size_madeCells] at this
theorem info_item : (Try.prog.info? 42).map (fun i => (i.zero, i.size, i.bytes)) = some (some (.agg #[.int .i64 0, .int .i64 0, .int .i64 0, .int .i64 0]), 4, 32) := by kernel_rfl
theorem make_items (n : Nat) (hn : n ≤ 1048576) (w : World) : (Instr.makeSlice 29 (.int .i64 (n : Int)) (.int .i64 (n : Int))).run Try.prog w = .ok (.slice (some ⟨w.heap.size, 0, none⟩) n n) (w.alloc (zeros n)) := by
  obtain ⟨i, hi, hz⟩ := Option.map_eq_some_iff.1 info_item
  simp only [Prod.mk.injEq] at hz
  obtain ⟨hz, hs, hb⟩ := hz
  have hr := run_make (P := Try.prog) w 29 42 i _ Try.underlying29 hi hz .i64 .i64 n n (by omega) (Int.le_refl _) (by rw [hb]; omega) (by omega)
  simp only [Int.toNat_natCast, hs] at hr
  exact hr

theorem cell_set {w : World} {b i j : Nat} {v u : Value} (h : w.cell? ⟨b, j, none⟩ = some u) : (w.setCell ⟨b, i, none⟩ v).cell? ⟨b, j, none⟩ = some (if i = j then v else u) := by
  by_cases e : i = j
  · subst e; rw [if_pos rfl]; exact World.cell?_setCell_same w _ v h
  · rw [if_neg e, World.cell?_setCell_other]
    · exact h
    · intro c; injection c with _ h2 _; exact e h2
/-- An item stored, cell by cell. -/
def put4 (w : World) (b o : Nat) (x : It) : World := (((w.setCell ⟨b, o, none⟩ (.int .i64 x.e)).setCell ⟨b, o + 1, none⟩ (.int .i64 x.f)).setCell ⟨b, o + 2, none⟩ (.int .i64 x.t)).setCell ⟨b, o + 3, none⟩ (.int .i64 x.s)
theorem cell_put4 {w : World} {b o j : Nat} {x : It} {u : Value} (h : w.cell? ⟨b, j, none⟩ = some u) :
    (put4 w b o x).cell? ⟨b, j, none⟩ = some (if o + 3 = j then .int .i64 x.s else if o + 2 = j then .int .i64 x.t else if o + 1 = j then .int .i64 x.f else if o = j then .int .i64 x.e else u) :=
  cell_set (cell_set (cell_set (cell_set h)))
theorem ItAt.put {w : World} {b n k : Nat} {x : It} (h : Own w b n) (hk : k < n) : ItAt (put4 w b (k * 4) x) b (k * 4) x := by
  obtain ⟨v0, d0⟩ := h.cell (i := k * 4) (by omega)
  obtain ⟨v1, d1⟩ := h.cell (i := k * 4 + 1) (by omega)
  obtain ⟨v2, d2⟩ := h.cell (i := k * 4 + 2) (by omega)
  obtain ⟨v3, d3⟩ := h.cell (i := k * 4 + 3) (by omega)
  refine ⟨?_, ?_, ?_, ?_⟩
  · rw [cell_put4 d0]; simp
  · rw [cell_put4 d1]; simp
  · rw [cell_put4 d2]; simp
  · rw [cell_put4 d3]; simp
theorem ItAt.putOther {w : World} {b j k : Nat} {x y : It} (h : ItAt w b (j * 4) y) (hk : j ≠ k) : ItAt (put4 w b (k * 4) x) b (j * 4) y := by
  obtain ⟨d0, d1, d2, d3⟩ := h
  refine ⟨?_, ?_, ?_, ?_⟩
  · rw [cell_put4 d0, if_neg (by omega), if_neg (by omega), if_neg (by omega), if_neg (by omega)]
  · rw [cell_put4 d1, if_neg (by omega), if_neg (by omega), if_neg (by omega), if_neg (by omega)]
  · rw [cell_put4 d2, if_neg (by omega), if_neg (by omega), if_neg (by omega), if_neg (by omega)]
  · rw [cell_put4 d3, if_neg (by omega), if_neg (by omega), if_neg (by omega), if_neg (by omega)]
theorem Own.put {w : World} {b n : Nat} (h : Own w b n) (o : Nat) (x : It) : Own (put4 w b o x) b n := (((h.set _ _).set _ _).set _ _).set _ _
theorem Grew.put {w w' : World} (h : Grew w w') {b : Nat} (hb : w.heap.size ≤ b) (o : Nat) (x : It) : Grew w (put4 w' b o x) := (((h.setCell hb _).setCell hb _).setCell hb _).setCell hb _

theorem eqB_ne_e {x y : It} (h : x.e ≠ y.e) : eqB x y = false := by simp [eqB, h]
theorem eqB_ne_f {x y : It} (h : x.f ≠ y.f) : eqB x y = false := by simp [eqB, h]
theorem eqB_ne_t {x y : It} (h : x.t ≠ y.t) : eqB x y = false := by simp [eqB, h]
theorem eqB_ne_s {x y : It} (h : x.s ≠ y.s) : eqB x y = false := by simp [eqB, h]

/-- Whether two rows of items are the same. -/
def sameB (a b : List It) : Bool := decide (a.length = b.length) && decide (shareN a b = a.length)
theorem sameB_iff (a b : List It) : sameB a b = true ↔ a = b := by
  unfold sameB
  simp only [Bool.and_eq_true, decide_eq_true_eq]
  constructor
  · rintro ⟨h1, h2⟩
    have := shareN_take a b
    rwa [h2, List.take_length, h1, List.take_length] at this
  · rintro rfl; exact ⟨rfl, shareN_self a⟩

end Go.Proofs.Ytjcnbacbnfmkjab
