/-
  What a call leaves that writes nothing old (Grew), and how a row of items lies in memory (Its). No Go text here.
-/
import Derived.WalkKit
import Derived.ProofKit
import Derived.Handy
import Derived.BigQuiet
import Derived.WalkSpells
import Derived.WalkLawsBesides
namespace Go.Proofs.Ytjcnbacbnfmkjaa
set_option linter.unusedVariables false
open Go.RowKit

theorem hide {p : Prop} (h : p) : Hid p := h
theorem unhide {p : Prop} (h : Hid p) : p := h

/-- The world w with blocks laid behind its own, behind some draws. -/
def far (w : World) (d : Nat) (os : Array Obj) : World := { w with heap := w.heap ++ os, drawn := d }
/-- The world w' is w behind some draws, with some blocks laid behind its own. -/
def Grew (w w' : World) : Prop := ∃ d os, w' = far w d os

theorem Grew.below {a b : World} (h : Grew a b) : Below a.heap.size a b := by
  obtain ⟨n, os, rfl⟩ := h
  exact ⟨rfl, rfl, rfl, by simp [far], fun k hk => by simp [far, Array.getElem?_append, hk]⟩
theorem Grew.of_below {a b : World} (h : Below a.heap.size a b) : Grew a b := by
  refine ⟨b.drawn, b.heap.extract a.heap.size b.heap.size, ?_⟩
  obtain ⟨h1, h2, h3, h4, h5⟩ := h
  cases a; cases b
  simp only at h1 h2 h3 h4 h5
  subst h1 h2 h3
  simp only [far, World.mk.injEq, and_true]
  apply Array.ext_getElem?
  intro k
  rw [Array.getElem?_append]
  split
  · rename_i hk; exact h5 k hk
  · rename_i hk
    rw [Array.getElem?_extract]
    split
    · congr 1; omega
    · rename_i hk2; exact Array.getElem?_eq_none (by omega)
theorem Grew.refl (w : World) : Grew w w := .of_below (Below.refl _ _)
theorem Grew.same {w w' : World} (h : w' = w) : Grew w w' := by rw [h]; exact Grew.refl _
theorem Grew.size {a b : World} (h : Grew a b) : a.heap.size ≤ b.heap.size := h.below.size
theorem Grew.trans {a b c : World} (h : Grew a b) (k : Grew b c) : Grew a c := .of_below (h.below.trans (k.below.mono h.size))
theorem Grew.drew {a b : World} (h : Grew a b) : Grew a b.drew := .of_below h.below.drew
theorem Grew.alloc {a b : World} (h : Grew a b) (o : Obj) : Grew a (b.alloc o) := .of_below (h.below.alloc h.size o)
theorem Grew.setCell {a b : World} (h : Grew a b) {p : Addr} (hp : a.heap.size ≤ p.block) (v : Value) : Grew a (b.setCell p v) := .of_below (h.below.setCell hp v)
theorem Grew.grown {a b c : World} {row : Option Nat} (h : Grew a b) (hg : b.grownBy c row) (hr : ∀ k, row = some k → a.heap.size ≤ k) : Grew a c := .of_below (h.below.grown hg h.size hr)
theorem Grew.cell {a b : World} (h : Grew a b) {p : Addr} (hp : p.block < a.heap.size) : b.cell? p = a.cell? p := h.below.cell hp
theorem Grew.keep {a b : World} (h : Grew a b) {p : Addr} {v : Value} (hv : a.cell? p = some v) : b.cell? p = some v := by
  rw [h.cell (World.block_lt_of_cell? a p hv)]; exact hv
theorem Grew.gcell {a : World} {p : Addr} {v : Value} (hv : a.cell? p = some v) (n : Nat) (os : Array Obj) : (far a n os).cell? p = some v := Grew.keep ⟨n, os, rfl⟩ hv

/-- How far a world is from another. -/
structure Far where
  n : Nat
  os : Array Obj

theorem far_const (q : Prop) : (Far → q) ↔ q := ⟨fun h => h ⟨0, #[]⟩, fun h _ => h⟩

/-- A region that draws its order and only reads, whose callees may lay blocks: walked once, in the order of the text. -/
theorem quietly {P : Program} {id : Nat} {Q : Exit → Act → World → Prop} {a : Act} {w : World} {l : List Oper} (hm : P.follows .mixedOrders = true) (hB : Region.lexB .any l.toArray = true)
    (h : wpQuiet P l.toArray (fun w' => ∃ p : Far, w' = far w p.n p.os) (fun a' => ∀ w', (∃ p : Far, w' = far w p.n p.os) → Q .normal a' w') l a) : (Code.region id l.toArray true).wp P Q a w :=
  wp_region_quiet (C := fun w' => ∃ p : Far, w' = far w p.n p.os) hm hB ⟨⟨w.drawn + 1, #[]⟩, by simp [far]⟩ (by simpa using h)

/-- A callee's contract inside such a region. -/
theorem Calls.far {P : Program} {f : FuncId} {args : Array Value} {w : World} {n : Nat} {os : Array Obj} {v : Value}
    (h : Calls P f args (far w n os) fun e w' => e = .returned v ∧ Grew (far w n os) w') : Calls P f args (far w n os) fun e w'' => e = .returned v ∧ ∃ p : Far, w'' = Go.Proofs.Ytjcnbacbnfmkjaa.far w p.n p.os :=
  h.mono fun _ _ ⟨he, hg⟩ => by
    obtain ⟨m, os', h⟩ := (show Grew w (Go.Proofs.Ytjcnbacbnfmkjaa.far w n os) from ⟨n, os, rfl⟩).trans hg
    exact ⟨he, ⟨m, os'⟩, h⟩

/-- An item: its epoch, who pays, who is paid, how much. -/
structure It where
  e : Int
  f : Int
  t : Int
  s : Int

/-- The four cells of an item. -/
def ItAt (w : World) (b o : Nat) (x : It) : Prop :=
  w.cell? ⟨b, o, none⟩ = some (.int .i64 x.e) ∧ w.cell? ⟨b, o + 1, none⟩ = some (.int .i64 x.f) ∧ w.cell? ⟨b, o + 2, none⟩ = some (.int .i64 x.t) ∧ w.cell? ⟨b, o + 3, none⟩ = some (.int .i64 x.s)
theorem ItAt.grew {w w' : World} {b o : Nat} {x : It} (h : ItAt w b o x) (g : Grew w w') : ItAt w' b o x := ⟨g.keep h.1, g.keep h.2.1, g.keep h.2.2.1, g.keep h.2.2.2⟩

/-- The items of a slice, one behind the other. -/
def Its (w : World) (a : Option Addr) (l : List It) : Prop := l = [] ∨ ∃ b off, a = some ⟨b, off, none⟩ ∧ ∀ i (h : i < l.length), ItAt w b (off + i * 4) l[i]
theorem Its.grew {w w' : World} {a : Option Addr} {l : List It} (h : Its w a l) (g : Grew w w') : Its w' a l := by
  rcases h with h | ⟨b, off, ha, h⟩
  · exact .inl h
  · exact .inr ⟨b, off, ha, fun i hi => (h i hi).grew g⟩
theorem Its.at {w : World} {a : Option Addr} {l : List It} (h : Its w a l) {i : Nat} (hi : i < l.length) : ∃ b off, a = some ⟨b, off, none⟩ ∧ ItAt w b (off + i * 4) l[i] := by
  rcases h with h | ⟨b, off, ha, h⟩
  · subst h; exact absurd hi (Nat.not_lt_zero _)
  · exact ⟨b, off, ha, h i hi⟩

def inB (n l h : Int) : Bool := decide (l ≤ n) && decide (n ≤ h)
def payB (f t s : Int) : Bool := inB f 1 3 && inB t 1 3 && !(f == t) && inB s 1 9
/-- One item, behind the epoch that the one ahead of it has (0 ahead of the first). -/
def stepB (last : Int) (x : It) : Bool := decide (last < x.e) && decide (x.e ≤ 30) && payB x.f x.t x.s
def goB : Int → List It → Bool
  | _, [] => true
  | last, x :: r => stepB last x && goB x.e r
def okB (l : List It) : Bool := decide (l.length ≤ 16) && goB 0 l
end Go.Proofs.Ytjcnbacbnfmkjaa
