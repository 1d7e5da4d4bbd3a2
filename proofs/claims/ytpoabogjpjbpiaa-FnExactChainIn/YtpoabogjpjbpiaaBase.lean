/-
  What a call leaves that writes nothing old (Grew), and how a row of items lies in memory (Its). No Go text here.
-/
import Derived.WalkKit
import Derived.ProofKit
import Derived.Handy
import Derived.BigQuiet
import Derived.Sort.Grow
import Derived.WalkSpells
import Derived.WalkLawsBesides
namespace Go.Proofs.Ytpoabogjpjbpiaa
set_option linter.unusedVariables false
open Go.RowKit Go.Sort

theorem hide {p : Prop} (h : p) : Hid p := h
theorem unhide {p : Prop} (h : Hid p) : p := h

/-- The world w' is w behind some draws, with some blocks laid behind its own. -/
def Grew (w w' : World) : Prop := ∃ n os, w' = grow (w.drewN n) os

theorem Grew.refl (w : World) : Grew w w := ⟨0, #[], by rw [grow_empty]; rfl⟩
theorem Grew.same {w w' : World} (h : w' = w) : Grew w w' := by rw [h]; exact Grew.refl _
theorem Grew.drewN (w : World) (n : Nat) : Grew w (w.drewN n) := ⟨n, #[], by rw [grow_empty]⟩
theorem Grew.trans {a b c : World} (h : Grew a b) (k : Grew b c) : Grew a c := by
  obtain ⟨n, os, rfl⟩ := h
  obtain ⟨m, os', rfl⟩ := k
  refine ⟨n + m, os ++ os', ?_⟩
  show grow (grow ((a.drewN n).drewN m) os) os' = _
  rw [grow_grow, World.drewN_drewN]
theorem Grew.drew {a b : World} (h : Grew a b) : Grew a b.drew := h.trans (Grew.drewN b 1)
theorem Grew.drewNs {a b : World} (h : Grew a b) (n : Nat) : Grew a (b.drewN n) := h.trans (Grew.drewN b n)
theorem Grew.alloc {a b : World} (h : Grew a b) (o : Obj) : Grew a (b.alloc o) := h.trans ⟨0, #[o], by rw [alloc_eq_grow]; rfl⟩
theorem Grew.setCell {a b : World} (h : Grew a b) {p : Addr} (hp : a.heap.size ≤ p.block) (v : Value) : Grew a (b.setCell p v) := by
  obtain ⟨n, os, rfl⟩ := h
  refine ⟨n, os.modify (p.block - a.heap.size) (fun | .cells c elem frozen => .cells (if p.spot.isSome then c else c.setIfInBounds p.off v) elem frozen | o => o), ?_⟩
  simp only [World.setCell, grow]
  congr 1
  exact modify_append_right _ _ _ _ hp
theorem Grew.below {a b : World} (h : Grew a b) : Below a.heap.size a b := by
  obtain ⟨n, os, rfl⟩ := h
  exact ⟨rfl, rfl, rfl, by simp, fun k hk => heap_grow_old (a.drewN n) os hk⟩
theorem Grew.size {a b : World} (h : Grew a b) : a.heap.size ≤ b.heap.size := h.below.size
theorem Grew.cell {a b : World} (h : Grew a b) {p : Addr} (hp : p.block < a.heap.size) : b.cell? p = a.cell? p := h.below.cell hp
theorem Grew.keep {a b : World} (h : Grew a b) {p : Addr} {v : Value} (hv : a.cell? p = some v) : b.cell? p = some v := by
  rw [h.cell (World.block_lt_of_cell? a p hv)]; exact hv
theorem Grew.gcell {a : World} {p : Addr} {v : Value} (hv : a.cell? p = some v) (n : Nat) (os : Array Obj) : (grow (a.drewN n) os).cell? p = some v := Grew.keep ⟨n, os, rfl⟩ hv

/-- How far a world is from another. -/
structure Far where
  n : Nat
  os : Array Obj

theorem far_const (q : Prop) : (Far → q) ↔ q := ⟨fun h => h ⟨0, #[]⟩, fun h _ => h⟩

/-- A region that draws its order and only reads, whose callees may lay blocks: walked once, in the order of the text. -/
theorem quietly {P : Program} {id : Nat} {Q : Exit → Act → World → Prop} {a : Act} {w : World} {l : List Oper} (hm : P.follows .mixedOrders = true) (hB : Region.lexB .any l.toArray = true)
    (h : wpQuiet P l.toArray (fun w' => ∃ p : Far, w' = grow (w.drewN p.n) p.os) (fun a' => ∀ w', (∃ p : Far, w' = grow (w.drewN p.n) p.os) → Q .normal a' w') l a) : (Code.region id l.toArray true).wp P Q a w :=
  wp_region_quiet (C := fun w' => ∃ p : Far, w' = grow (w.drewN p.n) p.os) hm hB ⟨⟨1, #[]⟩, by rw [grow_empty]; rfl⟩ (by simpa using h)

/-- A callee's contract inside such a region. -/
theorem Calls.far {P : Program} {f : FuncId} {args : Array Value} {w : World} {n : Nat} {os : Array Obj} {v : Value}
    (h : Calls P f args (grow (w.drewN n) os) fun e w' => e = .returned v ∧ Grew (grow (w.drewN n) os) w') : Calls P f args (grow (w.drewN n) os) fun e w'' => e = .returned v ∧ ∃ p : Far, w'' = grow (w.drewN p.n) p.os :=
  h.mono fun _ _ ⟨he, hg⟩ => by
    obtain ⟨m, os', h⟩ := (show Grew w (grow (w.drewN n) os) from ⟨n, os, rfl⟩).trans hg
    exact ⟨he, ⟨m, os'⟩, h⟩

/-- An item: its epoch, who pays, who is paid, how much. -/
structure It where
  e : Int
  f : Int
  t : Int
  s : Int

/-- The four cells of an item. -/
def ItAt (w : World) (b o : Nat) (x : It) : Prop :=
  w.cell? ⟨b, o, none⟩ = some (.int .i64 x.e) ∧ w.cell? ⟨b, o + 1, none⟩ = some (.int .i64 x.f) ∧ w.cell? ⟨b, o + 2, none⟩ = some (.int .i64 x.t) ∧ w.cell? ⟨b, o + 3, none⟩ = some (.int .i64 x.s)
theorem ItAt.grew {w w' : World} {b o : Nat} {x : It} (h : ItAt w b o x) (g : Grew w w') : ItAt w' b o x := ⟨g.keep h.1, g.keep h.2.1, g.keep h.2.2.1, g.keep h.2.2.2⟩

/-- The items of a slice, one behind the other. -/
def Its (w : World) (a : Option Addr) (l : List It) : Prop := l = [] ∨ ∃ b off, a = some ⟨b, off, none⟩ ∧ ∀ i (h : i < l.length), ItAt w b (off + i * 4) l[i]
theorem Its.grew {w w' : World} {a : Option Addr} {l : List It} (h : Its w a l) (g : Grew w w') : Its w' a l := by
  rcases h with h | ⟨b, off, ha, h⟩
  · exact .inl h
  · exact .inr ⟨b, off, ha, fun i hi => (h i hi).grew g⟩
theorem Its.at {w : World} {a : Option Addr} {l : List It} (h : Its w a l) {i : Nat} (hi : i < l.length) : ∃ b off, a = some ⟨b, off, none⟩ ∧ ItAt w b (off + i * 4) l[i] := by
  rcases h with h | ⟨b, off, ha, h⟩
  · subst h; exact absurd hi (Nat.not_lt_zero _)
  · exact ⟨b, off, ha, h i hi⟩

def inB (n l h : Int) : Bool := decide (l ≤ n) && decide (n ≤ h)
def payB (f t s : Int) : Bool := inB f 1 3 && inB t 1 3 && !(f == t) && inB s 1 9
/-- One item, behind the epoch that the one ahead of it has (0 ahead of the first). -/
def stepB (last : Int) (x : It) : Bool := decide (last < x.e) && decide (x.e ≤ 30) && payB x.f x.t x.s
def goB : Int → List It → Bool
  | _, [] => true
  | last, x :: r => stepB last x && goB x.e r
def okB (l : List It) : Bool := decide (l.length ≤ 16) && goB 0 l
end Go.Proofs.Ytpoabogjpjbpiaa
