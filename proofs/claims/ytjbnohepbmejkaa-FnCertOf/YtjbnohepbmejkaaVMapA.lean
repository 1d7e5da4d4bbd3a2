/-
  Texts together: VMap1, VMap2, VMap3.
-/
import Derived.Test.YtjbnohepbmejkaaVoteA
import Derived.Test.YtjbnohepbmejkaaText3
import Derived.Maps.OwnSet
import Derived.Test.YtjbnohepbmejkaaVOk
import Derived.Test.YtjbnohepbmejkaaNumsA
import Derived.Test.YtjbnohepbmejkaaVSpec1
namespace Go.Proofs.Ytjbnohepbmejkaa
set_option linter.unusedVariables false
open Go.RowKit Go.Maps

theorem lawS : Keyed Try.prog 9 := string_keyed Try.underlying9
theorem lawI : Keyed Try.prog 3 := int_keyed Try.underlying3
theorem zeroSet (w : World) : (zeroValue 188).run Try.prog w = .ok (.map none) w := by kernel_rfl
theorem zeroUnit (w : World) : (zeroValue 194).run Try.prog w = .ok (.agg #[]) w := by kernel_rfl

/-- How a set in a map reads: as the number of its block. -/
def handle : Value → Option (DataW Unit × List MemPlace)
  | .map none => some (.nil, [])
  | .map (some b) => some (.lit (.int .i64 (b : Int)), [])
  | _ => none
theorem handle_some (b : Nat) : handle (.map (some b)) = some (.lit (.int .i64 (b : Int)), []) := rfl
theorem handle_none : handle (.map none) = some (.nil, []) := rfl

/-- Block b is a set of at most n numbers, of just those of S. -/
def SetAt (w : World) (b n : Nat) (S : Int → Bool) : Prop := ∃ D : DataW Unit, w.ownsMap Try.prog 3 unitElem b n D ∧ ∀ x : Int, (Lit.int .i64 x).wf = true → Maps.has D (.int .i64 x) = S x
def atOf : Option Nat → DataW Unit
  | none => .nil
  | some c => .lit (.int .i64 (c : Int))
/-- Block b is a map of at most n texts, each to the set in the block that m tells. -/
def MapAt (w : World) (b n : Nat) (m : List UInt8 → Option Nat) : Prop :=
  ∃ D : DataW Unit, w.ownsMap Try.prog 9 handle b n D ∧ ∀ s : List UInt8, D.atKey (.string s) .nil = atOf (m s)

theorem SetAt.lt {w : World} {b n : Nat} {S : Int → Bool} (h : SetAt w b n S) : b < w.heap.size := by obtain ⟨D, h, _⟩ := h; exact h.lt
theorem MapAt.lt {w : World} {b n : Nat} {m : List UInt8 → Option Nat} (h : MapAt w b n m) : b < w.heap.size := by obtain ⟨D, h, _⟩ := h; exact h.lt
theorem SetAt.kept {w w' : World} {b n : Nat} {S : Int → Bool} {row : Option Nat} (h : SetAt w b n S) (g : w.grownBy w' row) (hne : some b ≠ row) : SetAt w' b n S := by
  obtain ⟨D, h, k⟩ := h; exact ⟨D, h.kept g hne, k⟩
theorem MapAt.kept {w w' : World} {b n : Nat} {m : List UInt8 → Option Nat} {row : Option Nat} (h : MapAt w b n m) (g : w.grownBy w' row) (hne : some b ≠ row) : MapAt w' b n m := by
  obtain ⟨D, h, k⟩ := h; exact ⟨D, h.kept g hne, k⟩
theorem ownsMap_block {H : Type} {P : Program} {k : TypeId} {R : Value → Option (DataW H × List MemPlace)} {w w' : World} {b n : Nat} {D : DataW H} (h : w.ownsMap P k R b n D) (e : w'.heap[b]? = w.heap[b]?) : w'.ownsMap P k R b n D := by
  obtain ⟨es, clock, hb, r⟩ := h
  exact ⟨es, clock, e.trans hb, r⟩
theorem SetAt.block {w w' : World} {b n : Nat} {S : Int → Bool} (h : SetAt w b n S) (e : w'.heap[b]? = w.heap[b]?) : SetAt w' b n S := by
  obtain ⟨D, h, k⟩ := h; exact ⟨D, ownsMap_block h e, k⟩
theorem MapAt.block {w w' : World} {b n : Nat} {m : List UInt8 → Option Nat} (h : MapAt w b n m) (e : w'.heap[b]? = w.heap[b]?) : MapAt w' b n m := by
  obtain ⟨D, h, k⟩ := h; exact ⟨D, ownsMap_block h e, k⟩
theorem SetAt.mono {w : World} {b n n' : Nat} {S : Int → Bool} (h : SetAt w b n S) (hn : n ≤ n') : SetAt w b n' S := by
  obtain ⟨D, h, k⟩ := h; exact ⟨D, h.mono hn, k⟩
theorem SetAt.made (w : World) : SetAt (w.alloc (.map #[] 0)) w.heap.size 0 (fun _ => false) := ⟨_, World.ownsMap_made w _ _ _, fun _ _ => rfl⟩
theorem MapAt.made (w : World) : MapAt (w.alloc (.map #[] 0)) w.heap.size 0 (fun _ => none) := ⟨_, World.ownsMap_made w _ _ _, fun _ => rfl⟩

/-- 'all[text]'. -/
theorem MapAt.look {w : World} {b n : Nat} {m : List UInt8 → Option Nat} (h : MapAt w b n m) (s : ByteArray) (hs : s.size ≤ maxLen) :
    (Instr.lookup 122 (.map (some b)) (.string s) false).run Try.prog w = .ok (.map (m s.data.toList)) w := by
  obtain ⟨D, h, k⟩ := h
  obtain ⟨v, ps, hrun, hv⟩ := h.lookup lawS Try.underlying122 (zeroSet w) handle_none (WideMaps.keyOf_string_mk Try.underlying9 hs)
  rw [k] at hv
  cases hm : m s.data.toList with
  | none =>
    rw [hm] at hv
    have : v = .map none := by
      unfold handle atOf at hv
      split at hv
      · rfl
      · simp at hv
      · cases hv
    rw [hrun, this]
  | some c =>
    rw [hm] at hv
    have : v = .map (some c) := by
      unfold handle atOf at hv
      split at hv
      · simp at hv
      · rename_i b'; simp at hv; rw [show b' = c by omega]
      · cases hv
    rw [hrun, this]
theorem MapAt.look_nil {w : World} (s : ByteArray) (hs : s.size ≤ maxLen) : (Instr.lookup 122 (.map none) (.string s) false).run Try.prog w = .ok (.map none) w :=
  Maps.look_nil false lawS Try.underlying122 (zeroSet w) (WideMaps.keyOf_string_mk Try.underlying9 hs)
/-- 'all[text] = ..'. -/
theorem MapAt.store {w : World} {b n : Nat} {m : List UInt8 → Option Nat} (h : MapAt w b n m) (hn : n < maxLen) (s : ByteArray) (hs : s.size ≤ maxLen) (c : Nat) :
    ∃ w', (Instr.mapUpdate 122 (.map (some b)) (.string s) (.map (some c))).run Try.prog w = .ok () w' ∧ MapAt w' b (n + 1) (fun t => if t = s.data.toList then some c else m t) ∧ w.grownBy w' (some b) := by
  obtain ⟨D, h, k⟩ := h
  obtain ⟨w', hrun, hown, hg⟩ := h.update lawS Try.underlying122 hn (WideMaps.keyOf_string_mk Try.underlying9 hs) (handle_some c)
  refine ⟨w', hrun, ⟨_, hown, fun t => ?_⟩, hg⟩
  show _ = atOf (if t = s.data.toList then some c else m t)
  by_cases e : t = s.data.toList
  · subst e
    rw [if_pos rfl, atKey_put_same h.isMap (show WideAt.IsKeyLit (.string s.data.toList) from trivial)]; rfl
  · rw [if_neg e, atKey_put_other (by intro c; injection c with c; exact e c), k]
/-- 's[one]', asked. -/
theorem SetAt.look {w : World} {b n : Nat} {S : Int → Bool} (h : SetAt w b n S) (x : Int) (hx : (Lit.int .i64 x).wf = true) :
    (Instr.lookup 188 (.map (some b)) (.int .i64 x) true).run Try.prog w = .ok (.tuple #[.agg #[], .bool (S x)]) w := by
  obtain ⟨D, h, k⟩ := h
  obtain ⟨v, ps, hrun, hv⟩ := h.look_ok lawI Try.underlying188 (zeroUnit w) unitElem_mk (keyOf_int_mk Try.underlying3 hx)
  obtain ⟨rfl, _⟩ := unitElem_inv hv
  rw [hrun, k x hx]
theorem SetAt.look_nil {w : World} (x : Int) (hx : (Lit.int .i64 x).wf = true) : (Instr.lookup 188 (.map none) (.int .i64 x) true).run Try.prog w = .ok (.tuple #[.agg #[], .bool false]) w :=
  Maps.look_nil true lawI Try.underlying188 (zeroUnit w) (keyOf_int_mk Try.underlying3 hx)
/-- 's[one] = struct{}{}'. -/
theorem SetAt.store {w : World} {b n : Nat} {S : Int → Bool} (h : SetAt w b n S) (hn : n < maxLen) (x : Int) (hx : (Lit.int .i64 x).wf = true) :
    ∃ w', (Instr.mapUpdate 188 (.map (some b)) (.int .i64 x) (.agg #[])).run Try.prog w = .ok () w' ∧ SetAt w' b (n + 1) (fun y => y == x || S y) ∧ w.grownBy w' (some b) := by
  obtain ⟨D, h, k⟩ := h
  obtain ⟨w', hrun, hown, hg⟩ := h.update lawI Try.underlying188 hn (keyOf_int_mk Try.underlying3 hx) unitElem_mk
  refine ⟨w', hrun, ⟨_, hown, fun y hy => ?_⟩, hg⟩
  show _ = (y == x || S y)
  by_cases e : y = x
  · subst e
    rw [has_put_same h.isMap (show WideAt.IsKeyLit (.int .i64 y) from trivial)]; simp
  · rw [has_put_other (by intro c; injection c with _ c; exact e c), k y hy]
    have : (y == x) = false := by simpa using e
    rw [this, Bool.false_or]

theorem has_any (s : Option Nat) (n : Nat) (S : Int → Bool) (x : Int) (w : World) (hs : ∀ b, s = some b → SetAt w b n S) (h0 : s = none → S x = false) (hx : (Lit.int .i64 x).wf = true) :
    Calls Try.prog 150 #[.map s, .int .i64 x] w fun r w' => r = .returned (.bool (S x)) ∧ Grew w w' := by
  have hr : (Instr.lookup 188 (.map s) (.int .i64 x) true).run Try.prog w = .ok (.tuple #[.agg #[], .bool (S x)]) w := by
    cases s with
    | none => rw [SetAt.look_nil x hx, h0 rfl]
    | some b => exact (hs b rfl).look x hx
  go_enter Try.func150, Try.ntmps150
  go_wp2
  go_ret
  exact ⟨rfl, (Grew.refl _).alloc _⟩

theorem add_any (b n : Nat) (S : Int → Bool) (x : Int) (w : World) (hs : SetAt w b n S) (hn : n < maxLen) (hx : (Lit.int .i64 x).wf = true) :
    Calls Try.prog 158 #[.map (some b), .int .i64 x] w fun r w' => r = .returned (.tuple #[]) ∧ SetAt w' b (n + 1) (fun y => y == x || S y) ∧ w.grownBy w' (some b) := by
  obtain ⟨w1, hr, h1, h2⟩ := hs.store hn x hx
  go_enter Try.func158, Try.ntmps158
  go_wp2
  go_end0
  exact ⟨rfl, h1, h2⟩

set_option linter.unusedVariables false
open Go.RowKit Go.Maps
attribute [local simp] far_const

/-- Whether a vote of node y for a chain of that text is among some. -/
def inSet (l : List Vt) (s : List UInt8) (y : Int) : Bool := l.any (fun v => v.n == y && textL v.c == s)
theorem inSet_app (l m : List Vt) (s : List UInt8) (y : Int) : inSet (l ++ m) s y = (inSet l s y || inSet m s y) := by simp [inSet]
/-- The text under which a chain is looked for. -/
def keyT (c : List It) : List UInt8 := if okB c = true then textL c else []
theorem textL_inj {a b : List It} (ha : okB a = true) (hb : okB b = true) (h : textL a = textL b) : a = b := by
  have := textB_same ha hb
  rw [← textB_data, ← textB_data] at h
  have e : textB a = textB b := by
    cases ha' : textB a; cases hb' : textB b
    rw [ha', hb'] at h
    simp only at h
    congr 1
    exact Array.toList_inj.1 h
  rw [e] at this
  exact (sameB_iff _ _).1 (by rw [← this]; simp)
theorem vok_parts {x : Vt} (h : vokB x = true) : 1 ≤ x.n ∧ x.n ≤ 4 ∧ okB x.c = true ∧ 0 < x.c.length := by
  simp only [vokB, inB, Bool.and_eq_true, decide_eq_true_eq] at h
  exact ⟨h.1.1.1, h.1.1.2, h.1.2, h.2⟩
theorem textL_nil {c : List It} (h : textL c = []) : c = [] := by
  cases c with
  | nil => rfl
  | cons x r => exact absurd h (by simp only [textL]; exact lineL_ne x _)
theorem inSet_has {l : List Vt} (hok : ∀ x ∈ l, vokB x = true) (c : List It) (y : Int) : inSet l (keyT c) y = hasB l ⟨y, c⟩ := by
  rw [Bool.eq_iff_iff, hasB_iff]
  unfold inSet
  rw [List.any_eq_true]
  constructor
  · rintro ⟨v, hv, h⟩
    simp only [Bool.and_eq_true, beq_iff_eq] at h
    obtain ⟨_, _, h3, h4⟩ := vok_parts (hok v hv)
    by_cases hc : okB c = true
    · rw [keyT, if_pos hc] at h
      have := textL_inj h3 hc h.2
      obtain ⟨n, d⟩ := v
      simp only at h this
      rw [← h.1, ← this]; exact hv
    · rw [keyT, if_neg hc] at h
      rw [textL_nil h.2] at h4
      exact absurd h4 (by simp)
  · intro h
    have h3 := (vok_parts (hok _ h)).2.2.1
    exact ⟨_, h, by simp only [keyT, if_pos h3, beq_self_eq_true, Bool.and_self]⟩

structure VotersM (w : World) (base B n : Nat) (l : List Vt) (m : List UInt8 → Option Nat) : Prop where
  map : MapAt w B n m
  low : base ≤ B
  set : ∀ s b, m s = some b → base ≤ b ∧ b ≠ B ∧ SetAt w b n (inSet l s)
  void : ∀ s, m s = none → ∀ y, inSet l s y = false
  apart : ∀ s s' b, m s = some b → m s' = some b → s = s'
/-- Block B is the map of who is for which chain, of these votes; all its blocks lie from base on. -/
def Voters (w : World) (base B n : Nat) (l : List Vt) : Prop := ∃ m, VotersM w base B n l m

theorem MapAt.mono {w : World} {b n n' : Nat} {m : List UInt8 → Option Nat} (h : MapAt w b n m) (hn : n ≤ n') : MapAt w b n' m := by
  obtain ⟨D, h, k⟩ := h; exact ⟨D, h.mono hn, k⟩
theorem VotersM.grew {w w' : World} {base B n : Nat} {l : List Vt} {m : List UInt8 → Option Nat} (h : VotersM w base B n l m) (g : Grew w w') : VotersM w' base B n l m :=
  ⟨h.map.block (g.below.block B h.map.lt), h.low, fun s b e => by obtain ⟨h1, h2, h3⟩ := h.set s b e; exact ⟨h1, h2, h3.block (g.below.block b h3.lt)⟩, h.void, h.apart⟩
theorem Voters.grew {w w' : World} {base B n : Nat} {l : List Vt} (h : Voters w base B n l) (g : Grew w w') : Voters w' base B n l := by
  obtain ⟨m, h⟩ := h; exact ⟨m, h.grew g⟩
theorem VotersM.mono {w : World} {base B n n' : Nat} {l : List Vt} {m : List UInt8 → Option Nat} (h : VotersM w base B n l m) (hn : n ≤ n') : VotersM w base B n' l m :=
  ⟨h.map.mono hn, h.low, fun s b e => by obtain ⟨h1, h2, h3⟩ := h.set s b e; exact ⟨h1, h2, h3.mono hn⟩, h.void, h.apart⟩
theorem Voters.mono {w : World} {base B n n' : Nat} {l : List Vt} (h : Voters w base B n l) (hn : n ≤ n') : Voters w base B n' l := by
  obtain ⟨m, h⟩ := h; exact ⟨m, h.mono hn⟩
theorem Voters.made (w : World) : Voters (w.alloc (.map #[] 0)) w.heap.size w.heap.size 0 [] :=
  ⟨fun _ => none, MapAt.made w, Nat.le_refl _, (fun s b e => nomatch e), fun _ _ _ => rfl, (fun s s' b e => nomatch e)⟩
theorem VotersM.put {w w' : World} {base B n b : Nat} {l : List Vt} {m : List UInt8 → Option Nat} {x : Vt} (h : VotersM w base B n l m) (hb : m (textL x.c) = some b)
    (hs : SetAt w' b (n + 1) (fun y => y == x.n || inSet l (textL x.c) y)) (g : w.grownBy w' (some b)) : VotersM w' base B (n + 1) (l ++ [x]) m := by
  have hB := (h.set _ _ hb).2.1
  refine ⟨(h.map.kept g (fun e => hB (Option.some.inj e).symm)).mono (Nat.le_succ _), h.low, fun s c e => ?_, fun s e y => ?_, h.apart⟩
  · obtain ⟨h1, h2, h3⟩ := h.set s c e
    refine ⟨h1, h2, ?_⟩
    by_cases es : s = textL x.c
    · subst es
      rw [hb] at e
      cases e
      have : inSet (l ++ [x]) (textL x.c) = (fun y => y == x.n || inSet l (textL x.c) y) := by
        funext y
        rw [inSet_app]
        have : inSet [x] (textL x.c) y = (y == x.n) := by
          simp only [inSet, List.any_cons, List.any_nil, Bool.or_false, beq_self_eq_true, Bool.and_true]
          rw [Bool.eq_iff_iff, beq_iff_eq, beq_iff_eq]; exact eq_comm
        rw [this, Bool.or_comm]
      rw [this]; exact hs
    · have hcb : c ≠ b := fun ec => es (h.apart s _ b (by rw [← ec]; exact e) hb)
      have : inSet (l ++ [x]) s = inSet l s := by
        funext y
        rw [inSet_app]
        have : inSet [x] s y = false := by
          have : (textL x.c == s) = false := by simpa using fun e => es e.symm
          simp only [inSet, List.any_cons, List.any_nil, Bool.or_false, this, Bool.and_false]
        rw [this, Bool.or_false]
      rw [this]
      exact (h3.kept g (fun e => hcb (Option.some.inj e))).mono (Nat.le_succ _)
  · have es : (textL x.c == s) = false := by
      simp only [beq_eq_false_iff_ne]
      intro e'
      rw [e', e] at hb
      cases hb
    rw [inSet_app, h.void s e y]
    simp only [inSet, List.any_cons, List.any_nil, es, Bool.and_false, Bool.or_self]
theorem VotersM.fresh {w w' : World} {base B n : Nat} {l : List Vt} {m : List UInt8 → Option Nat} {t : List UInt8} (h : VotersM w base B n l m) (ht : m t = none)
    (hm : MapAt w' B (n + 1) (fun s => if s = t then some w.heap.size else m s)) (g : (w.alloc (.map #[] 0)).grownBy w' (some B)) : VotersM w' base B (n + 1) l (fun s => if s = t then some w.heap.size else m s) := by
  have hB := h.map.lt
  have hlow := h.low
  refine ⟨hm, h.low, fun s c e => ?_, fun s e y => ?_, fun s s' c e e' => ?_⟩
  · by_cases es : s = t
    · rw [if_pos es] at e
      cases e
      refine ⟨by omega, by omega, ?_⟩
      have : inSet l s = fun _ => false := funext fun y => h.void s (by rw [es]; exact ht) y
      rw [this]
      exact ((SetAt.made w).kept g (fun e => by have := Option.some.inj e; omega)).mono (Nat.zero_le _)
    · rw [if_neg es] at e
      obtain ⟨h1, h2, h3⟩ := h.set s c e
      exact ⟨h1, h2, ((h3.block (((Grew.refl w).alloc _).below.block c h3.lt)).kept g (fun e => h2 (Option.some.inj e))).mono (Nat.le_succ _)⟩
  · by_cases es : s = t
    · rw [if_pos es] at e; cases e
    · rw [if_neg es] at e; exact h.void s e y
  · by_cases es : s = t <;> by_cases es' : s' = t
    · rw [es, es']
    · rw [if_pos es] at e; rw [if_neg es'] at e'
      cases e
      have := (h.set s' _ e').2.2.lt
      omega
    · rw [if_neg es] at e; rw [if_pos es'] at e'
      cases e'
      have := (h.set s _ e).2.2.lt
      omega
    · rw [if_neg es] at e; rw [if_neg es'] at e'; exact h.apart s s' c e e'

/-- Votes with one more, if it is not among them. -/
def addL (l : List Vt) (x : Vt) : List Vt := if hasB l x = true then l else l ++ [x]
theorem addL_old {l : List Vt} {x : Vt} (h : hasB l x = true) : addL l x = l := if_pos h
theorem addL_new {l : List Vt} {x : Vt} (h : hasB l x = false) : addL l x = l ++ [x] := if_neg (by rw [h]; simp)
theorem wf_node {n : Int} (h1 : 1 ≤ n) (h2 : n ≤ 4) : (Lit.int .i64 n).wf = true := by
  rcases (show n = 1 ∨ n = 2 ∨ n = 3 ∨ n = 4 by omega) with rfl | rfl | rfl | rfl <;> decide

theorem eqNil_none (w : World) : (binOp .eql 188 (.map none) (.map none)).run Try.prog w = .ok (.bool true) w := by kernel_rfl
theorem eqNil_some (b : Nat) (w : World) : (binOp .eql 188 (.map (some b)) (.map none)).run Try.prog w = .ok (.bool false) w := by kernel_rfl
/-- A world whose blocks below are as they were. -/
theorem Below.ofGrew {base : Nat} {w w' : World} (g : Grew w w') (hb : base ≤ w.heap.size) : Below base w w' := g.below.mono hb

set_option maxRecDepth 20000 in
set_option maxHeartbeats 2000000 in
theorem votersAdd_any (base B n : Nat) (l : List Vt) (x : Vt) (v : Value) (w : World) (h : Voters w base B n l) (hok : ∀ y ∈ l, vokB y = true) (hx : vokB x = true) (hv : VtV w v x) (hn : n + 2 ≤ 1073741824) :
    Calls Try.prog 148 #[.map (some B), v] w fun r w' => r = .returned (.bool (!hasB l x)) ∧ Voters w' base B (n + 2) (addL l x) ∧ Below base w w' := by
  obtain ⟨a, cap, rfl, hl⟩ := hv
  obtain ⟨m, h⟩ := h
  obtain ⟨hx1, hx2, hx3, hx4⟩ := vok_parts hx
  have hwf := wf_node hx1 hx2
  have h16 : x.c.length ≤ 16 := by
    simp only [okB, Bool.and_eq_true, decide_eq_true_eq] at hx3; exact hx3.1
  have hsz : (textB x.c).size ≤ maxLen := by have := textB_size x.c; unfold maxLen; omega
  have hbB := h.map.lt
  have hlow := h.low
  have hbs : base ≤ w.heap.size := by omega
  have hT : keyT x.c = textL x.c := by rw [keyT, if_pos hx3]
  have hD := textB_data x.c
  have hin : inSet l (textL x.c) x.n = hasB l x := by rw [← hT]; exact inSet_has hok x.c x.n
  have HX := hide (And.intro hT (And.intro hD hin))
  have H := hide h
  have HS := hide hsz
  clear hT hin h hD hsz
  go_enter Try.func148, Try.ntmps148
  go_wp2_with fail
  refine (implChainText _ _ x.c _ (hl.grew ((Grew.refl _).alloc _)) (by omega)).mono ?_
  rw [if_pos hx3]
  rintro r w1 ⟨rfl, g1⟩
  have d0 := g1.keep (p := ⟨w.heap.size, 0, none⟩) (v := .int .i64 x.n) (by simp [go_sem])
  have G1 := hide (((Grew.refl w).alloc _).trans g1)
  clear g1
  have h1 := hide ((unhide H).grew (unhide G1))
  have hL1 := (unhide h1).map.look (textB x.c) (unhide HS)
  rw [(unhide HX).2.1] at hL1
  go_wp2_with fail
  refine (has_any (m (textL x.c)) n (inSet l (textL x.c)) x.n _ (fun b hb => ((unhide h1).set _ b hb).2.2) (fun hb => (unhide h1).void _ hb _) hwf).mono ?_
  rw [(unhide HX).2.2]
  rintro r w2 ⟨rfl, g2⟩
  have d0 := g2.keep d0
  have h2 := hide ((unhide h1).grew g2)
  have G2 := hide ((unhide G1).trans g2)
  have hL2 := (unhide h2).map.look (textB x.c) (unhide HS)
  rw [(unhide HX).2.1] at hL2
  clear g2 G1 h1 H hL1
  cases hh : hasB l x with
  | true =>
    go_wp2
    go_ret
    exact ⟨ret_bool (by first | rfl | (rw [hh]; rfl)), ⟨m, by rw [addL_old hh]; exact (unhide h2).mono (by omega)⟩, Below.ofGrew (unhide G2) hbs⟩
  | false =>
    cases hmt : m (textL x.c) with
    | none =>
      rw [hmt] at hL2
      have hq := eqNil_none w2
      have hmm := @run_makeMap Try.prog
      obtain ⟨w4, hS, hM, hG⟩ := ((unhide h2).map.block (w' := w2.alloc (.map #[] 0)) (((Grew.refl w2).alloc _).below.block B (unhide h2).map.lt)).store (by unfold maxLen; omega) (textB x.c) (unhide HS) w2.heap.size
      rw [(unhide HX).2.1] at hM
      have h4 := hide ((unhide h2).fresh hmt hM hG)
      have hL4 := (unhide h4).map.look (textB x.c) (unhide HS)
      rw [(unhide HX).2.1, if_pos rfl] at hL4
      have hB2 := (unhide h2).map.lt
      have hs2 : w.heap.size < w2.heap.size := by
        have := World.block_lt_of_cell? _ _ d0
        exact this
      have G4 := hide ((((unhide G2).alloc (.map #[] 0)).below.mono hbs).grown hG (by simp; omega) (fun k hk => by cases hk; omega))
      have d0 : w4.cell? ⟨w.heap.size, 0, none⟩ = some (.int .i64 x.n) := by
        rw [World.cell?_of_block (w := w2.alloc (.map #[] 0)) (hG.block w.heap.size (by simp; omega) (fun e => by have := Option.some.inj e; omega))]
        exact ((Grew.refl w2).alloc _).keep d0
      have hset := ((unhide h4).set (textL x.c) w2.heap.size (if_pos rfl)).2
      have HG := hide hG
      clear hM hG
      go_wp2_with fail
      refine (add_any w2.heap.size (n + 1) _ x.n _ hset.2 (by unfold maxLen; omega) hwf).mono ?_
      rintro r w5 ⟨rfl, hs5, g5⟩
      have h5 := (unhide h4).put (x := x) (if_pos rfl) hs5 g5
      have G5 := (unhide G4).grown g5 (by have := (unhide G4).size; omega) (fun k hk => by cases hk; omega)
      clear hL4 hS
      go_wp2
      go_ret
      exact ⟨ret_bool (by first | rfl | (rw [hh]; rfl)), ⟨_, by rw [addL_new hh]; exact h5⟩, G5⟩
    | some b =>
      rw [hmt] at hL2
      have hq := eqNil_some b w2
      obtain ⟨hb1, hb2, hb3⟩ := (unhide h2).set _ b hmt
      go_wp2_with fail
      refine (add_any b n _ x.n _ hb3 (by unfold maxLen; omega) hwf).mono ?_
      rintro r w5 ⟨rfl, hs5, g5⟩
      have h5 := ((unhide h2).put (x := x) hmt hs5 g5).mono (n' := n + 2) (by omega)
      have G5 := ((unhide G2).below.mono hbs).grown g5 (by have := (unhide G2).size; omega) (fun k hk => by cases hk; omega)
      go_wp2
      go_ret
      exact ⟨ret_bool (by first | rfl | (rw [hh]; rfl)), ⟨_, by rw [addL_new hh]; exact h5⟩, G5⟩

set_option linter.unusedVariables false
open Go.RowKit Go.Maps
attribute [local simp] far_const

theorem votesB_takes {l : List Vt} {k : Nat} (hk : k ≤ l.length) (h : ∀ j (hj : j < l.length), j < k → vokB l[j] = true ∧ hasB (l.take j) l[j] = false) : ∀ y ∈ l.take k, vokB y = true := by
  intro y hy
  obtain ⟨i, hi, rfl⟩ := List.getElem_of_mem hy
  simp only [List.length_take] at hi
  rw [List.getElem_take]
  exact (h i (by omega) (by omega)).1
theorem addL_take {l : List Vt} {k : Nat} (hk : k < l.length) (h : hasB (l.take k) l[k] = false) : addL (l.take k) l[k] = l.take (k + 1) := by
  rw [addL_new h, List.take_succ_eq_append_getElem hk]

/-- What votersOf answers. -/
def VotersA (w : World) (base : Nat) (l : List Vt) (s : Option Nat) : Prop := votesB l = true → ∃ B, s = some B ∧ Voters w base B (2 * l.length) l

set_option maxRecDepth 20000 in
set_option maxHeartbeats 2000000 in
theorem votersOf_any (a : Option Addr) (cap : Nat) (l : List Vt) (w : World) (hl : Vts w a l) (hs : Short l) (hn : l.length ≤ 1048576) :
    Calls Try.prog 115 #[.slice a l.length cap] w fun r w' => ∃ s, r = .returned (.tuple #[.map s, .bool (votesB l)]) ∧ VotersA w' w.heap.size l s ∧ Grew w w' := by
  have hmm := @run_makeMap Try.prog
  go_enter Try.func115, Try.ntmps115
  go_wp2_with fail
  clear hmm
  go_loopw [9] (fun i wr => ∃ k : Nat, k ≤ l.length ∧ i = .int .i64 k ∧ Hid (∀ j (hj : j < l.length), j < k → vokB l[j] = true ∧ hasB (l.take j) l[j] = false) ∧ Hid (Voters wr w.heap.size w.heap.size (2 * k) (l.take k)) ∧ Grew w wr) (fun i _ => l.length - (intOf i).toNat)
  case atStart => exact ⟨0, Nat.zero_le _, rfl, fun j _ h => absurd h (Nat.not_lt_zero _), Voters.made w, (Grew.refl _).alloc _⟩
  case round =>
    obtain ⟨k, hk, rfl, hno, hv, hg⟩ := hrel
    by_cases hlt : k < l.length
    · obtain ⟨b, off, rfl, hat⟩ := hl.at hlt
      obtain ⟨c0, a1, cap1, c1, hi⟩ := hat.grew hg
      have hs1 := hs.at hlt
      clear hat
      go_wp2_with fail
      refine (implVoteOk l[k] _ _ ⟨_, _, rfl, hi⟩ hs1).mono ?_
      rintro r w1 ⟨rfl, g1⟩
      have hg1 := hg.trans g1
      cases hvk : vokB l[k] with
      | false =>
        have hend : Hid (votesB l = false) := votesB_at k hlt (by rw [hvk]; rfl)
        go_wp2
        go_ret2
        exact ⟨none, (by rw [hend.out]; rfl), (fun h => by rw [hend.out] at h; cases h), hg1⟩
      | true =>
        have c0 := g1.keep c0
        have c1 := g1.keep c1
        have hi1 := hi.grew g1
        go_wp2_with fail
        refine (votersAdd_any w.heap.size w.heap.size (2 * k) (l.take k) l[k] _ _ ((unhide hv).grew g1) (votesB_takes hk hno.out) hvk ⟨_, _, rfl, hi1⟩ (by omega)).mono ?_
        rintro r w2 ⟨rfl, hv2, g2⟩
        have hg2 : Grew w w2 := .of_below (hg1.below.trans g2)
        cases hhk : hasB (l.take k) l[k] with
        | true =>
          have hend : Hid (votesB l = false) := votesB_at k hlt (by rw [hvk, hhk]; rfl)
          clear hv2
          go_wp2
          go_ret2
          exact ⟨none, (by rw [hend.out]; rfl), (fun h => by rw [hend.out] at h; cases h), hg2⟩
        | false =>
          have hnext : Hid (∀ j (hj : j < l.length), j < k + 1 → vokB l[j] = true ∧ hasB (l.take j) l[j] = false) := fun j hj hjk => by
            by_cases e : j = k
            · subst e; exact ⟨hvk, hhk⟩
            · exact hno.out j hj (by omega)
          have hvn : Hid (Voters w2 w.heap.size w.heap.size (2 * (k + 1)) (l.take (k + 1))) := by
            show Voters w2 w.heap.size w.heap.size (2 * (k + 1)) (l.take (k + 1))
            rw [← addL_take hlt hhk]; exact hv2
          clear hv2
          go_wp2
          go_roundw
          case rel => exact ⟨k + 1, by omega, by go_num, hnext, hvn, hg2⟩
          case measure => simp [intOf]; omega
    · have hkl : k = l.length := by omega
      have hend : Hid (votesB l = true) := votesB_take_all fun j hj _ => hno.out j hj (by omega)
      have hle : (l.length : Int) ≤ (k : Int) := by omega
      have hv' : Hid (Voters wr w.heap.size w.heap.size (2 * l.length) l) := by
        show Voters wr w.heap.size w.heap.size (2 * l.length) l
        have := unhide hv
        rw [hkl, List.take_length] at this
        exact this
      clear hkl
      go_wp2
      go_ret2
      exact ⟨some w.heap.size, (by rw [hend.out]; rfl), (fun _ => ⟨_, rfl, unhide hv'⟩), hg⟩

theorem implVotesOk (a : Option Addr) (cap : Nat) (l : List Vt) (w : World) (hl : Vts w a l) (hs : Short l) (hn : l.length ≤ 1048576) :
    Calls Try.prog 109 #[.slice a l.length cap] w fun r w' => r = .returned (.bool (votesB l)) ∧ Grew w w' := by
  go_enter Try.func109, Try.ntmps109
  go_wp2_with fail
  refine (votersOf_any a cap l _ hl hs hn).mono ?_
  rintro r w1 ⟨s, rfl, _, g1⟩
  go_wp2
  go_ret
  exact ⟨rfl, g1⟩

/-- The nodes up to k that are for a chain. -/
def forUp (l : List Vt) (c : List It) (k : Nat) : List Int := ((List.range k).map (fun i : Nat => (i : Int) + 1)).filter (fun n => hasB l ⟨n, c⟩)
theorem forUp_four (l : List Vt) (c : List It) : forUp l c 4 = forN l c := rfl
theorem forUp_in {l : List Vt} {c : List It} {k : Nat} (h : hasB l ⟨(k : Int) + 1, c⟩ = true) : forUp l c (k + 1) = forUp l c k ++ [(k : Int) + 1] := by
  unfold forUp
  rw [List.range_succ, List.map_append, List.filter_append]
  simp [h]
theorem forUp_out {l : List Vt} {c : List It} {k : Nat} (h : hasB l ⟨(k : Int) + 1, c⟩ = false) : forUp l c (k + 1) = forUp l c k := by
  unfold forUp
  rw [List.range_succ, List.map_append, List.filter_append]
  simp [h]
theorem forUp_len (l : List Vt) (c : List It) (k : Nat) : (forUp l c k).length ≤ k := by
  unfold forUp
  have := List.length_filter_le (fun n => hasB l ⟨n, c⟩) ((List.range k).map (fun i : Nat => (i : Int) + 1))
  simpa using this
theorem wf_nat (k : Nat) (h : k ≤ 4) : (Lit.int .i64 ((k : Int) + 1)).wf = true := by
  rcases (show k = 0 ∨ k = 1 ∨ k = 2 ∨ k = 3 ∨ k = 4 by omega) with rfl | rfl | rfl | rfl | rfl <;> decide
/-- 'append' onto what may be nothing at all. -/
theorem wpList_ansN {ops : Array Oper} {rest : List Oper} {o : Oper} {a : Act} {Q : Exit → Act → World → Prop} {w : World} (hgd : o.guard = none) (s x : Operand)
    (ho : o.op = .call { callee := .builtin .append, args := #[s, x], argTypes := #[29, 29] })
    (base : Nat) (v : Value) (l : List Int) (hs : a.eval s = v) (hown : AnsN w base v l)
    (ad : Addr) (c : Nat) (y : Int) (hx : a.eval x = .slice (some ad) 1 c) (hm : Ints w (some ad) [y]) (hn : l.length + 1 ≤ 1048576) (hbase : base ≤ w.heap.size)
    (h : ∀ v' w', OwnN w' base v' (l ++ [y]) → w.grownBy w' v.ownBlock → wpList Try.prog ops Q rest (a.put o.dst v') w') : wpList Try.prog ops Q (o :: rest) a w := by
  rcases hown with ⟨rfl, rfl⟩ | hown
  · obtain ⟨i, hi, hz0, hz1, hz2⟩ := info_parts int_info
    refine wpList_append_own w hgd s x 29 ho base 3 i _ 1 8 Try.underlying29 hi hz0 hz1 hz2 rfl (by omega) (.slice none 0 0) 0 [] hs (World.ownsRow_nil _ _ _ _) ad 1 c (nums [y]) hx (by simp [nums]) hm.nums (nums_one [y]) (by unfold maxLen; omega) (by omega) hbase ?_
    intro v' w' h1 h2 h3
    exact h v' w' ⟨fun e => by have := (h3.1 e).2; omega, h1⟩ h2
  · exact wpList_nums hgd s x ho base v l hs hown ad c [y] 1 rfl hx hm hn hbase h
theorem AnsN.bl {w : World} {base : Nat} {v : Value} {l : List Int} (h : AnsN w base v l) : ∀ k, v.ownBlock = some k → base ≤ k ∧ k < w.heap.size := by
  rcases h with ⟨rfl, rfl⟩ | h
  · intro k hk; cases hk
  · exact h.block
theorem ints_one (w : World) (y : Int) (t : TypeId) : Ints (w.alloc (.cells #[.int .i64 y] t)) (some ⟨w.heap.size, 0, none⟩) [y] := by
  refine .inr ⟨_, _, rfl, fun i hi => ?_⟩
  obtain rfl : i = 0 := by simpa using hi
  simp [go_sem]

set_option maxRecDepth 20000 in
set_option maxHeartbeats 2000000 in
theorem votersFor_any (base B n : Nat) (l : List Vt) (a : Option Addr) (cap : Nat) (c : List It) (w : World) (h : Voters w base B n l) (hok : ∀ y ∈ l, vokB y = true) (hl : Its w a c) (hn : c.length ≤ 1048576) :
    Calls Try.prog 116 #[.map (some B), .slice a c.length cap] w fun r w' => ∃ v, r = .returned v ∧ AnsN w' w.heap.size v (forN l c) ∧ Grew w w' := by
  obtain ⟨m, h⟩ := h
  obtain ⟨T, hT⟩ : ∃ T : ByteArray, T = (if okB c = true then textB c else ⟨#[]⟩) := ⟨_, rfl⟩
  have hTs : T.size ≤ maxLen := by
    rw [hT]
    split
    · rename_i hc
      have h16 : c.length ≤ 16 := by simp only [okB, Bool.and_eq_true, decide_eq_true_eq] at hc; exact hc.1
      have := textB_size c; unfold maxLen; omega
    · exact Nat.zero_le _
  have hTd : T.data.toList = keyT c := by
    rw [hT, keyT]
    split
    · exact textB_data c
    · rfl
  have HT := hide (And.intro hTs hTd)
  clear hTs hTd
  go_enter Try.func116, Try.ntmps116
  go_wp2_with fail
  refine (implChainText _ _ c _ hl hn).mono ?_
  rw [← hT]
  rintro r w1 ⟨rfl, g1⟩
  clear hT
  have h1 := h.grew g1
  have H := hide h1
  have hsz := g1.size
  clear h h1
  go_wp2_with fail
  go_loopw [5, 7] (fun out i wr => ∃ (v : Value) (k : Nat), k ≤ 4 ∧ out = v ∧ i = .int .i64 ((k : Int) + 1) ∧ Hid (AnsN wr w1.heap.size v (forUp l c k)) ∧ Grew w1 wr) (fun _ i _ => 5 - (intOf i).toNat)
  case atStart => exact ⟨_, 0, by omega, rfl, rfl, .inl ⟨rfl, rfl⟩, Grew.refl _⟩
  case round =>
    obtain ⟨v, k, hk, rfl, rfl, ho, hg⟩ := hrel
    by_cases hlt : k < 4
    · have h2 := (unhide H).grew hg
      have hL := h2.map.look T (unhide HT).1
      rw [(unhide HT).2] at hL
      have hle : (k : Int) + 1 ≤ 4 := by omega
      go_wp2_with fail
      refine (has_any (m (keyT c)) n (inSet l (keyT c)) ((k : Int) + 1) _ (fun b hb => (h2.set _ b hb).2.2) (fun hb => h2.void _ hb _) (wf_nat k (by omega))).mono ?_
      rw [inSet_has hok]
      rintro r w2 ⟨rfl, g2⟩
      have hg2 := hg.trans g2
      have ho2 := (unhide ho).grew g2
      clear hL h2
      cases hh : hasB l ⟨(k : Int) + 1, c⟩ with
      | true =>
        have e := hide (forUp_in hh)
        have hlen := forUp_len l c k
        have hbl := ho2.bl
        have hs2 : w1.heap.size ≤ w2.heap.size := hg2.size
        go_wp2_with (first | (at_builtin; refine wpList_ansN rfl _ _ rfl w1.heap.size _ (forUp l c k) rfl (ho2.grew ((Grew.refl _).alloc _)) ⟨w2.heap.size, 0, none⟩ 1 ((k : Int) + 1) rfl (ints_one _ _ _) (by omega) (by simp; omega) ?_))
        intro v' w3 o3 g3
        have hg3 := (hg2.alloc _).grown g3 (fun k hk => (hbl k hk).1)
        have HO : Hid (AnsN w3 w1.heap.size v' (forUp l c (k + 1))) := by
          show AnsN w3 w1.heap.size v' (forUp l c (k + 1))
          rw [unhide e]; exact .inr o3
        clear o3 ho2 hbl g3
        go_wp2
        go_roundw
        case rel => exact ⟨v', k + 1, by omega, rfl, by go_num, HO, hg3⟩
        case measure => simp [intOf]; omega
      | false =>
        have e := hide (forUp_out hh)
        have HO := hide (show AnsN w2 w1.heap.size _ (forUp l c (k + 1)) by rw [unhide e]; exact ho2)
        clear ho2
        go_wp2
        go_roundw
        case rel => exact ⟨_, k + 1, by omega, rfl, by go_num, HO, hg2⟩
        case measure => simp [intOf]; omega
    · have hk4 : k = 4 := by omega
      subst hk4
      go_wp2
      go_ret
      exact ⟨_, rfl, (show AnsN wr w1.heap.size _ (forN l c) from unhide ho).low hsz, g1.trans hg⟩

set_option maxHeartbeats 2000000 in
theorem implVotesFor (a : Option Addr) (cap : Nat) (l : List Vt) (b : Option Addr) (cb : Nat) (c : List It) (w : World) (hl : Vts w a l) (hs : Short l) (hn : l.length ≤ 1048576) (hc : Its w b c) (hnc : c.length ≤ 1048576) :
    Calls Try.prog 64 #[.slice a l.length cap, .slice b c.length cb] w fun r w' => ∃ v, r = .returned v ∧ AnsN w' w.heap.size v (forL l c) ∧ Grew w w' := by
  go_enter Try.func64, Try.ntmps64
  go_wp2_with fail
  refine (votersOf_any a cap l _ hl hs hn).mono ?_
  rintro r w1 ⟨s, rfl, hv, g1⟩
  cases hb : votesB l with
  | false =>
    have e := hide (show forL l c = [] by unfold forL; rw [hb]; rfl)
    clear hv
    go_wp2
    go_ret
    exact ⟨_, rfl, .inl ⟨rfl, unhide e⟩, g1⟩
  | true =>
    obtain ⟨B, rfl, hv2⟩ := hv hb
    have e := hide (show forL l c = forN l c by unfold forL; rw [hb]; rfl)
    go_wp2_with fail
    refine (votersFor_any _ _ _ _ _ _ c _ hv2 ((votesB_iff l).1 hb).1 (hc.grew g1) hnc).mono ?_
    rintro r w2 ⟨v, rfl, ho, g2⟩
    go_wp2
    go_ret
    exact ⟨v, rfl, by rw [unhide e]; exact ho.low g1.size, g1.trans g2⟩
end Go.Proofs.Ytjbnohepbmejkaa
