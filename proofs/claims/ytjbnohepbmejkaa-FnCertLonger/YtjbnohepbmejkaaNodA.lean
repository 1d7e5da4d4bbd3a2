/-
  Texts together: Nod1, Nod2.
-/
import Derived.Test.YtjbnohepbmejkaaVForms
import Derived.Test.YtjbnohepbmejkaaVOk
namespace Go.Proofs.Ytjbnohepbmejkaa
set_option linter.unusedVariables false
open Go.RowKit
attribute [local simp] far_const

/-- A node: which, in which epoch, in which it voted last, and what it has seen. -/
structure Nd where
  id : Int
  ep : Int
  vo : Int
  s : List Vt
/-- A node as a value. -/
def NdV (w : World) (v : Value) (x : Nd) : Prop := ∃ sv, v = .agg #[.int .i64 x.id, .int .i64 x.ep, .int .i64 x.vo, sv] ∧ VtsV w sv x.s
theorem NdV.grew {w w' : World} {v : Value} {x : Nd} (h : NdV w v x) (g : Grew w w') : NdV w' v x := by
  obtain ⟨sv, h1, h2⟩ := h; exact ⟨sv, h1, h2.grew g⟩
/-- A node of a call's own: its votes lie in a row of its own, or there are none. -/
def NdO (w : World) (base : Nat) (v : Value) (hs : List Nat) (x : Nd) : Prop := ∃ sv, v = .agg #[.int .i64 x.id, .int .i64 x.ep, .int .i64 x.vo, sv] ∧ VAns w base sv hs x.s
theorem NdO.ndV {w : World} {base : Nat} {v : Value} {hs : List Nat} {x : Nd} (h : NdO w base v hs x) : NdV w v x := by
  obtain ⟨sv, h1, h2⟩ := h; exact ⟨sv, h1, h2.vtsV⟩
theorem NdO.grew {w w' : World} {base : Nat} {v : Value} {hs : List Nat} {x : Nd} (h : NdO w base v hs x) (g : Grew w w') : NdO w' base v hs x := by
  obtain ⟨sv, h1, h2⟩ := h; exact ⟨sv, h1, h2.grew g⟩
theorem NdO.lower {w : World} {base base' : Nat} {v : Value} {hs : List Nat} {x : Nd} (h : NdO w base v hs x) (hb : base' ≤ base) : NdO w base' v hs x := by
  obtain ⟨sv, h1, h2⟩ := h; exact ⟨sv, h1, h2.lower hb⟩
/-- The four cells of a node. -/
def NdAt (w : World) (b : Nat) (i e o : Int) (sv : Value) : Prop := w.cell? ⟨b, 0, none⟩ = some (.int .i64 i) ∧ w.cell? ⟨b, 1, none⟩ = some (.int .i64 e) ∧ w.cell? ⟨b, 2, none⟩ = some (.int .i64 o) ∧ w.cell? ⟨b, 3, none⟩ = some sv
theorem NdAt.grew {w w' : World} {b : Nat} {i e o : Int} {sv : Value} (h : NdAt w b i e o sv) (g : Grew w w') : NdAt w' b i e o sv := ⟨g.keep h.1, g.keep h.2.1, g.keep h.2.2.1, g.keep h.2.2.2⟩
theorem NdAt.box (w : World) (i e o : Int) (sv : Value) (t : TypeId) : NdAt (w.alloc (.cells #[.int .i64 i, .int .i64 e, .int .i64 o, sv] t)) w.heap.size i e o sv := by
  refine ⟨?_, ?_, ?_, ?_⟩ <;> simp [go_sem]
def sameN (x y : Nd) : Bool := x.id == y.id && (x.ep == y.ep && (x.vo == y.vo && sameVs x.s y.s))
theorem sameN_iff (x y : Nd) : sameN x y = true ↔ x = y := by
  cases x; cases y
  simp only [sameN, Bool.and_eq_true, beq_iff_eq, sameVs_iff, Nd.mk.injEq]

set_option maxHeartbeats 400000 in
theorem szNode_any (x : Nd) (a : Option Addr) (cap : Nat) (left : Int) (w : World) (hl : Vts w a x.s) (h0 : 0 ≤ left) (h1 : left ≤ 1048576) (hn : x.s.length ≤ 9223372036854775807) (hc : ∀ y ∈ x.s, y.c.length ≤ 9223372036854775807) :
    Calls Try.prog 122 #[.agg #[.int .i64 x.id, .int .i64 x.ep, .int .i64 x.vo, .slice a x.s.length cap], .int .i64 left] w fun r w' => r = .returned (.int .i64 (szR left (totV x.s))) ∧ Grew w w' := by
  have HZ : Hid (∀ w', Grew w w' → Calls Try.prog 82 #[.slice a x.s.length cap, .int .i64 left] w' fun r w'' => r = .returned (.int .i64 (szR left (totV x.s))) ∧ Grew w' w'') := hide (fun w' g => szVoteS_any a cap x.s left w' (hl.grew g) h0 h1 hn hc)
  clear hl hc hn
  by_cases h : left < totV x.s
  · rw [szR_neg h] at HZ ⊢
    go_enter Try.func122, Try.ntmps122
    go_wp2_with fail
    refine (unhide HZ _ ((Grew.refl _).alloc _)).mono ?_
    rintro r w1 ⟨rfl, g1⟩
    go_wp2
    go_ret
    exact ⟨rfl, ((Grew.refl _).alloc _).trans g1⟩
  · rw [szR_pos h] at HZ ⊢
    have h' : ¬ left - (totV x.s : Int) < 0 := by omega
    go_enter Try.func122, Try.ntmps122
    go_wp2_with fail
    refine (unhide HZ _ ((Grew.refl _).alloc _)).mono ?_
    rintro r w1 ⟨rfl, g1⟩
    go_wp2
    go_ret
    exact ⟨rfl, ((Grew.refl _).alloc _).trans g1⟩

theorem VPart.past {w w' : World} {base : Nat} {v : Value} {hs : List Nat} {N : Nat} {l : List Vt} (h : VPart w base v hs N l) (hz : w.heap.size ≤ w'.heap.size) (e : ∀ g, base ≤ g → g < w.heap.size → w'.heap[g]? = w.heap[g]?) : VPart w' base v hs N l := h.kept hz e

set_option maxHeartbeats 1000000 in
theorem toNode_any (x : Nd) (a : Option Addr) (cap : Nat) (w : World) (hl : Vts w a x.s) (hs : Short x.s) (hn : x.s.length ≤ 1048576) :
    Calls Try.prog 124 #[.agg #[.int .i64 x.id, .int .i64 x.ep, .int .i64 x.vo, .slice a x.s.length cap]] w fun r w' => ∃ sv hh, r = .returned (.agg #[.int .i64 x.id, .int .i64 x.ep, .int .i64 x.vo, sv]) ∧ VOwn w' w.heap.size sv hh x.s ∧ Grew w w' := by
  go_enter Try.func124, Try.ntmps124
  go_wp2_with fail
  refine (toVoteS_any a cap x.s _ (hl.grew ((((Grew.refl w).alloc _).alloc _).alloc _)) hs hn).mono ?_
  rintro r w1 ⟨sv, hh, rfl, o1, g1⟩
  obtain ⟨gq, cq, rfl, _, _, _⟩ := o1.shape
  have c20 := g1.keep (p := ⟨w.heap.size + 1 + 1, 0, none⟩) (v := .int .i64 x.id) (by simp [go_sem])
  have c21 := g1.keep (p := ⟨w.heap.size + 1 + 1, 1, none⟩) (v := .int .i64 x.ep) (by simp [go_sem])
  have c22 := g1.keep (p := ⟨w.heap.size + 1 + 1, 2, none⟩) (v := .int .i64 x.vo) (by simp [go_sem])
  have c23 := g1.keep (p := ⟨w.heap.size + 1 + 1, 3, none⟩) (v := .slice none 0 0) (by simp [go_sem])
  have c10 := g1.keep (p := ⟨w.heap.size + 1, 0, none⟩) (v := .int .i64 0) (by simp [go_sem])
  have c11 := g1.keep (p := ⟨w.heap.size + 1, 1, none⟩) (v := .int .i64 0) (by simp [go_sem])
  have c12 := g1.keep (p := ⟨w.heap.size + 1, 2, none⟩) (v := .int .i64 0) (by simp [go_sem])
  have c13 := g1.keep (p := ⟨w.heap.size + 1, 3, none⟩) (v := .slice none 0 0) (by simp [go_sem])
  have z2 : ∀ i, w1.frozen? ⟨w.heap.size + 1 + 1, i, none⟩ = false := fun i => by
    rw [World.frozen?_of_block (g1.below.block (w.heap.size + 1 + 1) (by simp))]
    simp [go_sem]
  have z1 : ∀ i, w1.frozen? ⟨w.heap.size + 1, i, none⟩ = false := fun i => by
    rw [World.frozen?_of_block (g1.below.block (w.heap.size + 1) (by simp))]
    simp [go_sem]
  have z23 := z2 3
  have z10 := z1 0
  have z11 := z1 1
  have z12 := z1 2
  have z13 := z1 3
  have G1 := hide (((((Grew.refl w).alloc _).alloc _).alloc _).trans g1)
  simp only [World.size_alloc] at o1
  have O1 := hide o1
  clear z1 z2 g1 o1
  go_wp2
  refine bodyPost_ret (by simp [results, Try.results124, go_sem, c10, c11, c12, c13]; try rfl) rfl ?_
  refine ⟨_, hh, rfl, ((unhide O1).kept ?_ ?_).lower (by omega), ?_⟩
  · simp [World.setCell]
  · intro b h1 h2
    repeat rw [Below.heap_setCell _ _ _ _ (by show b ≠ _; simp only [ne_eq]; omega)]
  · repeat (first | exact unhide G1 | refine Grew.setCell ?_ (by dsimp only; omega) _)

set_option maxHeartbeats 1000000 in
theorem eqNode_any (x y : Nd) (v u : Value) (w : World) (hv : NdV w v x) (hu : NdV w u y) (hs : Short x.s) (hs' : Short y.s) (hn : x.s.length ≤ 1048577) (hn' : y.s.length ≤ 1048577) :
    Calls Try.prog 118 #[v, u] w fun r w' => r = .returned (.bool (sameN x y)) ∧ Grew w w' := by
  obtain ⟨sv, rfl, hl⟩ := hv
  obtain ⟨su, rfl, hm⟩ := hu
  have HZ : Hid (∀ w', Grew w w' → Calls Try.prog 76 #[sv, su] w' fun r w'' => r = .returned (.bool (sameVs x.s y.s)) ∧ Grew w' w'') := hide (fun w' g => eqVoteS_v w' (hl.grew g) (hm.grew g) hs hs' hn hn')
  clear hl hm hs hs' hn hn'
  obtain ⟨b, hb⟩ : ∃ b, sameVs x.s y.s = b := ⟨_, rfl⟩
  rw [hb] at HZ
  have hx : Hid (sameN x y = (x.id == y.id && (x.ep == y.ep && (x.vo == y.vo && b)))) := by show sameN x y = _; unfold sameN; rw [hb]
  clear hb
  by_cases h1 : x.id = y.id
  · have b1 : (x.id != y.id) = false := by simpa using h1
    have e1 : (x.id == y.id) = true := by simpa using h1
    by_cases h2 : x.ep = y.ep
    · have b2 : (x.ep != y.ep) = false := by simpa using h2
      have e2 : (x.ep == y.ep) = true := by simpa using h2
      by_cases h3 : x.vo = y.vo
      · have b3 : (x.vo != y.vo) = false := by simpa using h3
        have e3 : (x.vo == y.vo) = true := by simpa using h3
        clear h1 h2 h3
        cases b
        all_goals
          go_enter Try.func118, Try.ntmps118
          go_wp2_with fail
          refine (unhide HZ _ (((Grew.refl _).alloc _).alloc _)).mono ?_
          rintro r w1 ⟨rfl, g1⟩
          go_wp2
          go_ret
          exact ⟨ret_bool (by rw [hx.out, e1, e2, e3]; rfl), (((Grew.refl _).alloc _).alloc _).trans g1⟩
      · have b3 : (x.vo != y.vo) = true := by simpa using h3
        have e3 : (x.vo == y.vo) = false := by simpa using h3
        clear h1 h2 h3
        go_enter Try.func118, Try.ntmps118
        go_wp2
        go_ret
        exact ⟨ret_bool (by rw [hx.out, e1, e2, e3]; rfl), ((Grew.refl _).alloc _).alloc _⟩
    · have b2 : (x.ep != y.ep) = true := by simpa using h2
      have e2 : (x.ep == y.ep) = false := by simpa using h2
      clear h1 h2
      go_enter Try.func118, Try.ntmps118
      go_wp2
      go_ret
      exact ⟨ret_bool (by rw [hx.out, e1, e2]; rfl), ((Grew.refl _).alloc _).alloc _⟩
  · have b1 : (x.id != y.id) = true := by simpa using h1
    have e1 : (x.id == y.id) = false := by simpa using h1
    clear h1
    go_enter Try.func118, Try.ntmps118
    go_wp2
    go_ret
    exact ⟨ret_bool (by rw [hx.out, e1]; rfl), ((Grew.refl _).alloc _).alloc _⟩

set_option linter.unusedVariables false
open Go.RowKit
attribute [local simp] far_const

theorem endE_at (l : List It) (h : 0 < l.length) : endE 0 l = (l[l.length - 1]'(by omega)).e := by
  have e : l = l.take (l.length - 1) ++ [l[l.length - 1]'(by omega)] := by
    rw [← List.take_succ_eq_append_getElem (by omega), show l.length - 1 + 1 = l.length by omega, List.take_length]
  conv => lhs; rw [e]
  rw [endE_snoc]
/-- No vote by that node is for an item of a later epoch than that. -/
def ownB (l : List Vt) (id vo : Int) : Bool := l.all (fun v => !(v.n == id && decide (vo < endE 0 v.c)))
theorem ownB_no {l : List Vt} {id vo : Int} {k : Nat} (hk : k < l.length) (h : (l[k].n == id && decide (vo < endE 0 l[k].c)) = true) : ownB l id vo = false := by
  unfold ownB
  rw [List.all_eq_false]
  exact ⟨l[k], List.getElem_mem hk, by rw [h]; decide⟩
theorem ownB_yes {l : List Vt} {id vo : Int} (h : ∀ k (hk : k < l.length), (l[k].n == id && decide (vo < endE 0 l[k].c)) = false) : ownB l id vo = true := by
  unfold ownB
  rw [List.all_eq_true]
  intro x hx
  obtain ⟨k, hk, rfl⟩ := List.getElem_of_mem hx
  rw [h k hk]; rfl
/-- A node is ok. -/
def nodeB (x : Nd) : Bool := inB x.id 1 4 && (inB x.ep 0 30 && (inB x.vo 0 x.ep && (decide (x.s.length ≤ 80) && (votesB x.s && ownB x.s x.id x.vo))))

theorem isNode_any (x : Int) (w : World) : Calls Try.prog 102 #[.int .i64 x] w fun e w' => e = .returned (.bool (inB x 1 4)) ∧ w' = w := by
  by_cases h1 : 1 ≤ x
  · by_cases h2 : x ≤ 4
    · go_enter Try.func102, Try.ntmps102
      go_wp2
      go_ret
      exact ⟨ret_bool (by simp [inB, h1, h2]), rfl⟩
    · have h2' : decide (x ≤ 4) = false := by simpa using h2
      go_enter Try.func102, Try.ntmps102
      go_wp2
      go_ret
      exact ⟨ret_bool (by unfold inB; rw [h2', Bool.and_false]), rfl⟩
  · have h1' : decide (1 ≤ x) = false := by simpa using h1
    go_enter Try.func102, Try.ntmps102
    go_wp2
    go_ret
    exact ⟨ret_bool (by unfold inB; rw [h1']; rfl), rfl⟩

/-- What NodeNew answers. -/
def newN (id : Int) : Nd := if inB id 1 4 = true then ⟨id, 0, 0, []⟩ else ⟨0, 0, 0, []⟩

theorem implNodeNew (id : Int) (w : World) : Calls Try.prog 74 #[.int .i64 id] w fun r w' => r = .returned (.tuple #[.agg #[.int .i64 (newN id).id, .int .i64 0, .int .i64 0, .slice none 0 0], .bool (inB id 1 4)]) ∧ Grew w w' := by
  cases hin : inB id 1 4 with
  | false =>
    have hx : Hid ((newN id).id = 0) := by show (newN id).id = 0; unfold newN; rw [hin]; rfl
    go_enter Try.func74, Try.ntmps74
    go_wp2_with fail
    refine (isNode_any _ _).mono ?_
    rw [hin]
    rintro r w1 ⟨rfl, rfl⟩
    go_wp2
    first | go_ret2 | go_returns
    exact ⟨by rw [hx.out], by repeat (first | exact Grew.refl _ | refine Grew.alloc ?_ _)⟩
  | true =>
    have hx : Hid ((newN id).id = id) := by show (newN id).id = id; unfold newN; rw [hin]; rfl
    go_enter Try.func74, Try.ntmps74
    go_wp2_with fail
    refine (isNode_any _ _).mono ?_
    rw [hin]
    rintro r w1 ⟨rfl, rfl⟩
    go_wp2
    first | go_ret2 | go_returns
    exact ⟨by rw [hx.out], by repeat (first | exact Grew.refl _ | refine Grew.alloc ?_ _)⟩

theorem specNodeNew (id : Int) (w : World) : Calls Try.prog 72 #[.int .i64 id] w fun r w' => ∃ a, r = .returned (.tuple #[.agg #[.int .i64 (newN id).id, .int .i64 0, .int .i64 0, .slice a 0 0], .bool (inB id 1 4)]) ∧ Grew w w' := by
  cases hin : inB id 1 4 with
  | false =>
    have hx : Hid ((newN id).id = 0) := by show (newN id).id = 0; unfold newN; rw [hin]; rfl
    go_enter Try.func72, Try.ntmps72
    go_wp2_with fail
    refine (l6In_any _ _ _ _).mono ?_
    rw [hin]
    rintro r w1 ⟨rfl, rfl⟩
    go_wp2
    first | go_ret2 | go_returns
    exact ⟨_, by rw [hx.out], by repeat (first | exact Grew.refl _ | refine Grew.alloc ?_ _)⟩
  | true =>
    have hx : Hid ((newN id).id = id) := by show (newN id).id = id; unfold newN; rw [hin]; rfl
    go_enter Try.func72, Try.ntmps72
    go_wp2_with fail
    refine (l6In_any _ _ _ _).mono ?_
    rw [hin]
    rintro r w1 ⟨rfl, rfl⟩
    go_wp2
    first | go_ret2 | go_returns
    exact ⟨_, by rw [hx.out], by repeat (first | exact Grew.refl _ | refine Grew.alloc ?_ _)⟩
end Go.Proofs.Ytjbnohepbmejkaa
