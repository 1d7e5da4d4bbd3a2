/-
  A keeper proposes.
-/
import Derived.Test.YtkegdjfpeocndaaNod9
import Derived.Test.YtkegdjfpeocndaaVLead
import Derived.Test.YtkegdjfpeocndaaTFormsA
import Derived.Deep.AppendLies
namespace Go.Proofs.Ytkegdjfpeocndaa
set_option linter.unusedVariables false
open Go.RowKit
attribute [local simp] far_const

/-- A chain with one item more. -/
def proC (x : Nd) (p0 p1 p2 : Int) : List It := tipL x.s ++ [(⟨x.ep, p0, p1, p2⟩ : It)]
/-- Who may propose. -/
def proB (x : Nd) : Bool := decide (x.vo < x.ep) && (leadI x.ep == x.id)

set_option maxHeartbeats 4000000 in
theorem propose_no (W : World) (base k : Nat) (x : Nd) (sv : Value) (hh : List Nat) (h : KpO W base k x sv hh) (e pf pt ps vb : Int) (va : Option Addr) (vn vc : Nat) (hp : proB x = false) :
    Calls Try.prog 160 #[.pointer (some ⟨k, 0, none⟩), .agg #[.int .i64 e, .int .i64 pf, .int .i64 pt, .int .i64 ps, .int .i64 vb, .slice va vn vc]] W fun r w' => r = .returned (.tuple #[.agg #[.int .i64 0, .slice none 0 0], .bool false]) ∧ Grew W w' := by
  have hD := Deed.begin W k e pf pt ps vb va vn vc 122 45
  obtain ⟨W2, hW2⟩ : ∃ W2, W2 = (W.alloc (.cells #[.int .i64 e, .int .i64 pf, .int .i64 pt, .int .i64 ps, .int .i64 vb, .slice va vn vc] 122)).alloc (.cells #[.int .i64 0, .slice none 0 0] 45) := ⟨_, rfl⟩
  rw [← hW2] at hD
  have H2 := hide (h.grew hD.g)
  have HW := hide hW2
  have HD := hide hD
  clear h hW2 hD
  have c1 := Grew.gcell (unhide H2).kp.c1
  have c2 := Grew.gcell (unhide H2).kp.c2
  have hM := fun n os => hide (mayVote_any (far W2 n os) base k x sv hh ((unhide H2).grew ⟨n, os, rfl⟩))
  cases hm : decide (x.vo < x.ep) with
  | false =>
    rw [hm] at hM
    go_enter Try.func160, Try.ntmps160
    go_wp2_with fail
    rw [← unhide HW]
    refine quietly (by kernel_rfl) (by kernel_rfl) ?_
    repeat (go_big_quiet_step (first | (go_at_call 170; exact Calls.far (unhide (hM _ _)))))
    refine wpQuiet_nil ?_
    intro _ hw'
    obtain ⟨⟨nq, osq⟩, hw''⟩ := hw'
    subst hw''
    have g3 : Grew W2 (far W2 nq osq) := ⟨_, _, rfl⟩
    change Exit.then _ _ _ _ (far W2 nq osq)
    revert g3
    generalize far W2 nq osq = w3
    intro g3
    have r0 := g3.keep (unhide HD).r0
    have r1 := g3.keep (unhide HD).r1
    have rz : ∀ j, w3.frozen? ⟨W.heap.size + 1, j, none⟩ = false := fun j => by
      rw [World.frozen?_of_block (a := ⟨W.heap.size + 1, j, none⟩) (g3.below.block (W.heap.size + 1) (World.block_lt_of_cell? _ _ (unhide HD).r0))]; exact (unhide HD).rz j
    have rz0 := rz 0
    have rz1 := rz 1
    have GG := hide ((unhide HD).g.trans g3)
    clear rz g3 hM c1 c2
    go_wp2
    obtain ⟨k0, k1⟩ := res2 r0 r1 (.int .i64 0) (.slice none 0 0)
    refine bodyPost_ret (by simp [results, Try.results160, go_sem, k0, k1]; try rfl) rfl ?_
    exact ⟨rfl, ((unhide GG).setCell (p := ⟨W.heap.size + 1, 0, none⟩) (Nat.le_succ _) _).setCell (p := ⟨W.heap.size + 1, 1, none⟩) (Nat.le_succ _) _⟩
  | true =>
    have hl : (leadI x.ep == x.id) = false := by
      unfold proB at hp; rw [hm, Bool.true_and] at hp; exact hp
    have hl' : (leadI x.ep != x.id) = true := by unfold bne; rw [hl]; rfl
    rw [hm] at hM
    go_enter Try.func160, Try.ntmps160
    go_wp2_with fail
    rw [← unhide HW]
    refine quietly (by kernel_rfl) (by kernel_rfl) ?_
    repeat (go_big_quiet_step (first | (go_at_call 170; exact Calls.far (unhide (hM _ _))) | (go_at_call 171; exact Calls.far ((implVoteLeader x.ep _).mono fun _ _ ⟨h1, h2⟩ => ⟨h1, Grew.same h2⟩))))
    refine wpQuiet_nil ?_
    intro _ hw'
    obtain ⟨⟨nq, osq⟩, hw''⟩ := hw'
    subst hw''
    have g3 : Grew W2 (far W2 nq osq) := ⟨_, _, rfl⟩
    change Exit.then _ _ _ _ (far W2 nq osq)
    revert g3
    generalize far W2 nq osq = w3
    intro g3
    have r0 := g3.keep (unhide HD).r0
    have r1 := g3.keep (unhide HD).r1
    have rz : ∀ j, w3.frozen? ⟨W.heap.size + 1, j, none⟩ = false := fun j => by
      rw [World.frozen?_of_block (a := ⟨W.heap.size + 1, j, none⟩) (g3.below.block (W.heap.size + 1) (World.block_lt_of_cell? _ _ (unhide HD).r0))]; exact (unhide HD).rz j
    have rz0 := rz 0
    have rz1 := rz 1
    have GG := hide ((unhide HD).g.trans g3)
    clear rz g3 hM c1 c2
    go_wp2
    obtain ⟨k0, k1⟩ := res2 r0 r1 (.int .i64 0) (.slice none 0 0)
    refine bodyPost_ret (by simp [results, Try.results160, go_sem, k0, k1]; try rfl) rfl ?_
    exact ⟨rfl, ((unhide GG).setCell (p := ⟨W.heap.size + 1, 0, none⟩) (Nat.le_succ _) _).setCell (p := ⟨W.heap.size + 1, 1, none⟩) (Nat.le_succ _) _⟩

/-- 'append' of one item onto what a call answered. -/
theorem AnsI.owns {w : World} {base : Nat} {v : Value} {l : List It} (h : AnsI w base v l) (hl : l.length ≤ 1048576) : w.ownsRow base 33 4 v l.length (flat l) := by
  refine ⟨flat_length l, ?_⟩
  rcases h with ⟨h1, h2⟩ | ⟨g, h1, hb, hi, f, c, hc, hn, hf⟩
  · exact .inl ⟨h1, by rw [h2]; rfl⟩
  · refine .inr ⟨g, l.length, c, h1, hb, hc, Nat.le_refl _, by unfold maxLen; omega, hn, ?_⟩
    apply List.ext_getElem?
    intro i
    by_cases hlt : i < l.length * 4
    · have hq : i / 4 < l.length := by omega
      have hr : i % 4 < 4 := Nat.mod_lt _ (by omega)
      have e1 := flat_get l (i / 4) hq (i % 4) hr
      have e0 : i / 4 * 4 + i % 4 = i := by omega
      rw [e0] at e1
      rw [e1, List.getElem?_take_of_lt hlt, Array.getElem?_toList]
      rcases hi with hi | ⟨b, off, hb2, hi⟩
      · rw [hi] at hq; exact absurd hq (Nat.not_lt_zero _)
      · simp only [Option.some.injEq, Addr.mk.injEq, and_true] at hb2
        obtain ⟨rfl, rfl⟩ := hb2
        obtain ⟨c0, c1, c2, c3⟩ := hi (i / 4) hq
        have cc : ∀ j, w.cell? ⟨g, j, none⟩ = c[j]? := fun j => by
          by_cases hj : j < c.size
          · simp [World.cell?, hc]
          · simp [World.cell?, hc]
        rw [cc] at c0 c1 c2 c3
        have h4 : i % 4 = 0 ∨ i % 4 = 1 ∨ i % 4 = 2 ∨ i % 4 = 3 := by omega
        have e2 : c[i]? = c[0 + i / 4 * 4 + i % 4]? := by rw [Nat.zero_add, e0]
        rw [e2]
        rcases h4 with h | h | h | h <;> rw [h]
        · simpa [It.row] using c0
        · simpa [It.row] using c1
        · simpa [It.row] using c2
        · simpa [It.row] using c3
    · rw [List.getElem?_eq_none (by rw [List.length_take]; omega), List.getElem?_eq_none (by rw [flat_length]; omega)]
theorem step_ansI {ops : Array Oper} {o : Oper} {a : Act} {w : World} {K : Act → World → Prop} {Q : Exit → Act → World → Prop} {E : Prop} (hgd : o.guard = none) (s x : Operand)
    (ho : o.op = .call { callee := .builtin .append, args := #[s, x], argTypes := #[23, 23] })
    (base : Nat) (v : Value) (l : List It) (hs : a.eval s = v) (hown : w.ownsRow base 33 4 v l.length (flat l))
    (ad : Addr) (c : Nat) (m : List It) (mn : Nat) (hmn : m.length = mn) (hx : a.eval x = .slice (some ad) mn c) (hm : Its w (some ad) m) (h0 : 0 < m.length) (hn : l.length + m.length ≤ 1048576) (hbase : base ≤ w.heap.size)
    (h : ∀ v' w', OwnL w' base v' (l ++ m) → w.grownBy w' v.ownBlock → K (a.put o.dst v') w') :
    if Region.wanted o (yielded ops a.tmps) = true then Oper.wp Try.prog o a w K Q else E := by
  obtain ⟨i, hi, hz0, hz1, hz2⟩ := item_info
  subst hmn
  refine step_append_lies w hgd s x 23 ho base 33 i _ 4 32 Try.underlying23 hi hz0 hz1 hz2 rfl (by omega) v l.length (flat l) hs hown ad m.length c (flat m) hx (flat_length m) hm.flat (flat_one m) h0 (by unfold maxLen; omega) (by omega) hbase _ rfl ?_
  intro g cap w' h1 h2 _ _
  refine h _ w' ⟨fun e => by simp at e, ?_⟩ h2
  rw [List.length_append, flat_app]
  exact h1
theorem _root_.Go.World.ownsRow.grewX {w w' : World} {base : Nat} {e : TypeId} {size : Nat} {v : Value} {n : Nat} {xs : List Value} (h : w.ownsRow base e size v n xs) (g : Grew w w') : w'.ownsRow base e size v n xs :=
  ownsRow_block h (fun k hk => g.below.block k (h.lt k hk).2)
theorem AnsI.blk {w : World} {base : Nat} {v : Value} {l : List It} (h : AnsI w base v l) : ∀ k, v.ownBlock = some k → base ≤ k := by
  rcases h with ⟨rfl, _⟩ | ⟨g, rfl, hb, _⟩
  · intro k hk; cases hk
  · intro k hk; simp [Value.ownBlock] at hk; omega
theorem AnsI.slv {w : World} {base : Nat} {v : Value} {l : List It} (h : AnsI w base v l) : ∃ a c, v = .slice a l.length c := by
  obtain ⟨a, c, e, _⟩ := h.shape; exact ⟨a, c, e⟩
/-- What a node that proposes becomes. -/
def proX (x : Nd) (p0 p1 p2 : Int) : Nd := if proB x = true then voteX x (proC x p0 p1 p2) else x
def proT (x : Nd) (p0 p1 p2 : Int) : Bool := proB x && voteT x (proC x p0 p1 p2)
def proTell (x : Nd) (p0 p1 p2 : Int) : Tell := if proT x p0 p1 p2 = true then TellV ⟨x.id, proC x p0 p1 p2⟩ else TellN
theorem pkeep {w w' : World} {p0 p1 p2 p3 p4 : Addr} {u0 u1 u2 u3 u4 : Value} (h : w.cell? p0 = some u0 ∧ w.cell? p1 = some u1 ∧ w.cell? p2 = some u2 ∧ w.cell? p3 = some u3 ∧ w.cell? p4 = some u4) (g : Grew w w') : w'.cell? p0 = some u0 ∧ w'.cell? p1 = some u1 ∧ w'.cell? p2 = some u2 ∧ w'.cell? p3 = some u3 ∧ w'.cell? p4 = some u4 :=
  ⟨g.keep h.1, g.keep h.2.1, g.keep h.2.2.1, g.keep h.2.2.2.1, g.keep h.2.2.2.2⟩

/-- What a deed tells is told of less, too. -/
def Tell.Less (T : Tell) : Prop := ∀ N N' w b q m c hh sv, T N w b q m c hh sv → N' ≤ N → T N' w b q m c hh sv
theorem TellN.less : TellN.Less := fun _ _ _ _ _ _ _ _ _ h _ => h
theorem TellV.less (y : Vt) : (TellV y).Less := by
  rintro N N' w b q m c hh sv ⟨h1, h2, h3, g, h4, h5, h6⟩ hN
  exact ⟨h1, h2, h3, g, h4, Nat.le_trans hN h5, h6⟩
theorem pro_end {W w5 w6 : World} {base k B n c : Nat} {x x2 : Nd} {sv sv' : Value} {hh hh' : List Nat} {T : Tell} {b : Int} {q : Option Addr} (hT : T.Keeps) (hL : T.Less) (h : KpO W base k x sv hh) (h6 : KpO w6 base k x2 sv' hh') (t6 : T w5.heap.size w6 b q n c hh' sv') (f6 : Newly w5 hh sv hh' sv') (r6 : Ran k w5 w6) (g5 : Grew W w5) (hB5 : B < w5.heap.size) (hB : W.heap.size ≤ B) (u0 u1 : Value) :
    KpO ((w6.setCell ⟨B, 0, none⟩ u0).setCell ⟨B, 1, none⟩ u1) base k x2 sv' hh' ∧ T W.heap.size ((w6.setCell ⟨B, 0, none⟩ u0).setCell ⟨B, 1, none⟩ u1) b q n c hh' sv' ∧ Newly W hh sv hh' sv' ∧ Ran k W ((w6.setCell ⟨B, 0, none⟩ u0).setCell ⟨B, 1, none⟩ u1) := by
  have hk := h.kp.lt
  have ht := h.own.top
  have hg := g5.size
  have hBf : B ∉ hh' ∧ sv'.ownBlock ≠ some B := f6 _ hB5 (fun hm => by have := ht _ (.inl hm); omega) (fun hm => by have := ht _ (.inr hm); omega)
  have hkB : B ≠ k := by omega
  have t7 := hT.set (j := 1) (u := u1) (hT.set (j := 0) (u := u0) t6 hB5) hB5
  refine ⟨(h6.setB hkB hBf.1 hBf.2).setB hkB hBf.1 hBf.2, hL _ _ _ _ _ _ _ _ _ t7 hg, fun B' hB' i1 i2 => f6 B' (by omega) i1 i2, ?_⟩
  exact ((((Ran.refl k W).grew g5).trans r6).setCell (.inr hB) _).setCell (.inr hB) _
end Go.Proofs.Ytkegdjfpeocndaa
