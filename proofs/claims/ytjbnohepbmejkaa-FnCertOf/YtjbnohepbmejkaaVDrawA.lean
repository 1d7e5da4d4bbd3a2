/-
  Texts together: AppR, VDraw1, VDraw2, VDraw34.
-/
import Derived.Test.YtjbnohepbmejkaaRows2
import Derived.Deep.RegionHeld3
import Derived.Deep.AppendLies
import Derived.Deep.DeepFit
import Derived.Test.YtjbnohepbmejkaaVForms
import Derived.Test.YtjbnohepbmejkaaBytes
namespace Go.Proofs.Ytjbnohepbmejkaa
set_option linter.unusedVariables false
open Go.RowKit

theorem step_items {ops : Array Oper} {o : Oper} {a : Act} {w : World} {K : Act → World → Prop} {Q : Exit → Act → World → Prop} {E : Prop} (hgd : o.guard = none) (s x : Operand)
    (ho : o.op = .call { callee := .builtin .append, args := #[s, x], argTypes := #[23, 23] })
    (base : Nat) (v : Value) (l : List It) (hs : a.eval s = v) (hown : OwnL w base v l)
    (ad : Addr) (c : Nat) (m : List It) (mn : Nat) (hmn : m.length = mn) (hx : a.eval x = .slice (some ad) mn c) (hm : Its w (some ad) m) (h0 : 0 < m.length) (hn : l.length + m.length ≤ 1048576) (hbase : base ≤ w.heap.size)
    (h : ∀ v' w', OwnL w' base v' (l ++ m) → w.grownBy w' v.ownBlock → K (a.put o.dst v') w') :
    if Region.wanted o (yielded ops a.tmps) = true then Oper.wp Try.prog o a w K Q else E := by
  obtain ⟨i, hi, hz0, hz1, hz2⟩ := item_info
  subst hmn
  refine step_append_lies w hgd s x 23 ho base 33 i _ 4 32 Try.underlying23 hi hz0 hz1 hz2 rfl (by omega) v l.length (flat l) hs hown.2 ad m.length c (flat m) hx (flat_length m) hm.flat (flat_one m) h0 (by unfold maxLen; omega) (by omega) hbase _ rfl ?_
  intro g cap w' h1 h2 _ _
  refine h _ w' ⟨fun e => by simp at e, ?_⟩ h2
  rw [List.length_append, flat_app]
  exact h1
theorem at_cond {c : Prop} [Decidable c] {A B : Prop} (h : if c then A else B) : if c then A else B := h
/-- Items that another row's growth leaves alone. -/
theorem Its.grown {w w' : World} {ad : Addr} {l : List It} {row : Option Nat} (h : Its w (some ad) l) (g : w.grownBy w' row) (hne : some ad.block ≠ row) : Its w' (some ad) l := by
  rcases h with h | ⟨b, off, ha, h⟩
  · exact .inl h
  · simp only [Option.some.injEq] at ha
    subst ha
    refine .inr ⟨b, off, rfl, fun i hi => ?_⟩
    obtain ⟨c0, c1, c2, c3⟩ := h i hi
    exact ⟨g.cell c0 hne, g.cell c1 hne, g.cell c2 hne, g.cell c3 hne⟩

set_option linter.unusedVariables false
open Go.RowKit
attribute [local simp] far_const

/-- Where the chain of a drawn vote lies. -/
def Fresh (base : Nat) (w : World) (a : Option Addr) : Prop := ∀ z, a = some z → z.off = 0 ∧ z.spot = none ∧ base ≤ z.block ∧ z.block < w.heap.size
theorem Fresh.ran {base R : Nat} {w w' : World} {a : Option Addr} (h : Fresh base w a) (g : Ran R w w') : Fresh base w' a := fun z hz => ⟨(h z hz).1, (h z hz).2.1, (h z hz).2.2.1, Nat.lt_of_lt_of_le (h z hz).2.2.2 g.size⟩
theorem Ran.its' {R base : Nat} {w w' : World} {a : Option Addr} {l : List It} (h : Its w a l) (f : Fresh base w a) (g : Ran R w w') (hR : R < base) : Its w' a l :=
  Ran.its h g (fun x hx => by have := (f x hx).2.2.1; omega)
/-- Two cells of a block of the call's own. -/
structure Two (w : World) (b : Nat) (u v : Value) : Prop where
  c0 : w.cell? ⟨b, 0, none⟩ = some u
  c1 : w.cell? ⟨b, 1, none⟩ = some v
  z0 : w.frozen? ⟨b, 0, none⟩ = false
  z1 : w.frozen? ⟨b, 1, none⟩ = false
theorem Two.lt {w : World} {b : Nat} {u v : Value} (h : Two w b u v) : b < w.heap.size := World.block_lt_of_cell? _ _ h.c0
theorem Two.made (w : World) (u v : Value) (t : TypeId) (hu : u.oneCell' = true) (hv : v.oneCell' = true) : Two (w.alloc (.cells #[u, v] t)) w.heap.size u v := by
  refine ⟨?_, ?_, ?_, ?_⟩ <;> simp [go_sem]
theorem Two.block {w w' : World} {b : Nat} {u v : Value} (h : Two w b u v) (e : w'.heap[b]? = w.heap[b]?) : Two w' b u v :=
  ⟨by rw [World.cell?_of_block (w := w) e]; exact h.c0, by rw [World.cell?_of_block (w := w) e]; exact h.c1, by rw [World.frozen?_of_block (w := w) e]; exact h.z0, by rw [World.frozen?_of_block (w := w) e]; exact h.z1⟩
theorem Two.ran {R : Nat} {w w' : World} {b : Nat} {u v : Value} (h : Two w b u v) (g : Ran R w w') (hb : b ≠ R) : Two w' b u v := h.block (g.keep b h.lt hb)
theorem Two.grew {w w' : World} {b : Nat} {u v : Value} (h : Two w b u v) (g : Grew w w') : Two w' b u v := h.block (g.below.block b h.lt)
theorem Two.set0 {w : World} {b : Nat} {u v : Value} (h : Two w b u v) (x : Value) : Two (w.setCell ⟨b, 0, none⟩ x) b x v :=
  ⟨World.cell?_setCell_same w _ x h.c0, by rw [World.cell?_setCell_other _ _ _ _ (by intro c; injection c with _ c _; cases c)]; exact h.c1, by rw [World.frozen?_setCell]; exact h.z0, by rw [World.frozen?_setCell]; exact h.z1⟩
theorem Two.set1 {w : World} {b : Nat} {u v : Value} (h : Two w b u v) (x : Value) : Two (w.setCell ⟨b, 1, none⟩ x) b u x :=
  ⟨by rw [World.cell?_setCell_other _ _ _ _ (by intro c; injection c with _ c _; cases c)]; exact h.c0, World.cell?_setCell_same w _ x h.c1, by rw [World.frozen?_setCell]; exact h.z0, by rw [World.frozen?_setCell]; exact h.z1⟩

set_option maxHeartbeats 8000000 in
theorem l71Vote_any (R N : Nat) (w : World) (hr : Rd w R N) (hN : N + 60 ≤ 1048576) :
    Calls Try.prog 139 #[.pointer (some ⟨R, 0, none⟩)] w fun r w' => ∃ (x : Vt) (a : Option Addr) (cap : Nat), r = .returned (.agg #[.int .i64 x.n, .slice a x.c.length cap]) ∧ Its w' a x.c ∧ (x.c.length ≤ 7 ∧ x.c.length ≤ cap) ∧ Fresh w.heap.size w' a ∧ Rd w' R (N + 60) ∧ Ran R w w' := by
  have hlt := hr.lt
  have hAR : w.heap.size ≠ R := by omega
  have hAlt : R < w.heap.size := hlt
  go_enter Try.func139, Try.ntmps139
  have A := Two.made w (.int .i64 0) (.slice none 0 0) 45 rfl rfl
  have HA := hide A
  clear A
  go_wp2_with fail
  refine (pick_any R N 4 _ (hr.grew ((Grew.refl _).alloc _)) (by omega) (by omega)).mono ?_
  rintro r w1 ⟨x, rfl, x0, x1, x2, r1, g1⟩
  have x3 := x1 (by omega)
  clear x1 x2
  have HA := hide ((unhide HA).ran g1 hAR)
  have G1 := ((Ran.refl R w).grew ((Grew.refl _).alloc _)).trans g1
  have hz1 : w.heap.size + 1 ≤ w1.heap.size := (unhide HA).lt
  clear g1
  go_wp2_with fail
  refine (l71Off_any R _ _ r1 (by omega)).mono ?_
  rintro r w2 ⟨v, l, rfl, o2, hl2, r2, g2⟩
  have HA := hide ((unhide HA).ran g2 hAR)
  have G2 := G1.trans g2
  obtain ⟨gb, cb, rfl, hcb, hb1, hb2, hit⟩ := o2.shape
  clear g2 G1 r1 o2
  have RD := r2.grew ((Grew.refl _).alloc (.cells #[.int .i64 (1 + x), .slice (some ⟨gb, 0, none⟩) l.length cb] 45))
  have T := Two.made w2 (.int .i64 (1 + x)) (.slice (some ⟨gb, 0, none⟩) l.length cb) 45 rfl rfl
  have A := (unhide HA).grew ((Grew.refl _).alloc (.cells #[.int .i64 (1 + x), .slice (some ⟨gb, 0, none⟩) l.length cb] 45))
  have RAN := G2.grew ((Grew.refl _).alloc (.cells #[.int .i64 (1 + x), .slice (some ⟨gb, 0, none⟩) l.length cb] 45))
  have IK := hit.grew ((Grew.refl _).alloc (.cells #[.int .i64 (1 + x), .slice (some ⟨gb, 0, none⟩) l.length cb] 45))
  have FK : Fresh w.heap.size (w2.alloc (.cells #[.int .i64 (1 + x), .slice (some ⟨gb, 0, none⟩) l.length cb] 45)) (some ⟨gb, 0, none⟩) := fun z hz => by cases hz; exact ⟨rfl, rfl, by show _ ≤ gb; omega, by show gb < _; simp; omega⟩
  have hBR : w2.heap.size ≠ R := by omega
  have hBlt : R < w2.heap.size := by omega
  have hBle : w.heap.size ≤ w2.heap.size := by omega
  clear HA G2 r2 hit
  by_cases h0 : l.length = 0
  · have h0' : ((l.length : Int) == 0) = true := by simp [h0]
    have hneA : ∀ x, (some ⟨gb, 0, none⟩ : Option Addr) = some x → x.block ≠ w.heap.size := fun x hx => by cases hx; show gb ≠ _; omega
    have hneB : ∀ x, (some ⟨gb, 0, none⟩ : Option Addr) = some x → x.block ≠ w2.heap.size := fun x hx => by cases hx; show gb ≠ _; omega
    have hLL : l.length ≤ 7 := hl2
    have t1 := T.c1
    clear h0
    go_wp2_with fail
    refine (pick_any R _ 4 _ RD (by omega) (by omega)).mono ?_
    rintro r w3 ⟨z, rfl, z0, z1, z2, r3, g3⟩
    clear z1 z2 t1
    have T := T.ran g3 hBR
    have A := A.ran g3 hAR
    have IK := Ran.its' IK FK g3 hlt
    have FK := FK.ran g3
    have RAN := RAN.trans g3
    have RD := r3
    clear g3 r3
    by_cases hz : 0 < z
    · go_wp2_with fail
      refine (pick_any R _ 3 _ RD (by omega) (by omega)).mono ?_
      rintro r w4 ⟨u, rfl, u0, u1, u2, r4, g4⟩
      have u3 := u1 (by omega)
      clear u1 u2
      go_wp2_with fail
      refine (l71Pay_any R _ _ r4 (by omega)).mono ?_
      rintro r w5 ⟨f, t, s, rfl, r5, g5⟩
      have g45 := g4.trans g5
      have hz5 := RAN.size
      have hz6 := g45.size
      have T := T.ran g45 hBR
      have A := A.ran g45 hAR
      have hT := T.lt
      have hsz : (w5.setCell ⟨w2.heap.size, 1, none⟩ (.slice (some ⟨w5.heap.size, 0, none⟩) 1 1)).heap.size = w5.heap.size := by simp [World.setCell]
      have tt1 := T.c1
      have yy1 := T.z1
      have RAN := ((RAN.trans g45).setCell (p := ⟨w2.heap.size, 1, none⟩) (.inr hBle) (.slice (some ⟨w5.heap.size, 0, none⟩) 1 1)).grew ((Grew.refl _).alloc (.cells #[.int .i64 (1 + u), .int .i64 f, .int .i64 t, .int .i64 s] 33))
      have RD := (r5.setCell (p := ⟨w2.heap.size, 1, none⟩) hBlt (.slice (some ⟨w5.heap.size, 0, none⟩) 1 1)).grew ((Grew.refl _).alloc (.cells #[.int .i64 (1 + u), .int .i64 f, .int .i64 t, .int .i64 s] 33))
      have A := (A.block (w' := (w5.setCell ⟨w2.heap.size, 1, none⟩ (.slice (some ⟨w5.heap.size, 0, none⟩) 1 1))) (Below.heap_setCell _ _ _ _ (by show w.heap.size ≠ w2.heap.size; omega))).grew ((Grew.refl _).alloc (.cells #[.int .i64 (1 + u), .int .i64 f, .int .i64 t, .int .i64 s] 33))
      have IK := its_one (w5.setCell ⟨w2.heap.size, 1, none⟩ (.slice (some ⟨w5.heap.size, 0, none⟩) 1 1)) ⟨1 + u, f, t, s⟩ 33
      rw [hsz] at IK
      have FK : Fresh w.heap.size ((w5.setCell ⟨w2.heap.size, 1, none⟩ (.slice (some ⟨w5.heap.size, 0, none⟩) 1 1)).alloc (.cells #[.int .i64 (1 + u), .int .i64 f, .int .i64 t, .int .i64 s] 33)) (some ⟨w5.heap.size, 0, none⟩) := fun z hz => by cases hz; exact ⟨rfl, rfl, by show _ ≤ w5.heap.size; omega, by show w5.heap.size < _; rw [World.size_alloc, hsz]; omega⟩
      have T := (T.set1 (.slice (some ⟨w5.heap.size, 0, none⟩) 1 1)).grew ((Grew.refl _).alloc (.cells #[.int .i64 (1 + u), .int .i64 f, .int .i64 t, .int .i64 s] 33))
      clear hsz
      have hneA : ∀ x, (some ⟨w5.heap.size, 0, none⟩ : Option Addr) = some x → x.block ≠ w.heap.size := fun x hx => by cases hx; show w5.heap.size ≠ _; omega
      have hneB : ∀ x, (some ⟨w5.heap.size, 0, none⟩ : Option Addr) = some x → x.block ≠ w2.heap.size := fun x hx => by cases hx; show w5.heap.size ≠ _; omega
      have hLL : ([⟨1 + u, f, t, s⟩] : List It).length ≤ 7 := by simp
      clear g4 g5 g45 r4 r5

      go_wp2_with fail
      refine (pick_any R _ 16 _ RD (by omega) (by omega)).mono ?_
      rintro r wp ⟨ss, rfl, s0, s1, s2, rp, gp⟩
      clear s1 s2
      have T := T.ran gp hBR
      have A := A.ran gp hAR
      have IK := Ran.its' IK FK gp hlt
      have FK := FK.ran gp
      have RAN := RAN.trans gp
      clear gp RD
      by_cases hs : ss = 0
      · subst hs
        go_wp2_with fail
        refine (pick_any R _ 2 _ (rp.grew ((Grew.refl _).alloc _)) (by omega) (by omega)).mono ?_
        rintro r wq ⟨uu, rfl, u0, u1, u2, rq, gq⟩
        have u3 := u1 (by omega)
        clear u1 u2
        have hnp : wp.heap.size ≠ R := by have := rp.lt; omega
        have e0 := gq.cell (p := ⟨wp.heap.size, 0, none⟩) (v := .int .i64 0) hnp (by simp [go_sem])
        have e1 := gq.cell (p := ⟨wp.heap.size, 1, none⟩) (v := .int .i64 5) hnp (by simp [go_sem])
        have T := (T.grew ((Grew.refl _).alloc _)).ran gq hBR
        have A := (A.grew ((Grew.refl _).alloc _)).ran gq hAR
        have FA : Fresh w.heap.size (wp.alloc (.cells #[.int .i64 0, .int .i64 5] 3)) (some ⟨w5.heap.size, 0, none⟩) := fun z hz => ⟨(FK z hz).1, (FK z hz).2.1, (FK z hz).2.2.1, Nat.lt_of_lt_of_le (FK z hz).2.2.2 (by simp)⟩
        have IK := Ran.its' (IK.grew ((Grew.refl _).alloc _)) FA gq hlt
        have FK := FA.ran gq
        have RAN := (RAN.grew ((Grew.refl _).alloc _)).trans gq
        clear gq rp FA
        have HIK := hide (And.intro IK FK)
        have HR := hide (And.intro rq RAN)
        obtain ⟨t0, t1, y0, y1⟩ := T
        obtain ⟨a0, a1, za0, za1⟩ := A
        clear IK FK
        rcases (show uu = 0 ∨ uu = 1 by omega) with rfl | rfl
        all_goals
          go_wp2
          refine bodyPost_ret (by simp [results, Try.results139, go_sem, a0, a1]; try rfl) rfl ?_
          refine ⟨⟨_, [⟨1 + u, f, t, s⟩]⟩, (some ⟨w5.heap.size, 0, none⟩), 1, rfl, ?_, ⟨hLL, by first | exact hcb | exact Nat.le_refl _⟩, ?_, ?_, ?_⟩
          · exact (unhide HIK).1.block' (fun x hx => by have := (unhide HIK).2 x hx; rw [Below.heap_setCell _ _ _ _ (hneA x hx), Below.heap_setCell _ _ _ _ (hneA x hx), Below.heap_setCell _ _ _ _ (hneB x hx)])
          · intro z hz; have := (unhide HIK).2 z hz; exact ⟨this.1, this.2.1, this.2.2.1, by simpa [World.setCell] using this.2.2.2⟩
          · exact ((((unhide HR).1.setCell (p := ⟨_, 0, none⟩) hBlt _).setCell (p := ⟨_, 0, none⟩) hAlt _).setCell (p := ⟨_, 1, none⟩) hAlt _).more (by omega)
          · exact (((unhide HR).2.setCell (p := ⟨_, 0, none⟩) (.inr hBle) _).setCell (p := ⟨_, 0, none⟩) (.inr (Nat.le_refl _)) _).setCell (p := ⟨_, 1, none⟩) (.inr (Nat.le_refl _)) _
      · have hs' : (ss == 0) = false := by simpa using hs
        have HIK := hide (And.intro IK FK)
        have HR := hide (And.intro rp RAN)
        obtain ⟨t0, t1, y0, y1⟩ := T
        obtain ⟨a0, a1, za0, za1⟩ := A
        clear IK FK
        go_wp2
        refine bodyPost_ret (by simp [results, Try.results139, go_sem, a0, a1]; try rfl) rfl ?_
        refine ⟨⟨_, [⟨1 + u, f, t, s⟩]⟩, (some ⟨w5.heap.size, 0, none⟩), 1, rfl, ?_, ⟨hLL, by first | exact hcb | exact Nat.le_refl _⟩, ?_, ?_, ?_⟩
        · exact (unhide HIK).1.block' (fun x hx => by rw [Below.heap_setCell _ _ _ _ (hneA x hx), Below.heap_setCell _ _ _ _ (hneA x hx)])
        · intro z hz; have := (unhide HIK).2 z hz; exact ⟨this.1, this.2.1, this.2.2.1, by simpa [World.setCell] using this.2.2.2⟩
        · exact (((unhide HR).1.setCell (p := ⟨_, 0, none⟩) hAlt _).setCell (p := ⟨_, 1, none⟩) hAlt _).more (by omega)
        · exact ((unhide HR).2.setCell (p := ⟨_, 0, none⟩) (.inr (Nat.le_refl _)) _).setCell (p := ⟨_, 1, none⟩) (.inr (Nat.le_refl _)) _
    · have hz' : decide (0 < z) = false := by simpa using hz

      go_wp2_with fail
      refine (pick_any R _ 16 _ RD (by omega) (by omega)).mono ?_
      rintro r wp ⟨s, rfl, s0, s1, s2, rp, gp⟩
      clear s1 s2
      have T := T.ran gp hBR
      have A := A.ran gp hAR
      have IK := Ran.its' IK FK gp hlt
      have FK := FK.ran gp
      have RAN := RAN.trans gp
      clear gp RD
      by_cases hs : s = 0
      · subst hs
        go_wp2_with fail
        refine (pick_any R _ 2 _ (rp.grew ((Grew.refl _).alloc _)) (by omega) (by omega)).mono ?_
        rintro r wq ⟨u, rfl, u0, u1, u2, rq, gq⟩
        have u3 := u1 (by omega)
        clear u1 u2
        have hnp : wp.heap.size ≠ R := by have := rp.lt; omega
        have e0 := gq.cell (p := ⟨wp.heap.size, 0, none⟩) (v := .int .i64 0) hnp (by simp [go_sem])
        have e1 := gq.cell (p := ⟨wp.heap.size, 1, none⟩) (v := .int .i64 5) hnp (by simp [go_sem])
        have T := (T.grew ((Grew.refl _).alloc _)).ran gq hBR
        have A := (A.grew ((Grew.refl _).alloc _)).ran gq hAR
        have FA : Fresh w.heap.size (wp.alloc (.cells #[.int .i64 0, .int .i64 5] 3)) (some ⟨gb, 0, none⟩) := fun z hz => ⟨(FK z hz).1, (FK z hz).2.1, (FK z hz).2.2.1, Nat.lt_of_lt_of_le (FK z hz).2.2.2 (by simp)⟩
        have IK := Ran.its' (IK.grew ((Grew.refl _).alloc _)) FA gq hlt
        have FK := FA.ran gq
        have RAN := (RAN.grew ((Grew.refl _).alloc _)).trans gq
        clear gq rp FA
        have HIK := hide (And.intro IK FK)
        have HR := hide (And.intro rq RAN)
        obtain ⟨t0, t1, y0, y1⟩ := T
        obtain ⟨a0, a1, za0, za1⟩ := A
        clear IK FK
        rcases (show u = 0 ∨ u = 1 by omega) with rfl | rfl
        all_goals
          go_wp2
          refine bodyPost_ret (by simp [results, Try.results139, go_sem, a0, a1]; try rfl) rfl ?_
          refine ⟨⟨_, l⟩, (some ⟨gb, 0, none⟩), cb, rfl, ?_, ⟨hLL, by first | exact hcb | exact Nat.le_refl _⟩, ?_, ?_, ?_⟩
          · exact (unhide HIK).1.block' (fun x hx => by have := (unhide HIK).2 x hx; rw [Below.heap_setCell _ _ _ _ (hneA x hx), Below.heap_setCell _ _ _ _ (hneA x hx), Below.heap_setCell _ _ _ _ (hneB x hx)])
          · intro z hz; have := (unhide HIK).2 z hz; exact ⟨this.1, this.2.1, this.2.2.1, by simpa [World.setCell] using this.2.2.2⟩
          · exact ((((unhide HR).1.setCell (p := ⟨_, 0, none⟩) hBlt _).setCell (p := ⟨_, 0, none⟩) hAlt _).setCell (p := ⟨_, 1, none⟩) hAlt _).more (by omega)
          · exact (((unhide HR).2.setCell (p := ⟨_, 0, none⟩) (.inr hBle) _).setCell (p := ⟨_, 0, none⟩) (.inr (Nat.le_refl _)) _).setCell (p := ⟨_, 1, none⟩) (.inr (Nat.le_refl _)) _
      · have hs' : (s == 0) = false := by simpa using hs
        have HIK := hide (And.intro IK FK)
        have HR := hide (And.intro rp RAN)
        obtain ⟨t0, t1, y0, y1⟩ := T
        obtain ⟨a0, a1, za0, za1⟩ := A
        clear IK FK
        go_wp2
        refine bodyPost_ret (by simp [results, Try.results139, go_sem, a0, a1]; try rfl) rfl ?_
        refine ⟨⟨_, l⟩, (some ⟨gb, 0, none⟩), cb, rfl, ?_, ⟨hLL, by first | exact hcb | exact Nat.le_refl _⟩, ?_, ?_, ?_⟩
        · exact (unhide HIK).1.block' (fun x hx => by rw [Below.heap_setCell _ _ _ _ (hneA x hx), Below.heap_setCell _ _ _ _ (hneA x hx)])
        · intro z hz; have := (unhide HIK).2 z hz; exact ⟨this.1, this.2.1, this.2.2.1, by simpa [World.setCell] using this.2.2.2⟩
        · exact (((unhide HR).1.setCell (p := ⟨_, 0, none⟩) hAlt _).setCell (p := ⟨_, 1, none⟩) hAlt _).more (by omega)
        · exact ((unhide HR).2.setCell (p := ⟨_, 0, none⟩) (.inr (Nat.le_refl _)) _).setCell (p := ⟨_, 1, none⟩) (.inr (Nat.le_refl _)) _
  · have h0' : ((l.length : Int) == 0) = false := by simpa using h0
    have hneA : ∀ x, (some ⟨gb, 0, none⟩ : Option Addr) = some x → x.block ≠ w.heap.size := fun x hx => by cases hx; show gb ≠ _; omega
    have hneB : ∀ x, (some ⟨gb, 0, none⟩ : Option Addr) = some x → x.block ≠ w2.heap.size := fun x hx => by cases hx; show gb ≠ _; omega
    have hLL : l.length ≤ 7 := hl2
    have t1 := T.c1

    go_wp2_with fail
    refine (pick_any R _ 16 _ RD (by omega) (by omega)).mono ?_
    rintro r wp ⟨s, rfl, s0, s1, s2, rp, gp⟩
    clear s1 s2
    have T := T.ran gp hBR
    have A := A.ran gp hAR
    have IK := Ran.its' IK FK gp hlt
    have FK := FK.ran gp
    have RAN := RAN.trans gp
    clear gp RD
    by_cases hs : s = 0
    · subst hs
      go_wp2_with fail
      refine (pick_any R _ 2 _ (rp.grew ((Grew.refl _).alloc _)) (by omega) (by omega)).mono ?_
      rintro r wq ⟨u, rfl, u0, u1, u2, rq, gq⟩
      have u3 := u1 (by omega)
      clear u1 u2
      have hnp : wp.heap.size ≠ R := by have := rp.lt; omega
      have e0 := gq.cell (p := ⟨wp.heap.size, 0, none⟩) (v := .int .i64 0) hnp (by simp [go_sem])
      have e1 := gq.cell (p := ⟨wp.heap.size, 1, none⟩) (v := .int .i64 5) hnp (by simp [go_sem])
      have T := (T.grew ((Grew.refl _).alloc _)).ran gq hBR
      have A := (A.grew ((Grew.refl _).alloc _)).ran gq hAR
      have FA : Fresh w.heap.size (wp.alloc (.cells #[.int .i64 0, .int .i64 5] 3)) (some ⟨gb, 0, none⟩) := fun z hz => ⟨(FK z hz).1, (FK z hz).2.1, (FK z hz).2.2.1, Nat.lt_of_lt_of_le (FK z hz).2.2.2 (by simp)⟩
      have IK := Ran.its' (IK.grew ((Grew.refl _).alloc _)) FA gq hlt
      have FK := FA.ran gq
      have RAN := (RAN.grew ((Grew.refl _).alloc _)).trans gq
      clear gq rp FA
      have HIK := hide (And.intro IK FK)
      have HR := hide (And.intro rq RAN)
      obtain ⟨t0, t1, y0, y1⟩ := T
      obtain ⟨a0, a1, za0, za1⟩ := A
      clear IK FK
      rcases (show u = 0 ∨ u = 1 by omega) with rfl | rfl
      all_goals
        go_wp2
        refine bodyPost_ret (by simp [results, Try.results139, go_sem, a0, a1]; try rfl) rfl ?_
        refine ⟨⟨_, l⟩, (some ⟨gb, 0, none⟩), cb, rfl, ?_, ⟨hLL, by first | exact hcb | exact Nat.le_refl _⟩, ?_, ?_, ?_⟩
        · exact (unhide HIK).1.block' (fun x hx => by have := (unhide HIK).2 x hx; rw [Below.heap_setCell _ _ _ _ (hneA x hx), Below.heap_setCell _ _ _ _ (hneA x hx), Below.heap_setCell _ _ _ _ (hneB x hx)])
        · intro z hz; have := (unhide HIK).2 z hz; exact ⟨this.1, this.2.1, this.2.2.1, by simpa [World.setCell] using this.2.2.2⟩
        · exact ((((unhide HR).1.setCell (p := ⟨_, 0, none⟩) hBlt _).setCell (p := ⟨_, 0, none⟩) hAlt _).setCell (p := ⟨_, 1, none⟩) hAlt _).more (by omega)
        · exact (((unhide HR).2.setCell (p := ⟨_, 0, none⟩) (.inr hBle) _).setCell (p := ⟨_, 0, none⟩) (.inr (Nat.le_refl _)) _).setCell (p := ⟨_, 1, none⟩) (.inr (Nat.le_refl _)) _
    · have hs' : (s == 0) = false := by simpa using hs
      have HIK := hide (And.intro IK FK)
      have HR := hide (And.intro rp RAN)
      obtain ⟨t0, t1, y0, y1⟩ := T
      obtain ⟨a0, a1, za0, za1⟩ := A
      clear IK FK
      go_wp2
      refine bodyPost_ret (by simp [results, Try.results139, go_sem, a0, a1]; try rfl) rfl ?_
      refine ⟨⟨_, l⟩, (some ⟨gb, 0, none⟩), cb, rfl, ?_, ⟨hLL, by first | exact hcb | exact Nat.le_refl _⟩, ?_, ?_, ?_⟩
      · exact (unhide HIK).1.block' (fun x hx => by rw [Below.heap_setCell _ _ _ _ (hneA x hx), Below.heap_setCell _ _ _ _ (hneA x hx)])
      · intro z hz; have := (unhide HIK).2 z hz; exact ⟨this.1, this.2.1, this.2.2.1, by simpa [World.setCell] using this.2.2.2⟩
      · exact (((unhide HR).1.setCell (p := ⟨_, 0, none⟩) hAlt _).setCell (p := ⟨_, 1, none⟩) hAlt _).more (by omega)
      · exact ((unhide HR).2.setCell (p := ⟨_, 0, none⟩) (.inr (Nat.le_refl _)) _).setCell (p := ⟨_, 1, none⟩) (.inr (Nat.le_refl _)) _

set_option linter.unusedVariables false
open Go.RowKit
attribute [local simp] far_const

theorem addL_len (l : List Vt) (x : Vt) : (addL l x).length ≤ l.length + 1 := by
  unfold addL; split
  · exact Nat.le_succ _
  · simp
theorem OwnL.its {w : World} {base g n cap : Nat} {l : List It} (h : OwnL w base (.slice (some ⟨g, 0, none⟩) n cap) l) : Its w (some ⟨g, 0, none⟩) l := by
  obtain ⟨_, _, hv, _, _, _, hi⟩ := h.shape
  simp only [Value.slice.injEq, Option.some.injEq, Addr.mk.injEq, and_true] at hv
  obtain ⟨rfl, _, _⟩ := hv
  exact hi
def Low (m : Nat) (l : List Vt) : Prop := ∀ x ∈ l, x.c.length ≤ m
theorem Low.short {m : Nat} {l : List Vt} (h : Low m l) (hm : m ≤ 1048576) : Short l := fun x hx => Nat.le_trans (h x hx) hm
theorem Low.add {m : Nat} {l : List Vt} {x : Vt} (h : Low m l) (hx : x.c.length ≤ m) : Low m (addL l x) := by
  unfold addL; split
  · exact h
  · intro y hy
    rcases List.mem_append.1 hy with hy | hy
    · exact h y hy
    · simp at hy; rw [hy]; exact hx
theorem Low.snoc {m : Nat} {l : List Vt} {x : Vt} (h : Low m l) (hx : x.c.length ≤ m) : Low m (l ++ [x]) := by
  intro y hy
  rcases List.mem_append.1 hy with hy | hy
  · exact h y hy
  · simp at hy; rw [hy]; exact hx
theorem Low.at {m : Nat} {l : List Vt} (h : Low m l) {i : Nat} (hi : i < l.length) : l[i].c.length ≤ m := h _ (List.getElem_mem hi)
theorem Ran.grown' {R : Nat} {w a b : World} {row : Option Nat} (h : Ran R w a) (g : a.grownBy b row) (hr : ∀ k, row = some k → w.heap.size ≤ k) : Ran R w b := h.grown g hr
theorem VRow.grown {w w' : World} {base : Nat} {v : Value} {l : List Vt} {row : Option Nat} (h : VRow w base v l) (g : w.grownBy w' row) (hr : ∀ k, row = some k → w.heap.size ≤ k) : VRow w' base v l :=
  h.kept g.size fun b _ hb => g.block b hb (fun e => by have := hr b e.symm; omega)

set_option maxRecDepth 20000 in
set_option maxHeartbeats 16000000 in
theorem l71Votes_any (R N : Nat) (w : World) (hr : Rd w R N) (hN : N + 700 ≤ 1048576) :
    Calls Try.prog 99 #[.pointer (some ⟨R, 0, none⟩)] w fun r w' => ∃ v l, r = .returned v ∧ VRow w' w.heap.size v l ∧ l.length ≤ 192 ∧ Low 16 l ∧ Rd w' R (N + 700) ∧ Ran R w w' := by
  have hlt := hr.lt
  go_enter Try.func99, Try.ntmps99
  have o0 : VRow (w.alloc (.cells #[] 45)) w.heap.size (.slice (some ⟨w.heap.size, 0, none⟩) 0 0) [] := VRow.empty (Nat.le_refl _)
  have HO := hide o0
  clear o0
  go_wp2_with fail
  refine (l71Chain_any R N _ (hr.grew ((Grew.refl _).alloc _)) (by omega)).mono ?_
  rintro r w1 ⟨vc, cc, rfl, oc, hcc, r1, g1⟩
  have HO := hide ((unhide HO).ran g1 hlt)
  have hoc : Hid ((Value.slice (some ⟨w.heap.size, 0, none⟩) 0 0).ownBlock ≠ vc.ownBlock) := fun e => by
    have := (oc.block w.heap.size (by rw [← e]; rfl)).1
    rw [World.size_alloc] at this; omega
  have OC := hide (oc.low (base' := w.heap.size) (by simp))
  have G1 := ((Ran.refl R w).grew ((Grew.refl _).alloc (.cells #[] 45))).trans g1
  clear g1 oc
  go_wp2_with fail
  refine (pick_any R _ 3 _ r1 (by omega) (by omega)).mono ?_
  rintro r w2 ⟨x, rfl, x0, x1, x2, r2, g2⟩
  have x3 := x1 (by omega)
  clear x1 x2
  have HO := hide ((unhide HO).ran g2 hlt)
  have OC := hide ((unhide OC).ran g2 hlt)
  have G2 := G1.trans g2
  clear g2 G1 r1
  obtain ⟨k0, rfl⟩ := Int.eq_ofNat_of_zero_le x0
  have e0 : Hid ((1 : Int) + k0 = ((k0 + 1 : Nat) : Int)) := by show (1 : Int) + k0 = ((k0 + 1 : Nat) : Int); omega
  go_wp2_with fail
  go_loopw [3, 4, 5] (fun out c n wr => ∃ (vo : Value) (lo : List Vt) (vc : Value) (cc : List It) (k : Nat), out = vo ∧ c = vc ∧ n = .int .i64 k ∧ k ≤ 3 ∧ lo.length ≤ 64 * (3 - k) ∧ Low 16 lo ∧ VRow wr w.heap.size vo lo ∧ OwnL wr w.heap.size vc cc ∧ cc.length ≤ 16 ∧ vo.ownBlock ≠ vc.ownBlock ∧ Rd wr R (N + 700 - 200 * k) ∧ Ran R w wr) (fun _ _ n _ => (intOf n).toNat)
  case atStart => exact ⟨_, [], _, cc, k0 + 1, rfl, rfl, by rw [e0.out], by omega, by simp, (fun x hx => by cases hx), unhide HO, unhide OC, by omega, unhide hoc, r2.more (by omega), G2⟩
  case round =>
    clear HO OC hoc
    obtain ⟨vo, lo, vc, cc, k, rfl, rfl, rfl, hk, hlo, hlw, hvo, hvc, hcc, hne, hrd, hran⟩ := hrel
    obtain ⟨gc, capc, rfl, hcap, hgc1, hgc2, hitc⟩ := hvc.shape
    have HLW := hide hlw
    have HVO := hide hvo
    have HVC := hide hvc
    have HNE := hide hne
    have HIT := hide hitc
    clear hlw hvo hvc hne hitc
    by_cases hk0 : 0 < k
    · go_wp2_with fail
      go_loopw [3, 6] (fun out i wr => ∃ (vo : Value) (lo : List Vt) (j : Nat), out = vo ∧ i = .int .i64 ((j : Int) + 1) ∧ j ≤ cc.length ∧ lo.length ≤ 64 * (3 - k) + 4 * j ∧ Low 16 lo ∧ VRow wr w.heap.size vo lo ∧ OwnL wr w.heap.size (.slice (some ⟨gc, 0, none⟩) cc.length capc) cc ∧ vo.ownBlock ≠ some gc ∧ Rd wr R (N + 700 - 200 * k + 4 * j) ∧ Ran R w wr) (fun _ i _ => cc.length + 1 - (intOf i).toNat)
      case atStart => exact ⟨_, lo, 0, rfl, rfl, Nat.zero_le _, by omega, unhide HLW, unhide HVO, unhide HVC, unhide HNE, hrd, hran⟩
      case round =>
        clear HLW HVO HVC HNE HIT hlo hrd hran
        obtain ⟨vo, lo, j, rfl, rfl, hj, hlo, hlw, hvo, hvc, hne, hrd, hran⟩ := hrel
        have HLW := hide hlw
        have HVO := hide hvo
        have HVC := hide hvc
        have HNE := hide hne
        clear hlw hvo hvc hne
        by_cases hjl : j < cc.length
        · have hjl' : (j : Int) + 1 ≤ (cc.length : Int) := by omega
          go_wp2_with fail
          go_loopw [3, 7] (fun out y wr => ∃ (vo : Value) (lo : List Vt) (q : Nat), out = vo ∧ y = .int .i64 ((q : Int) + 1) ∧ q ≤ 4 ∧ lo.length ≤ 64 * (3 - k) + 4 * j + q ∧ Low 16 lo ∧ VRow wr w.heap.size vo lo ∧ OwnL wr w.heap.size (.slice (some ⟨gc, 0, none⟩) cc.length capc) cc ∧ vo.ownBlock ≠ some gc ∧ Rd wr R (N + 700 - 200 * k + 4 * j + q) ∧ Ran R w wr) (fun _ y _ => 5 - (intOf y).toNat)
          case atStart => exact ⟨_, lo, 0, rfl, rfl, Nat.zero_le _, by omega, unhide HLW, unhide HVO, unhide HVC, unhide HNE, hrd, hran⟩
          case round =>
            clear HLW HVO HVC HNE hlo hrd hran
            obtain ⟨vo, lo, q, rfl, rfl, hq, hlo, hlw, hvo, hvc, hne, hrd, hran⟩ := hrel
            have HLW := hide hlw
            have HVO := hide hvo
            have HVC := hide hvc
            have HNE := hide hne
            clear hlw hvo hvc hne
            by_cases hq4 : q < 4
            · have hq4' : (q : Int) + 1 ≤ 4 := by omega
              go_wp2_with fail
              refine (pick_any R _ 9 _ hrd (by omega) (by omega)).mono ?_
              rintro r w3 ⟨z, rfl, z0, z1, z2, r3, g3⟩
              clear z1 z2
              have HVO := hide ((unhide HVO).ran g3 hlt)
              have HVC := hide ((unhide HVC).ran g3 hlt)
              have G3 := hran.trans g3
              clear g3 hrd hran
              by_cases hz : 0 < z
              · have hj1 : j + 1 ≤ capc := by omega
                obtain ⟨_, _, hveq, _, _, _, hits⟩ := (unhide HVC).shape
                simp only [Value.slice.injEq, Option.some.injEq, Addr.mk.injEq, and_true, true_and] at hveq
                obtain ⟨rfl, rfl⟩ := hveq
                have HI := hide hits
                have hbl := hide (unhide HVO).block
                clear hits
                go_wp2_with fail
                refine (l3Add_any w.heap.size _ lo ⟨(q : Int) + 1, cc.take (j + 1)⟩ _ _ (unhide HVO) ((unhide HLW).short (by omega)) (by omega) ⟨some ⟨gc, 0, none⟩, capc, by rw [List.length_take, Nat.min_eq_left (by omega)], (unhide HI).take (j + 1)⟩ (by rw [List.length_take]; omega)).mono ?_
                rintro r w4 ⟨v4, rfl, o4, g4, hat⟩
                have hgz : gc < w3.heap.size := ((unhide HVC).block gc rfl).2
                have O4 := hide o4
                have C4 := hide ((unhide HVC).grown g4 (fun i k hi hk => by cases hi; intro e; have e' : gc = k := e; exact unhide HNE (by rw [hk, e'])))
                have R4 := r3.grown g4 (fun k hk => by have := (unhide hbl k hk).1; omega)
                have G4 := G3.grown g4 (fun k hk => (unhide hbl k hk).1)
                have N4 : Hid (v4.ownBlock ≠ some gc) := fun e => by
                  rcases hat with h | ⟨k, h, hk⟩
                  · exact unhide HNE (h.symm.trans e)
                  · rw [h] at e; have := Option.some.inj e; omega
                have hal := addL_len lo ⟨(q : Int) + 1, cc.take (j + 1)⟩
                have LW4 := hide ((unhide HLW).add (x := ⟨(q : Int) + 1, cc.take (j + 1)⟩) (by rw [List.length_take]; omega))
                clear o4 g4 hat
                go_wp2
                go_roundw
                case rel => exact ⟨_, _, q + 1, rfl, by go_num, by omega, by omega, unhide LW4, unhide O4, unhide C4, unhide N4, R4.more (by omega), G4⟩
                case measure => simp [intOf]; omega
              · have hz' : decide (0 < z) = false := by simpa using hz
                go_wp2
                go_roundw
                case rel => exact ⟨_, lo, q + 1, rfl, by go_num, by omega, by omega, unhide HLW, unhide HVO, unhide HVC, unhide HNE, r3.more (by omega), G3⟩
                case measure => simp [intOf]; omega
            · have hq5 : q = 4 := by omega
              subst hq5
              go_wp2
              go_roundw
              case rel => exact ⟨_, lo, j + 1, rfl, by go_num, by omega, by omega, unhide HLW, unhide HVO, unhide HVC, unhide HNE, hrd.more (by omega), hran⟩
              case measure => simp [intOf]; omega
        · have hjl' : ¬ (j : Int) + 1 ≤ (cc.length : Int) := by omega
          have hj2 : j = cc.length := by omega
          have HLO := HLW
          go_wp2_with fail
          refine (l71Two_any R _ _ hrd (by omega)).mono ?_
          rintro r w3 ⟨va, la, vb, lb, rfl, _, OB0, _, hlb, r3, g3⟩
          have hbz := (unhide HVO).block
          have hbo : _ ≠ vb.ownBlock := fun e => by
            obtain ⟨gb, cb, rfl, _, h1, _, _⟩ := OB0.shape
            have := (hbz gb e).2
            omega
          have hz3 : w.heap.size ≤ wr.heap.size := hran.size
          have OB := OB0.low hz3
          have HO := hide ((unhide HVO).ran g3 hlt)
          have OC := hide ((unhide HVC).ran g3 hlt)
          have hoc := HNE
          have G3 := hran.trans g3
          have H3 := hide hbz
          clear HVO HVC HNE HLW g3 hrd hran OB0 hbz
          by_cases hc0 : 0 < cc.length
          · have hc0' : (0 : Int) < (cc.length : Int) := by omega
            go_wp2_with fail
            refine (pick_any R _ 2 _ r3 (by omega) (by omega)).mono ?_
            rintro r w4 ⟨z, rfl, z0, z1, z2, r4, g4⟩
            have z3 := z1 (by omega)
            clear z1 z2
            have OB := OB.ran g4 hlt
            have HO := hide ((unhide HO).ran g4 hlt)
            have OC := hide ((unhide OC).ran g4 hlt)
            have RB := r4
            have GB := G3.trans g4
            clear g4 r3 G3 r4
            by_cases hz : z = 0
            · subst hz
              clear OB hbo hlb
              obtain ⟨⟨ee, c0⟩, _⟩ := (unhide OC).cells (j := (cc.length - 1) * 4) (by omega)
              have C0 := hide c0
              have hgR : gc ≠ R := by omega
              have hcz := hide ((unhide OC).block gc rfl)
              have hvz := hide (unhide HO).block
              have hgz : gc < w4.heap.size := (unhide hcz).2
              have hRz : R < w4.heap.size := RB.lt
              have RBD := hide (RB.grew (Grew.refl _).drew)
              clear RB
              have i1 : IntKind.i64.wrap ((cc.length : Int) - 1) = (cc.length : Int) - 1 := by rw [IntKind.wrap_i64]; omega
              have i2 : ¬ (cc.length : Int) - 1 < 0 := by omega
              have i3 : (0 : Int) ≤ (cc.length : Int) - 1 := by omega
              have i4 : (cc.length : Int) - 1 < (cc.length : Int) := by omega
              have i5 : ((cc.length : Int) - 1).toNat = cc.length - 1 := by omega
              have i6 : (1 : Int) ≤ (cc.length : Int) := by omega
              go_wp2_with fail
              go_region_held_law (fun w' => w'.cell? ⟨gc, (cc.length - 1) * 4, none⟩ = some (.int .i64 ee))
                (first | exact unhide C0 | exact g5.cell (p := ⟨gc, _, none⟩) hgR (unhide C0) | exact g6.keep (g5.cell (p := ⟨gc, _, none⟩) hgR (unhide C0)) | exact g7.cell (p := ⟨gc, _, none⟩) hgR (g6.keep (g5.cell (p := ⟨gc, _, none⟩) hgR (unhide C0))) | exact ((Grew.refl _).alloc _).keep (g7.cell (p := ⟨gc, _, none⟩) hgR (g6.keep (g5.cell (p := ⟨gc, _, none⟩) hgR (unhide C0)))) | exact g8.cell (((Grew.refl _).alloc _).keep (g7.cell (p := ⟨gc, _, none⟩) hgR (g6.keep (g5.cell (p := ⟨gc, _, none⟩) hgR (unhide C0))))) hn8)
                (first
                  | (go_at_call 96; refine (pick_any R _ cc.length _ (unhide RBD) (by omega) (by omega)).mono ?_; rintro r w5 ⟨y, rfl, y0, y1, y2, r5, g5⟩; have y3 := y1 (by omega); obtain ⟨kk, rfl⟩ := Int.eq_ofNat_of_zero_le y0; have hkc : kk ≤ capc := (by omega); have hz5 : w4.heap.size ≤ w5.heap.size := g5.size)
                  | (go_at_call 70; refine (l1Copy_own (some ⟨gc, 0, none⟩) capc (cc.take kk) kk (by rw [List.length_take]; omega) _ ((((unhide OC).grew (Grew.refl _).drew).ran g5 hlt).its.take kk) (by omega)).mono ?_; rintro r w6 ⟨v6, rfl, o6, g6⟩)
                  | (go_at_call 137; refine (l71Pay_any R _ _ (r5.grew g6) (by omega)).mono ?_; rintro r w7 ⟨f, t, s, rfl, r7, g7⟩; have hz7 := g7.size; have hz6 := g6.size; have o7 := o6.ran g7 (by omega); have hb6 := o7.block)
                  | (with_reducible refine at_ite ?_; refine step_items rfl _ _ rfl w5.heap.size v6 (cc.take kk) rfl (o7.grew ((Grew.refl _).alloc _)) ⟨w7.heap.size, 0, none⟩ 1 [⟨IntKind.i64.wrap (ee + 1), f, t, s⟩] 1 rfl rfl (its_one _ _ _) (by simp) (by simp; omega) (by simp; omega) ?_; intro v8 w8 o8 g8; have hn8 : some gc ≠ v6.ownBlock := (fun e => by have := (hb6 gc e.symm).1; omega)))
              simp only [List.getElem_toArray, List.getElem_cons_succ, List.getElem_cons_zero, List.setIfInBounds_toArray, List.set_cons_succ, List.set_cons_zero]
              have RR := ((((Ran.refl R w4).grew (Grew.refl _).drew).trans g5).grew g6 |>.trans g7).grew ((Grew.refl _).alloc (.cells #[.int .i64 (IntKind.i64.wrap (ee + 1)), .int .i64 f, .int .i64 t, .int .i64 s] 33)) |>.grown g8 (fun k hk => by have := (hb6 k hk).1; omega)
              have RB := (r7.grew ((Grew.refl _).alloc _)).grown g8 (fun k hk => by have := (hb6 k hk).1; omega)
              have HO := hide ((unhide HO).ran RR hlt)
              have OC := hide ((unhide OC).ran RR hlt)
              have GB := GB.trans RR
              have hbo : _ ≠ v8.ownBlock := fun e => by
                obtain ⟨gb, cb, rfl, _, h1, _, _⟩ := o8.shape
                have := (unhide hvz gb e).2
                omega
              have hlb : (cc.take kk ++ [(⟨IntKind.i64.wrap (ee + 1), f, t, s⟩ : It)]).length ≤ 16 := by rw [List.length_append, List.length_take, List.length_singleton]; omega
              have hz4 := GB.size
              have OB := o8.low (base' := w.heap.size) (by omega)
              obtain ⟨lb, hlbe⟩ : ∃ lb : List It, cc.take kk ++ [⟨IntKind.i64.wrap (ee + 1), f, t, s⟩] = lb := ⟨_, rfl⟩
              rw [hlbe] at OB hlb
              clear o6 o7 o8 g5 g6 g7 g8 hb6 hn8 RR hlbe r5 r7 i1 i2 i3 i4 i5 i6

              obtain ⟨gB, cB, rfl, _, _, _, itB⟩ := OB.shape
              go_wp2_with fail
              refine (specChainOk _ _ lb _ itB (by omega)).mono ?_
              rintro r wz ⟨rfl, gz⟩
              have OB := hide (OB.grew gz)
              have HO := hide ((unhide HO).grew gz)
              have OC := hide ((unhide OC).grew gz)
              have RB := RB.grew gz
              have GB := GB.grew gz
              clear gz itB
              cases hok : okB lb with
              | true =>
                go_wp2
                go_roundw
                case rel => exact ⟨_, lo, _, lb, k - 1, rfl, rfl, by go_num, by omega, by omega, unhide HLO, unhide HO, unhide OB, hlb, hbo, RB.more (by omega), GB⟩
                case measure => simp [intOf]; omega
              | false =>
                go_wp2
                go_roundw
                case rel => exact ⟨_, lo, _, cc, k - 1, rfl, rfl, by go_num, by omega, by omega, unhide HLO, unhide HO, unhide OC, hcc, unhide hoc, RB.more (by omega), GB⟩
                case measure => simp [intOf]; omega
            · have hz' : (z == 0) = false := by simpa using hz

              obtain ⟨gB, cB, rfl, _, _, _, itB⟩ := OB.shape
              go_wp2_with fail
              refine (specChainOk _ _ lb _ itB (by omega)).mono ?_
              rintro r wz ⟨rfl, gz⟩
              have OB := hide (OB.grew gz)
              have HO := hide ((unhide HO).grew gz)
              have OC := hide ((unhide OC).grew gz)
              have RB := RB.grew gz
              have GB := GB.grew gz
              clear gz itB
              cases hok : okB lb with
              | true =>
                go_wp2
                go_roundw
                case rel => exact ⟨_, lo, _, lb, k - 1, rfl, rfl, by go_num, by omega, by omega, unhide HLO, unhide HO, unhide OB, hlb, hbo, RB.more (by omega), GB⟩
                case measure => simp [intOf]; omega
              | false =>
                go_wp2
                go_roundw
                case rel => exact ⟨_, lo, _, cc, k - 1, rfl, rfl, by go_num, by omega, by omega, unhide HLO, unhide HO, unhide OC, hcc, unhide hoc, RB.more (by omega), GB⟩
                case measure => simp [intOf]; omega
          · have hc0' : decide (0 < cc.length) = false := by simpa using hc0
            have RB := r3
            have GB := G3
            clear r3 G3

            obtain ⟨gB, cB, rfl, _, _, _, itB⟩ := OB.shape
            go_wp2_with fail
            refine (specChainOk _ _ lb _ itB (by omega)).mono ?_
            rintro r wz ⟨rfl, gz⟩
            have OB := hide (OB.grew gz)
            have HO := hide ((unhide HO).grew gz)
            have OC := hide ((unhide OC).grew gz)
            have RB := RB.grew gz
            have GB := GB.grew gz
            clear gz itB
            cases hok : okB lb with
            | true =>
              go_wp2
              go_roundw
              case rel => exact ⟨_, lo, _, lb, k - 1, rfl, rfl, by go_num, by omega, by omega, unhide HLO, unhide HO, unhide OB, hlb, hbo, RB.more (by omega), GB⟩
              case measure => simp [intOf]; omega
            | false =>
              go_wp2
              go_roundw
              case rel => exact ⟨_, lo, _, cc, k - 1, rfl, rfl, by go_num, by omega, by omega, unhide HLO, unhide HO, unhide OC, hcc, unhide hoc, RB.more (by omega), GB⟩
              case measure => simp [intOf]; omega
    · have hk1 : k = 0 := by omega
      subst hk1
      go_wp2
      go_ret
      exact ⟨_, lo, rfl, unhide HVO, by omega, unhide HLW, hrd.more (by omega), hran⟩

set_option linter.unusedVariables false
open Go.RowKit
attribute [local simp] far_const

/-- A vote of a row: its cells, and where its chain lies. -/
theorem VRow.get {w : World} {base g cap : Nat} {l : List Vt} (h : VRow w base (.slice (some ⟨g, 0, none⟩) l.length cap) l) {i : Nat} (hi : i < l.length) :
    ∃ a c, w.cell? ⟨g, i * 2, none⟩ = some (.int .i64 l[i].n) ∧ w.cell? ⟨g, i * 2 + 1, none⟩ = some (.slice a l[i].c.length c) ∧ Its w a l[i].c ∧ ∀ x, a = some x → x.off = 0 ∧ x.spot = none ∧ base ≤ x.block ∧ x.block < w.heap.size ∧ x.block ≠ g := by
  obtain ⟨nz, cs, row, hc⟩ := h
  obtain ⟨a, c, h1, h2, h3, h4, _⟩ := hc i hi
  exact ⟨a, c, by rw [row.cellAt (i * 2) (by omega)]; exact h1, by rw [row.cellAt (i * 2 + 1) (by omega)]; exact h2, h3, fun x hx => ⟨(h4 x hx).1, (h4 x hx).2.1, (h4 x hx).2.2.1, (h4 x hx).2.2.2.1, fun e => (h4 x hx).2.2.2.2 (by rw [e]; rfl)⟩⟩

set_option maxHeartbeats 4000000 in
theorem l71Spoilt_any (R N : Nat) (w : World) (hr : Rd w R N) (hN : N + 800 ≤ 1048576) :
    Calls Try.prog 104 #[.pointer (some ⟨R, 0, none⟩)] w fun r w' => ∃ v l, r = .returned v ∧ VRow w' w.heap.size v l ∧ l.length ≤ 193 ∧ Low 16 l ∧ Rd w' R (N + 800) ∧ Ran R w w' := by
  have hlt := hr.lt
  go_enter Try.func104, Try.ntmps104
  go_wp2_with fail
  refine (l71Votes_any R N _ hr (by omega)).mono ?_
  rintro r w1 ⟨v, l, rfl, o1, hl, hlw, r1, g1⟩
  go_wp2_with fail
  refine (pick_any R _ 20 _ r1 (by omega) (by omega)).mono ?_
  rintro r w2 ⟨x, rfl, x0, x1, x2, r2, g2⟩
  clear x1 x2
  have o2 := o1.ran g2 hlt
  have G2 := g1.trans g2
  have HLW := hide hlw
  obtain ⟨g, cap, rfl, hcap, hg1, hg2, _⟩ := o2.shape
  have O2 := hide o2
  clear o1 g1 g2 r1 o2 hlw
  rcases (show x = 0 ∨ x = 1 ∨ 2 ≤ x by omega) with rfl | rfl | hx
  · go_wp2_with fail
    refine (l71Vote_any R _ _ r2 (by omega)).mono ?_
    rintro r w3 ⟨y, ay, cy, rfl, iy, hy7, fy, r3, g3⟩
    have O3 := hide ((unhide O2).ran g3 hlt)
    have G3 := G2.trans g3
    have hz3 := g3.size
    have hz2 := G2.size
    have FY := hide fy
    clear g3 G2 r2 fy
    go_wp2_with (first | (at_builtin; refine wpList_vrow rfl _ _ rfl w.heap.size _ l rfl ((unhide O3).grew ((Grew.refl _).alloc _)) ⟨w3.heap.size, 0, none⟩ 1 rfl y ay cy (cells_two _ _ _ _ _ _) (iy.grew ((Grew.refl _).alloc _)) (fun z hz => by have := unhide FY z hz; exact ⟨this.1, this.2.1, by omega, by simp; omega, fun e => by have e' : g = z.block := Option.some.inj e; omega⟩) (by omega) (by omega) (by simp; omega) ?_))
    intro v4 w4 o4 g4 _
    have O4 := hide o4
    have R4 := (r3.grew ((Grew.refl _).alloc _)).grown g4 (fun k hk => by cases hk; show R < g; omega)
    have G4 := (G3.grew ((Grew.refl _).alloc _)).grown g4 (fun k hk => by cases hk; exact hg1)
    have LW := hide ((unhide HLW).snoc (x := y) (by omega))
    clear o4 g4
    go_wp2
    go_ret
    exact ⟨v4, _, rfl, unhide O4, by simp; omega, unhide LW, R4.more (by omega), G4⟩
  · by_cases hl0 : 0 < l.length
    · go_wp2_with fail
      refine (pick_any R _ l.length _ r2 (by omega) (by omega)).mono ?_
      rintro r w3 ⟨y, rfl, y0, y1, y2, r3, g3⟩
      have y3 := y1 (by omega)
      clear y1 y2
      obtain ⟨k, rfl⟩ := Int.eq_ofNat_of_zero_le y0
      have hkl : k < l.length := by omega
      have O3 := hide ((unhide O2).ran g3 hlt)
      obtain ⟨ay, cy, c0, c1, iy, fy⟩ := (unhide O3).get hkl
      have hcp : l[k].c.length ≤ cy := (unhide O3).room g 0 rfl k hkl _ _ _ (by rw [Nat.zero_add]; exact c1)
      have FY := hide fy
      have IY := hide iy
      have G3 := G2.trans g3
      have hz3 := g3.size
      have hz2 := G2.size
      clear g3 G2 r2 fy iy
      go_wp2_with (first | (at_builtin; refine wpList_vrow rfl _ _ rfl w.heap.size _ l rfl ((unhide O3).grew ((Grew.refl _).alloc _)) ⟨w3.heap.size, 0, none⟩ 1 rfl l[k] ay cy (cells_two _ _ _ _ _ _) ((unhide IY).grew ((Grew.refl _).alloc _)) (fun z hz => by have := unhide FY z hz; exact ⟨this.1, this.2.1, this.2.2.1, by simp; omega, fun e => by have e' : g = z.block := Option.some.inj e; omega⟩) (by omega) (by omega) (by simp; omega) ?_))
      intro v4 w4 o4 g4 _
      have O4 := hide o4
      have R4 := (r3.grew ((Grew.refl _).alloc _)).grown g4 (fun k hk => by cases hk; show R < g; omega)
      have G4 := (G3.grew ((Grew.refl _).alloc _)).grown g4 (fun k hk => by cases hk; exact hg1)
      have LW := hide ((unhide HLW).snoc (x := l[k]) ((unhide HLW).at hkl))
      clear o4 g4
      go_wp2
      go_ret
      exact ⟨v4, l ++ [l[k]], rfl, unhide O4, by simp; omega, unhide LW, R4.more (by omega), G4⟩
    · have h0 : decide (0 < l.length) = false := decide_eq_false hl0
      go_wp2
      go_ret
      exact ⟨_, l, rfl, unhide O2, by omega, unhide HLW, r2.more (by omega), G2⟩
  · have hx0 : (x == 0) = false := by simp; omega
    have hx1 : (x == 1) = false := by simp; omega
    go_wp2
    go_ret
    exact ⟨_, l, rfl, unhide O2, by omega, unhide HLW, r2.more (by omega), G2⟩

set_option linter.unusedVariables false
open Go.RowKit
attribute [local simp] far_const

theorem Byt.alloc {w : World} {a : Option Addr} {n : Nat} (hb : Byt w a w.heap.size n) (o : Obj) : Byt (w.alloc o) a (w.alloc o).heap.size n := by
  rcases hb with h | ⟨b, off, ha, hb, h⟩
  · exact .inl h
  · exact .inr ⟨b, off, ha, by simp; omega, fun i hi => by obtain ⟨z, h1, h2, h3⟩ := h i hi; exact ⟨z, h1, h2, ((Grew.refl w).alloc _).keep h3⟩⟩

end Go.Proofs.Ytjbnohepbmejkaa
