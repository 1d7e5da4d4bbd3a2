/-
  A vote that is drawn: of whatever content, its chain in a row of its own.
-/
import Derived.Test.YteemihgakcmamaaVForms
import Derived.Test.YteemihgakcmamaaBytes
namespace Go.Proofs.Yteemihgakcmamaa
set_option linter.unusedVariables false
open Go.RowKit
attribute [local simp] far_const

/-- Where the chain of a drawn vote lies. -/
def Fresh (base : Nat) (w : World) (a : Option Addr) : Prop := ∀ z, a = some z → z.off = 0 ∧ z.spot = none ∧ base ≤ z.block ∧ z.block < w.heap.size
theorem Fresh.ran {base R : Nat} {w w' : World} {a : Option Addr} (h : Fresh base w a) (g : Ran R w w') : Fresh base w' a := fun z hz => ⟨(h z hz).1, (h z hz).2.1, (h z hz).2.2.1, Nat.lt_of_lt_of_le (h z hz).2.2.2 g.size⟩
theorem Ran.its' {R base : Nat} {w w' : World} {a : Option Addr} {l : List It} (h : Its w a l) (f : Fresh base w a) (g : Ran R w w') (hR : R < base) : Its w' a l :=
  Ran.its h g (fun x hx => by have := (f x hx).2.2.1; omega)
/-- Two cells of a block of the call's own. -/
structure Two (w : World) (b : Nat) (u v : Value) : Prop where
  c0 : w.cell? ⟨b, 0, none⟩ = some u
  c1 : w.cell? ⟨b, 1, none⟩ = some v
  z0 : w.frozen? ⟨b, 0, none⟩ = false
  z1 : w.frozen? ⟨b, 1, none⟩ = false
theorem Two.lt {w : World} {b : Nat} {u v : Value} (h : Two w b u v) : b < w.heap.size := World.block_lt_of_cell? _ _ h.c0
theorem Two.made (w : World) (u v : Value) (t : TypeId) (hu : u.oneCell' = true) (hv : v.oneCell' = true) : Two (w.alloc (.cells #[u, v] t)) w.heap.size u v := by
  refine ⟨?_, ?_, ?_, ?_⟩ <;> simp [go_sem]
theorem Two.block {w w' : World} {b : Nat} {u v : Value} (h : Two w b u v) (e : w'.heap[b]? = w.heap[b]?) : Two w' b u v :=
  ⟨by rw [World.cell?_of_block (w := w) e]; exact h.c0, by rw [World.cell?_of_block (w := w) e]; exact h.c1, by rw [World.frozen?_of_block (w := w) e]; exact h.z0, by rw [World.frozen?_of_block (w := w) e]; exact h.z1⟩
theorem Two.ran {R : Nat} {w w' : World} {b : Nat} {u v : Value} (h : Two w b u v) (g : Ran R w w') (hb : b ≠ R) : Two w' b u v := h.block (g.keep b h.lt hb)
theorem Two.grew {w w' : World} {b : Nat} {u v : Value} (h : Two w b u v) (g : Grew w w') : Two w' b u v := h.block (g.below.block b h.lt)
theorem Two.set0 {w : World} {b : Nat} {u v : Value} (h : Two w b u v) (x : Value) : Two (w.setCell ⟨b, 0, none⟩ x) b x v :=
  ⟨World.cell?_setCell_same w _ x h.c0, by rw [World.cell?_setCell_other _ _ _ _ (by intro c; injection c with _ c _; cases c)]; exact h.c1, by rw [World.frozen?_setCell]; exact h.z0, by rw [World.frozen?_setCell]; exact h.z1⟩
theorem Two.set1 {w : World} {b : Nat} {u v : Value} (h : Two w b u v) (x : Value) : Two (w.setCell ⟨b, 1, none⟩ x) b u x :=
  ⟨by rw [World.cell?_setCell_other _ _ _ _ (by intro c; injection c with _ c _; cases c)]; exact h.c0, World.cell?_setCell_same w _ x h.c1, by rw [World.frozen?_setCell]; exact h.z0, by rw [World.frozen?_setCell]; exact h.z1⟩

set_option maxHeartbeats 8000000 in
theorem l71Vote_any (R N : Nat) (w : World) (hr : Rd w R N) (hN : N + 60 ≤ 1048576) :
    Calls Try.prog 144 #[.pointer (some ⟨R, 0, none⟩)] w fun r w' => ∃ (x : Vt) (a : Option Addr) (cap : Nat), r = .returned (.agg #[.int .i64 x.n, .slice a x.c.length cap]) ∧ Its w' a x.c ∧ (x.c.length ≤ 7 ∧ x.c.length ≤ cap) ∧ Fresh w.heap.size w' a ∧ Rd w' R (N + 60) ∧ Ran R w w' := by
  have hlt := hr.lt
  have hAR : w.heap.size ≠ R := by omega
  have hAlt : R < w.heap.size := hlt
  go_enter Try.func144, Try.ntmps144
  have A := Two.made w (.int .i64 0) (.slice none 0 0) 60 rfl rfl
  have HA := hide A
  clear A
  go_wp2_with fail
  refine (pick_any R N 4 _ (hr.grew ((Grew.refl _).alloc _)) (by omega) (by omega)).mono ?_
  rintro r w1 ⟨x, rfl, x0, x1, x2, r1, g1⟩
  have x3 := x1 (by omega)
  clear x1 x2
  have HA := hide ((unhide HA).ran g1 hAR)
  have G1 := ((Ran.refl R w).grew ((Grew.refl _).alloc _)).trans g1
  have hz1 : w.heap.size + 1 ≤ w1.heap.size := (unhide HA).lt
  clear g1
  go_wp2_with fail
  refine (l71Off_any R _ _ r1 (by omega)).mono ?_
  rintro r w2 ⟨v, l, rfl, o2, hl2, r2, g2⟩
  have HA := hide ((unhide HA).ran g2 hAR)
  have G2 := G1.trans g2
  obtain ⟨gb, cb, rfl, hcb, hb1, hb2, hit⟩ := o2.shape
  clear g2 G1 r1 o2
  have RD := r2.grew ((Grew.refl _).alloc (.cells #[.int .i64 (1 + x), .slice (some ⟨gb, 0, none⟩) l.length cb] 60))
  have T := Two.made w2 (.int .i64 (1 + x)) (.slice (some ⟨gb, 0, none⟩) l.length cb) 60 rfl rfl
  have A := (unhide HA).grew ((Grew.refl _).alloc (.cells #[.int .i64 (1 + x), .slice (some ⟨gb, 0, none⟩) l.length cb] 60))
  have RAN := G2.grew ((Grew.refl _).alloc (.cells #[.int .i64 (1 + x), .slice (some ⟨gb, 0, none⟩) l.length cb] 60))
  have IK := hit.grew ((Grew.refl _).alloc (.cells #[.int .i64 (1 + x), .slice (some ⟨gb, 0, none⟩) l.length cb] 60))
  have FK : Fresh w.heap.size (w2.alloc (.cells #[.int .i64 (1 + x), .slice (some ⟨gb, 0, none⟩) l.length cb] 60)) (some ⟨gb, 0, none⟩) := fun z hz => by cases hz; exact ⟨rfl, rfl, by show _ ≤ gb; omega, by show gb < _; simp; omega⟩
  have hBR : w2.heap.size ≠ R := by omega
  have hBlt : R < w2.heap.size := by omega
  have hBle : w.heap.size ≤ w2.heap.size := by omega
  clear HA G2 r2 hit
  by_cases h0 : l.length = 0
  · have h0' : ((l.length : Int) == 0) = true := by simp [h0]
    have hneA : ∀ x, (some ⟨gb, 0, none⟩ : Option Addr) = some x → x.block ≠ w.heap.size := fun x hx => by cases hx; show gb ≠ _; omega
    have hneB : ∀ x, (some ⟨gb, 0, none⟩ : Option Addr) = some x → x.block ≠ w2.heap.size := fun x hx => by cases hx; show gb ≠ _; omega
    have hLL : l.length ≤ 7 := hl2
    have t1 := T.c1
    clear h0
    go_wp2_with fail
    refine (pick_any R _ 4 _ RD (by omega) (by omega)).mono ?_
    rintro r w3 ⟨z, rfl, z0, z1, z2, r3, g3⟩
    clear z1 z2 t1
    have T := T.ran g3 hBR
    have A := A.ran g3 hAR
    have IK := Ran.its' IK FK g3 hlt
    have FK := FK.ran g3
    have RAN := RAN.trans g3
    have RD := r3
    clear g3 r3
    by_cases hz : 0 < z
    · go_wp2_with fail
      refine (pick_any R _ 3 _ RD (by omega) (by omega)).mono ?_
      rintro r w4 ⟨u, rfl, u0, u1, u2, r4, g4⟩
      have u3 := u1 (by omega)
      clear u1 u2
      go_wp2_with fail
      refine (l71Pay_any R _ _ r4 (by omega)).mono ?_
      rintro r w5 ⟨f, t, s, rfl, r5, g5⟩
      have g45 := g4.trans g5
      have hz5 := RAN.size
      have hz6 := g45.size
      have T := T.ran g45 hBR
      have A := A.ran g45 hAR
      have hT := T.lt
      have hsz : (w5.setCell ⟨w2.heap.size, 1, none⟩ (.slice (some ⟨w5.heap.size, 0, none⟩) 1 1)).heap.size = w5.heap.size := by simp [World.setCell]
      have tt1 := T.c1
      have yy1 := T.z1
      have RAN := ((RAN.trans g45).setCell (p := ⟨w2.heap.size, 1, none⟩) (.inr hBle) (.slice (some ⟨w5.heap.size, 0, none⟩) 1 1)).grew ((Grew.refl _).alloc (.cells #[.int .i64 (1 + u), .int .i64 f, .int .i64 t, .int .i64 s] 51))
      have RD := (r5.setCell (p := ⟨w2.heap.size, 1, none⟩) hBlt (.slice (some ⟨w5.heap.size, 0, none⟩) 1 1)).grew ((Grew.refl _).alloc (.cells #[.int .i64 (1 + u), .int .i64 f, .int .i64 t, .int .i64 s] 51))
      have A := (A.block (w' := (w5.setCell ⟨w2.heap.size, 1, none⟩ (.slice (some ⟨w5.heap.size, 0, none⟩) 1 1))) (Below.heap_setCell _ _ _ _ (by show w.heap.size ≠ w2.heap.size; omega))).grew ((Grew.refl _).alloc (.cells #[.int .i64 (1 + u), .int .i64 f, .int .i64 t, .int .i64 s] 51))
      have IK := its_one (w5.setCell ⟨w2.heap.size, 1, none⟩ (.slice (some ⟨w5.heap.size, 0, none⟩) 1 1)) ⟨1 + u, f, t, s⟩ 51
      rw [hsz] at IK
      have FK : Fresh w.heap.size ((w5.setCell ⟨w2.heap.size, 1, none⟩ (.slice (some ⟨w5.heap.size, 0, none⟩) 1 1)).alloc (.cells #[.int .i64 (1 + u), .int .i64 f, .int .i64 t, .int .i64 s] 51)) (some ⟨w5.heap.size, 0, none⟩) := fun z hz => by cases hz; exact ⟨rfl, rfl, by show _ ≤ w5.heap.size; omega, by show w5.heap.size < _; rw [World.size_alloc, hsz]; omega⟩
      have T := (T.set1 (.slice (some ⟨w5.heap.size, 0, none⟩) 1 1)).grew ((Grew.refl _).alloc (.cells #[.int .i64 (1 + u), .int .i64 f, .int .i64 t, .int .i64 s] 51))
      clear hsz
      have hneA : ∀ x, (some ⟨w5.heap.size, 0, none⟩ : Option Addr) = some x → x.block ≠ w.heap.size := fun x hx => by cases hx; show w5.heap.size ≠ _; omega
      have hneB : ∀ x, (some ⟨w5.heap.size, 0, none⟩ : Option Addr) = some x → x.block ≠ w2.heap.size := fun x hx => by cases hx; show w5.heap.size ≠ _; omega
      have hLL : ([⟨1 + u, f, t, s⟩] : List It).length ≤ 7 := by simp
      clear g4 g5 g45 r4 r5

      go_wp2_with fail
      refine (pick_any R _ 16 _ RD (by omega) (by omega)).mono ?_
      rintro r wp ⟨ss, rfl, s0, s1, s2, rp, gp⟩
      clear s1 s2
      have T := T.ran gp hBR
      have A := A.ran gp hAR
      have IK := Ran.its' IK FK gp hlt
      have FK := FK.ran gp
      have RAN := RAN.trans gp
      clear gp RD
      by_cases hs : ss = 0
      · subst hs
        go_wp2_with fail
        refine (pick_any R _ 2 _ (rp.grew ((Grew.refl _).alloc _)) (by omega) (by omega)).mono ?_
        rintro r wq ⟨uu, rfl, u0, u1, u2, rq, gq⟩
        have u3 := u1 (by omega)
        clear u1 u2
        have hnp : wp.heap.size ≠ R := by have := rp.lt; omega
        have e0 := gq.cell (p := ⟨wp.heap.size, 0, none⟩) (v := .int .i64 0) hnp (by simp [go_sem])
        have e1 := gq.cell (p := ⟨wp.heap.size, 1, none⟩) (v := .int .i64 5) hnp (by simp [go_sem])
        have T := (T.grew ((Grew.refl _).alloc _)).ran gq hBR
        have A := (A.grew ((Grew.refl _).alloc _)).ran gq hAR
        have FA : Fresh w.heap.size (wp.alloc (.cells #[.int .i64 0, .int .i64 5] 3)) (some ⟨w5.heap.size, 0, none⟩) := fun z hz => ⟨(FK z hz).1, (FK z hz).2.1, (FK z hz).2.2.1, Nat.lt_of_lt_of_le (FK z hz).2.2.2 (by simp)⟩
        have IK := Ran.its' (IK.grew ((Grew.refl _).alloc _)) FA gq hlt
        have FK := FA.ran gq
        have RAN := (RAN.grew ((Grew.refl _).alloc _)).trans gq
        clear gq rp FA
        have HIK := hide (And.intro IK FK)
        have HR := hide (And.intro rq RAN)
        obtain ⟨t0, t1, y0, y1⟩ := T
        obtain ⟨a0, a1, za0, za1⟩ := A
        clear IK FK
        rcases (show uu = 0 ∨ uu = 1 by omega) with rfl | rfl
        all_goals
          go_wp2
          refine bodyPost_ret (by simp [results, Try.results144, go_sem, a0, a1]; try rfl) rfl ?_
          refine ⟨⟨_, [⟨1 + u, f, t, s⟩]⟩, (some ⟨w5.heap.size, 0, none⟩), 1, rfl, ?_, ⟨hLL, by first | exact hcb | exact Nat.le_refl _⟩, ?_, ?_, ?_⟩
          · exact (unhide HIK).1.block' (fun x hx => by have := (unhide HIK).2 x hx; rw [Below.heap_setCell _ _ _ _ (hneA x hx), Below.heap_setCell _ _ _ _ (hneA x hx), Below.heap_setCell _ _ _ _ (hneB x hx)])
          · intro z hz; have := (unhide HIK).2 z hz; exact ⟨this.1, this.2.1, this.2.2.1, by simpa [World.setCell] using this.2.2.2⟩
          · exact ((((unhide HR).1.setCell (p := ⟨_, 0, none⟩) hBlt _).setCell (p := ⟨_, 0, none⟩) hAlt _).setCell (p := ⟨_, 1, none⟩) hAlt _).more (by omega)
          · exact (((unhide HR).2.setCell (p := ⟨_, 0, none⟩) (.inr hBle) _).setCell (p := ⟨_, 0, none⟩) (.inr (Nat.le_refl _)) _).setCell (p := ⟨_, 1, none⟩) (.inr (Nat.le_refl _)) _
      · have hs' : (ss == 0) = false := by simpa using hs
        have HIK := hide (And.intro IK FK)
        have HR := hide (And.intro rp RAN)
        obtain ⟨t0, t1, y0, y1⟩ := T
        obtain ⟨a0, a1, za0, za1⟩ := A
        clear IK FK
        go_wp2
        refine bodyPost_ret (by simp [results, Try.results144, go_sem, a0, a1]; try rfl) rfl ?_
        refine ⟨⟨_, [⟨1 + u, f, t, s⟩]⟩, (some ⟨w5.heap.size, 0, none⟩), 1, rfl, ?_, ⟨hLL, by first | exact hcb | exact Nat.le_refl _⟩, ?_, ?_, ?_⟩
        · exact (unhide HIK).1.block' (fun x hx => by rw [Below.heap_setCell _ _ _ _ (hneA x hx), Below.heap_setCell _ _ _ _ (hneA x hx)])
        · intro z hz; have := (unhide HIK).2 z hz; exact ⟨this.1, this.2.1, this.2.2.1, by simpa [World.setCell] using this.2.2.2⟩
        · exact (((unhide HR).1.setCell (p := ⟨_, 0, none⟩) hAlt _).setCell (p := ⟨_, 1, none⟩) hAlt _).more (by omega)
        · exact ((unhide HR).2.setCell (p := ⟨_, 0, none⟩) (.inr (Nat.le_refl _)) _).setCell (p := ⟨_, 1, none⟩) (.inr (Nat.le_refl _)) _
    · have hz' : decide (0 < z) = false := by simpa using hz

      go_wp2_with fail
      refine (pick_any R _ 16 _ RD (by omega) (by omega)).mono ?_
      rintro r wp ⟨s, rfl, s0, s1, s2, rp, gp⟩
      clear s1 s2
      have T := T.ran gp hBR
      have A := A.ran gp hAR
      have IK := Ran.its' IK FK gp hlt
      have FK := FK.ran gp
      have RAN := RAN.trans gp
      clear gp RD
      by_cases hs : s = 0
      · subst hs
        go_wp2_with fail
        refine (pick_any R _ 2 _ (rp.grew ((Grew.refl _).alloc _)) (by omega) (by omega)).mono ?_
        rintro r wq ⟨u, rfl, u0, u1, u2, rq, gq⟩
        have u3 := u1 (by omega)
        clear u1 u2
        have hnp : wp.heap.size ≠ R := by have := rp.lt; omega
        have e0 := gq.cell (p := ⟨wp.heap.size, 0, none⟩) (v := .int .i64 0) hnp (by simp [go_sem])
        have e1 := gq.cell (p := ⟨wp.heap.size, 1, none⟩) (v := .int .i64 5) hnp (by simp [go_sem])
        have T := (T.grew ((Grew.refl _).alloc _)).ran gq hBR
        have A := (A.grew ((Grew.refl _).alloc _)).ran gq hAR
        have FA : Fresh w.heap.size (wp.alloc (.cells #[.int .i64 0, .int .i64 5] 3)) (some ⟨gb, 0, none⟩) := fun z hz => ⟨(FK z hz).1, (FK z hz).2.1, (FK z hz).2.2.1, Nat.lt_of_lt_of_le (FK z hz).2.2.2 (by simp)⟩
        have IK := Ran.its' (IK.grew ((Grew.refl _).alloc _)) FA gq hlt
        have FK := FA.ran gq
        have RAN := (RAN.grew ((Grew.refl _).alloc _)).trans gq
        clear gq rp FA
        have HIK := hide (And.intro IK FK)
        have HR := hide (And.intro rq RAN)
        obtain ⟨t0, t1, y0, y1⟩ := T
        obtain ⟨a0, a1, za0, za1⟩ := A
        clear IK FK
        rcases (show u = 0 ∨ u = 1 by omega) with rfl | rfl
        all_goals
          go_wp2
          refine bodyPost_ret (by simp [results, Try.results144, go_sem, a0, a1]; try rfl) rfl ?_
          refine ⟨⟨_, l⟩, (some ⟨gb, 0, none⟩), cb, rfl, ?_, ⟨hLL, by first | exact hcb | exact Nat.le_refl _⟩, ?_, ?_, ?_⟩
          · exact (unhide HIK).1.block' (fun x hx => by have := (unhide HIK).2 x hx; rw [Below.heap_setCell _ _ _ _ (hneA x hx), Below.heap_setCell _ _ _ _ (hneA x hx), Below.heap_setCell _ _ _ _ (hneB x hx)])
          · intro z hz; have := (unhide HIK).2 z hz; exact ⟨this.1, this.2.1, this.2.2.1, by simpa [World.setCell] using this.2.2.2⟩
          · exact ((((unhide HR).1.setCell (p := ⟨_, 0, none⟩) hBlt _).setCell (p := ⟨_, 0, none⟩) hAlt _).setCell (p := ⟨_, 1, none⟩) hAlt _).more (by omega)
          · exact (((unhide HR).2.setCell (p := ⟨_, 0, none⟩) (.inr hBle) _).setCell (p := ⟨_, 0, none⟩) (.inr (Nat.le_refl _)) _).setCell (p := ⟨_, 1, none⟩) (.inr (Nat.le_refl _)) _
      · have hs' : (s == 0) = false := by simpa using hs
        have HIK := hide (And.intro IK FK)
        have HR := hide (And.intro rp RAN)
        obtain ⟨t0, t1, y0, y1⟩ := T
        obtain ⟨a0, a1, za0, za1⟩ := A
        clear IK FK
        go_wp2
        refine bodyPost_ret (by simp [results, Try.results144, go_sem, a0, a1]; try rfl) rfl ?_
        refine ⟨⟨_, l⟩, (some ⟨gb, 0, none⟩), cb, rfl, ?_, ⟨hLL, by first | exact hcb | exact Nat.le_refl _⟩, ?_, ?_, ?_⟩
        · exact (unhide HIK).1.block' (fun x hx => by rw [Below.heap_setCell _ _ _ _ (hneA x hx), Below.heap_setCell _ _ _ _ (hneA x hx)])
        · intro z hz; have := (unhide HIK).2 z hz; exact ⟨this.1, this.2.1, this.2.2.1, by simpa [World.setCell] using this.2.2.2⟩
        · exact (((unhide HR).1.setCell (p := ⟨_, 0, none⟩) hAlt _).setCell (p := ⟨_, 1, none⟩) hAlt _).more (by omega)
        · exact ((unhide HR).2.setCell (p := ⟨_, 0, none⟩) (.inr (Nat.le_refl _)) _).setCell (p := ⟨_, 1, none⟩) (.inr (Nat.le_refl _)) _
  · have h0' : ((l.length : Int) == 0) = false := by simpa using h0
    have hneA : ∀ x, (some ⟨gb, 0, none⟩ : Option Addr) = some x → x.block ≠ w.heap.size := fun x hx => by cases hx; show gb ≠ _; omega
    have hneB : ∀ x, (some ⟨gb, 0, none⟩ : Option Addr) = some x → x.block ≠ w2.heap.size := fun x hx => by cases hx; show gb ≠ _; omega
    have hLL : l.length ≤ 7 := hl2
    have t1 := T.c1

    go_wp2_with fail
    refine (pick_any R _ 16 _ RD (by omega) (by omega)).mono ?_
    rintro r wp ⟨s, rfl, s0, s1, s2, rp, gp⟩
    clear s1 s2
    have T := T.ran gp hBR
    have A := A.ran gp hAR
    have IK := Ran.its' IK FK gp hlt
    have FK := FK.ran gp
    have RAN := RAN.trans gp
    clear gp RD
    by_cases hs : s = 0
    · subst hs
      go_wp2_with fail
      refine (pick_any R _ 2 _ (rp.grew ((Grew.refl _).alloc _)) (by omega) (by omega)).mono ?_
      rintro r wq ⟨u, rfl, u0, u1, u2, rq, gq⟩
      have u3 := u1 (by omega)
      clear u1 u2
      have hnp : wp.heap.size ≠ R := by have := rp.lt; omega
      have e0 := gq.cell (p := ⟨wp.heap.size, 0, none⟩) (v := .int .i64 0) hnp (by simp [go_sem])
      have e1 := gq.cell (p := ⟨wp.heap.size, 1, none⟩) (v := .int .i64 5) hnp (by simp [go_sem])
      have T := (T.grew ((Grew.refl _).alloc _)).ran gq hBR
      have A := (A.grew ((Grew.refl _).alloc _)).ran gq hAR
      have FA : Fresh w.heap.size (wp.alloc (.cells #[.int .i64 0, .int .i64 5] 3)) (some ⟨gb, 0, none⟩) := fun z hz => ⟨(FK z hz).1, (FK z hz).2.1, (FK z hz).2.2.1, Nat.lt_of_lt_of_le (FK z hz).2.2.2 (by simp)⟩
      have IK := Ran.its' (IK.grew ((Grew.refl _).alloc _)) FA gq hlt
      have FK := FA.ran gq
      have RAN := (RAN.grew ((Grew.refl _).alloc _)).trans gq
      clear gq rp FA
      have HIK := hide (And.intro IK FK)
      have HR := hide (And.intro rq RAN)
      obtain ⟨t0, t1, y0, y1⟩ := T
      obtain ⟨a0, a1, za0, za1⟩ := A
      clear IK FK
      rcases (show u = 0 ∨ u = 1 by omega) with rfl | rfl
      all_goals
        go_wp2
        refine bodyPost_ret (by simp [results, Try.results144, go_sem, a0, a1]; try rfl) rfl ?_
        refine ⟨⟨_, l⟩, (some ⟨gb, 0, none⟩), cb, rfl, ?_, ⟨hLL, by first | exact hcb | exact Nat.le_refl _⟩, ?_, ?_, ?_⟩
        · exact (unhide HIK).1.block' (fun x hx => by have := (unhide HIK).2 x hx; rw [Below.heap_setCell _ _ _ _ (hneA x hx), Below.heap_setCell _ _ _ _ (hneA x hx), Below.heap_setCell _ _ _ _ (hneB x hx)])
        · intro z hz; have := (unhide HIK).2 z hz; exact ⟨this.1, this.2.1, this.2.2.1, by simpa [World.setCell] using this.2.2.2⟩
        · exact ((((unhide HR).1.setCell (p := ⟨_, 0, none⟩) hBlt _).setCell (p := ⟨_, 0, none⟩) hAlt _).setCell (p := ⟨_, 1, none⟩) hAlt _).more (by omega)
        · exact (((unhide HR).2.setCell (p := ⟨_, 0, none⟩) (.inr hBle) _).setCell (p := ⟨_, 0, none⟩) (.inr (Nat.le_refl _)) _).setCell (p := ⟨_, 1, none⟩) (.inr (Nat.le_refl _)) _
    · have hs' : (s == 0) = false := by simpa using hs
      have HIK := hide (And.intro IK FK)
      have HR := hide (And.intro rp RAN)
      obtain ⟨t0, t1, y0, y1⟩ := T
      obtain ⟨a0, a1, za0, za1⟩ := A
      clear IK FK
      go_wp2
      refine bodyPost_ret (by simp [results, Try.results144, go_sem, a0, a1]; try rfl) rfl ?_
      refine ⟨⟨_, l⟩, (some ⟨gb, 0, none⟩), cb, rfl, ?_, ⟨hLL, by first | exact hcb | exact Nat.le_refl _⟩, ?_, ?_, ?_⟩
      · exact (unhide HIK).1.block' (fun x hx => by rw [Below.heap_setCell _ _ _ _ (hneA x hx), Below.heap_setCell _ _ _ _ (hneA x hx)])
      · intro z hz; have := (unhide HIK).2 z hz; exact ⟨this.1, this.2.1, this.2.2.1, by simpa [World.setCell] using this.2.2.2⟩
      · exact (((unhide HR).1.setCell (p := ⟨_, 0, none⟩) hAlt _).setCell (p := ⟨_, 1, none⟩) hAlt _).more (by omega)
      · exact ((unhide HR).2.setCell (p := ⟨_, 0, none⟩) (.inr (Nat.le_refl _)) _).setCell (p := ⟨_, 1, none⟩) (.inr (Nat.le_refl _)) _
end Go.Proofs.Yteemihgakcmamaa
