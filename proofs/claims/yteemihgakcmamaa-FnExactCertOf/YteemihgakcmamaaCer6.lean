/-
  What CertOk answers, in the program.
-/
import Derived.Test.YteemihgakcmamaaCer4
import Derived.Test.YteemihgakcmamaaCer5
namespace Go.Proofs.Yteemihgakcmamaa
set_option linter.unusedVariables false
open Go.RowKit
attribute [local simp] far_const

/-- A cert is ok. -/
def certB (x : Ct) : Bool := okB x.c && (rowB x.c && (decide (x.b.length = 3) && x.b.all byB))
theorem rowB_len {c : List It} (h : rowB c = true) : 3 ≤ c.length := by
  unfold rowB at h
  by_cases h3 : 3 ≤ c.length
  · exact h3
  · rw [dif_neg h3] at h; cases h
theorem three_of {b : List (List Int)} (h : b.length = 3) : ∃ l0 l1 l2, b = [l0, l1, l2] := by
  match b, h with
  | [l0, l1, l2], _ => exact ⟨l0, l1, l2, rfl⟩

set_option maxHeartbeats 2000000 in
theorem implCertOk (x : Ct) (v : Value) (w : World) (hv : CtV w v x) (hc : x.c.length ≤ 1048576) (hn : x.b.length ≤ 1048576) (hs : ShortI x.b) :
    Calls Try.prog 31 #[v] w fun r w' => r = .returned (.bool (certB x)) ∧ Grew w w' := by
  obtain ⟨a, cap, b, capb, rfl, hcap, hl, hb⟩ := hv
  have hX := fun W => hide (fun (g : Grew w W) => implChainOk a cap x.c W (hl.grew g) hc)
  cases h1 : okB x.c with
  | false =>
    have hx : Hid (certB x = false) := by show certB x = false; unfold certB; rw [h1]; rfl
    rw [h1] at hX
    clear hl hb
    go_enter Try.func31, Try.ntmps31
    go_wp2_with fail
    refine (unhide (hX _) ((Grew.refl _).alloc _)).mono ?_
    rintro r w1 ⟨rfl, g1⟩
    go_wp2
    go_ret
    exact ⟨ret_bool hx.out.symm, ((Grew.refl _).alloc _).trans g1⟩
  | true =>
    have hY := fun W => hide (fun (g : Grew w W) => endsWithRow_any a cap x.c W (hl.grew g) h1 hc)
    rw [h1] at hX
    cases h2 : rowB x.c with
    | false =>
      have hx : Hid (certB x = false) := by show certB x = false; unfold certB; rw [h2, Bool.false_and, Bool.and_false]
      rw [h2] at hY
      clear hl hb
      go_enter Try.func31, Try.ntmps31
      go_wp2_with fail
      refine (unhide (hX _) ((Grew.refl _).alloc _)).mono ?_
      rintro r w1 ⟨rfl, g1⟩
      have p0 := g1.keep (p := ⟨w.heap.size, 0, none⟩) (v := .slice a x.c.length cap) (by simp [go_sem])
      have G1 := hide (((Grew.refl w).alloc _).trans g1)
      clear g1
      go_wp2_with fail
      refine (unhide (hY _) (unhide G1)).mono ?_
      rintro r w2 ⟨rfl, g2⟩
      go_wp2
      go_ret
      exact ⟨ret_bool hx.out.symm, (unhide G1).trans g2⟩
    | true =>
      have h3l := rowB_len h2
      rw [h2] at hY
      by_cases h3 : x.b.length = 3
      · obtain ⟨l0, l1, l2, hbe⟩ := three_of h3
        obtain ⟨b0, off, s0, k0, rfl, d0, j0⟩ := hb.at (i := 0) (by omega)
        obtain ⟨b1, o1, s1, k1, ex1, d1, j1⟩ := hb.at (i := 1) (by omega)
        obtain ⟨b2, o2, s2, k2, ex2, d2, j2⟩ := hb.at (i := 2) (by omega)
        simp only [Option.some.injEq, Addr.mk.injEq, and_true] at ex1 ex2
        obtain ⟨rfl, rfl⟩ := ex1
        obtain ⟨rfl, rfl⟩ := ex2
        have hx : Hid (certB x = (byB l0 && (byB l1 && byB l2))) := by
          show certB x = _; unfold certB; rw [h1, h2, hbe]; simp
        have q0 : x.b[0] = l0 := by simp [hbe]
        have q1 : x.b[1] = l1 := by simp [hbe]
        have q2 : x.b[2] = l2 := by simp [hbe]
        rw [q0] at d0 j0
        rw [q1] at d1 j1
        rw [q2] at d2 j2
        have m0 := hs l0 (by rw [hbe]; simp)
        have m1 := hs l1 (by rw [hbe]; simp)
        have m2 := hs l2 (by rw [hbe]; simp)
        rw [Nat.add_zero] at d0
        obtain ⟨m, hm⟩ : ∃ m, x.c.length = m + 3 := ⟨x.c.length - 3, by omega⟩
        rw [hm] at hX hY hcap hc ⊢
        rw [h3]
        have hZ := fun W => hide (fun (g : Grew w W) => ballotsOf_any a m cap b0 off capb s0 s1 s2 l0.length l1.length l2.length k0 k1 k2 W hcap hc (g.keep d0) (g.keep d1) (g.keep d2))
        have hA := fun W => hide (fun (g : Grew w W) => allEnough_any a (m + 1) cap a (m + 2) cap a (m + 3) cap s0 s1 s2 k0 k1 k2 l0 l1 l2 W (j0.grew g) (j1.grew g) (j2.grew g) m0 m1 m2)
        clear hl hb d0 d1 d2 j0 j1 j2 q0 q1 q2 hbe hs h3 hm h3l
        go_enter Try.func31, Try.ntmps31
        go_wp2_with fail
        refine (unhide (hX _) ((Grew.refl _).alloc _)).mono ?_
        rintro r w1 ⟨rfl, g1⟩
        have p0 := g1.keep (p := ⟨w.heap.size, 0, none⟩) (v := .slice a (m + 3) cap) (by simp [go_sem])
        have p1 := g1.keep (p := ⟨w.heap.size, 1, none⟩) (v := .slice (some ⟨b0, off, none⟩) 3 capb) (by simp [go_sem])
        have G1 := hide (((Grew.refl w).alloc _).trans g1)
        clear g1
        go_wp2_with fail
        refine (unhide (hY _) (unhide G1)).mono ?_
        rintro r w2 ⟨rfl, g2⟩
        have p0 := g2.keep p0
        have p1 := g2.keep p1
        have G2 := hide ((unhide G1).trans g2)
        clear g2
        go_wp2_with fail
        refine (unhide (hZ _) (unhide G2)).mono ?_
        rintro r w3 ⟨rfl, g3⟩
        have G3 := hide ((unhide G2).trans g3)
        clear g3
        go_wp2_with fail
        refine (unhide (hA _) (unhide G3)).mono ?_
        rintro r w4 ⟨rfl, g4⟩
        go_wp2
        go_ret
        exact ⟨ret_bool hx.out.symm, (unhide G3).trans g4⟩
      · have hx : Hid (certB x = false) := by show certB x = false; unfold certB; rw [decide_eq_false h3, Bool.false_and, Bool.and_false, Bool.and_false]
        have hne : ((x.b.length : Int) != 3) = true := by simp; omega
        have hne2 : ¬ (x.b.length : Int) = 3 := by omega
        clear hl hb
        go_enter Try.func31, Try.ntmps31
        go_wp2_with fail
        refine (unhide (hX _) ((Grew.refl _).alloc _)).mono ?_
        rintro r w1 ⟨rfl, g1⟩
        have p0 := g1.keep (p := ⟨w.heap.size, 0, none⟩) (v := .slice a x.c.length cap) (by simp [go_sem])
        have p1 := g1.keep (p := ⟨w.heap.size, 1, none⟩) (v := .slice b x.b.length capb) (by simp [go_sem])
        have G1 := hide (((Grew.refl w).alloc _).trans g1)
        clear g1
        go_wp2_with fail
        refine (unhide (hY _) (unhide G1)).mono ?_
        rintro r w2 ⟨rfl, g2⟩
        have p1 := g2.keep p1
        have G2 := hide ((unhide G1).trans g2)
        clear g2
        go_wp2
        go_ret
        exact ⟨ret_bool hx.out.symm, unhide G2⟩
end Go.Proofs.Yteemihgakcmamaa
