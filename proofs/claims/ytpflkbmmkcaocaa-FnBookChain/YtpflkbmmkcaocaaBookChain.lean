/-
  FnBookChain returns true at every row of bytes and leaves its argument as it was: what the statement says; no condition.
-/
import Derived.Test.YtpflkbmmkcaocaaDrawB
import Derived.Test.YtpflkbmmkcaocaaOpenN
import Derived.Test.YtpflkbmmkcaocaaBook6
import Derived.Test.YtpflkbmmkcaocaaAppR
import Derived.Lib.SmallJoins
import Derived.JoinedOf
import Derived.JoinedAt
import Derived.RowKit3
import Derived.Deep.RegionHeld3
import Derived.Deep.RegionHeldLaw
import Derived.Deep.DeepFit
namespace Go.Proofs.Ytpflkbmmkcaocaa.FnBookChain
set_option linter.unusedVariables false
open Go.ChangeShapes Go.WideShapes Go.ChangeAt Go.RowKit Go.Joins
attribute [local simp] far_const

theorem takeH {P : Program} {md : Region.Mode} {ops : Array Oper} {Q : Exit → Act → World → Prop} {S : World → Prop} {i : Nat} {oi : Oper} {v : Value} {fuel : Nat} {listed : Array Bool} {a : Act} {w : World} (hi : ops[i]? = some oi)
    (hs : Region.noSelect ops = true) (hf : Region.free md ops listed i = true) (hr : (Region.ready md ops listed).contains i = true)
    (hQ : ∀ c a w, Q (.panic c) (a.put oi.dst v) w → Q (.panic c) a w) (hw : Region.wanted oi (yielded ops a.tmps) = true) (hy : ∀ w, S w → (execOp a.eval oi).run P w = .ok (.value v) w) (hS : S w)
    (h : wpAnyH P md ops Q S fuel (listed.setIfInBounds i true) (a.put oi.dst v) w) : wpAnyH P md ops Q S (fuel + 1) listed a w :=
  wpAnyH_take hi hs hf hr hQ (Or.inl ⟨hw, hy⟩) hS h
theorem skipH {P : Program} {md : Region.Mode} {ops : Array Oper} {Q : Exit → Act → World → Prop} {S : World → Prop} {i : Nat} {oi : Oper} {fuel : Nat} {listed : Array Bool} {a : Act} {w : World} (hi : ops[i]? = some oi)
    (hs : Region.noSelect ops = true) (hf : Region.free md ops listed i = true) (hr : (Region.ready md ops listed).contains i = true)
    (hQ : ∀ c a w, Q (.panic c) (a.put oi.dst undef) w → Q (.panic c) a w) (hw : Region.wanted oi (yielded ops a.tmps) = false) (hS : S w)
    (h : wpAnyH P md ops Q S fuel (listed.setIfInBounds i true) (a.put oi.dst undef) w) : wpAnyH P md ops Q S (fuel + 1) listed a w :=
  wpAnyH_take hi hs hf hr hQ (Or.inr ⟨hw, rfl⟩) hS h
theorem its_two (w : World) (x y : It) (t : TypeId) : Its (w.alloc (.cells #[.int .i64 x.e, .int .i64 x.f, .int .i64 x.t, .int .i64 x.s, .int .i64 y.e, .int .i64 y.f, .int .i64 y.t, .int .i64 y.s] t)) (some ⟨w.heap.size, 0, none⟩) [x, y] := by
  refine .inr ⟨_, _, rfl, fun i hi => ?_⟩
  match i, hi with
  | 0, _ => exact ⟨by simp [go_sem], by simp [go_sem], by simp [go_sem], by simp [go_sem]⟩
  | 1, _ => exact ⟨by simp [go_sem], by simp [go_sem], by simp [go_sem], by simp [go_sem]⟩
theorem fro_nine : bof [⟨1, 2, 3, 4⟩, ⟨2, 3, 2, 4⟩] = [9, 9, 9] := by decide
theorem endE_last (l : List It) (h : 0 < l.length) : endE 0 l = (l[l.length - 1]'(by omega)).e := by
  have := endE_take l (l.length - 1) (by omega)
  rwa [show l.length - 1 + 1 = l.length by omega, List.take_length] at this
theorem goB_end (l : List It) : ∀ last, 0 ≤ last → last ≤ 30 → goB last l = true → last ≤ endE last l ∧ endE last l ≤ 30 := by
  induction l with
  | nil => intro last h0 h1 _; exact ⟨Int.le_refl _, h1⟩
  | cons y r ih =>
    intro last h0 h1 h
    simp only [goB, stepB, Bool.and_eq_true, decide_eq_true_eq] at h
    have := ih y.e (by omega) h.1.1.2 h.2
    exact ⟨by simp only [endE]; omega, this.2⟩
theorem okB_end {l : List It} (h : okB l = true) : 0 ≤ endE 0 l ∧ endE 0 l ≤ 30 := by
  simp only [okB, Bool.and_eq_true] at h
  exact goB_end l 0 (by omega) (by omega) h.2
theorem bof_snoc {l : List It} (h : okB l = true) (hl : l.length ≤ 7) {E : Int} (he : endE 0 l = E) (h30 : E < 30) : bof (l ++ [⟨E + 1, 2, 3, 4⟩]) = bpay (payAll l) 2 3 4 := by
  have h' := h
  simp only [okB, Bool.and_eq_true, decide_eq_true_eq] at h'
  have hp : payB 2 3 4 = true := by decide
  have hok : okB (l ++ [⟨E + 1, 2, 3, 4⟩]) = true := by
    unfold okB
    rw [goB_snoc, h'.2, List.length_append, List.length_singleton, decide_eq_true (by omega)]
    simp only [Bool.true_and, stepB, hp, Bool.and_true, Bool.and_eq_true, decide_eq_true_eq]
    omega
  have hb := payAll_take_ok h l.length
  rw [List.take_length] at hb
  unfold bof
  rw [if_pos hok, bpay_ok hb hp]
  unfold payAll
  rw [List.foldl_append]
  rfl
theorem bof_snoc0 : bof (([] : List It) ++ [⟨1, 2, 3, 4⟩]) = bpay (payAll []) 2 3 4 := by decide

set_option maxHeartbeats 16000000 in
theorem walk (a : Option Addr) (n cap : Nat) (w : World) (hb : Byt w a w.heap.size n) (hc : n ≤ cap) :
    Calls Try.prog 3 #[.slice a n cap] w fun e w' => e = .returned (.bool true) ∧ Grew w w' := by
  by_cases hn : n ≤ 1048576
  · have hn1 : decide ((1048576 : Int) < (n : Int)) = false := by simp; omega
    go_enter Try.func3, Try.ntmps3
    go_wp2_with fail
    refine (drawBookOf_any a n cap _ hb hc hn).mono ?_
    rintro e w1 ⟨cb, cc, l, rfl, hcc, ci, hl, g1⟩
    obtain ⟨X, hX⟩ : ∃ X, bof l = X := ⟨_, rfl⟩
    have hXl : X.length ≤ 3 := by
      rw [← hX]
      rcases bof_three l with h | h
      · rw [h]; simp
      · obtain ⟨x, y, z, e, _⟩ := bokB_three h
        rw [e]; simp
    have HX := hide hX
    have CI := hide ci
    have G1 := hide g1
    clear hX ci g1
    go_wp2_with fail
    refine (implBookOf _ _ l _ (unhide CI) (by omega)).mono ?_
    rintro e w2 ⟨u, rfl, au, g2⟩
    rw [unhide HX] at au
    have NU := hide au.num
    have CI := hide ((unhide CI).grew g2)
    have G2 := hide ((unhide G1).trans g2)
    clear au g2 G1
    go_wp2_with fail
    refine (specBookOf _ _ l _ (unhide CI) (by omega)).mono ?_
    rintro e w3 ⟨q, rfl, oq, g3⟩
    rw [unhide HX] at oq
    have NQ := hide oq.num
    have NU := hide ((unhide NU).grew g3)
    have CI := hide ((unhide CI).grew g3)
    have G3 := hide ((unhide G2).trans g3)
    clear oq g3 G2
    go_wp2_with fail
    refine (lwInts_v _ (unhide NU) (unhide NQ) (by omega) (by omega)).mono ?_
    rintro e w4 ⟨rfl, g4⟩
    rw [decide_eq_true rfl]
    have NU := hide ((unhide NU).grew g4)
    have CI := hide ((unhide CI).grew g4)
    have G4 := hide ((unhide G3).trans g4)
    clear g4 G3 NQ
    by_cases hX0 : X = []
    · subst hX0
      obtain ⟨ua, uc, rfl⟩ := (unhide NU).shape
      simp only [List.length_nil] at NU ⊢
      go_wp2_with fail
      refine (specBookOf _ _ l _ (unhide CI) (by omega)).mono ?_
      rintro e w5 ⟨q2, rfl, oq, g5⟩
      rw [unhide HX] at oq
      have NQ := hide oq.num
      have NU := hide ((unhide NU).grew g5)
      have G5 := hide ((unhide G4).trans g5)
      clear oq g5 G4
      go_wp2_with fail
      refine (lwInts_v _ (unhide NU) (unhide NQ) (by omega) (by omega)).mono ?_
      rintro e w6 ⟨rfl, g6⟩
      rw [decide_eq_true rfl]
      have G6 := hide ((unhide G5).trans g6)
      clear g6 G5
      go_wp2
      go_ret
      exact ⟨rfl, unhide G6⟩
    · have hok : okB l = true := by
        cases h : okB l with
        | true => rfl
        | false => exact absurd ((unhide HX).symm.trans (by unfold bof; rw [h]; simp)) hX0
      obtain ⟨x, y, z, hX3, hx⟩ := bokB_three (bof_ok hok)
      rw [unhide HX] at hX3
      subst hX3
      have hbl : bof l = payAll l := by unfold bof; rw [if_pos hok]
      have HXe := hide ((unhide HX).symm.trans hbl)
      have HOKL := hide hok
      obtain ⟨he0, he1⟩ := okB_end hok
      obtain ⟨ub, uo, uc, rfl, _, _, _⟩ := (unhide NU).three
      have hl16 : decide (16 ≤ (l.length : Int)) = false := by simp; omega
      have hl16' : decide (16 ≤ l.length) = false := by simp; omega
      clear HX hX0 hok hbl
      by_cases hlp : 0 < l.length
      · obtain ⟨b, off, hbo, hat⟩ := (unhide CI).at (i := l.length - 1) (by omega)
        simp only [Option.some.injEq, Addr.mk.injEq, and_true] at hbo
        obtain ⟨rfl, rfl⟩ := hbo
        rw [Nat.zero_add] at hat
        have c0 := hat.1
        have hE := endE_last l hlp
        obtain ⟨E, hEE⟩ : ∃ E, E = endE 0 l := ⟨_, rfl⟩
        rw [← hE, ← hEE] at c0
        rw [← hEE] at he0 he1
        have HEnd := hide hEE.symm
        clear hat hE hEE
        have hw1 : IntKind.i64.wrap (E + 1) = E + 1 := by rw [IntKind.wrap_i64]; omega
        by_cases hE30 : E < 30
        · have hne : (E == 30) = false := by simp; omega
          go_wp2_with fail
          obtain ⟨w5, hw5⟩ : ∃ w5, w5 = w4.alloc (.cells #[.int .i64 2, .int .i64 3, .int .i64 4] 29) := ⟨_, rfl⟩
          rw [← hw5]
          have p0 : w5.cell? ⟨w4.heap.size, 0, none⟩ = some (.int .i64 2) := by rw [hw5]; simp [go_sem]
          have p1 : w5.cell? ⟨w4.heap.size, 1, none⟩ = some (.int .i64 3) := by rw [hw5]; simp [go_sem]
          have p2 : w5.cell? ⟨w4.heap.size, 2, none⟩ = some (.int .i64 4) := by rw [hw5]; simp [go_sem]
          have g45 : Grew w4 w5 := by rw [hw5]; exact (Grew.refl _).alloc _
          have CI5 := hide ((unhide CI).grew g45)
          have NU5 := hide ((unhide NU).grew g45)
          have G5 := hide ((unhide G4).trans g45)
          have HSC := hide (fun (w' : World) (g : Grew w5 w') => And.intro (g.keep p0) (And.intro (g.keep p1) (g.keep p2)))
          have SC := hide (And.intro p0 (And.intro p1 p2))
          have E1 := hide (show OwnL (w5.alloc (.cells #[] 31)).drew w5.heap.size (.slice (some ⟨w5.heap.size, 0, none⟩) 0 0) [] from (OwnL.empty (w := w5) (Nat.le_refl _)).grew (Grew.refl _).drew)
          have E2 := hide (show OwnL ((w5.alloc (.cells #[] 31)).alloc (.cells #[.int .i64 (E + 1), .int .i64 2, .int .i64 3, .int .i64 4] 31)).drew w5.heap.size (.slice (some ⟨w5.heap.size, 0, none⟩) 0 0) [] from ((OwnL.empty (w := w5) (Nat.le_refl _)).grew ((Grew.refl _).alloc _)).grew (Grew.refl _).drew)
          have E3 := hide (show OwnL ((w5.alloc (.cells #[.int .i64 (E + 1), .int .i64 2, .int .i64 3, .int .i64 4] 31)).alloc (.cells #[] 31)).drew w5.heap.size (.slice (some ⟨w5.heap.size + 1, 0, none⟩) 0 0) [] by
            have := (OwnL.empty (w := w5.alloc (.cells #[.int .i64 (E + 1), .int .i64 2, .int .i64 3, .int .i64 4] 31)) (base := w5.heap.size) (by simp)).grew (Grew.refl _).drew
            rw [World.size_alloc] at this
            exact this)
          have K1 := hide (show Grew w5 (w5.alloc (.cells #[] 31)).drew from ((Grew.refl w5).alloc _).drew)
          have K2 := hide (show Grew w5 ((w5.alloc (.cells #[] 31)).alloc (.cells #[.int .i64 (E + 1), .int .i64 2, .int .i64 3, .int .i64 4] 31)).drew from (((Grew.refl w5).alloc _).alloc _).drew)
          have K3 := hide (show Grew w5 ((w5.alloc (.cells #[.int .i64 (E + 1), .int .i64 2, .int .i64 3, .int .i64 4] 31)).alloc (.cells #[] 31)).drew from (((Grew.refl w5).alloc _).alloc _).drew)
          have K4 := hide (show Grew w5 (w5.alloc (.cells #[.int .i64 (E + 1), .int .i64 2, .int .i64 3, .int .i64 4] 31)).drew from ((Grew.refl w5).alloc _).drew)
          have I2 := hide (show Its ((w5.alloc (.cells #[] 31)).alloc (.cells #[.int .i64 (E + 1), .int .i64 2, .int .i64 3, .int .i64 4] 31)).drew (some ⟨w5.heap.size + 1, 0, none⟩) [(⟨(E + 1), 2, 3, 4⟩ : It)] by
            have := (its_one (w5.alloc (.cells #[] 31)) (⟨(E + 1), 2, 3, 4⟩ : It) 31).grew (Grew.refl _).drew
            rw [World.size_alloc] at this
            exact this)
          have I3 := hide (show Its ((w5.alloc (.cells #[.int .i64 (E + 1), .int .i64 2, .int .i64 3, .int .i64 4] 31)).alloc (.cells #[] 31)).drew (some ⟨w5.heap.size, 0, none⟩) [(⟨(E + 1), 2, 3, 4⟩ : It)] from (its_one w5 (⟨(E + 1), 2, 3, 4⟩ : It) 31).grew (((Grew.refl _).alloc _).drew))
          clear p0 p1 p2 g45 hw5
          go_region_held_law (fun w' => w'.cell? ⟨w4.heap.size, 0, none⟩ = some (.int .i64 2) ∧ w'.cell? ⟨w4.heap.size, 1, none⟩ = some (.int .i64 3) ∧ w'.cell? ⟨w4.heap.size, 2, none⟩ = some (.int .i64 4))
            (first | exact unhide HSC _ gg7 | exact unhide HSC _ (gg6.alloc _) | exact unhide HSC _ gg6 | exact unhide HSC _ (unhide K1) | exact unhide HSC _ (unhide K2) | exact unhide HSC _ (unhide K3) | exact unhide HSC _ (unhide K4) | exact unhide SC)
            (first
              | (with_reducible refine at_cond ?_; refine step_items rfl _ _ rfl w5.heap.size (.slice (some ⟨w5.heap.size, 0, none⟩) 0 0) [] rfl (unhide E1) ⟨cb, 0, none⟩ cc l l.length rfl rfl ((unhide CI5).grew (unhide K1)) hlp (by simp; omega) (unhide K1).size ?_; intro v6 w6 o6 g6; rw [List.nil_append] at o6; have gg6 : Grew w5 w6 := (unhide K1).grown g6 (fun k hk => by simp [Value.ownBlock] at hk; omega))
              | (with_reducible refine at_cond ?_; refine step_items rfl _ _ rfl w5.heap.size (.slice (some ⟨w5.heap.size, 0, none⟩) 0 0) [] rfl (unhide E2) ⟨cb, 0, none⟩ cc l l.length rfl rfl ((unhide CI5).grew (unhide K2)) hlp (by simp; omega) (unhide K2).size ?_; intro v6 w6 o6 g6; rw [List.nil_append] at o6; have gg6 : Grew w5 w6 := (unhide K2).grown g6 (fun k hk => by simp [Value.ownBlock] at hk; omega); have I6 := (unhide I2).grown g6 (by simp [Value.ownBlock]))
              | (with_reducible refine at_cond ?_; refine step_items rfl _ _ rfl w5.heap.size (.slice (some ⟨w5.heap.size + 1, 0, none⟩) 0 0) [] rfl (unhide E3) ⟨cb, 0, none⟩ cc l l.length rfl rfl ((unhide CI5).grew (unhide K3)) hlp (by simp; omega) (unhide K3).size ?_; intro v6 w6 o6 g6; rw [List.nil_append] at o6; have gg6 : Grew w5 w6 := (unhide K3).grown g6 (fun k hk => by simp [Value.ownBlock] at hk; omega); have I6 := (unhide I3).grown g6 (by simp [Value.ownBlock]))
              | (with_reducible refine at_cond ?_; refine step_items rfl _ _ rfl w5.heap.size v6 l rfl (o6.grew ((Grew.refl _).alloc _)) ⟨w6.heap.size, 0, none⟩ 1 [(⟨(E + 1), 2, 3, 4⟩ : It)] 1 rfl rfl (its_one _ _ _) (by simp) (by simp; omega) (gg6.alloc _).size ?_; intro v7 w7 o7 g7; have gg7 : Grew w5 w7 := (gg6.alloc _).grown g7 (fun k hk => (o6.block k hk).1))
              | (with_reducible refine at_cond ?_; refine step_items rfl _ _ rfl w5.heap.size v6 l rfl o6 ⟨w5.heap.size + 1, 0, none⟩ 1 [(⟨(E + 1), 2, 3, 4⟩ : It)] 1 rfl rfl I6 (by simp) (by simp; omega) gg6.size ?_; intro v7 w7 o7 g7; have gg7 : Grew w5 w7 := gg6.grown g7 (fun k hk => (o6.block k hk).1))
              | (with_reducible refine at_cond ?_; refine step_items rfl _ _ rfl w5.heap.size v6 l rfl o6 ⟨w5.heap.size, 0, none⟩ 1 [(⟨(E + 1), 2, 3, 4⟩ : It)] 1 rfl rfl I6 (by simp) (by simp; omega) gg6.size ?_; intro v7 w7 o7 g7; have gg7 : Grew w5 w7 := gg6.grown g7 (fun k hk => (o6.block k hk).1)))
          all_goals
            replace o7 : OwnL w7 w5.heap.size v7 (l ++ [(⟨(E + 1), 2, 3, 4⟩ : It)]) := o7
            obtain ⟨Z, hZ⟩ : ∃ Z : List It, l ++ [(⟨(E + 1), 2, 3, 4⟩ : It)] = Z := ⟨_, rfl⟩
            rw [hZ] at o7
            have hZ9 : Z.length ≤ 9 := by rw [← hZ]; simp; omega
            have VZ := hide (show bof Z = bpay [x, y, z] 2 3 4 by
              rw [← hZ, unhide HXe]
              exact bof_snoc (unhide HOKL) hl (unhide HEnd) hE30)
            obtain ⟨xb, xc, rfl, hxc, _, _, xi⟩ := o7.shape
            have XI := hide xi
            have SC7 := hide (unhide HSC _ gg7)
            have NU7 := hide ((unhide NU5).grew gg7)
            have G7 := hide ((unhide G5).trans gg7)
            clear o7 gg7 xi hZ E1 E2 E3 K1 K2 K3 K4 I2 I3 HSC SC g7
            try clear g6 gg6 o6
            try clear I6
            obtain ⟨p0, p1, p2⟩ := unhide SC7
            try simp only [List.getElem_toArray, List.getElem_cons_succ, List.getElem_cons_zero, List.setIfInBounds_toArray, List.set_cons_succ, List.set_cons_zero]
            have FI := hide (its_two w7 ⟨1, 2, 3, 4⟩ ⟨2, 3, 2, 4⟩ 31)
            have HF9 := hide fro_nine
            have SC8 := hide (show _ ∧ _ ∧ _ from And.intro (((Grew.refl w7).alloc (.cells #[.int .i64 1, .int .i64 2, .int .i64 3, .int .i64 4, .int .i64 2, .int .i64 3, .int .i64 2, .int .i64 4] 31)).drew.keep p0) (And.intro (((Grew.refl w7).alloc (.cells #[.int .i64 1, .int .i64 2, .int .i64 3, .int .i64 4, .int .i64 2, .int .i64 3, .int .i64 2, .int .i64 4] 31)).drew.keep p1) (((Grew.refl w7).alloc (.cells #[.int .i64 1, .int .i64 2, .int .i64 3, .int .i64 4, .int .i64 2, .int .i64 3, .int .i64 2, .int .i64 4] 31)).drew.keep p2)))
            have KW := hide (show Grew w7 (w7.alloc (.cells #[.int .i64 1, .int .i64 2, .int .i64 3, .int .i64 4, .int .i64 2, .int .i64 3, .int .i64 2, .int .i64 4] 31)).drew from ((Grew.refl w7).alloc _).drew)
            go_wp2_with fail
            go_region_held_law (fun w' => w'.cell? ⟨w4.heap.size, 0, none⟩ = some (.int .i64 2) ∧ w'.cell? ⟨w4.heap.size, 1, none⟩ = some (.int .i64 3) ∧ w'.cell? ⟨w4.heap.size, 2, none⟩ = some (.int .i64 4))
              (first | exact ⟨g13.keep (g12.keep (g11.keep (g10.keep (g9.keep (g8.keep ((unhide SC8).1)))))), g13.keep (g12.keep (g11.keep (g10.keep (g9.keep (g8.keep ((unhide SC8).2.1)))))), g13.keep (g12.keep (g11.keep (g10.keep (g9.keep (g8.keep ((unhide SC8).2.2))))))⟩ | exact ⟨g12.keep (g11.keep (g10.keep (g9.keep (g8.keep ((unhide SC8).1))))), g12.keep (g11.keep (g10.keep (g9.keep (g8.keep ((unhide SC8).2.1))))), g12.keep (g11.keep (g10.keep (g9.keep (g8.keep ((unhide SC8).2.2)))))⟩ | exact ⟨g11.keep (g10.keep (g9.keep (g8.keep ((unhide SC8).1)))), g11.keep (g10.keep (g9.keep (g8.keep ((unhide SC8).2.1)))), g11.keep (g10.keep (g9.keep (g8.keep ((unhide SC8).2.2))))⟩ | exact ⟨g10.keep (g9.keep (g8.keep ((unhide SC8).1))), g10.keep (g9.keep (g8.keep ((unhide SC8).2.1))), g10.keep (g9.keep (g8.keep ((unhide SC8).2.2)))⟩ | exact ⟨g9.keep (g8.keep ((unhide SC8).1)), g9.keep (g8.keep ((unhide SC8).2.1)), g9.keep (g8.keep ((unhide SC8).2.2))⟩ | exact ⟨g8.keep ((unhide SC8).1), g8.keep ((unhide SC8).2.1), g8.keep ((unhide SC8).2.2)⟩ | exact unhide SC8)
              (first
                | (go_at_call 5; go_fit (implBookOf _ _ Z _ ((unhide XI).grew (unhide KW)) (by omega)); rintro r w8 ⟨u8, rfl, a8, g8⟩; rw [unhide VZ] at a8)
                | (go_at_call 8; go_fit (implBookPay_v 2 3 4 _ (((unhide NU7).grew (unhide KW)).grew g8) (by simp)); rintro r w9 ⟨u9, rfl, a9, g9⟩)
                | (go_at_call 6; go_fit (lwInts_v _ (a8.grew g9).num a9.num (Nat.le_trans (bpay_len _ _ _ _) (by omega)) (Nat.le_trans (bpay_len _ _ _ _) (by omega))); rw [decide_eq_true rfl]; rintro r w10 ⟨rfl, g10⟩)
                | (go_at_call 5; go_fit (implBookOf _ _ [⟨1, 2, 3, 4⟩, ⟨2, 3, 2, 4⟩] _ (((((unhide FI).grew (Grew.refl _).drew).grew g8).grew g9).grew g10) (by simp)); rintro r w11 ⟨u11, rfl, a11, g11⟩; rw [unhide HF9] at a11)
                | (go_at_call 9; go_fit (implBookNew _); rintro r w12 ⟨u12, rfl, a12, g12⟩)
                | (go_at_call 6; go_fit (lwInts_v _ (a11.grew g12).num a12.num (by simp) (by simp)); rw [decide_eq_true rfl]; rintro r w13 ⟨rfl, g13⟩)
                | fail)
            have G13 := hide ((unhide G7).trans (((((((unhide KW).trans g8).trans g9).trans g10).trans g11).trans g12).trans g13))
            clear g8 g9 g10 g11 g12 g13
            go_wp2
            go_ret
            exact ⟨rfl, unhide G13⟩
        · obtain rfl : E = 30 := by omega
          clear hE30 hw1
          have hw31 : IntKind.i64.wrap 31 = 31 := by decide
          go_wp2_with fail
          obtain ⟨w5, hw5⟩ : ∃ w5, w5 = w4.alloc (.cells #[.int .i64 2, .int .i64 3, .int .i64 4] 29) := ⟨_, rfl⟩
          rw [← hw5]
          have p0 : w5.cell? ⟨w4.heap.size, 0, none⟩ = some (.int .i64 2) := by rw [hw5]; simp [go_sem]
          have p1 : w5.cell? ⟨w4.heap.size, 1, none⟩ = some (.int .i64 3) := by rw [hw5]; simp [go_sem]
          have p2 : w5.cell? ⟨w4.heap.size, 2, none⟩ = some (.int .i64 4) := by rw [hw5]; simp [go_sem]
          have g45 : Grew w4 w5 := by rw [hw5]; exact (Grew.refl _).alloc _
          have CI5 := hide ((unhide CI).grew g45)
          have NU5 := hide ((unhide NU).grew g45)
          have G5 := hide ((unhide G4).trans g45)
          have HSC := hide (fun (w' : World) (g : Grew w5 w') => And.intro (g.keep p0) (And.intro (g.keep p1) (g.keep p2)))
          have SC := hide (And.intro p0 (And.intro p1 p2))
          have E1 := hide (show OwnL (w5.alloc (.cells #[] 31)).drew w5.heap.size (.slice (some ⟨w5.heap.size, 0, none⟩) 0 0) [] from (OwnL.empty (w := w5) (Nat.le_refl _)).grew (Grew.refl _).drew)
          have E2 := hide (show OwnL ((w5.alloc (.cells #[] 31)).alloc (.cells #[.int .i64 31, .int .i64 2, .int .i64 3, .int .i64 4] 31)).drew w5.heap.size (.slice (some ⟨w5.heap.size, 0, none⟩) 0 0) [] from ((OwnL.empty (w := w5) (Nat.le_refl _)).grew ((Grew.refl _).alloc _)).grew (Grew.refl _).drew)
          have E3 := hide (show OwnL ((w5.alloc (.cells #[.int .i64 31, .int .i64 2, .int .i64 3, .int .i64 4] 31)).alloc (.cells #[] 31)).drew w5.heap.size (.slice (some ⟨w5.heap.size + 1, 0, none⟩) 0 0) [] by
            have := (OwnL.empty (w := w5.alloc (.cells #[.int .i64 31, .int .i64 2, .int .i64 3, .int .i64 4] 31)) (base := w5.heap.size) (by simp)).grew (Grew.refl _).drew
            rw [World.size_alloc] at this
            exact this)
          have K1 := hide (show Grew w5 (w5.alloc (.cells #[] 31)).drew from ((Grew.refl w5).alloc _).drew)
          have K2 := hide (show Grew w5 ((w5.alloc (.cells #[] 31)).alloc (.cells #[.int .i64 31, .int .i64 2, .int .i64 3, .int .i64 4] 31)).drew from (((Grew.refl w5).alloc _).alloc _).drew)
          have K3 := hide (show Grew w5 ((w5.alloc (.cells #[.int .i64 31, .int .i64 2, .int .i64 3, .int .i64 4] 31)).alloc (.cells #[] 31)).drew from (((Grew.refl w5).alloc _).alloc _).drew)
          have K4 := hide (show Grew w5 (w5.alloc (.cells #[.int .i64 31, .int .i64 2, .int .i64 3, .int .i64 4] 31)).drew from ((Grew.refl w5).alloc _).drew)
          have I2 := hide (show Its ((w5.alloc (.cells #[] 31)).alloc (.cells #[.int .i64 31, .int .i64 2, .int .i64 3, .int .i64 4] 31)).drew (some ⟨w5.heap.size + 1, 0, none⟩) [(⟨31, 2, 3, 4⟩ : It)] by
            have := (its_one (w5.alloc (.cells #[] 31)) (⟨31, 2, 3, 4⟩ : It) 31).grew (Grew.refl _).drew
            rw [World.size_alloc] at this
            exact this)
          have I3 := hide (show Its ((w5.alloc (.cells #[.int .i64 31, .int .i64 2, .int .i64 3, .int .i64 4] 31)).alloc (.cells #[] 31)).drew (some ⟨w5.heap.size, 0, none⟩) [(⟨31, 2, 3, 4⟩ : It)] from (its_one w5 (⟨31, 2, 3, 4⟩ : It) 31).grew (((Grew.refl _).alloc _).drew))
          clear p0 p1 p2 g45 hw5
          go_region_held_law (fun w' => w'.cell? ⟨w4.heap.size, 0, none⟩ = some (.int .i64 2) ∧ w'.cell? ⟨w4.heap.size, 1, none⟩ = some (.int .i64 3) ∧ w'.cell? ⟨w4.heap.size, 2, none⟩ = some (.int .i64 4))
            (first | exact unhide HSC _ gg7 | exact unhide HSC _ (gg6.alloc _) | exact unhide HSC _ gg6 | exact unhide HSC _ (unhide K1) | exact unhide HSC _ (unhide K2) | exact unhide HSC _ (unhide K3) | exact unhide HSC _ (unhide K4) | exact unhide SC)
            (first
              | (with_reducible refine at_cond ?_; refine step_items rfl _ _ rfl w5.heap.size (.slice (some ⟨w5.heap.size, 0, none⟩) 0 0) [] rfl (unhide E1) ⟨cb, 0, none⟩ cc l l.length rfl rfl ((unhide CI5).grew (unhide K1)) hlp (by simp; omega) (unhide K1).size ?_; intro v6 w6 o6 g6; rw [List.nil_append] at o6; have gg6 : Grew w5 w6 := (unhide K1).grown g6 (fun k hk => by simp [Value.ownBlock] at hk; omega))
              | (with_reducible refine at_cond ?_; refine step_items rfl _ _ rfl w5.heap.size (.slice (some ⟨w5.heap.size, 0, none⟩) 0 0) [] rfl (unhide E2) ⟨cb, 0, none⟩ cc l l.length rfl rfl ((unhide CI5).grew (unhide K2)) hlp (by simp; omega) (unhide K2).size ?_; intro v6 w6 o6 g6; rw [List.nil_append] at o6; have gg6 : Grew w5 w6 := (unhide K2).grown g6 (fun k hk => by simp [Value.ownBlock] at hk; omega); have I6 := (unhide I2).grown g6 (by simp [Value.ownBlock]))
              | (with_reducible refine at_cond ?_; refine step_items rfl _ _ rfl w5.heap.size (.slice (some ⟨w5.heap.size + 1, 0, none⟩) 0 0) [] rfl (unhide E3) ⟨cb, 0, none⟩ cc l l.length rfl rfl ((unhide CI5).grew (unhide K3)) hlp (by simp; omega) (unhide K3).size ?_; intro v6 w6 o6 g6; rw [List.nil_append] at o6; have gg6 : Grew w5 w6 := (unhide K3).grown g6 (fun k hk => by simp [Value.ownBlock] at hk; omega); have I6 := (unhide I3).grown g6 (by simp [Value.ownBlock]))
              | (with_reducible refine at_cond ?_; refine step_items rfl _ _ rfl w5.heap.size v6 l rfl (o6.grew ((Grew.refl _).alloc _)) ⟨w6.heap.size, 0, none⟩ 1 [(⟨31, 2, 3, 4⟩ : It)] 1 rfl rfl (its_one _ _ _) (by simp) (by simp; omega) (gg6.alloc _).size ?_; intro v7 w7 o7 g7; have gg7 : Grew w5 w7 := (gg6.alloc _).grown g7 (fun k hk => (o6.block k hk).1))
              | (with_reducible refine at_cond ?_; refine step_items rfl _ _ rfl w5.heap.size v6 l rfl o6 ⟨w5.heap.size + 1, 0, none⟩ 1 [(⟨31, 2, 3, 4⟩ : It)] 1 rfl rfl I6 (by simp) (by simp; omega) gg6.size ?_; intro v7 w7 o7 g7; have gg7 : Grew w5 w7 := gg6.grown g7 (fun k hk => (o6.block k hk).1))
              | (with_reducible refine at_cond ?_; refine step_items rfl _ _ rfl w5.heap.size v6 l rfl o6 ⟨w5.heap.size, 0, none⟩ 1 [(⟨31, 2, 3, 4⟩ : It)] 1 rfl rfl I6 (by simp) (by simp; omega) gg6.size ?_; intro v7 w7 o7 g7; have gg7 : Grew w5 w7 := gg6.grown g7 (fun k hk => (o6.block k hk).1)))
          · skip
            replace o7 : OwnL w7 w5.heap.size v7 (l ++ [(⟨31, 2, 3, 4⟩ : It)]) := o7
            obtain ⟨Z, hZ⟩ : ∃ Z : List It, l ++ [(⟨31, 2, 3, 4⟩ : It)] = Z := ⟨_, rfl⟩
            rw [hZ] at o7
            have hZ9 : Z.length ≤ 9 := by rw [← hZ]; simp; omega
            obtain ⟨xb, xc, rfl, hxc, _, _, xi⟩ := o7.shape
            have XI := hide xi
            have SC7 := hide (unhide HSC _ gg7)
            have NU7 := hide ((unhide NU5).grew gg7)
            have G7 := hide ((unhide G5).trans gg7)
            clear o7 gg7 xi hZ E1 E2 E3 K1 K2 K3 K4 I2 I3 HSC SC g7
            try clear g6 gg6 o6
            try clear I6
            obtain ⟨p0, p1, p2⟩ := unhide SC7
            try simp only [List.getElem_toArray, List.getElem_cons_succ, List.getElem_cons_zero, List.setIfInBounds_toArray, List.set_cons_succ, List.set_cons_zero]
            have FI := hide (its_two w7 ⟨1, 2, 3, 4⟩ ⟨2, 3, 2, 4⟩ 31)
            have HF9 := hide fro_nine
            have SC8 := hide (show _ ∧ _ ∧ _ from And.intro (((Grew.refl w7).alloc (.cells #[.int .i64 1, .int .i64 2, .int .i64 3, .int .i64 4, .int .i64 2, .int .i64 3, .int .i64 2, .int .i64 4] 31)).drew.keep p0) (And.intro (((Grew.refl w7).alloc (.cells #[.int .i64 1, .int .i64 2, .int .i64 3, .int .i64 4, .int .i64 2, .int .i64 3, .int .i64 2, .int .i64 4] 31)).drew.keep p1) (((Grew.refl w7).alloc (.cells #[.int .i64 1, .int .i64 2, .int .i64 3, .int .i64 4, .int .i64 2, .int .i64 3, .int .i64 2, .int .i64 4] 31)).drew.keep p2)))
            have KW := hide (show Grew w7 (w7.alloc (.cells #[.int .i64 1, .int .i64 2, .int .i64 3, .int .i64 4, .int .i64 2, .int .i64 3, .int .i64 2, .int .i64 4] 31)).drew from ((Grew.refl w7).alloc _).drew)
            go_wp2_with fail
            refine wp_region_held_drew (S := fun _ => True) (by kernel_rfl) trivial (fun hHeld => ?_)
            refine' takeH (i := 0) (oi := _) (v := _) ?hi1_0 ?hs1_0 ?hf1_0 ?hr1_0 ?hQ1_0 ?hw1_0 ?hy1_0 trivial ?h1_0
            case hi1_0 => (simp only [List.getElem?_toArray, List.getElem?_cons_zero]; try rfl)
            case hs1_0 => kernel_rfl
            case hf1_0 => kernel_rfl
            case hr1_0 => kernel_rfl
            case hw1_0 => rfl
            case hy1_0 => (intro w hSw; go_simp; try (with_reducible rfl))
            case hQ1_0 => exact fun _ _ _ h => h
            try simp only [Act.put, List.setIfInBounds_toArray, List.set_cons_zero, List.set_cons_succ]
            refine' takeH (i := 1) (oi := _) (v := _) ?hi1_1 ?hs1_1 ?hf1_1 ?hr1_1 ?hQ1_1 ?hw1_1 ?hy1_1 trivial ?h1_1
            case hi1_1 => (simp only [List.getElem?_toArray, List.getElem?_cons_succ, List.getElem?_cons_zero]; try rfl)
            case hs1_1 => kernel_rfl
            case hf1_1 => kernel_rfl
            case hr1_1 => kernel_rfl
            case hw1_1 => rfl
            case hy1_1 => (intro w hSw; go_simp; try (with_reducible rfl))
            case hQ1_1 => exact fun _ _ _ h => h
            try simp only [Act.put, List.setIfInBounds_toArray, List.set_cons_zero, List.set_cons_succ]
            refine' takeH (i := 2) (oi := _) (v := _) ?hi1_2 ?hs1_2 ?hf1_2 ?hr1_2 ?hQ1_2 ?hw1_2 ?hy1_2 trivial ?h1_2
            case hi1_2 => (simp only [List.getElem?_toArray, List.getElem?_cons_succ, List.getElem?_cons_zero]; try rfl)
            case hs1_2 => kernel_rfl
            case hf1_2 => kernel_rfl
            case hr1_2 => kernel_rfl
            case hw1_2 => rfl
            case hy1_2 => (intro w hSw; go_simp; try (with_reducible rfl))
            case hQ1_2 => exact fun _ _ _ h => h
            try simp only [Act.put, List.setIfInBounds_toArray, List.set_cons_zero, List.set_cons_succ]
            refine' skipH (i := 3) (oi := _) ?hi1_3 ?hs1_3 ?hf1_3 ?hr1_3 ?hQ1_3 ?hw1_3 trivial ?h1_3
            case hi1_3 => (simp only [List.getElem?_toArray, List.getElem?_cons_succ, List.getElem?_cons_zero]; try rfl)
            case hs1_3 => kernel_rfl
            case hf1_3 => kernel_rfl
            case hr1_3 => kernel_rfl
            case hw1_3 => rfl
            case hQ1_3 => exact fun _ _ _ h => h
            try simp only [Act.put, List.setIfInBounds_toArray, List.set_cons_zero, List.set_cons_succ]
            refine' skipH (i := 4) (oi := _) ?hi1_4 ?hs1_4 ?hf1_4 ?hr1_4 ?hQ1_4 ?hw1_4 trivial ?h1_4
            case hi1_4 => (simp only [List.getElem?_toArray, List.getElem?_cons_succ, List.getElem?_cons_zero]; try rfl)
            case hs1_4 => kernel_rfl
            case hf1_4 => kernel_rfl
            case hr1_4 => kernel_rfl
            case hw1_4 => rfl
            case hQ1_4 => exact fun _ _ _ h => h
            try simp only [Act.put, List.setIfInBounds_toArray, List.set_cons_zero, List.set_cons_succ]
            refine' skipH (i := 5) (oi := _) ?hi1_5 ?hs1_5 ?hf1_5 ?hr1_5 ?hQ1_5 ?hw1_5 trivial ?h1_5
            case hi1_5 => (simp only [List.getElem?_toArray, List.getElem?_cons_succ, List.getElem?_cons_zero]; try rfl)
            case hs1_5 => kernel_rfl
            case hf1_5 => kernel_rfl
            case hr1_5 => kernel_rfl
            case hw1_5 => rfl
            case hQ1_5 => exact fun _ _ _ h => h
            try simp only [Act.put, List.setIfInBounds_toArray, List.set_cons_zero, List.set_cons_succ]
            refine' skipH (i := 6) (oi := _) ?hi1_6 ?hs1_6 ?hf1_6 ?hr1_6 ?hQ1_6 ?hw1_6 trivial ?h1_6
            case hi1_6 => (simp only [List.getElem?_toArray, List.getElem?_cons_succ, List.getElem?_cons_zero]; try rfl)
            case hs1_6 => kernel_rfl
            case hf1_6 => kernel_rfl
            case hr1_6 => kernel_rfl
            case hw1_6 => rfl
            case hQ1_6 => exact fun _ _ _ h => h
            try simp only [Act.put, List.setIfInBounds_toArray, List.set_cons_zero, List.set_cons_succ]
            refine' skipH (i := 7) (oi := _) ?hi1_7 ?hs1_7 ?hf1_7 ?hr1_7 ?hQ1_7 ?hw1_7 trivial ?h1_7
            case hi1_7 => (simp only [List.getElem?_toArray, List.getElem?_cons_succ, List.getElem?_cons_zero]; try rfl)
            case hs1_7 => kernel_rfl
            case hf1_7 => kernel_rfl
            case hr1_7 => kernel_rfl
            case hw1_7 => rfl
            case hQ1_7 => exact fun _ _ _ h => h
            try simp only [Act.put, List.setIfInBounds_toArray, List.set_cons_zero, List.set_cons_succ]
            refine' skipH (i := 8) (oi := _) ?hi1_8 ?hs1_8 ?hf1_8 ?hr1_8 ?hQ1_8 ?hw1_8 trivial ?h1_8
            case hi1_8 => (simp only [List.getElem?_toArray, List.getElem?_cons_succ, List.getElem?_cons_zero]; try rfl)
            case hs1_8 => kernel_rfl
            case hf1_8 => kernel_rfl
            case hr1_8 => kernel_rfl
            case hw1_8 => rfl
            case hQ1_8 => exact fun _ _ _ h => h
            try simp only [Act.put, List.setIfInBounds_toArray, List.set_cons_zero, List.set_cons_succ]
            refine' takeH (i := 9) (oi := _) (v := _) ?hi1_9 ?hs1_9 ?hf1_9 ?hr1_9 ?hQ1_9 ?hw1_9 ?hy1_9 trivial ?h1_9
            case hi1_9 => (simp only [List.getElem?_toArray, List.getElem?_cons_succ, List.getElem?_cons_zero]; try rfl)
            case hs1_9 => kernel_rfl
            case hf1_9 => kernel_rfl
            case hr1_9 => kernel_rfl
            case hw1_9 => rfl
            case hy1_9 => (intro w hSw; go_simp; try (with_reducible rfl))
            case hQ1_9 => exact fun _ _ _ h => h
            try simp only [Act.put, List.setIfInBounds_toArray, List.set_cons_zero, List.set_cons_succ]
            refine' takeH (i := 10) (oi := _) (v := _) ?hi1_10 ?hs1_10 ?hf1_10 ?hr1_10 ?hQ1_10 ?hw1_10 ?hy1_10 trivial ?h1_10
            case hi1_10 => (simp only [List.getElem?_toArray, List.getElem?_cons_succ, List.getElem?_cons_zero]; try rfl)
            case hs1_10 => kernel_rfl
            case hf1_10 => kernel_rfl
            case hr1_10 => kernel_rfl
            case hw1_10 => rfl
            case hy1_10 => (intro w hSw; go_simp; try (with_reducible rfl))
            case hQ1_10 => exact fun _ _ _ h => h
            try simp only [Act.put, List.setIfInBounds_toArray, List.set_cons_zero, List.set_cons_succ]
            refine' takeH (i := 11) (oi := _) (v := _) ?hi1_11 ?hs1_11 ?hf1_11 ?hr1_11 ?hQ1_11 ?hw1_11 ?hy1_11 trivial ?h1_11
            case hi1_11 => (simp only [List.getElem?_toArray, List.getElem?_cons_succ, List.getElem?_cons_zero]; try rfl)
            case hs1_11 => kernel_rfl
            case hf1_11 => kernel_rfl
            case hr1_11 => kernel_rfl
            case hw1_11 => rfl
            case hy1_11 => (intro w hSw; go_simp; try (with_reducible rfl))
            case hQ1_11 => exact fun _ _ _ h => h
            try simp only [Act.put, List.setIfInBounds_toArray, List.set_cons_zero, List.set_cons_succ]
            refine wpAnyH_ready (rs := [12]) (by kernel_rfl) (by simp) ?_
            refine AllReadyH.cons rfl (fun K hK => ?_) AllReadyH.nil
            go_simp
            go_wp2_with (go_at_call 5; go_fit (implBookOf _ _ [⟨1, 2, 3, 4⟩, ⟨2, 3, 2, 4⟩] _ ((unhide FI).grew (Grew.refl _).drew) (by simp)); rintro r w11 ⟨u11, rfl, a11, g11⟩; rw [unhide HF9] at a11)
            refine hK.out _ _ trivial (fun _ => ?_)
            clear hK K
            try simp only [Act.put, List.setIfInBounds_toArray, List.set_cons_zero, List.set_cons_succ]
            refine wpAnyH_ready (rs := [13]) (by kernel_rfl) (by simp) ?_
            refine AllReadyH.cons rfl (fun K hK => ?_) AllReadyH.nil
            go_simp
            go_wp2_with (go_at_call 9; go_fit (implBookNew _); rintro r w12 ⟨u12, rfl, a12, g12⟩)
            refine hK.out _ _ trivial (fun _ => ?_)
            clear hK K
            try simp only [Act.put, List.setIfInBounds_toArray, List.set_cons_zero, List.set_cons_succ]
            refine wpAnyH_ready (rs := [14]) (by kernel_rfl) (by simp) ?_
            refine AllReadyH.cons rfl (fun K hK => ?_) AllReadyH.nil
            go_simp
            go_wp2_with (go_at_call 6; go_fit (lwInts_v _ (a11.grew g12).num a12.num (by simp) (by simp)); rw [decide_eq_true rfl]; rintro r w13 ⟨rfl, g13⟩)
            refine hK.out _ _ trivial (fun _ => ?_)
            clear hK K
            try simp only [Act.put, List.setIfInBounds_toArray, List.set_cons_zero, List.set_cons_succ]
            refine' takeH (i := 15) (oi := _) (v := _) ?hi1_15 ?hs1_15 ?hf1_15 ?hr1_15 ?hQ1_15 ?hw1_15 ?hy1_15 trivial ?h1_15
            case hi1_15 => (simp only [List.getElem?_toArray, List.getElem?_cons_succ, List.getElem?_cons_zero]; try rfl)
            case hs1_15 => kernel_rfl
            case hf1_15 => kernel_rfl
            case hr1_15 => kernel_rfl
            case hw1_15 => rfl
            case hy1_15 => (intro w hSw; go_simp; try (with_reducible rfl))
            case hQ1_15 => exact fun _ _ _ h => h
            try simp only [Act.put, List.setIfInBounds_toArray, List.set_cons_zero, List.set_cons_succ]
            refine' takeH (i := 16) (oi := _) (v := _) ?hi1_16 ?hs1_16 ?hf1_16 ?hr1_16 ?hQ1_16 ?hw1_16 ?hy1_16 trivial ?h1_16
            case hi1_16 => (simp only [List.getElem?_toArray, List.getElem?_cons_succ, List.getElem?_cons_zero]; try rfl)
            case hs1_16 => kernel_rfl
            case hf1_16 => kernel_rfl
            case hr1_16 => kernel_rfl
            case hw1_16 => rfl
            case hy1_16 => (intro w hSw; go_simp; try (with_reducible rfl))
            case hQ1_16 => exact fun _ _ _ h => h
            try simp only [Act.put, List.setIfInBounds_toArray, List.set_cons_zero, List.set_cons_succ]
            refine wpAnyH_done (by kernel_rfl) ?_ _
            have G13 := hide ((unhide G7).trans ((((unhide KW).trans g11).trans g12).trans g13))
            clear g11 g12 g13
            go_wp2
            go_ret
            exact ⟨rfl, unhide G13⟩
          · skip
            replace o7 : OwnL w7 w5.heap.size v7 (l ++ [(⟨31, 2, 3, 4⟩ : It)]) := o7
            obtain ⟨Z, hZ⟩ : ∃ Z : List It, l ++ [(⟨31, 2, 3, 4⟩ : It)] = Z := ⟨_, rfl⟩
            rw [hZ] at o7
            have hZ9 : Z.length ≤ 9 := by rw [← hZ]; simp; omega
            obtain ⟨xb, xc, rfl, hxc, _, _, xi⟩ := o7.shape
            have XI := hide xi
            have SC7 := hide (unhide HSC _ gg7)
            have NU7 := hide ((unhide NU5).grew gg7)
            have G7 := hide ((unhide G5).trans gg7)
            clear o7 gg7 xi hZ E1 E2 E3 K1 K2 K3 K4 I2 I3 HSC SC g7
            try clear g6 gg6 o6
            try clear I6
            obtain ⟨p0, p1, p2⟩ := unhide SC7
            try simp only [List.getElem_toArray, List.getElem_cons_succ, List.getElem_cons_zero, List.setIfInBounds_toArray, List.set_cons_succ, List.set_cons_zero]
            have FI := hide (its_two w7 ⟨1, 2, 3, 4⟩ ⟨2, 3, 2, 4⟩ 31)
            have HF9 := hide fro_nine
            have SC8 := hide (show _ ∧ _ ∧ _ from And.intro (((Grew.refl w7).alloc (.cells #[.int .i64 1, .int .i64 2, .int .i64 3, .int .i64 4, .int .i64 2, .int .i64 3, .int .i64 2, .int .i64 4] 31)).drew.keep p0) (And.intro (((Grew.refl w7).alloc (.cells #[.int .i64 1, .int .i64 2, .int .i64 3, .int .i64 4, .int .i64 2, .int .i64 3, .int .i64 2, .int .i64 4] 31)).drew.keep p1) (((Grew.refl w7).alloc (.cells #[.int .i64 1, .int .i64 2, .int .i64 3, .int .i64 4, .int .i64 2, .int .i64 3, .int .i64 2, .int .i64 4] 31)).drew.keep p2)))
            have KW := hide (show Grew w7 (w7.alloc (.cells #[.int .i64 1, .int .i64 2, .int .i64 3, .int .i64 4, .int .i64 2, .int .i64 3, .int .i64 2, .int .i64 4] 31)).drew from ((Grew.refl w7).alloc _).drew)
            go_wp2_with fail
            refine wp_region_held_drew (S := fun _ => True) (by kernel_rfl) trivial (fun hHeld => ?_)
            refine' takeH (i := 0) (oi := _) (v := _) ?hi2_0 ?hs2_0 ?hf2_0 ?hr2_0 ?hQ2_0 ?hw2_0 ?hy2_0 trivial ?h2_0
            case hi2_0 => (simp only [List.getElem?_toArray, List.getElem?_cons_zero]; try rfl)
            case hs2_0 => kernel_rfl
            case hf2_0 => kernel_rfl
            case hr2_0 => kernel_rfl
            case hw2_0 => rfl
            case hy2_0 => (intro w hSw; go_simp; try (with_reducible rfl))
            case hQ2_0 => exact fun _ _ _ h => h
            try simp only [Act.put, List.setIfInBounds_toArray, List.set_cons_zero, List.set_cons_succ]
            refine' takeH (i := 1) (oi := _) (v := _) ?hi2_1 ?hs2_1 ?hf2_1 ?hr2_1 ?hQ2_1 ?hw2_1 ?hy2_1 trivial ?h2_1
            case hi2_1 => (simp only [List.getElem?_toArray, List.getElem?_cons_succ, List.getElem?_cons_zero]; try rfl)
            case hs2_1 => kernel_rfl
            case hf2_1 => kernel_rfl
            case hr2_1 => kernel_rfl
            case hw2_1 => rfl
            case hy2_1 => (intro w hSw; go_simp; try (with_reducible rfl))
            case hQ2_1 => exact fun _ _ _ h => h
            try simp only [Act.put, List.setIfInBounds_toArray, List.set_cons_zero, List.set_cons_succ]
            refine' takeH (i := 2) (oi := _) (v := _) ?hi2_2 ?hs2_2 ?hf2_2 ?hr2_2 ?hQ2_2 ?hw2_2 ?hy2_2 trivial ?h2_2
            case hi2_2 => (simp only [List.getElem?_toArray, List.getElem?_cons_succ, List.getElem?_cons_zero]; try rfl)
            case hs2_2 => kernel_rfl
            case hf2_2 => kernel_rfl
            case hr2_2 => kernel_rfl
            case hw2_2 => rfl
            case hy2_2 => (intro w hSw; go_simp; try (with_reducible rfl))
            case hQ2_2 => exact fun _ _ _ h => h
            try simp only [Act.put, List.setIfInBounds_toArray, List.set_cons_zero, List.set_cons_succ]
            refine' skipH (i := 3) (oi := _) ?hi2_3 ?hs2_3 ?hf2_3 ?hr2_3 ?hQ2_3 ?hw2_3 trivial ?h2_3
            case hi2_3 => (simp only [List.getElem?_toArray, List.getElem?_cons_succ, List.getElem?_cons_zero]; try rfl)
            case hs2_3 => kernel_rfl
            case hf2_3 => kernel_rfl
            case hr2_3 => kernel_rfl
            case hw2_3 => rfl
            case hQ2_3 => exact fun _ _ _ h => h
            try simp only [Act.put, List.setIfInBounds_toArray, List.set_cons_zero, List.set_cons_succ]
            refine' skipH (i := 4) (oi := _) ?hi2_4 ?hs2_4 ?hf2_4 ?hr2_4 ?hQ2_4 ?hw2_4 trivial ?h2_4
            case hi2_4 => (simp only [List.getElem?_toArray, List.getElem?_cons_succ, List.getElem?_cons_zero]; try rfl)
            case hs2_4 => kernel_rfl
            case hf2_4 => kernel_rfl
            case hr2_4 => kernel_rfl
            case hw2_4 => rfl
            case hQ2_4 => exact fun _ _ _ h => h
            try simp only [Act.put, List.setIfInBounds_toArray, List.set_cons_zero, List.set_cons_succ]
            refine' skipH (i := 5) (oi := _) ?hi2_5 ?hs2_5 ?hf2_5 ?hr2_5 ?hQ2_5 ?hw2_5 trivial ?h2_5
            case hi2_5 => (simp only [List.getElem?_toArray, List.getElem?_cons_succ, List.getElem?_cons_zero]; try rfl)
            case hs2_5 => kernel_rfl
            case hf2_5 => kernel_rfl
            case hr2_5 => kernel_rfl
            case hw2_5 => rfl
            case hQ2_5 => exact fun _ _ _ h => h
            try simp only [Act.put, List.setIfInBounds_toArray, List.set_cons_zero, List.set_cons_succ]
            refine' skipH (i := 6) (oi := _) ?hi2_6 ?hs2_6 ?hf2_6 ?hr2_6 ?hQ2_6 ?hw2_6 trivial ?h2_6
            case hi2_6 => (simp only [List.getElem?_toArray, List.getElem?_cons_succ, List.getElem?_cons_zero]; try rfl)
            case hs2_6 => kernel_rfl
            case hf2_6 => kernel_rfl
            case hr2_6 => kernel_rfl
            case hw2_6 => rfl
            case hQ2_6 => exact fun _ _ _ h => h
            try simp only [Act.put, List.setIfInBounds_toArray, List.set_cons_zero, List.set_cons_succ]
            refine' skipH (i := 7) (oi := _) ?hi2_7 ?hs2_7 ?hf2_7 ?hr2_7 ?hQ2_7 ?hw2_7 trivial ?h2_7
            case hi2_7 => (simp only [List.getElem?_toArray, List.getElem?_cons_succ, List.getElem?_cons_zero]; try rfl)
            case hs2_7 => kernel_rfl
            case hf2_7 => kernel_rfl
            case hr2_7 => kernel_rfl
            case hw2_7 => rfl
            case hQ2_7 => exact fun _ _ _ h => h
            try simp only [Act.put, List.setIfInBounds_toArray, List.set_cons_zero, List.set_cons_succ]
            refine' skipH (i := 8) (oi := _) ?hi2_8 ?hs2_8 ?hf2_8 ?hr2_8 ?hQ2_8 ?hw2_8 trivial ?h2_8
            case hi2_8 => (simp only [List.getElem?_toArray, List.getElem?_cons_succ, List.getElem?_cons_zero]; try rfl)
            case hs2_8 => kernel_rfl
            case hf2_8 => kernel_rfl
            case hr2_8 => kernel_rfl
            case hw2_8 => rfl
            case hQ2_8 => exact fun _ _ _ h => h
            try simp only [Act.put, List.setIfInBounds_toArray, List.set_cons_zero, List.set_cons_succ]
            refine' takeH (i := 9) (oi := _) (v := _) ?hi2_9 ?hs2_9 ?hf2_9 ?hr2_9 ?hQ2_9 ?hw2_9 ?hy2_9 trivial ?h2_9
            case hi2_9 => (simp only [List.getElem?_toArray, List.getElem?_cons_succ, List.getElem?_cons_zero]; try rfl)
            case hs2_9 => kernel_rfl
            case hf2_9 => kernel_rfl
            case hr2_9 => kernel_rfl
            case hw2_9 => rfl
            case hy2_9 => (intro w hSw; go_simp; try (with_reducible rfl))
            case hQ2_9 => exact fun _ _ _ h => h
            try simp only [Act.put, List.setIfInBounds_toArray, List.set_cons_zero, List.set_cons_succ]
            refine' takeH (i := 10) (oi := _) (v := _) ?hi2_10 ?hs2_10 ?hf2_10 ?hr2_10 ?hQ2_10 ?hw2_10 ?hy2_10 trivial ?h2_10
            case hi2_10 => (simp only [List.getElem?_toArray, List.getElem?_cons_succ, List.getElem?_cons_zero]; try rfl)
            case hs2_10 => kernel_rfl
            case hf2_10 => kernel_rfl
            case hr2_10 => kernel_rfl
            case hw2_10 => rfl
            case hy2_10 => (intro w hSw; go_simp; try (with_reducible rfl))
            case hQ2_10 => exact fun _ _ _ h => h
            try simp only [Act.put, List.setIfInBounds_toArray, List.set_cons_zero, List.set_cons_succ]
            refine' takeH (i := 11) (oi := _) (v := _) ?hi2_11 ?hs2_11 ?hf2_11 ?hr2_11 ?hQ2_11 ?hw2_11 ?hy2_11 trivial ?h2_11
            case hi2_11 => (simp only [List.getElem?_toArray, List.getElem?_cons_succ, List.getElem?_cons_zero]; try rfl)
            case hs2_11 => kernel_rfl
            case hf2_11 => kernel_rfl
            case hr2_11 => kernel_rfl
            case hw2_11 => rfl
            case hy2_11 => (intro w hSw; go_simp; try (with_reducible rfl))
            case hQ2_11 => exact fun _ _ _ h => h
            try simp only [Act.put, List.setIfInBounds_toArray, List.set_cons_zero, List.set_cons_succ]
            refine wpAnyH_ready (rs := [12]) (by kernel_rfl) (by simp) ?_
            refine AllReadyH.cons rfl (fun K hK => ?_) AllReadyH.nil
            go_simp
            go_wp2_with (go_at_call 5; go_fit (implBookOf _ _ [⟨1, 2, 3, 4⟩, ⟨2, 3, 2, 4⟩] _ ((unhide FI).grew (Grew.refl _).drew) (by simp)); rintro r w11 ⟨u11, rfl, a11, g11⟩; rw [unhide HF9] at a11)
            refine hK.out _ _ trivial (fun _ => ?_)
            clear hK K
            try simp only [Act.put, List.setIfInBounds_toArray, List.set_cons_zero, List.set_cons_succ]
            refine wpAnyH_ready (rs := [13]) (by kernel_rfl) (by simp) ?_
            refine AllReadyH.cons rfl (fun K hK => ?_) AllReadyH.nil
            go_simp
            go_wp2_with (go_at_call 9; go_fit (implBookNew _); rintro r w12 ⟨u12, rfl, a12, g12⟩)
            refine hK.out _ _ trivial (fun _ => ?_)
            clear hK K
            try simp only [Act.put, List.setIfInBounds_toArray, List.set_cons_zero, List.set_cons_succ]
            refine wpAnyH_ready (rs := [14]) (by kernel_rfl) (by simp) ?_
            refine AllReadyH.cons rfl (fun K hK => ?_) AllReadyH.nil
            go_simp
            go_wp2_with (go_at_call 6; go_fit (lwInts_v _ (a11.grew g12).num a12.num (by simp) (by simp)); rw [decide_eq_true rfl]; rintro r w13 ⟨rfl, g13⟩)
            refine hK.out _ _ trivial (fun _ => ?_)
            clear hK K
            try simp only [Act.put, List.setIfInBounds_toArray, List.set_cons_zero, List.set_cons_succ]
            refine' takeH (i := 15) (oi := _) (v := _) ?hi2_15 ?hs2_15 ?hf2_15 ?hr2_15 ?hQ2_15 ?hw2_15 ?hy2_15 trivial ?h2_15
            case hi2_15 => (simp only [List.getElem?_toArray, List.getElem?_cons_succ, List.getElem?_cons_zero]; try rfl)
            case hs2_15 => kernel_rfl
            case hf2_15 => kernel_rfl
            case hr2_15 => kernel_rfl
            case hw2_15 => rfl
            case hy2_15 => (intro w hSw; go_simp; try (with_reducible rfl))
            case hQ2_15 => exact fun _ _ _ h => h
            try simp only [Act.put, List.setIfInBounds_toArray, List.set_cons_zero, List.set_cons_succ]
            refine' takeH (i := 16) (oi := _) (v := _) ?hi2_16 ?hs2_16 ?hf2_16 ?hr2_16 ?hQ2_16 ?hw2_16 ?hy2_16 trivial ?h2_16
            case hi2_16 => (simp only [List.getElem?_toArray, List.getElem?_cons_succ, List.getElem?_cons_zero]; try rfl)
            case hs2_16 => kernel_rfl
            case hf2_16 => kernel_rfl
            case hr2_16 => kernel_rfl
            case hw2_16 => rfl
            case hy2_16 => (intro w hSw; go_simp; try (with_reducible rfl))
            case hQ2_16 => exact fun _ _ _ h => h
            try simp only [Act.put, List.setIfInBounds_toArray, List.set_cons_zero, List.set_cons_succ]
            refine wpAnyH_done (by kernel_rfl) ?_ _
            have G13 := hide ((unhide G7).trans ((((unhide KW).trans g11).trans g12).trans g13))
            clear g11 g12 g13
            go_wp2
            go_ret
            exact ⟨rfl, unhide G13⟩
          · skip
            replace o7 : OwnL w7 w5.heap.size v7 (l ++ [(⟨31, 2, 3, 4⟩ : It)]) := o7
            obtain ⟨Z, hZ⟩ : ∃ Z : List It, l ++ [(⟨31, 2, 3, 4⟩ : It)] = Z := ⟨_, rfl⟩
            rw [hZ] at o7
            have hZ9 : Z.length ≤ 9 := by rw [← hZ]; simp; omega
            obtain ⟨xb, xc, rfl, hxc, _, _, xi⟩ := o7.shape
            have XI := hide xi
            have SC7 := hide (unhide HSC _ gg7)
            have NU7 := hide ((unhide NU5).grew gg7)
            have G7 := hide ((unhide G5).trans gg7)
            clear o7 gg7 xi hZ E1 E2 E3 K1 K2 K3 K4 I2 I3 HSC SC g7
            try clear g6 gg6 o6
            try clear I6
            obtain ⟨p0, p1, p2⟩ := unhide SC7
            try simp only [List.getElem_toArray, List.getElem_cons_succ, List.getElem_cons_zero, List.setIfInBounds_toArray, List.set_cons_succ, List.set_cons_zero]
            have FI := hide (its_two w7 ⟨1, 2, 3, 4⟩ ⟨2, 3, 2, 4⟩ 31)
            have HF9 := hide fro_nine
            have SC8 := hide (show _ ∧ _ ∧ _ from And.intro (((Grew.refl w7).alloc (.cells #[.int .i64 1, .int .i64 2, .int .i64 3, .int .i64 4, .int .i64 2, .int .i64 3, .int .i64 2, .int .i64 4] 31)).drew.keep p0) (And.intro (((Grew.refl w7).alloc (.cells #[.int .i64 1, .int .i64 2, .int .i64 3, .int .i64 4, .int .i64 2, .int .i64 3, .int .i64 2, .int .i64 4] 31)).drew.keep p1) (((Grew.refl w7).alloc (.cells #[.int .i64 1, .int .i64 2, .int .i64 3, .int .i64 4, .int .i64 2, .int .i64 3, .int .i64 2, .int .i64 4] 31)).drew.keep p2)))
            have KW := hide (show Grew w7 (w7.alloc (.cells #[.int .i64 1, .int .i64 2, .int .i64 3, .int .i64 4, .int .i64 2, .int .i64 3, .int .i64 2, .int .i64 4] 31)).drew from ((Grew.refl w7).alloc _).drew)
            go_wp2_with fail
            refine wp_region_held_drew (S := fun _ => True) (by kernel_rfl) trivial (fun hHeld => ?_)
            refine' takeH (i := 0) (oi := _) (v := _) ?hi3_0 ?hs3_0 ?hf3_0 ?hr3_0 ?hQ3_0 ?hw3_0 ?hy3_0 trivial ?h3_0
            case hi3_0 => (simp only [List.getElem?_toArray, List.getElem?_cons_zero]; try rfl)
            case hs3_0 => kernel_rfl
            case hf3_0 => kernel_rfl
            case hr3_0 => kernel_rfl
            case hw3_0 => rfl
            case hy3_0 => (intro w hSw; go_simp; try (with_reducible rfl))
            case hQ3_0 => exact fun _ _ _ h => h
            try simp only [Act.put, List.setIfInBounds_toArray, List.set_cons_zero, List.set_cons_succ]
            refine' takeH (i := 1) (oi := _) (v := _) ?hi3_1 ?hs3_1 ?hf3_1 ?hr3_1 ?hQ3_1 ?hw3_1 ?hy3_1 trivial ?h3_1
            case hi3_1 => (simp only [List.getElem?_toArray, List.getElem?_cons_succ, List.getElem?_cons_zero]; try rfl)
            case hs3_1 => kernel_rfl
            case hf3_1 => kernel_rfl
            case hr3_1 => kernel_rfl
            case hw3_1 => rfl
            case hy3_1 => (intro w hSw; go_simp; try (with_reducible rfl))
            case hQ3_1 => exact fun _ _ _ h => h
            try simp only [Act.put, List.setIfInBounds_toArray, List.set_cons_zero, List.set_cons_succ]
            refine' takeH (i := 2) (oi := _) (v := _) ?hi3_2 ?hs3_2 ?hf3_2 ?hr3_2 ?hQ3_2 ?hw3_2 ?hy3_2 trivial ?h3_2
            case hi3_2 => (simp only [List.getElem?_toArray, List.getElem?_cons_succ, List.getElem?_cons_zero]; try rfl)
            case hs3_2 => kernel_rfl
            case hf3_2 => kernel_rfl
            case hr3_2 => kernel_rfl
            case hw3_2 => rfl
            case hy3_2 => (intro w hSw; go_simp; try (with_reducible rfl))
            case hQ3_2 => exact fun _ _ _ h => h
            try simp only [Act.put, List.setIfInBounds_toArray, List.set_cons_zero, List.set_cons_succ]
            refine' skipH (i := 3) (oi := _) ?hi3_3 ?hs3_3 ?hf3_3 ?hr3_3 ?hQ3_3 ?hw3_3 trivial ?h3_3
            case hi3_3 => (simp only [List.getElem?_toArray, List.getElem?_cons_succ, List.getElem?_cons_zero]; try rfl)
            case hs3_3 => kernel_rfl
            case hf3_3 => kernel_rfl
            case hr3_3 => kernel_rfl
            case hw3_3 => rfl
            case hQ3_3 => exact fun _ _ _ h => h
            try simp only [Act.put, List.setIfInBounds_toArray, List.set_cons_zero, List.set_cons_succ]
            refine' skipH (i := 4) (oi := _) ?hi3_4 ?hs3_4 ?hf3_4 ?hr3_4 ?hQ3_4 ?hw3_4 trivial ?h3_4
            case hi3_4 => (simp only [List.getElem?_toArray, List.getElem?_cons_succ, List.getElem?_cons_zero]; try rfl)
            case hs3_4 => kernel_rfl
            case hf3_4 => kernel_rfl
            case hr3_4 => kernel_rfl
            case hw3_4 => rfl
            case hQ3_4 => exact fun _ _ _ h => h
            try simp only [Act.put, List.setIfInBounds_toArray, List.set_cons_zero, List.set_cons_succ]
            refine' skipH (i := 5) (oi := _) ?hi3_5 ?hs3_5 ?hf3_5 ?hr3_5 ?hQ3_5 ?hw3_5 trivial ?h3_5
            case hi3_5 => (simp only [List.getElem?_toArray, List.getElem?_cons_succ, List.getElem?_cons_zero]; try rfl)
            case hs3_5 => kernel_rfl
            case hf3_5 => kernel_rfl
            case hr3_5 => kernel_rfl
            case hw3_5 => rfl
            case hQ3_5 => exact fun _ _ _ h => h
            try simp only [Act.put, List.setIfInBounds_toArray, List.set_cons_zero, List.set_cons_succ]
            refine' skipH (i := 6) (oi := _) ?hi3_6 ?hs3_6 ?hf3_6 ?hr3_6 ?hQ3_6 ?hw3_6 trivial ?h3_6
            case hi3_6 => (simp only [List.getElem?_toArray, List.getElem?_cons_succ, List.getElem?_cons_zero]; try rfl)
            case hs3_6 => kernel_rfl
            case hf3_6 => kernel_rfl
            case hr3_6 => kernel_rfl
            case hw3_6 => rfl
            case hQ3_6 => exact fun _ _ _ h => h
            try simp only [Act.put, List.setIfInBounds_toArray, List.set_cons_zero, List.set_cons_succ]
            refine' skipH (i := 7) (oi := _) ?hi3_7 ?hs3_7 ?hf3_7 ?hr3_7 ?hQ3_7 ?hw3_7 trivial ?h3_7
            case hi3_7 => (simp only [List.getElem?_toArray, List.getElem?_cons_succ, List.getElem?_cons_zero]; try rfl)
            case hs3_7 => kernel_rfl
            case hf3_7 => kernel_rfl
            case hr3_7 => kernel_rfl
            case hw3_7 => rfl
            case hQ3_7 => exact fun _ _ _ h => h
            try simp only [Act.put, List.setIfInBounds_toArray, List.set_cons_zero, List.set_cons_succ]
            refine' skipH (i := 8) (oi := _) ?hi3_8 ?hs3_8 ?hf3_8 ?hr3_8 ?hQ3_8 ?hw3_8 trivial ?h3_8
            case hi3_8 => (simp only [List.getElem?_toArray, List.getElem?_cons_succ, List.getElem?_cons_zero]; try rfl)
            case hs3_8 => kernel_rfl
            case hf3_8 => kernel_rfl
            case hr3_8 => kernel_rfl
            case hw3_8 => rfl
            case hQ3_8 => exact fun _ _ _ h => h
            try simp only [Act.put, List.setIfInBounds_toArray, List.set_cons_zero, List.set_cons_succ]
            refine' takeH (i := 9) (oi := _) (v := _) ?hi3_9 ?hs3_9 ?hf3_9 ?hr3_9 ?hQ3_9 ?hw3_9 ?hy3_9 trivial ?h3_9
            case hi3_9 => (simp only [List.getElem?_toArray, List.getElem?_cons_succ, List.getElem?_cons_zero]; try rfl)
            case hs3_9 => kernel_rfl
            case hf3_9 => kernel_rfl
            case hr3_9 => kernel_rfl
            case hw3_9 => rfl
            case hy3_9 => (intro w hSw; go_simp; try (with_reducible rfl))
            case hQ3_9 => exact fun _ _ _ h => h
            try simp only [Act.put, List.setIfInBounds_toArray, List.set_cons_zero, List.set_cons_succ]
            refine' takeH (i := 10) (oi := _) (v := _) ?hi3_10 ?hs3_10 ?hf3_10 ?hr3_10 ?hQ3_10 ?hw3_10 ?hy3_10 trivial ?h3_10
            case hi3_10 => (simp only [List.getElem?_toArray, List.getElem?_cons_succ, List.getElem?_cons_zero]; try rfl)
            case hs3_10 => kernel_rfl
            case hf3_10 => kernel_rfl
            case hr3_10 => kernel_rfl
            case hw3_10 => rfl
            case hy3_10 => (intro w hSw; go_simp; try (with_reducible rfl))
            case hQ3_10 => exact fun _ _ _ h => h
            try simp only [Act.put, List.setIfInBounds_toArray, List.set_cons_zero, List.set_cons_succ]
            refine' takeH (i := 11) (oi := _) (v := _) ?hi3_11 ?hs3_11 ?hf3_11 ?hr3_11 ?hQ3_11 ?hw3_11 ?hy3_11 trivial ?h3_11
            case hi3_11 => (simp only [List.getElem?_toArray, List.getElem?_cons_succ, List.getElem?_cons_zero]; try rfl)
            case hs3_11 => kernel_rfl
            case hf3_11 => kernel_rfl
            case hr3_11 => kernel_rfl
            case hw3_11 => rfl
            case hy3_11 => (intro w hSw; go_simp; try (with_reducible rfl))
            case hQ3_11 => exact fun _ _ _ h => h
            try simp only [Act.put, List.setIfInBounds_toArray, List.set_cons_zero, List.set_cons_succ]
            refine wpAnyH_ready (rs := [12]) (by kernel_rfl) (by simp) ?_
            refine AllReadyH.cons rfl (fun K hK => ?_) AllReadyH.nil
            go_simp
            go_wp2_with (go_at_call 5; go_fit (implBookOf _ _ [⟨1, 2, 3, 4⟩, ⟨2, 3, 2, 4⟩] _ ((unhide FI).grew (Grew.refl _).drew) (by simp)); rintro r w11 ⟨u11, rfl, a11, g11⟩; rw [unhide HF9] at a11)
            refine hK.out _ _ trivial (fun _ => ?_)
            clear hK K
            try simp only [Act.put, List.setIfInBounds_toArray, List.set_cons_zero, List.set_cons_succ]
            refine wpAnyH_ready (rs := [13]) (by kernel_rfl) (by simp) ?_
            refine AllReadyH.cons rfl (fun K hK => ?_) AllReadyH.nil
            go_simp
            go_wp2_with (go_at_call 9; go_fit (implBookNew _); rintro r w12 ⟨u12, rfl, a12, g12⟩)
            refine hK.out _ _ trivial (fun _ => ?_)
            clear hK K
            try simp only [Act.put, List.setIfInBounds_toArray, List.set_cons_zero, List.set_cons_succ]
            refine wpAnyH_ready (rs := [14]) (by kernel_rfl) (by simp) ?_
            refine AllReadyH.cons rfl (fun K hK => ?_) AllReadyH.nil
            go_simp
            go_wp2_with (go_at_call 6; go_fit (lwInts_v _ (a11.grew g12).num a12.num (by simp) (by simp)); rw [decide_eq_true rfl]; rintro r w13 ⟨rfl, g13⟩)
            refine hK.out _ _ trivial (fun _ => ?_)
            clear hK K
            try simp only [Act.put, List.setIfInBounds_toArray, List.set_cons_zero, List.set_cons_succ]
            refine' takeH (i := 15) (oi := _) (v := _) ?hi3_15 ?hs3_15 ?hf3_15 ?hr3_15 ?hQ3_15 ?hw3_15 ?hy3_15 trivial ?h3_15
            case hi3_15 => (simp only [List.getElem?_toArray, List.getElem?_cons_succ, List.getElem?_cons_zero]; try rfl)
            case hs3_15 => kernel_rfl
            case hf3_15 => kernel_rfl
            case hr3_15 => kernel_rfl
            case hw3_15 => rfl
            case hy3_15 => (intro w hSw; go_simp; try (with_reducible rfl))
            case hQ3_15 => exact fun _ _ _ h => h
            try simp only [Act.put, List.setIfInBounds_toArray, List.set_cons_zero, List.set_cons_succ]
            refine' takeH (i := 16) (oi := _) (v := _) ?hi3_16 ?hs3_16 ?hf3_16 ?hr3_16 ?hQ3_16 ?hw3_16 ?hy3_16 trivial ?h3_16
            case hi3_16 => (simp only [List.getElem?_toArray, List.getElem?_cons_succ, List.getElem?_cons_zero]; try rfl)
            case hs3_16 => kernel_rfl
            case hf3_16 => kernel_rfl
            case hr3_16 => kernel_rfl
            case hw3_16 => rfl
            case hy3_16 => (intro w hSw; go_simp; try (with_reducible rfl))
            case hQ3_16 => exact fun _ _ _ h => h
            try simp only [Act.put, List.setIfInBounds_toArray, List.set_cons_zero, List.set_cons_succ]
            refine wpAnyH_done (by kernel_rfl) ?_ _
            have G13 := hide ((unhide G7).trans ((((unhide KW).trans g11).trans g12).trans g13))
            clear g11 g12 g13
            go_wp2
            go_ret
            exact ⟨rfl, unhide G13⟩
      · have hl0 : l = [] := List.eq_nil_of_length_eq_zero (by omega)
        subst hl0
        clear hlp
        simp only [List.length_nil]
        go_wp2_with fail
        obtain ⟨w5, hw5⟩ : ∃ w5, w5 = w4.alloc (.cells #[.int .i64 2, .int .i64 3, .int .i64 4] 29) := ⟨_, rfl⟩
        rw [← hw5]
        have p0 : w5.cell? ⟨w4.heap.size, 0, none⟩ = some (.int .i64 2) := by rw [hw5]; simp [go_sem]
        have p1 : w5.cell? ⟨w4.heap.size, 1, none⟩ = some (.int .i64 3) := by rw [hw5]; simp [go_sem]
        have p2 : w5.cell? ⟨w4.heap.size, 2, none⟩ = some (.int .i64 4) := by rw [hw5]; simp [go_sem]
        have g45 : Grew w4 w5 := by rw [hw5]; exact (Grew.refl _).alloc _
        have CI5 := hide ((unhide CI).grew g45)
        have NU5 := hide ((unhide NU).grew g45)
        have G5 := hide ((unhide G4).trans g45)
        have HSC := hide (fun (w' : World) (g : Grew w5 w') => And.intro (g.keep p0) (And.intro (g.keep p1) (g.keep p2)))
        have SC := hide (And.intro p0 (And.intro p1 p2))
        have E1 := hide (show OwnL (w5.alloc (.cells #[] 31)).drew w5.heap.size (.slice (some ⟨w5.heap.size, 0, none⟩) 0 0) [] from (OwnL.empty (w := w5) (Nat.le_refl _)).grew (Grew.refl _).drew)
        have E2 := hide (show OwnL ((w5.alloc (.cells #[] 31)).alloc (.cells #[.int .i64 1, .int .i64 2, .int .i64 3, .int .i64 4] 31)).drew w5.heap.size (.slice (some ⟨w5.heap.size, 0, none⟩) 0 0) [] from ((OwnL.empty (w := w5) (Nat.le_refl _)).grew ((Grew.refl _).alloc _)).grew (Grew.refl _).drew)
        have E3 := hide (show OwnL ((w5.alloc (.cells #[.int .i64 1, .int .i64 2, .int .i64 3, .int .i64 4] 31)).alloc (.cells #[] 31)).drew w5.heap.size (.slice (some ⟨w5.heap.size + 1, 0, none⟩) 0 0) [] by
          have := (OwnL.empty (w := w5.alloc (.cells #[.int .i64 1, .int .i64 2, .int .i64 3, .int .i64 4] 31)) (base := w5.heap.size) (by simp)).grew (Grew.refl _).drew
          rw [World.size_alloc] at this
          exact this)
        have K1 := hide (show Grew w5 (w5.alloc (.cells #[] 31)).drew from ((Grew.refl w5).alloc _).drew)
        have K2 := hide (show Grew w5 ((w5.alloc (.cells #[] 31)).alloc (.cells #[.int .i64 1, .int .i64 2, .int .i64 3, .int .i64 4] 31)).drew from (((Grew.refl w5).alloc _).alloc _).drew)
        have K3 := hide (show Grew w5 ((w5.alloc (.cells #[.int .i64 1, .int .i64 2, .int .i64 3, .int .i64 4] 31)).alloc (.cells #[] 31)).drew from (((Grew.refl w5).alloc _).alloc _).drew)
        have K4 := hide (show Grew w5 (w5.alloc (.cells #[.int .i64 1, .int .i64 2, .int .i64 3, .int .i64 4] 31)).drew from ((Grew.refl w5).alloc _).drew)
        have I2 := hide (show Its ((w5.alloc (.cells #[] 31)).alloc (.cells #[.int .i64 1, .int .i64 2, .int .i64 3, .int .i64 4] 31)).drew (some ⟨w5.heap.size + 1, 0, none⟩) [(⟨1, 2, 3, 4⟩ : It)] by
          have := (its_one (w5.alloc (.cells #[] 31)) (⟨1, 2, 3, 4⟩ : It) 31).grew (Grew.refl _).drew
          rw [World.size_alloc] at this
          exact this)
        have I3 := hide (show Its ((w5.alloc (.cells #[.int .i64 1, .int .i64 2, .int .i64 3, .int .i64 4] 31)).alloc (.cells #[] 31)).drew (some ⟨w5.heap.size, 0, none⟩) [(⟨1, 2, 3, 4⟩ : It)] from (its_one w5 (⟨1, 2, 3, 4⟩ : It) 31).grew (((Grew.refl _).alloc _).drew))
        clear p0 p1 p2 g45 hw5
        go_region_held_law (fun w' => w'.cell? ⟨w4.heap.size, 0, none⟩ = some (.int .i64 2) ∧ w'.cell? ⟨w4.heap.size, 1, none⟩ = some (.int .i64 3) ∧ w'.cell? ⟨w4.heap.size, 2, none⟩ = some (.int .i64 4))
          (first | exact unhide HSC _ gg7 | exact unhide HSC _ (gg6.alloc _) | exact unhide HSC _ gg6 | exact unhide HSC _ (unhide K1) | exact unhide HSC _ (unhide K2) | exact unhide HSC _ (unhide K3) | exact unhide HSC _ (unhide K4) | exact unhide SC)
          (first
            | ((with_reducible refine at_cond ?_); refine step_items rfl _ _ rfl w5.heap.size (.slice (some ⟨w5.heap.size, 0, none⟩) 0 0) [] rfl (unhide E2) ⟨w5.heap.size + 1, 0, none⟩ 1 [(⟨1, 2, 3, 4⟩ : It)] 1 rfl rfl (unhide I2) (by simp) (by simp) (unhide K2).size ?_; intro v7 w7 o7 g7; have gg7 : Grew w5 w7 := (unhide K2).grown g7 (fun k hk => by simp [Value.ownBlock] at hk; omega))
            | ((with_reducible refine at_cond ?_); refine step_items rfl _ _ rfl w5.heap.size (.slice (some ⟨w5.heap.size + 1, 0, none⟩) 0 0) [] rfl (unhide E3) ⟨w5.heap.size, 0, none⟩ 1 [(⟨1, 2, 3, 4⟩ : It)] 1 rfl rfl (unhide I3) (by simp) (by simp) (unhide K3).size ?_; intro v7 w7 o7 g7; have gg7 : Grew w5 w7 := (unhide K3).grown g7 (fun k hk => by simp [Value.ownBlock] at hk; omega)))
        all_goals
          replace o7 : OwnL w7 w5.heap.size v7 (([] : List It) ++ [(⟨1, 2, 3, 4⟩ : It)]) := o7
          obtain ⟨Z, hZ⟩ : ∃ Z : List It, ([] : List It) ++ [(⟨1, 2, 3, 4⟩ : It)] = Z := ⟨_, rfl⟩
          rw [hZ] at o7
          have hZ9 : Z.length ≤ 9 := by rw [← hZ]; simp
          have VZ := hide (show bof Z = bpay [x, y, z] 2 3 4 by
            rw [← hZ, unhide HXe]
            exact bof_snoc0 )
          obtain ⟨xb, xc, rfl, hxc, _, _, xi⟩ := o7.shape
          have XI := hide xi
          have SC7 := hide (unhide HSC _ gg7)
          have NU7 := hide ((unhide NU5).grew gg7)
          have G7 := hide ((unhide G5).trans gg7)
          clear o7 gg7 xi hZ E1 E2 E3 K1 K2 K3 K4 I2 I3 HSC SC g7
          try clear g6 gg6 o6
          try clear I6
          obtain ⟨p0, p1, p2⟩ := unhide SC7
          try simp only [List.getElem_toArray, List.getElem_cons_succ, List.getElem_cons_zero, List.setIfInBounds_toArray, List.set_cons_succ, List.set_cons_zero]
          have FI := hide (its_two w7 ⟨1, 2, 3, 4⟩ ⟨2, 3, 2, 4⟩ 31)
          have HF9 := hide fro_nine
          have SC8 := hide (show _ ∧ _ ∧ _ from And.intro (((Grew.refl w7).alloc (.cells #[.int .i64 1, .int .i64 2, .int .i64 3, .int .i64 4, .int .i64 2, .int .i64 3, .int .i64 2, .int .i64 4] 31)).drew.keep p0) (And.intro (((Grew.refl w7).alloc (.cells #[.int .i64 1, .int .i64 2, .int .i64 3, .int .i64 4, .int .i64 2, .int .i64 3, .int .i64 2, .int .i64 4] 31)).drew.keep p1) (((Grew.refl w7).alloc (.cells #[.int .i64 1, .int .i64 2, .int .i64 3, .int .i64 4, .int .i64 2, .int .i64 3, .int .i64 2, .int .i64 4] 31)).drew.keep p2)))
          have KW := hide (show Grew w7 (w7.alloc (.cells #[.int .i64 1, .int .i64 2, .int .i64 3, .int .i64 4, .int .i64 2, .int .i64 3, .int .i64 2, .int .i64 4] 31)).drew from ((Grew.refl w7).alloc _).drew)
          go_wp2_with fail
          go_region_held_law (fun w' => w'.cell? ⟨w4.heap.size, 0, none⟩ = some (.int .i64 2) ∧ w'.cell? ⟨w4.heap.size, 1, none⟩ = some (.int .i64 3) ∧ w'.cell? ⟨w4.heap.size, 2, none⟩ = some (.int .i64 4))
            (first | exact ⟨g13.keep (g12.keep (g11.keep (g10.keep (g9.keep (g8.keep ((unhide SC8).1)))))), g13.keep (g12.keep (g11.keep (g10.keep (g9.keep (g8.keep ((unhide SC8).2.1)))))), g13.keep (g12.keep (g11.keep (g10.keep (g9.keep (g8.keep ((unhide SC8).2.2))))))⟩ | exact ⟨g12.keep (g11.keep (g10.keep (g9.keep (g8.keep ((unhide SC8).1))))), g12.keep (g11.keep (g10.keep (g9.keep (g8.keep ((unhide SC8).2.1))))), g12.keep (g11.keep (g10.keep (g9.keep (g8.keep ((unhide SC8).2.2)))))⟩ | exact ⟨g11.keep (g10.keep (g9.keep (g8.keep ((unhide SC8).1)))), g11.keep (g10.keep (g9.keep (g8.keep ((unhide SC8).2.1)))), g11.keep (g10.keep (g9.keep (g8.keep ((unhide SC8).2.2))))⟩ | exact ⟨g10.keep (g9.keep (g8.keep ((unhide SC8).1))), g10.keep (g9.keep (g8.keep ((unhide SC8).2.1))), g10.keep (g9.keep (g8.keep ((unhide SC8).2.2)))⟩ | exact ⟨g9.keep (g8.keep ((unhide SC8).1)), g9.keep (g8.keep ((unhide SC8).2.1)), g9.keep (g8.keep ((unhide SC8).2.2))⟩ | exact ⟨g8.keep ((unhide SC8).1), g8.keep ((unhide SC8).2.1), g8.keep ((unhide SC8).2.2)⟩ | exact unhide SC8)
            (first
              | (go_at_call 5; go_fit (implBookOf _ _ Z _ ((unhide XI).grew (unhide KW)) (by omega)); rintro r w8 ⟨u8, rfl, a8, g8⟩; rw [unhide VZ] at a8)
              | (go_at_call 8; go_fit (implBookPay_v 2 3 4 _ (((unhide NU7).grew (unhide KW)).grew g8) (by simp)); rintro r w9 ⟨u9, rfl, a9, g9⟩)
              | (go_at_call 6; go_fit (lwInts_v _ (a8.grew g9).num a9.num (Nat.le_trans (bpay_len _ _ _ _) (by omega)) (Nat.le_trans (bpay_len _ _ _ _) (by omega))); rw [decide_eq_true rfl]; rintro r w10 ⟨rfl, g10⟩)
              | (go_at_call 5; go_fit (implBookOf _ _ [⟨1, 2, 3, 4⟩, ⟨2, 3, 2, 4⟩] _ (((((unhide FI).grew (Grew.refl _).drew).grew g8).grew g9).grew g10) (by simp)); rintro r w11 ⟨u11, rfl, a11, g11⟩; rw [unhide HF9] at a11)
              | (go_at_call 9; go_fit (implBookNew _); rintro r w12 ⟨u12, rfl, a12, g12⟩)
              | (go_at_call 6; go_fit (lwInts_v _ (a11.grew g12).num a12.num (by simp) (by simp)); rw [decide_eq_true rfl]; rintro r w13 ⟨rfl, g13⟩)
              | fail)
          have G13 := hide ((unhide G7).trans (((((((unhide KW).trans g8).trans g9).trans g10).trans g11).trans g12).trans g13))
          clear g8 g9 g10 g11 g12 g13
          go_wp2
          go_ret
          exact ⟨rfl, unhide G13⟩
  · have hn1 : decide ((1048576 : Int) < (n : Int)) = true := by simp; omega
    clear hn
    go_enter Try.func3, Try.ntmps3
    go_wp2
    go_ret
    exact ⟨rfl, Grew.refl _⟩

set_option maxRecDepth 100000 in
theorem lifted (os : Os) (started : os.Started) (H : Type) (enc : TypeId × Value → H) :
    ReturnsInHanded {} Try.checked os 3 .any (Rows.fnBookChainSpec.pre6 enc Try.prog Try.f3 Rows.fnBookChainRow.domain false) (Rows.fnBookChainSpec.post enc Try.prog Try.f3 false true false false) := by
  refine returnsInHanded_of_change (C := Try.checked) own started (by kernel_rfl) Try.func3
    (ChangeSpec.witness6 (enc := enc) (C := Try.checked) false ⟨#[], #[.slice none 0 0], []⟩ 8 (by kernel_rfl) (by kernel_rfl) (by kernel_rfl) (by kernel_rfl)) ?_
  intro W base args ds gs before hval0 hW hcnd _
  have hval : ∀ (j : Nat) t v, Try.f3.params[j]? = some t → args[j]? = some v → Value.okWide Try.prog W .any base t v := hval0
  have hW' := hW
  obtain ⟨p, q, hA0, hV, rfl, hfz, hnd⟩ := hW
  have hA : DataW.TrodAll enc Try.prog W 0 (fun _ => true) true Try.f3.params.toList args.toList ds p := hA0
  rw [Try.params3] at hA hval
  obtain ⟨v0, vs0, d0, ds0, p0, q0, hargs, rfl, rfl, h0, r0⟩ := trodAll_cons hA
  obtain ⟨rfl, rfl, rfl⟩ := trodAll_nil r0
  obtain rfl : args = #[v0] := by cases args; simp_all
  obtain ⟨rfl, rfl⟩ := trodVars_none hV
  have k0 := h0
  have lt0 : ∀ x ∈ p0, x.block < W.heap.size := by obtain ⟨m, hm⟩ := k0; exact DataW.trod_lt m _ _ _ hm
  obtain ⟨a0, len0, cap0, rfl⟩ := okWide_slice Try.underlying22 (hval 0 22 v0 rfl rfl)
  obtain ⟨fuel0, hf0⟩ := h0
  obtain ⟨hb0, hc0⟩ := open_bytes hf0
  clear hA0 hval0
  refine (walk a0 len0 cap0 W hb0 hc0).mono fun e W' ⟨he, bel⟩ => ?_
  subst he
  exact ⟨_, rfl, _, _, _, [], _, [], hW', trodAll_mk1 (shut_bool Try.underlying4 _), (trodAll_cons_mk (Below.trod laidOut (by kernel_rfl) (of_decide_eq_true (by kernel_rfl)) k0 bel.below lt0) trodAll_mk0), rfl, bel.below.frame _, fun h => by cases h⟩

theorem over : Rows.fnBookChainRow.holds Try.pinned (OpenSpec.ofChange Rows.fnBookChainSpec) :=
  OpenClaim.holds_of_wide 3 Try.f3 rfl rfl rfl rfl rfl rfl rfl ⟨rfl, rfl, rfl, rfl, rfl⟩ rfl rfl rfl rfl rfl (by kernel_rfl) Try.func3 (by kernel_rfl)
    (of_decide_eq_true (by kernel_rfl)) (by unfold Func.isWrapper; first | (rw [if_pos (by decide +kernel)]; kernel_rfl) | (rw [if_neg (by decide +kernel)]; exact ⟨rfl, rfl⟩))
    (fun os started H enc _ => lifted os started H enc)
end Go.Proofs.Ytpflkbmmkcaocaa.FnBookChain
namespace Go.Proofs.Ytpflkbmmkcaocaa
theorem fnBookChain_holds : Rows.FnBookChainSaid := FnBookChain.over
#print axioms fnBookChain_holds
end Go.Proofs.Ytpflkbmmkcaocaa
