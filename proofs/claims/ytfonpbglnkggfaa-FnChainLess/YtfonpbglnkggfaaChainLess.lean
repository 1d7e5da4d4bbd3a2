/-
  FnChainLess returns true at every two rows of bytes and leaves its arguments as they were: what the statement says; no condition.
-/
import Derived.Test.YtfonpbglnkggfaaDrawP
import Derived.Test.YtfonpbglnkggfaaOpen
import Derived.Test.YtfonpbglnkggfaaSame
import Derived.Test.YtfonpbglnkggfaaAppR
import Derived.Lib.SmallJoins
import Derived.JoinedOf
import Derived.JoinedAt
import Derived.RowKit3
import Derived.Deep.RegionHeld3
import Derived.Deep.DeepFit
namespace Go.Proofs.Ytfonpbglnkggfaa.FnChainLess
set_option linter.unusedVariables false
open Go.ChangeShapes Go.WideShapes Go.ChangeAt Go.RowKit Go.Joins
attribute [local simp] far_const

theorem endE_last (l : List It) (h : 0 < l.length) : endE 0 l = (l[l.length - 1]'(by omega)).e := by
  have := endE_take l (l.length - 1) (by omega)
  rwa [show l.length - 1 + 1 = l.length by omega, List.take_length] at this
theorem goB_end (l : List It) : ∀ last, 0 ≤ last → last ≤ 30 → goB last l = true → last ≤ endE last l ∧ endE last l ≤ 30 := by
  induction l with
  | nil => intro last h0 h1 _; exact ⟨Int.le_refl _, h1⟩
  | cons y r ih =>
    intro last h0 h1 h
    simp only [goB, stepB, Bool.and_eq_true, decide_eq_true_eq] at h
    have := ih y.e (by omega) h.1.1.2 h.2
    exact ⟨by simp only [endE]; omega, this.2⟩
theorem okB_end {l : List It} (h : okB l = true) : 0 ≤ endE 0 l ∧ endE 0 l ≤ 30 := by
  simp only [okB, Bool.and_eq_true] at h
  exact goB_end l 0 (by omega) (by omega) h.2
theorem okB_snoc {l : List It} (h : okB l = true) (hl : l.length ≤ 8) (e : Int) (he : endE 0 l < e) : okB (l ++ [⟨e, 1, 3, 2⟩]) = decide (e ≤ 30) := by
  simp only [okB, Bool.and_eq_true, decide_eq_true_eq] at h
  unfold okB
  rw [goB_snoc, h.2, List.length_append, List.length_singleton, decide_eq_true (by omega)]
  simp only [Bool.true_and, stepB]
  rw [decide_eq_true he]
  show (true && decide (e ≤ 30) && payB 1 3 2) = _
  have : payB 1 3 2 = true := by decide
  rw [this, Bool.and_true, Bool.true_and]
theorem inC_snoc {l : List It} (h : okB l = true) (x : It) : inC l (l ++ [x]) = okB (l ++ [x]) := by
  unfold inC
  rw [h, (shareN_all l (l ++ [x])).2 ⟨[x], rfl⟩]
  simp
theorem inC_longer {l m : List It} (h : m.length < l.length) : inC l m = false := by
  unfold inC
  have := (shareN_le l m).2
  rw [decide_eq_false (show ¬ shareN l m = l.length by omega), Bool.and_false]

theorem endE_all (l : List It) : ∀ last, 0 ≤ last → goB last l = true → ∀ k (h : k < l.length), l[k].e ≤ endE last l := by
  induction l with
  | nil => intro last _ _ k h; exact absurd h (Nat.not_lt_zero _)
  | cons y r ih =>
    intro last h0 h k hk
    simp only [goB, stepB, Bool.and_eq_true, decide_eq_true_eq] at h
    cases k with
    | zero => exact (endE_low r y.e (by omega) h.2).1
    | succ k => exact ih y.e (by omega) h.2 k (by simpa using hk)
theorem okB_twice {l : List It} (h : okB l = true) (k : Nat) (hk : k < l.length) : okB (l ++ [⟨l[k].e, l[k].f, l[k].t, l[k].s⟩]) = false := by
  simp only [okB, Bool.and_eq_true, decide_eq_true_eq] at h
  unfold okB
  rw [goB_snoc, step_le (endE 0 l) _ (endE_all l 0 (by omega) h.2 k hk), Bool.and_false, Bool.and_false]
theorem inC_take {l : List It} (h : okB l = true) (k : Nat) : inC (l.take k) l = true := (inC_iff _ _).2 ⟨okB_take h k, h, l.drop k, (List.take_append_drop k l).symm⟩

set_option maxHeartbeats 2000000 in
theorem walk (a : Option Addr) (n cap : Nat) (b2 : Option Addr) (m cap2 : Nat) (w : World) (hb : Byt w a w.heap.size n) (hc : n ≤ cap) (hb2 : Byt w b2 w.heap.size m) (hc2 : m ≤ cap2) :
    Calls Try.prog 4 #[.slice a n cap, .slice b2 m cap2] w fun e w' => e = .returned (.bool true) ∧ Grew w w' := by
  by_cases hn : n ≤ 1048576
  · have hn1 : decide ((1048576 : Int) < (n : Int)) = false := by simp; omega
    by_cases hm : m ≤ 1048576
    · have hm1 : decide ((1048576 : Int) < (m : Int)) = false := by simp; omega
      go_enter Try.func4, Try.ntmps4
      go_wp2_with fail
      refine (drawChainOk_any a n cap _ hb hc hn).mono ?_
      rintro e w1 ⟨cb, cc, l, rfl, hcc, ci, hl, g1⟩
      have CI := hide ci
      have G1 := hide g1
      clear ci g1
      go_wp2_with fail
      refine (implChainOk _ _ l _ (unhide CI) (by omega)).mono ?_
      rintro e w2 ⟨rfl, g2⟩
      have CI := hide ((unhide CI).grew g2)
      have G2 := hide ((unhide G1).trans g2)
      clear g2 G1
      go_wp2_with fail
      refine (specChainOk _ _ l _ (unhide CI) (by omega)).mono ?_
      rintro e w3 ⟨rfl, g3⟩
      have CI := hide ((unhide CI).grew g3)
      have G3 := hide ((unhide G2).trans g3)
      clear g3 G2
      cases hok : okB l with
      | false =>
        go_wp2_with fail
        refine (specChainOk _ _ l _ (unhide CI) (by omega)).mono ?_
        rintro e w4 ⟨rfl, g4⟩
        rw [hok]
        have G4 := hide ((unhide G3).trans g4)
        clear g4 G3
        go_wp2
        go_ret
        exact ⟨rfl, unhide G4⟩
      | true =>
        have HOK := hide hok
        clear hok
        by_cases hl0 : l.length = 0
        · have hl0' : ((l.length : Int) == 0) = true := by simp [hl0]
          clear hl0
          go_wp2_with fail
          refine (specChainOk _ _ l _ (unhide CI) (by omega)).mono ?_
          rintro e w4 ⟨rfl, g4⟩
          rw [unhide HOK]
          have G4 := hide ((unhide G3).trans g4)
          clear g4 G3
          go_wp2
          go_ret
          exact ⟨rfl, unhide G4⟩
        · have hl0' : ((l.length : Int) == 0) = false := by simpa using hl0
          have hlp : 0 < l.length := by omega
          clear hl0
          have hk0 := Int.emod_nonneg (m : Int) (show (l.length : Int) ≠ 0 by omega)
          have hk1 := Int.emod_lt_of_pos (m : Int) (show (0 : Int) < (l.length : Int) by omega)
          obtain ⟨k, hk⟩ := Int.eq_ofNat_of_zero_le hk0
          rw [hk] at hk0 hk1
          have hkl : k < l.length := by omega
          have hkl' : (k : Int) < (l.length : Int) := by omega
          have hkc : k ≤ cc := by omega
          obtain ⟨b, off, hbo, hat⟩ := (unhide CI).at hkl
          simp only [Option.some.injEq, Addr.mk.injEq, and_true] at hbo
          obtain ⟨rfl, rfl⟩ := hbo
          rw [Nat.zero_add] at hat
          obtain ⟨c0, c1, c2, c3⟩ := hat
          have hcb : cb < w3.heap.size := World.block_lt_of_cell? w3 _ c0
          have SC := hide (And.intro c0 (And.intro c1 (And.intro c2 c3)))
          have HSC := hide (fun (w' : World) (g : Grew w3 w') => And.intro (g.keep c0) (And.intro (g.keep c1) (And.intro (g.keep c2) (g.keep c3))))
          have E1 := hide (show OwnL (w3.alloc (.cells #[] 32)).drew w3.heap.size (.slice (some ⟨w3.heap.size, 0, none⟩) 0 0) [] from (OwnL.empty (w := w3) (Nat.le_refl _)).grew (Grew.refl _).drew)
          have E2 := hide (show OwnL ((w3.alloc (.cells #[] 32)).alloc (.cells #[.int .i64 l[k].e, .int .i64 l[k].f, .int .i64 l[k].t, .int .i64 l[k].s] 32)).drew w3.heap.size (.slice (some ⟨w3.heap.size, 0, none⟩) 0 0) [] from ((OwnL.empty (w := w3) (Nat.le_refl _)).grew ((Grew.refl _).alloc _)).grew (Grew.refl _).drew)
          have E3 := hide (show OwnL ((w3.alloc (.cells #[.int .i64 l[k].e, .int .i64 l[k].f, .int .i64 l[k].t, .int .i64 l[k].s] 32)).alloc (.cells #[] 32)).drew w3.heap.size (.slice (some ⟨w3.heap.size + 1, 0, none⟩) 0 0) [] by
            have := (OwnL.empty (w := w3.alloc (.cells #[.int .i64 l[k].e, .int .i64 l[k].f, .int .i64 l[k].t, .int .i64 l[k].s] 32)) (base := w3.heap.size) (by simp)).grew (Grew.refl _).drew
            rw [World.size_alloc] at this
            exact this)
          have K1 := hide (show Grew w3 (w3.alloc (.cells #[] 32)).drew from ((Grew.refl w3).alloc _).drew)
          have K2 := hide (show Grew w3 ((w3.alloc (.cells #[] 32)).alloc (.cells #[.int .i64 l[k].e, .int .i64 l[k].f, .int .i64 l[k].t, .int .i64 l[k].s] 32)).drew from (((Grew.refl w3).alloc _).alloc _).drew)
          have K3 := hide (show Grew w3 ((w3.alloc (.cells #[.int .i64 l[k].e, .int .i64 l[k].f, .int .i64 l[k].t, .int .i64 l[k].s] 32)).alloc (.cells #[] 32)).drew from (((Grew.refl w3).alloc _).alloc _).drew)
          have K4 := hide (show Grew w3 (w3.alloc (.cells #[.int .i64 l[k].e, .int .i64 l[k].f, .int .i64 l[k].t, .int .i64 l[k].s] 32)).drew from ((Grew.refl w3).alloc _).drew)
          have I2 := hide (show Its ((w3.alloc (.cells #[] 32)).alloc (.cells #[.int .i64 l[k].e, .int .i64 l[k].f, .int .i64 l[k].t, .int .i64 l[k].s] 32)).drew (some ⟨w3.heap.size + 1, 0, none⟩) [(⟨l[k].e, l[k].f, l[k].t, l[k].s⟩ : It)] by
            have := (its_one (w3.alloc (.cells #[] 32)) ⟨l[k].e, l[k].f, l[k].t, l[k].s⟩ 32).grew (Grew.refl _).drew
            rw [World.size_alloc] at this
            exact this)
          have I3 := hide (show Its ((w3.alloc (.cells #[.int .i64 l[k].e, .int .i64 l[k].f, .int .i64 l[k].t, .int .i64 l[k].s] 32)).alloc (.cells #[] 32)).drew (some ⟨w3.heap.size, 0, none⟩) [(⟨l[k].e, l[k].f, l[k].t, l[k].s⟩ : It)] from (its_one w3 ⟨l[k].e, l[k].f, l[k].t, l[k].s⟩ 32).grew (((Grew.refl _).alloc _).drew))
          clear c0 c1 c2 c3
          go_wp2_with fail
          go_region_held3 (fun w' => w'.cell? ⟨cb, k * 4, none⟩ = some (.int .i64 l[k].e) ∧ w'.cell? ⟨cb, k * 4 + 1, none⟩ = some (.int .i64 l[k].f) ∧ w'.cell? ⟨cb, k * 4 + 2, none⟩ = some (.int .i64 l[k].t) ∧ w'.cell? ⟨cb, k * 4 + 3, none⟩ = some (.int .i64 l[k].s))
            (first | exact unhide HSC _ gg5 | exact unhide HSC _ (gg4.alloc _) | exact unhide HSC _ gg4 | exact unhide HSC _ (unhide K1) | exact unhide HSC _ (unhide K2) | exact unhide HSC _ (unhide K3) | exact unhide HSC _ (unhide K4) | exact unhide SC)
            (first
              | (with_reducible refine at_cond ?_; refine step_items rfl _ _ rfl w3.heap.size (.slice (some ⟨w3.heap.size, 0, none⟩) 0 0) [] rfl (unhide E1) ⟨cb, 0, none⟩ cc l l.length rfl rfl ((unhide CI).grew (unhide K1)) hlp (by simp; omega) (unhide K1).size ?_; intro v4 w4 o4 g4; rw [List.nil_append] at o4; have gg4 : Grew w3 w4 := (unhide K1).grown g4 (fun k hk => by simp [Value.ownBlock] at hk; omega))
              | (with_reducible refine at_cond ?_; refine step_items rfl _ _ rfl w3.heap.size (.slice (some ⟨w3.heap.size, 0, none⟩) 0 0) [] rfl (unhide E2) ⟨cb, 0, none⟩ cc l l.length rfl rfl ((unhide CI).grew (unhide K2)) hlp (by simp; omega) (unhide K2).size ?_; intro v4 w4 o4 g4; rw [List.nil_append] at o4; have gg4 : Grew w3 w4 := (unhide K2).grown g4 (fun k hk => by simp [Value.ownBlock] at hk; omega); have I4 := (unhide I2).grown g4 (by simp [Value.ownBlock]))
              | (with_reducible refine at_cond ?_; refine step_items rfl _ _ rfl w3.heap.size (.slice (some ⟨w3.heap.size + 1, 0, none⟩) 0 0) [] rfl (unhide E3) ⟨cb, 0, none⟩ cc l l.length rfl rfl ((unhide CI).grew (unhide K3)) hlp (by simp; omega) (unhide K3).size ?_; intro v4 w4 o4 g4; rw [List.nil_append] at o4; have gg4 : Grew w3 w4 := (unhide K3).grown g4 (fun k hk => by simp [Value.ownBlock] at hk; omega); have I4 := (unhide I3).grown g4 (by simp [Value.ownBlock]))
              | (with_reducible refine at_cond ?_; refine step_items rfl _ _ rfl w3.heap.size v4 l rfl (o4.grew ((Grew.refl _).alloc _)) ⟨w4.heap.size, 0, none⟩ 1 [(⟨l[k].e, l[k].f, l[k].t, l[k].s⟩ : It)] 1 rfl rfl (its_one _ _ _) (by simp) (by simp; omega) (gg4.alloc _).size ?_; intro v5 w5 o5 g5; have gg5 : Grew w3 w5 := (gg4.alloc _).grown g5 (fun k hk => (o4.block k hk).1))
              | (with_reducible refine at_cond ?_; refine step_items rfl _ _ rfl w3.heap.size v4 l rfl o4 ⟨w3.heap.size + 1, 0, none⟩ 1 [(⟨l[k].e, l[k].f, l[k].t, l[k].s⟩ : It)] 1 rfl rfl I4 (by simp) (by simp; omega) gg4.size ?_; intro v5 w5 o5 g5; have gg5 : Grew w3 w5 := gg4.grown g5 (fun k hk => (o4.block k hk).1))
              | (with_reducible refine at_cond ?_; refine step_items rfl _ _ rfl w3.heap.size v4 l rfl o4 ⟨w3.heap.size, 0, none⟩ 1 [(⟨l[k].e, l[k].f, l[k].t, l[k].s⟩ : It)] 1 rfl rfl I4 (by simp) (by simp; omega) gg4.size ?_; intro v5 w5 o5 g5; have gg5 : Grew w3 w5 := gg4.grown g5 (fun k hk => (o4.block k hk).1)))
          all_goals
            replace o5 : OwnL w5 w3.heap.size v5 (l ++ [(⟨l[k].e, l[k].f, l[k].t, l[k].s⟩ : It)]) := o5
            obtain ⟨X, hX⟩ : ∃ X : List It, l ++ [(⟨l[k].e, l[k].f, l[k].t, l[k].s⟩ : It)] = X := ⟨_, rfl⟩
            rw [hX] at o5
            have hX9 : X.length ≤ 9 := by rw [← hX]; simp; omega
            have V1 := hide (show okB X = false by rw [← hX]; exact okB_twice (unhide HOK) k hkl)
            obtain ⟨xb, xc, rfl, hxc, _, _, xi⟩ := o5.shape
            have XI := hide xi
            have CI5 := hide ((unhide CI).grew gg5)
            have CT5 := hide (((unhide CI).grew gg5).take k)
            have G5 := hide ((unhide G3).trans gg5)
            have HTL := hide (show (l.take k).length = k by rw [List.length_take]; omega)
            have VT := hide (okB_take (unhide HOK) k)
            have VI := hide (inC_take (unhide HOK) k)
            have VL := hide (show inC l (l.take k) = false from inC_longer (by rw [unhide HTL]; exact hkl))
            clear o5 gg5 gg4 o4 xi hX E1 E2 E3 K1 K2 K3 K4 I2 I3 HSC SC
            try clear I4
            clear g4 g5
            try simp only [List.getElem_toArray, List.getElem_cons_succ, List.getElem_cons_zero, List.setIfInBounds_toArray, List.set_cons_succ, List.set_cons_zero]
            go_wp2_with fail
            have hck := implChainOk (some ⟨cb, 0, none⟩) cc (l.take k) w5 (unhide CT5) (by rw [unhide HTL]; omega)
            rw [unhide HTL] at hck
            refine hck.mono ?_
            clear hck
            rintro e w6 ⟨rfl, g6⟩
            rw [unhide VT]
            have XI := hide ((unhide XI).grew g6)
            have CI6 := hide ((unhide CI5).grew g6)
            have CT6 := hide ((unhide CT5).grew g6)
            have G6 := hide ((unhide G5).trans g6)
            clear g6
            go_wp2_with fail
            refine (implChainIn_n _ _ _ _ (l.take k) l _ (unhide CT6) (unhide CI6) k l.length (unhide HTL) rfl (by omega) (by omega)).mono ?_
            rintro e w7 ⟨rfl, g7⟩
            rw [unhide VI]
            have XI := hide ((unhide XI).grew g7)
            have CI7 := hide ((unhide CI6).grew g7)
            have CT7 := hide ((unhide CT6).grew g7)
            have G7 := hide ((unhide G6).trans g7)
            clear g7
            go_wp2_with fail
            refine (implChainOk _ _ X _ (unhide XI) (by omega)).mono ?_
            rintro e w8 ⟨rfl, g8⟩
            rw [unhide V1]
            have CI8 := hide ((unhide CI7).grew g8)
            have CT8 := hide ((unhide CT7).grew g8)
            have G8 := hide ((unhide G7).trans g8)
            clear g8
            go_wp2_with fail
            refine (implChainIn_n _ _ _ _ l (l.take k) _ (unhide CI8) (unhide CT8) l.length k rfl (unhide HTL) (by omega) (by omega)).mono ?_
            rintro e w9 ⟨rfl, g9⟩
            rw [unhide VL]
            have G9 := hide ((unhide G8).trans g9)
            clear g9
            go_wp2
            go_ret
            exact ⟨rfl, unhide G9⟩
    · have hm1 : decide ((1048576 : Int) < (m : Int)) = true := by simp; omega
      clear hm
      go_enter Try.func4, Try.ntmps4
      go_wp2
      go_ret
      exact ⟨rfl, Grew.refl _⟩
  · have hn1 : decide ((1048576 : Int) < (n : Int)) = true := by simp; omega
    clear hn
    go_enter Try.func4, Try.ntmps4
    go_wp2
    go_ret
    exact ⟨rfl, Grew.refl _⟩

set_option maxRecDepth 100000 in
theorem lifted (os : Os) (started : os.Started) (H : Type) (enc : TypeId × Value → H) :
    ReturnsInHanded {} Try.checked os 4 .any (Rows.fnChainLessSpec.pre6 enc Try.prog Try.f4 Rows.fnChainLessRow.domain false) (Rows.fnChainLessSpec.post enc Try.prog Try.f4 false true false false) := by
  refine returnsInHanded_of_change (C := Try.checked) own started (by kernel_rfl) Try.func4
    (ChangeSpec.witness6 (enc := enc) (C := Try.checked) false ⟨#[], #[.slice none 0 0, .slice none 0 0], []⟩ 8 (by kernel_rfl) (by kernel_rfl) (by kernel_rfl) (by kernel_rfl)) ?_
  intro W base args ds gs before hval0 hW hcnd _
  have hval : ∀ (j : Nat) t v, Try.f4.params[j]? = some t → args[j]? = some v → Value.okWide Try.prog W .any base t v := hval0
  have hW' := hW
  obtain ⟨p, q, hA0, hV, rfl, hfz, hnd⟩ := hW
  have hA : DataW.TrodAll enc Try.prog W 0 (fun _ => true) true Try.f4.params.toList args.toList ds p := hA0
  rw [Try.params4] at hA hval
  obtain ⟨v0, vs0, d0, ds0, p0, q0, hargs, rfl, rfl, h0, r0⟩ := trodAll_cons hA
  obtain ⟨v1, vs1, d1, ds1, p1, q1, rfl, rfl, rfl, h1, r1⟩ := trodAll_cons r0
  obtain ⟨rfl, rfl, rfl⟩ := trodAll_nil r1
  obtain rfl : args = #[v0, v1] := by cases args; simp_all
  obtain ⟨rfl, rfl⟩ := trodVars_none hV
  have k0 := h0
  have lt0 : ∀ x ∈ p0, x.block < W.heap.size := by obtain ⟨m, hm⟩ := k0; exact DataW.trod_lt m _ _ _ hm
  obtain ⟨a0, len0, cap0, rfl⟩ := okWide_slice Try.underlying22 (hval 0 22 v0 rfl rfl)
  obtain ⟨fuel0, hf0⟩ := h0
  obtain ⟨hb0, hc0⟩ := open_bytes hf0
  have k1 := h1
  have lt1 : ∀ x ∈ p1, x.block < W.heap.size := by obtain ⟨m, hm⟩ := k1; exact DataW.trod_lt m _ _ _ hm
  obtain ⟨a1, len1, cap1, rfl⟩ := okWide_slice Try.underlying22 (hval 1 22 v1 rfl rfl)
  obtain ⟨fuel1, hf1⟩ := h1
  obtain ⟨hb1, hc1⟩ := open_bytes hf1
  clear hA0 hval0
  refine (walk a0 len0 cap0 a1 len1 cap1 W hb0 hc0 hb1 hc1).mono fun e W' ⟨he, bel⟩ => ?_
  subst he
  exact ⟨_, rfl, _, _, _, [], _, [], hW', trodAll_mk1 (shut_bool Try.underlying4 _), (trodAll_cons_mk (Below.trod laidOut (by kernel_rfl) (of_decide_eq_true (by kernel_rfl)) k0 bel.below lt0) (trodAll_cons_mk (Below.trod laidOut (by kernel_rfl) (of_decide_eq_true (by kernel_rfl)) k1 bel.below lt1) trodAll_mk0)), rfl, bel.below.frame _, fun h => by cases h⟩

theorem over : Rows.fnChainLessRow.holds Try.pinned (OpenSpec.ofChange Rows.fnChainLessSpec) :=
  OpenClaim.holds_of_wide 4 Try.f4 rfl rfl rfl rfl rfl rfl rfl ⟨rfl, rfl, rfl, rfl, rfl⟩ rfl rfl rfl rfl rfl (by kernel_rfl) Try.func4 (by kernel_rfl)
    (of_decide_eq_true (by kernel_rfl)) (by unfold Func.isWrapper; first | (rw [if_pos (by decide +kernel)]; kernel_rfl) | (rw [if_neg (by decide +kernel)]; exact ⟨rfl, rfl⟩))
    (fun os started H enc _ => lifted os started H enc)
end Go.Proofs.Ytfonpbglnkggfaa.FnChainLess
namespace Go.Proofs.Ytfonpbglnkggfaa
theorem fnChainLess_holds : Rows.FnChainLessSaid := FnChainLess.over
#print axioms fnChainLess_holds
end Go.Proofs.Ytfonpbglnkggfaa
