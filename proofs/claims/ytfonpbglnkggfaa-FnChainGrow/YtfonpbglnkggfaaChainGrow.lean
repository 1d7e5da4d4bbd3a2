/-
  FnChainGrow returns true at every two rows of bytes and leaves its arguments as they were: what the statement says; no condition.
-/
import Derived.Test.YtfonpbglnkggfaaDrawP
import Derived.Test.YtfonpbglnkggfaaOpen
import Derived.Test.YtfonpbglnkggfaaSame
import Derived.Lib.SmallJoins
import Derived.JoinedOf
import Derived.JoinedAt
import Derived.RowKit3
import Derived.Deep.RegionHeld3
import Derived.Deep.DeepFit
namespace Go.Proofs.Ytfonpbglnkggfaa.FnChainGrow
set_option linter.unusedVariables false
open Go.ChangeShapes Go.WideShapes Go.ChangeAt Go.RowKit Go.Joins
attribute [local simp] far_const

theorem endE_last (l : List It) (h : 0 < l.length) : endE 0 l = (l[l.length - 1]'(by omega)).e := by
  have := endE_take l (l.length - 1) (by omega)
  rwa [show l.length - 1 + 1 = l.length by omega, List.take_length] at this
theorem goB_end (l : List It) : ∀ last, 0 ≤ last → last ≤ 30 → goB last l = true → last ≤ endE last l ∧ endE last l ≤ 30 := by
  induction l with
  | nil => intro last h0 h1 _; exact ⟨Int.le_refl _, h1⟩
  | cons y r ih =>
    intro last h0 h1 h
    simp only [goB, stepB, Bool.and_eq_true, decide_eq_true_eq] at h
    have := ih y.e (by omega) h.1.1.2 h.2
    exact ⟨by simp only [endE]; omega, this.2⟩
theorem okB_end {l : List It} (h : okB l = true) : 0 ≤ endE 0 l ∧ endE 0 l ≤ 30 := by
  simp only [okB, Bool.and_eq_true] at h
  exact goB_end l 0 (by omega) (by omega) h.2
theorem okB_snoc {l : List It} (h : okB l = true) (hl : l.length ≤ 8) (e : Int) (he : endE 0 l < e) : okB (l ++ [⟨e, 1, 3, 2⟩]) = decide (e ≤ 30) := by
  simp only [okB, Bool.and_eq_true, decide_eq_true_eq] at h
  unfold okB
  rw [goB_snoc, h.2, List.length_append, List.length_singleton, decide_eq_true (by omega)]
  simp only [Bool.true_and, stepB]
  rw [decide_eq_true he]
  show (true && decide (e ≤ 30) && payB 1 3 2) = _
  have : payB 1 3 2 = true := by decide
  rw [this, Bool.and_true, Bool.true_and]
theorem inC_snoc {l : List It} (h : okB l = true) (x : It) : inC l (l ++ [x]) = okB (l ++ [x]) := by
  unfold inC
  rw [h, (shareN_all l (l ++ [x])).2 ⟨[x], rfl⟩]
  simp
theorem inC_longer {l m : List It} (h : m.length < l.length) : inC l m = false := by
  unfold inC
  have := (shareN_le l m).2
  rw [decide_eq_false (show ¬ shareN l m = l.length by omega), Bool.and_false]

set_option maxHeartbeats 2000000 in
theorem walk (a : Option Addr) (n cap : Nat) (b2 : Option Addr) (m cap2 : Nat) (w : World) (hb : Byt w a w.heap.size n) (hc : n ≤ cap) (hb2 : Byt w b2 w.heap.size m) (hc2 : m ≤ cap2) :
    Calls Try.prog 6 #[.slice a n cap, .slice b2 m cap2] w fun e w' => e = .returned (.bool true) ∧ Grew w w' := by
  by_cases hn : n ≤ 1048576
  · have hn1 : decide ((1048576 : Int) < (n : Int)) = false := by simp; omega
    by_cases hm : m ≤ 1048576
    · have hm1 : decide ((1048576 : Int) < (m : Int)) = false := by simp; omega
      go_enter Try.func6, Try.ntmps6
      go_wp2_with fail
      refine (drawChainOk_any a n cap _ hb hc hn).mono ?_
      rintro e w1 ⟨cb, cc, l, rfl, hcc, ci, hl, g1⟩
      have CI := hide ci
      have G1 := hide g1
      clear ci g1
      go_wp2_with fail
      refine (implChainOk _ _ l _ (unhide CI) (by omega)).mono ?_
      rintro e w2 ⟨rfl, g2⟩
      have CI := hide ((unhide CI).grew g2)
      have G2 := hide ((unhide G1).trans g2)
      clear g2 G1
      go_wp2_with fail
      refine (specChainOk _ _ l _ (unhide CI) (by omega)).mono ?_
      rintro e w3 ⟨rfl, g3⟩
      have CI := hide ((unhide CI).grew g3)
      have G3 := hide ((unhide G2).trans g3)
      clear g3 G2
      cases hok : okB l with
      | false =>
        go_wp2_with fail
        refine (specChainOk _ _ l _ (unhide CI) (by omega)).mono ?_
        rintro e w4 ⟨rfl, g4⟩
        rw [hok]
        have G4 := hide ((unhide G3).trans g4)
        clear g4 G3
        go_wp2
        go_ret
        exact ⟨rfl, unhide G4⟩
      | true =>
        have HOK := hide hok
        clear hok
        obtain ⟨he0, he1⟩ := okB_end (unhide HOK)
        have hr0 := Int.emod_nonneg (m : Int) (show (3 : Int) ≠ 0 by omega)
        have hr1 := Int.emod_lt_of_pos (m : Int) (show (0 : Int) < 3 by omega)
        by_cases hl0 : 0 < l.length
        · obtain ⟨b, off, hbo, hat⟩ := (unhide CI).at (i := l.length - 1) (by omega)
          simp only [Option.some.injEq, Addr.mk.injEq, and_true] at hbo
          obtain ⟨rfl, rfl⟩ := hbo
          rw [Nat.zero_add] at hat
          have c0 := hat.1
          have hE := endE_last l hl0
          obtain ⟨E, hEE⟩ : ∃ E, E = endE 0 l := ⟨_, rfl⟩
          rw [← hE, ← hEE] at c0
          rw [← hEE] at he0 he1
          have HEND := hide (show endE 0 l < E + 1 + (m : Int) % 3 by rw [← hEE]; omega)
          clear hat hE hEE
          by_cases hle : E + 1 + (m : Int) % 3 ≤ 30
          · have E0 := hide (OwnL.empty (w := w3) (Nat.le_refl _))
            have CI4 := hide ((unhide CI).grew ((Grew.refl w3).alloc (.cells #[] 32)))
            go_wp2_with (first | (at_builtin; refine wpList_items rfl _ _ rfl w3.heap.size _ [] rfl (unhide E0) ⟨cb, 0, none⟩ cc l l.length rfl rfl (unhide CI4) (by simp; omega) (by simp) ?_))
            intro v4 w4 o4 g4
            replace o4 : OwnL w4 w3.heap.size v4 l := o4
            have gg4 := ((Grew.refl w3).alloc (.cells #[] 32)).grown g4 (fun k hk => by simp [Value.ownBlock] at hk; omega)
            have O4 := hide o4
            have GG4 := hide gg4
            have hbl := hide (fun k (hk : v4.ownBlock = some k) => (o4.block k hk).1)
            have hsz : w3.heap.size ≤ w4.heap.size := gg4.size
            clear o4 g4 gg4 E0 CI4
            go_wp2_with (first | (at_builtin; refine wpList_items rfl _ _ rfl w3.heap.size _ l rfl ((unhide O4).grew ((Grew.refl _).alloc _)) ⟨w4.heap.size, 0, none⟩ 1 [(⟨E + 1 + (m : Int) % 3, 1, 3, 2⟩ : It)] 1 rfl rfl (its_one _ _ _) (by simp; omega) (by simp; omega) ?_))
            intro v5 w5 o5 g5
            obtain ⟨X, hX⟩ : ∃ X : List It, l ++ [(⟨E + 1 + (m : Int) % 3, 1, 3, 2⟩ : It)] = X := ⟨_, rfl⟩
            rw [hX] at o5
            have HLX := hide (show X.length = l.length + 1 by rw [← hX]; simp)
            have HX := hide hX
            have hX9 : X.length ≤ 9 := by rw [unhide HLX]; omega
            have gg5 := (((unhide GG4).alloc _).grown g5 (unhide hbl))
            obtain ⟨xb, xc, rfl, hxc, _, _, xi⟩ := o5.shape
            have XI := hide xi
            have CI5 := hide ((unhide CI).grew gg5)
            have G5 := hide ((unhide G3).trans gg5)
            clear o5 g5 gg5 O4 GG4 hbl xi hX
            have V1 := hide (show okB X = true by rw [← unhide HX, okB_snoc (unhide HOK) hl _ (unhide HEND)]; exact decide_eq_true (by omega))
            have V2 := hide (show inC l X = true by rw [← unhide HX, inC_snoc (unhide HOK), unhide HX]; exact unhide V1)
            have V3 := hide (show inC X l = false from inC_longer (by rw [unhide HLX]; omega))
            have hfit : decide (E + 1 + (m : Int) % 3 ≤ 30) = true := decide_eq_true (by omega)
            have hfit3 : decide ((X.length : Int) ≤ 16) = true := decide_eq_true (by omega)
            have hfit4 : decide (X.length ≤ 16) = true := decide_eq_true (by omega)
            go_wp2_with fail
            refine (implChainOk _ _ X _ (unhide XI) (by omega)).mono ?_
            rintro e w6 ⟨rfl, g6⟩
            rw [unhide V1]
            have XI := hide ((unhide XI).grew g6)
            have CI5 := hide ((unhide CI5).grew g6)
            have G6 := hide ((unhide G5).trans g6)
            clear g6
            go_wp2_with fail
            refine (implChainIn _ _ _ _ l X _ (unhide CI5) (unhide XI) (by omega) (by omega)).mono ?_
            rintro e w7 ⟨rfl, g7⟩
            rw [unhide V2]
            have XI := hide ((unhide XI).grew g7)
            have CI5 := hide ((unhide CI5).grew g7)
            have G7 := hide ((unhide G6).trans g7)
            clear g7
            go_wp2_with fail
            refine (implChainIn _ _ _ _ X l _ (unhide XI) (unhide CI5) (by omega) (by omega)).mono ?_
            rintro e w8 ⟨rfl, g8⟩
            rw [unhide V3]
            have G8 := hide ((unhide G7).trans g8)
            clear g8
            go_wp2
            go_ret
            exact ⟨rfl, unhide G8⟩
          · have E0 := hide (OwnL.empty (w := w3) (Nat.le_refl _))
            have CI4 := hide ((unhide CI).grew ((Grew.refl w3).alloc (.cells #[] 32)))
            go_wp2_with (first | (at_builtin; refine wpList_items rfl _ _ rfl w3.heap.size _ [] rfl (unhide E0) ⟨cb, 0, none⟩ cc l l.length rfl rfl (unhide CI4) (by simp; omega) (by simp) ?_))
            intro v4 w4 o4 g4
            replace o4 : OwnL w4 w3.heap.size v4 l := o4
            have gg4 := ((Grew.refl w3).alloc (.cells #[] 32)).grown g4 (fun k hk => by simp [Value.ownBlock] at hk; omega)
            have O4 := hide o4
            have GG4 := hide gg4
            have hbl := hide (fun k (hk : v4.ownBlock = some k) => (o4.block k hk).1)
            have hsz : w3.heap.size ≤ w4.heap.size := gg4.size
            clear o4 g4 gg4 E0 CI4
            go_wp2_with (first | (at_builtin; refine wpList_items rfl _ _ rfl w3.heap.size _ l rfl ((unhide O4).grew ((Grew.refl _).alloc _)) ⟨w4.heap.size, 0, none⟩ 1 [(⟨E + 1 + (m : Int) % 3, 1, 3, 2⟩ : It)] 1 rfl rfl (its_one _ _ _) (by simp; omega) (by simp; omega) ?_))
            intro v5 w5 o5 g5
            obtain ⟨X, hX⟩ : ∃ X : List It, l ++ [(⟨E + 1 + (m : Int) % 3, 1, 3, 2⟩ : It)] = X := ⟨_, rfl⟩
            rw [hX] at o5
            have HLX := hide (show X.length = l.length + 1 by rw [← hX]; simp)
            have HX := hide hX
            have hX9 : X.length ≤ 9 := by rw [unhide HLX]; omega
            have gg5 := (((unhide GG4).alloc _).grown g5 (unhide hbl))
            obtain ⟨xb, xc, rfl, hxc, _, _, xi⟩ := o5.shape
            have XI := hide xi
            have CI5 := hide ((unhide CI).grew gg5)
            have G5 := hide ((unhide G3).trans gg5)
            clear o5 g5 gg5 O4 GG4 hbl xi hX
            have V1 := hide (show okB X = false by rw [← unhide HX, okB_snoc (unhide HOK) hl _ (unhide HEND)]; exact decide_eq_false (by omega))
            have V2 := hide (show inC l X = false by rw [← unhide HX, inC_snoc (unhide HOK), unhide HX]; exact unhide V1)
            have V3 := hide (show inC X l = false from inC_longer (by rw [unhide HLX]; omega))
            have hfit : decide (E + 1 + (m : Int) % 3 ≤ 30) = false := decide_eq_false (by omega)
            have hfit3 : decide ((X.length : Int) ≤ 16) = true := decide_eq_true (by omega)
            have hfit4 : decide (X.length ≤ 16) = true := decide_eq_true (by omega)
            go_wp2_with fail
            refine (implChainOk _ _ X _ (unhide XI) (by omega)).mono ?_
            rintro e w6 ⟨rfl, g6⟩
            rw [unhide V1]
            have XI := hide ((unhide XI).grew g6)
            have CI5 := hide ((unhide CI5).grew g6)
            have G6 := hide ((unhide G5).trans g6)
            clear g6
            go_wp2_with fail
            refine (implChainIn _ _ _ _ l X _ (unhide CI5) (unhide XI) (by omega) (by omega)).mono ?_
            rintro e w7 ⟨rfl, g7⟩
            rw [unhide V2]
            have XI := hide ((unhide XI).grew g7)
            have CI5 := hide ((unhide CI5).grew g7)
            have G7 := hide ((unhide G6).trans g7)
            clear g7
            go_wp2_with fail
            refine (implChainIn _ _ _ _ X l _ (unhide XI) (unhide CI5) (by omega) (by omega)).mono ?_
            rintro e w8 ⟨rfl, g8⟩
            rw [unhide V3]
            have G8 := hide ((unhide G7).trans g8)
            clear g8
            go_wp2
            go_ret
            exact ⟨rfl, unhide G8⟩
        · have hl0' : l = [] := List.eq_nil_of_length_eq_zero (by omega)
          have HEND := hide (show endE 0 l < 1 + (m : Int) % 3 by rw [hl0']; show (0 : Int) < _; omega)
          have hd0 : decide (0 < l.length) = false := decide_eq_false hl0
          clear hl0'
          have E0 := hide (OwnL.empty (w := w3) (Nat.le_refl _))
          have CI4 := hide ((unhide CI).grew ((Grew.refl w3).alloc (.cells #[] 32)))
          go_wp2_with (first | (at_builtin; refine wpList_items rfl _ _ rfl w3.heap.size _ [] rfl (unhide E0) ⟨cb, 0, none⟩ cc l l.length rfl rfl (unhide CI4) (by simp; omega) (by simp) ?_))
          intro v4 w4 o4 g4
          replace o4 : OwnL w4 w3.heap.size v4 l := o4
          have gg4 := ((Grew.refl w3).alloc (.cells #[] 32)).grown g4 (fun k hk => by simp [Value.ownBlock] at hk; omega)
          have O4 := hide o4
          have GG4 := hide gg4
          have hbl := hide (fun k (hk : v4.ownBlock = some k) => (o4.block k hk).1)
          have hsz : w3.heap.size ≤ w4.heap.size := gg4.size
          clear o4 g4 gg4 E0 CI4
          go_wp2_with (first | (at_builtin; refine wpList_items rfl _ _ rfl w3.heap.size _ l rfl ((unhide O4).grew ((Grew.refl _).alloc _)) ⟨w4.heap.size, 0, none⟩ 1 [(⟨1 + (m : Int) % 3, 1, 3, 2⟩ : It)] 1 rfl rfl (its_one _ _ _) (by simp; omega) (by simp; omega) ?_))
          intro v5 w5 o5 g5
          obtain ⟨X, hX⟩ : ∃ X : List It, l ++ [(⟨1 + (m : Int) % 3, 1, 3, 2⟩ : It)] = X := ⟨_, rfl⟩
          rw [hX] at o5
          have HLX := hide (show X.length = l.length + 1 by rw [← hX]; simp)
          have HX := hide hX
          have hX9 : X.length ≤ 9 := by rw [unhide HLX]; omega
          have gg5 := (((unhide GG4).alloc _).grown g5 (unhide hbl))
          obtain ⟨xb, xc, rfl, hxc, _, _, xi⟩ := o5.shape
          have XI := hide xi
          have CI5 := hide ((unhide CI).grew gg5)
          have G5 := hide ((unhide G3).trans gg5)
          clear o5 g5 gg5 O4 GG4 hbl xi hX
          have V1 := hide (show okB X = true by rw [← unhide HX, okB_snoc (unhide HOK) hl _ (unhide HEND)]; exact decide_eq_true (by omega))
          have V2 := hide (show inC l X = true by rw [← unhide HX, inC_snoc (unhide HOK), unhide HX]; exact unhide V1)
          have V3 := hide (show inC X l = false from inC_longer (by rw [unhide HLX]; omega))
          have hfit : decide (1 + (m : Int) % 3 ≤ 30) = true := decide_eq_true (by omega)
          have hfit3 : decide ((X.length : Int) ≤ 16) = true := decide_eq_true (by omega)
          have hfit4 : decide (X.length ≤ 16) = true := decide_eq_true (by omega)
          go_wp2_with fail
          refine (implChainOk _ _ X _ (unhide XI) (by omega)).mono ?_
          rintro e w6 ⟨rfl, g6⟩
          rw [unhide V1]
          have XI := hide ((unhide XI).grew g6)
          have CI5 := hide ((unhide CI5).grew g6)
          have G6 := hide ((unhide G5).trans g6)
          clear g6
          go_wp2_with fail
          refine (implChainIn _ _ _ _ l X _ (unhide CI5) (unhide XI) (by omega) (by omega)).mono ?_
          rintro e w7 ⟨rfl, g7⟩
          rw [unhide V2]
          have XI := hide ((unhide XI).grew g7)
          have CI5 := hide ((unhide CI5).grew g7)
          have G7 := hide ((unhide G6).trans g7)
          clear g7
          go_wp2_with fail
          refine (implChainIn _ _ _ _ X l _ (unhide XI) (unhide CI5) (by omega) (by omega)).mono ?_
          rintro e w8 ⟨rfl, g8⟩
          rw [unhide V3]
          have G8 := hide ((unhide G7).trans g8)
          clear g8
          go_wp2
          go_ret
          exact ⟨rfl, unhide G8⟩
    · have hm1 : decide ((1048576 : Int) < (m : Int)) = true := by simp; omega
      clear hm
      go_enter Try.func6, Try.ntmps6
      go_wp2
      go_ret
      exact ⟨rfl, Grew.refl _⟩
  · have hn1 : decide ((1048576 : Int) < (n : Int)) = true := by simp; omega
    clear hn
    go_enter Try.func6, Try.ntmps6
    go_wp2
    go_ret
    exact ⟨rfl, Grew.refl _⟩

set_option maxRecDepth 100000 in
theorem lifted (os : Os) (started : os.Started) (H : Type) (enc : TypeId × Value → H) :
    ReturnsInHanded {} Try.checked os 6 .any (Rows.fnChainGrowSpec.pre6 enc Try.prog Try.f6 Rows.fnChainGrowRow.domain false) (Rows.fnChainGrowSpec.post enc Try.prog Try.f6 false true false false) := by
  refine returnsInHanded_of_change (C := Try.checked) own started (by kernel_rfl) Try.func6
    (ChangeSpec.witness6 (enc := enc) (C := Try.checked) false ⟨#[], #[.slice none 0 0, .slice none 0 0], []⟩ 8 (by kernel_rfl) (by kernel_rfl) (by kernel_rfl) (by kernel_rfl)) ?_
  intro W base args ds gs before hval0 hW hcnd _
  have hval : ∀ (j : Nat) t v, Try.f6.params[j]? = some t → args[j]? = some v → Value.okWide Try.prog W .any base t v := hval0
  have hW' := hW
  obtain ⟨p, q, hA0, hV, rfl, hfz, hnd⟩ := hW
  have hA : DataW.TrodAll enc Try.prog W 0 (fun _ => true) true Try.f6.params.toList args.toList ds p := hA0
  rw [Try.params6] at hA hval
  obtain ⟨v0, vs0, d0, ds0, p0, q0, hargs, rfl, rfl, h0, r0⟩ := trodAll_cons hA
  obtain ⟨v1, vs1, d1, ds1, p1, q1, rfl, rfl, rfl, h1, r1⟩ := trodAll_cons r0
  obtain ⟨rfl, rfl, rfl⟩ := trodAll_nil r1
  obtain rfl : args = #[v0, v1] := by cases args; simp_all
  obtain ⟨rfl, rfl⟩ := trodVars_none hV
  have k0 := h0
  have lt0 : ∀ x ∈ p0, x.block < W.heap.size := by obtain ⟨m, hm⟩ := k0; exact DataW.trod_lt m _ _ _ hm
  obtain ⟨a0, len0, cap0, rfl⟩ := okWide_slice Try.underlying22 (hval 0 22 v0 rfl rfl)
  obtain ⟨fuel0, hf0⟩ := h0
  obtain ⟨hb0, hc0⟩ := open_bytes hf0
  have k1 := h1
  have lt1 : ∀ x ∈ p1, x.block < W.heap.size := by obtain ⟨m, hm⟩ := k1; exact DataW.trod_lt m _ _ _ hm
  obtain ⟨a1, len1, cap1, rfl⟩ := okWide_slice Try.underlying22 (hval 1 22 v1 rfl rfl)
  obtain ⟨fuel1, hf1⟩ := h1
  obtain ⟨hb1, hc1⟩ := open_bytes hf1
  clear hA0 hval0
  refine (walk a0 len0 cap0 a1 len1 cap1 W hb0 hc0 hb1 hc1).mono fun e W' ⟨he, bel⟩ => ?_
  subst he
  exact ⟨_, rfl, _, _, _, [], _, [], hW', trodAll_mk1 (shut_bool Try.underlying4 _), (trodAll_cons_mk (Below.trod laidOut (by kernel_rfl) (of_decide_eq_true (by kernel_rfl)) k0 bel.below lt0) (trodAll_cons_mk (Below.trod laidOut (by kernel_rfl) (of_decide_eq_true (by kernel_rfl)) k1 bel.below lt1) trodAll_mk0)), rfl, bel.below.frame _, fun h => by cases h⟩

theorem over : Rows.fnChainGrowRow.holds Try.pinned (OpenSpec.ofChange Rows.fnChainGrowSpec) :=
  OpenClaim.holds_of_wide 6 Try.f6 rfl rfl rfl rfl rfl rfl rfl ⟨rfl, rfl, rfl, rfl, rfl⟩ rfl rfl rfl rfl rfl (by kernel_rfl) Try.func6 (by kernel_rfl)
    (of_decide_eq_true (by kernel_rfl)) (by unfold Func.isWrapper; first | (rw [if_pos (by decide +kernel)]; kernel_rfl) | (rw [if_neg (by decide +kernel)]; exact ⟨rfl, rfl⟩))
    (fun os started H enc _ => lifted os started H enc)
end Go.Proofs.Ytfonpbglnkggfaa.FnChainGrow
namespace Go.Proofs.Ytfonpbglnkggfaa
theorem fnChainGrow_holds : Rows.FnChainGrowSaid := FnChainGrow.over
#print axioms fnChainGrow_holds
end Go.Proofs.Ytfonpbglnkggfaa
