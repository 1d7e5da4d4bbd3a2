/-
  FnPayOther returns true at every two rows of bytes and leaves its arguments as they were: what the statement says; no condition.
-/
import Derived.Test.YtfonpbglnkggfaaDrawP
import Derived.Test.YtfonpbglnkggfaaOpen
import Derived.Lib.SmallJoins
import Derived.JoinedOf
import Derived.JoinedAt
import Derived.RowKit3
import Derived.Deep.RegionHeld3
import Derived.Deep.DeepFit
namespace Go.Proofs.Ytfonpbglnkggfaa.FnPayOther
set_option linter.unusedVariables false
open Go.ChangeShapes Go.WideShapes Go.ChangeAt Go.RowKit Go.Joins
attribute [local simp] far_const

theorem payB_cases' {f t s : Int} (h : payB f t s = true) : 1 ≤ s ∧ s ≤ 9 ∧ (f = 1 ∧ t = 2 ∨ f = 1 ∧ t = 3 ∨ f = 2 ∧ t = 1 ∨ f = 2 ∧ t = 3 ∨ f = 3 ∧ t = 1 ∨ f = 3 ∧ t = 2) := by
  simp only [payB, inB, Bool.and_eq_true, decide_eq_true_eq, Bool.not_eq_true', beq_eq_false_iff_ne] at h
  omega
theorem payB_of {f t s : Int} (h : 1 ≤ f ∧ f ≤ 3 ∧ 1 ≤ t ∧ t ≤ 3 ∧ f ≠ t ∧ 1 ≤ s ∧ s ≤ 9) : payB f t s = true := by
  simp only [payB, inB, Bool.and_eq_true, decide_eq_true_eq, Bool.not_eq_true', beq_eq_false_iff_ne]
  omega
theorem payB_not {f t s : Int} (h : f < 1 ∨ 3 < f ∨ t < 1 ∨ 3 < t ∨ f = t ∨ s < 1 ∨ 9 < s) : payB f t s = false := by
  cases e : payB f t s with
  | false => rfl
  | true =>
    have := payB_cases' e
    omega

set_option maxHeartbeats 8000000 in
theorem walk (a : Option Addr) (n cap : Nat) (b2 : Option Addr) (m cap2 : Nat) (w : World) (hb : Byt w a w.heap.size n) (hc : n ≤ cap) (hb2 : Byt w b2 w.heap.size m) (hc2 : m ≤ cap2) :
    Calls Try.prog 5 #[.slice a n cap, .slice b2 m cap2] w fun e w' => e = .returned (.bool true) ∧ Grew w w' := by
  by_cases hn : n ≤ 1048576
  · have hn1 : decide ((1048576 : Int) < (n : Int)) = false := by simp; omega
    by_cases hm : m ≤ 1048576
    · have hm1 : decide ((1048576 : Int) < (m : Int)) = false := by simp; omega
      go_enter Try.func5, Try.ntmps5
      go_wp2_with fail
      refine (drawPayOk_any a n cap _ hb hc hn).mono ?_
      rintro e w1 ⟨f, t, s, rfl, g1⟩
      go_wp2_with fail
      refine (implPayOk f t s _).mono ?_
      rintro e w2 ⟨rfl, g2⟩
      have p0 := g2.keep (p := ⟨w1.heap.size, 0, none⟩) (v := .int .i64 f) (by simp [go_sem])
      have p1 := g2.keep (p := ⟨w1.heap.size, 1, none⟩) (v := .int .i64 t) (by simp [go_sem])
      have p2 := g2.keep (p := ⟨w1.heap.size, 2, none⟩) (v := .int .i64 s) (by simp [go_sem])
      have G2 := hide (g1.trans (((Grew.refl _).alloc _).trans g2))
      clear g1 g2
      go_wp2_with fail
      refine (specPayOk f t s _).mono ?_
      rintro e w3 ⟨rfl, g3⟩
      have p0 := g3.keep p0
      have p1 := g3.keep p1
      have p2 := g3.keep p2
      have G3 := hide ((unhide G2).trans g3)
      clear G2 g3
      cases hp : payB f t s with
      | false =>
        go_wp2_with fail
        refine (specPayOk f t s _).mono ?_
        rintro e w4 ⟨rfl, g4⟩
        rw [hp]
        have G4 := hide ((unhide G3).trans g4)
        clear G3 g4
        go_wp2
        go_ret
        exact ⟨rfl, unhide G4⟩
      | true =>
        obtain ⟨h1, h9, hc'⟩ := payB_cases' hp
        have q0 : ∀ o, (w3.alloc o).cell? ⟨w1.heap.size, 0, none⟩ = some (.int .i64 f) := fun o => ((Grew.refl _).alloc _).keep p0
        have q1 : ∀ o, (w3.alloc o).cell? ⟨w1.heap.size, 1, none⟩ = some (.int .i64 t) := fun o => ((Grew.refl _).alloc _).keep p1
        have q2 : ∀ o, (w3.alloc o).cell? ⟨w1.heap.size, 2, none⟩ = some (.int .i64 s) := fun o => ((Grew.refl _).alloc _).keep p2
        have r0 : ∀ o o', ((w3.alloc o).alloc o').cell? ⟨w1.heap.size, 0, none⟩ = some (.int .i64 f) := fun o o' => ((Grew.refl _).alloc _).keep (q0 o)
        have r1 : ∀ o o', ((w3.alloc o).alloc o').cell? ⟨w1.heap.size, 1, none⟩ = some (.int .i64 t) := fun o o' => ((Grew.refl _).alloc _).keep (q1 o)
        have r2 : ∀ o o', ((w3.alloc o).alloc o').cell? ⟨w1.heap.size, 2, none⟩ = some (.int .i64 s) := fun o o' => ((Grew.refl _).alloc _).keep (q2 o)
        have hr0 := Int.emod_nonneg (m : Int) (show (12 : Int) ≠ 0 by omega)
        have hr1 := Int.emod_lt_of_pos (m : Int) (show (0 : Int) < 12 by omega)
        obtain ⟨k, hk⟩ : ∃ k, k = (m : Int) % 12 := ⟨_, rfl⟩
        rw [← hk] at hr0 hr1
        have hv1 : payB f t k = (decide (1 ≤ k) && decide (k ≤ 9)) := by
          by_cases h : 1 ≤ k ∧ k ≤ 9
          · rw [payB_of (by omega), decide_eq_true h.1, decide_eq_true h.2]; rfl
          · rw [payB_not (by omega)]
            by_cases h' : 1 ≤ k
            · rw [decide_eq_false (show ¬ k ≤ 9 by omega), Bool.and_false]
            · rw [decide_eq_false h']; rfl
        have hv2 : payB f (6 - f - t) s = true := payB_of (by omega)
        have hv3 : payB 4 t s = false := payB_not (by omega)
        have hf : 1 ≤ f ∧ f ≤ 3 ∧ 1 ≤ t ∧ t ≤ 3 := by omega
        obtain ⟨hf1, hf3, ht1, ht3⟩ := hf
        clear hc'
        obtain ⟨W, hW⟩ : ∃ W, W = (w3.alloc (.cells #[.int .i64 f, .int .i64 t, .int .i64 k] 24)).alloc (.cells #[.int .i64 f, .int .i64 (6 - f - t), .int .i64 s] 24) := ⟨_, rfl⟩
        have GW : Grew w3 W := by rw [hW]; exact ((Grew.refl _).alloc _).alloc _
        have a0 : W.cell? ⟨w3.heap.size, 0, none⟩ = some (.int .i64 f) := by rw [hW]; simp [go_sem]
        have a1 : W.cell? ⟨w3.heap.size, 1, none⟩ = some (.int .i64 t) := by rw [hW]; simp [go_sem]
        have a2 : W.cell? ⟨w3.heap.size, 2, none⟩ = some (.int .i64 k) := by rw [hW]; simp [go_sem]
        have b0 : W.cell? ⟨w3.heap.size + 1, 0, none⟩ = some (.int .i64 f) := by rw [hW]; simp [go_sem]
        have b1 : W.cell? ⟨w3.heap.size + 1, 1, none⟩ = some (.int .i64 (6 - f - t)) := by rw [hW]; simp [go_sem]
        have b2 : W.cell? ⟨w3.heap.size + 1, 2, none⟩ = some (.int .i64 s) := by rw [hW]; simp [go_sem]
        have A0 := hide a0
        have A1 := hide a1
        have A2 := hide a2
        have B0 := hide b0
        have B1 := hide b1
        have B2 := hide b2
        have HGW := hide GW
        have HW := hide hW
        clear a0 a1 a2 b0 b1 b2 GW hW
        have HK := hide hk
        clear hk
        go_wp2_with fail
        rw [← unhide HK]
        refine (implPayOk f t k _).mono ?_
        rw [← unhide HW]
        rintro e w4 ⟨rfl, g4⟩
        have b0 := g4.keep (unhide B0)
        have b1 := g4.keep (unhide B1)
        have b2 := g4.keep (unhide B2)
        have P1 := hide (g4.keep ((unhide HGW).keep p1))
        have P2 := hide (g4.keep ((unhide HGW).keep p2))
        have G4 := hide (((unhide G3).trans (unhide HGW)).trans g4)
        clear g4 q0 q1 q2 r0 r1 r2
        obtain ⟨B, hB, hd⟩ : ∃ B : Bool, payB f t k = B ∧ ((decide (1 ≤ k) = true ∧ decide (k ≤ 9) = B) ∨ (decide (1 ≤ k) = false ∧ B = false)) := by
          refine ⟨_, hv1, ?_⟩
          by_cases h : 1 ≤ k
          · rw [decide_eq_true h]; exact .inl ⟨rfl, rfl⟩
          · rw [decide_eq_false h]; exact .inr ⟨rfl, rfl⟩
        rw [hB]
        clear hv1 hB
        rcases hd with ⟨hd1, hd9⟩ | ⟨hd1, rfl⟩
        · cases B
          all_goals
            go_wp2_with fail
            refine (implPayOk f (6 - f - t) s _).mono ?_
            rintro e w5 ⟨rfl, g5⟩
            rw [hv2]
            have p1 := g5.keep (unhide P1)
            have p2 := g5.keep (unhide P2)
            have G5 := hide ((unhide G4).trans g5)
            clear g5
            go_wp2_with fail
            refine (implPayOk 4 t s _).mono ?_
            rintro e w6 ⟨rfl, g6⟩
            rw [hv3]
            have G6 := hide ((unhide G5).trans g6)
            clear g6
            go_wp2
            go_ret
            exact ⟨rfl, unhide G6⟩
        · skip
          all_goals
            go_wp2_with fail
            refine (implPayOk f (6 - f - t) s _).mono ?_
            rintro e w5 ⟨rfl, g5⟩
            rw [hv2]
            have p1 := g5.keep (unhide P1)
            have p2 := g5.keep (unhide P2)
            have G5 := hide ((unhide G4).trans g5)
            clear g5
            go_wp2_with fail
            refine (implPayOk 4 t s _).mono ?_
            rintro e w6 ⟨rfl, g6⟩
            rw [hv3]
            have G6 := hide ((unhide G5).trans g6)
            clear g6
            go_wp2
            go_ret
            exact ⟨rfl, unhide G6⟩
    · have hm1 : decide ((1048576 : Int) < (m : Int)) = true := by simp; omega
      clear hm
      go_enter Try.func5, Try.ntmps5
      go_wp2
      go_ret
      exact ⟨rfl, Grew.refl _⟩
  · have hn1 : decide ((1048576 : Int) < (n : Int)) = true := by simp; omega
    clear hn
    go_enter Try.func5, Try.ntmps5
    go_wp2
    go_ret
    exact ⟨rfl, Grew.refl _⟩

set_option maxRecDepth 100000 in
theorem lifted (os : Os) (started : os.Started) (H : Type) (enc : TypeId × Value → H) :
    ReturnsInHanded {} Try.checked os 5 .any (Rows.fnPayOtherSpec.pre6 enc Try.prog Try.f5 Rows.fnPayOtherRow.domain false) (Rows.fnPayOtherSpec.post enc Try.prog Try.f5 false true false false) := by
  refine returnsInHanded_of_change (C := Try.checked) own started (by kernel_rfl) Try.func5
    (ChangeSpec.witness6 (enc := enc) (C := Try.checked) false ⟨#[], #[.slice none 0 0, .slice none 0 0], []⟩ 8 (by kernel_rfl) (by kernel_rfl) (by kernel_rfl) (by kernel_rfl)) ?_
  intro W base args ds gs before hval0 hW hcnd _
  have hval : ∀ (j : Nat) t v, Try.f5.params[j]? = some t → args[j]? = some v → Value.okWide Try.prog W .any base t v := hval0
  have hW' := hW
  obtain ⟨p, q, hA0, hV, rfl, hfz, hnd⟩ := hW
  have hA : DataW.TrodAll enc Try.prog W 0 (fun _ => true) true Try.f5.params.toList args.toList ds p := hA0
  rw [Try.params5] at hA hval
  obtain ⟨v0, vs0, d0, ds0, p0, q0, hargs, rfl, rfl, h0, r0⟩ := trodAll_cons hA
  obtain ⟨v1, vs1, d1, ds1, p1, q1, rfl, rfl, rfl, h1, r1⟩ := trodAll_cons r0
  obtain ⟨rfl, rfl, rfl⟩ := trodAll_nil r1
  obtain rfl : args = #[v0, v1] := by cases args; simp_all
  obtain ⟨rfl, rfl⟩ := trodVars_none hV
  have k0 := h0
  have lt0 : ∀ x ∈ p0, x.block < W.heap.size := by obtain ⟨m, hm⟩ := k0; exact DataW.trod_lt m _ _ _ hm
  obtain ⟨a0, len0, cap0, rfl⟩ := okWide_slice Try.underlying22 (hval 0 22 v0 rfl rfl)
  obtain ⟨fuel0, hf0⟩ := h0
  obtain ⟨hb0, hc0⟩ := open_bytes hf0
  have k1 := h1
  have lt1 : ∀ x ∈ p1, x.block < W.heap.size := by obtain ⟨m, hm⟩ := k1; exact DataW.trod_lt m _ _ _ hm
  obtain ⟨a1, len1, cap1, rfl⟩ := okWide_slice Try.underlying22 (hval 1 22 v1 rfl rfl)
  obtain ⟨fuel1, hf1⟩ := h1
  obtain ⟨hb1, hc1⟩ := open_bytes hf1
  clear hA0 hval0
  refine (walk a0 len0 cap0 a1 len1 cap1 W hb0 hc0 hb1 hc1).mono fun e W' ⟨he, bel⟩ => ?_
  subst he
  exact ⟨_, rfl, _, _, _, [], _, [], hW', trodAll_mk1 (shut_bool Try.underlying4 _), (trodAll_cons_mk (Below.trod laidOut (by kernel_rfl) (of_decide_eq_true (by kernel_rfl)) k0 bel.below lt0) (trodAll_cons_mk (Below.trod laidOut (by kernel_rfl) (of_decide_eq_true (by kernel_rfl)) k1 bel.below lt1) trodAll_mk0)), rfl, bel.below.frame _, fun h => by cases h⟩

theorem over : Rows.fnPayOtherRow.holds Try.pinned (OpenSpec.ofChange Rows.fnPayOtherSpec) :=
  OpenClaim.holds_of_wide 5 Try.f5 rfl rfl rfl rfl rfl rfl rfl ⟨rfl, rfl, rfl, rfl, rfl⟩ rfl rfl rfl rfl rfl (by kernel_rfl) Try.func5 (by kernel_rfl)
    (of_decide_eq_true (by kernel_rfl)) (by unfold Func.isWrapper; first | (rw [if_pos (by decide +kernel)]; kernel_rfl) | (rw [if_neg (by decide +kernel)]; exact ⟨rfl, rfl⟩))
    (fun os started H enc _ => lifted os started H enc)
end Go.Proofs.Ytfonpbglnkggfaa.FnPayOther
namespace Go.Proofs.Ytfonpbglnkggfaa
theorem fnPayOther_holds : Rows.FnPayOtherSaid := FnPayOther.over
#print axioms fnPayOther_holds
end Go.Proofs.Ytfonpbglnkggfaa
