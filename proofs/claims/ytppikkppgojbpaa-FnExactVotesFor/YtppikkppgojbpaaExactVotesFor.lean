/-
  FnExactVotesFor returns true at every row of votes and every chain and leaves its arguments as they were: what the statement says; no condition.
-/
import Derived.Test.YtppikkppgojbpaaVOpen
import Derived.Test.YtppikkppgojbpaaVForms
import Derived.Test.YtppikkppgojbpaaNums3
import Derived.Test.YtppikkppgojbpaaHeld
import Derived.Lib.SmallJoins
import Derived.JoinedOf
import Derived.JoinedAt
import Derived.RowKit3
namespace Go.Proofs.Ytppikkppgojbpaa.FnExactVotesFor
set_option linter.unusedVariables false
open Go.ChangeShapes Go.WideShapes Go.ChangeAt Go.RowKit Go.Joins

theorem forL_len (l : List Vt) (c : List It) : (forL l c).length ≤ 4 := by
  unfold forL; split
  · exact forN_len l c
  · simp
theorem cnt_le {l : List Vt} (h : totV l ≤ 1048576) : cntV l ≤ 4194305 := by have := cntV_tot l; omega
theorem AnsN.ofBlocks {w w' : World} {base : Nat} {v : Value} {l : List Int} (h : AnsN w base v l) (e : ∀ g, base ≤ g → g < w.heap.size → w'.heap[g]? = w.heap[g]?) : AnsN w' base v l :=
  h.kept fun g hg => by obtain ⟨h1, h2⟩ := h.block g hg; exact e g h1 h2

set_option maxHeartbeats 4000000 in
theorem walk (a : Option Addr) (cap : Nat) (l : List Vt) (b : Option Addr) (cb : Nat) (c : List It) (w : World) (hl : Vts w a l) (hn : l.length ≤ maxLen) (hm : ∀ x ∈ l, x.c.length ≤ maxLen) (hc : Its w b c) (hnc : c.length ≤ maxLen) :
    Calls Try.prog 15 #[.slice a l.length cap, .slice b c.length cb] w fun e w' => e = .returned (.bool true) ∧ Grew w w' := by
  have hz := szVoteS_any a cap l 1048576 w hl (by omega) (by omega) (by unfold maxLen at hn; omega) (fun x hx => by have := hm x hx; unfold maxLen at this; omega)
  have HZ := hide hz
  have HL := hide hl
  have HC := hide hc
  have hnc' : c.length ≤ 9223372036854775807 := by unfold maxLen at hnc; omega
  clear hz hm hl hn hc hnc
  by_cases ht : (1048576 : Int) < totV l
  · have hx := szR_neg ht
    go_enter Try.func15, Try.ntmps15
    go_wp2_with fail
    refine (unhide HZ).mono ?_
    rw [hx]
    rintro e w0 ⟨rfl, g0⟩
    clear hx
    go_wp2
    go_ret
    exact ⟨rfl, g0⟩
  · have ht' : totV l ≤ 1048576 := by omega
    have hnn : ¬ szR 1048576 (totV l) < 0 := by rw [szR_pos ht]; omega
    have hsz : szR 1048576 (totV l) = 1048576 - totV l := szR_pos ht
    by_cases ht2 : (1048576 : Int) - totV l < c.length
    · have hz2 := fun w => szItemS_any b cb c.length (1048576 - totV l) w (by omega) (by omega) hnc'
      simp only [if_pos ht2] at hz2
      have HZ2 := hide hz2
      clear hz2
      go_enter Try.func15, Try.ntmps15
      go_wp2_with fail
      refine (unhide HZ).mono ?_
      rintro e w0 ⟨rfl, g0⟩
      rw [hsz]
      rw [hsz] at hnn
      clear hsz
      go_wp2_with fail
      refine (unhide HZ2 _).mono ?_
      rintro e w1 ⟨rfl, rfl⟩
      go_wp2
      go_ret
      exact ⟨rfl, g0⟩
    · have hz2 := fun w => szItemS_any b cb c.length (1048576 - totV l) w (by omega) (by omega) hnc'
      simp only [if_neg ht2] at hz2
      have HZ2 := hide hz2
      clear hz2
      have hnn2 : ¬ (1048576 : Int) - totV l - c.length < 0 := by omega
      have hs := hide (totV_short ht')
      have hcn := hide (cnt_le ht')
      have hn := totV_len ht'
      have hn2 : c.length ≤ 1048576 := by omega
      obtain ⟨L, hL⟩ : ∃ L, forL l c = L := ⟨_, rfl⟩
      have hLn : L.length ≤ 4 := by rw [← hL]; exact forL_len l c
      have HE := hide hL
      clear hL
      go_enter Try.func15, Try.ntmps15
      go_wp2_with fail
      refine (unhide HZ).mono ?_
      rintro e w0 ⟨rfl, g0⟩
      rw [hsz]
      rw [hsz] at hnn
      clear hsz
      go_wp2_with fail
      refine (unhide HZ2 _).mono ?_
      rintro e w0' ⟨rfl, rfl⟩
      have S0 := hide g0
      clear g0
      go_wp2_with fail
      refine (toVoteS_any a cap l _ ((unhide HL).grew (unhide S0)) (unhide hs) hn).mono ?_
      rintro e w2 ⟨v1, hs1, rfl, o1, gg⟩
      have S1 := hide (show Grew _ w2 from gg)
      have O1 := hide o1
      clear gg o1
      go_wp2_with fail
      refine (toItemS_any b cb c _ ((unhide HC).grew ((unhide S0).trans (unhide S1))) hn2).mono ?_
      rintro e w3 ⟨rfl, gg, i2, _⟩
      have S2 := hide (show Grew w2 w3 from gg)
      have I2 := hide i2
      clear gg i2
      go_wp2_with fail
      refine (specVotesFor_v _ _ c _ ((unhide O1).grew (unhide S2)).vtsV (unhide hs) hn (unhide I2) hn2).mono ?_
      rintro e w4 ⟨u3, rfl, o3, gg⟩
      have S3 := hide (show Grew w3 w4 from gg)
      rw [unhide HE] at o3
      have N3 := hide o3.num
      clear gg o3
      go_wp2_with fail
      refine (toVoteS_any a cap l _ ((unhide HL).grew ((((unhide S0).trans (unhide S1)).trans (unhide S2)).trans (unhide S3))) (unhide hs) hn).mono ?_
      rintro e w5 ⟨v4, hs4, rfl, o4, gg⟩
      have S4 := hide (show Grew w4 w5 from gg)
      have X0 := hide o4
      have L4 := hide (VAns.low (.inr o4))
      clear gg o4
      go_wp2_with fail
      refine (toItemS_any b cb c _ ((unhide HC).grew (((((unhide S0).trans (unhide S1)).trans (unhide S2)).trans (unhide S3)).trans (unhide S4))) hn2).mono ?_
      rintro e w6 ⟨rfl, gg, i5, o5⟩
      have S5 := hide (show Grew w5 w6 from gg)
      have X1 := hide (And.intro i5 o5)
      have z5 := hide o5.lt
      clear gg i5 o5
      go_wp2_with fail
      refine (implVotesFor_v _ _ c _ ((unhide X0).grew (unhide S5)).vtsV (unhide hs) hn (unhide X1).1 hn2).mono ?_
      rintro e w7 ⟨u6, rfl, o6, gg⟩
      have S6 := hide (show Grew w6 w7 from gg)
      rw [unhide HE] at o6
      have R0 := hide o6
      clear gg o6
      go_wp2_with fail
      refine (eqIntS_v _ (unhide R0).num ((unhide N3).grew (((unhide S4).trans (unhide S5)).trans (unhide S6))) (by omega) (by omega)).mono ?_
      rintro e w8 ⟨rfl, gg⟩
      have S7 := hide (show Grew w7 w8 from gg)
      rw [decide_eq_true rfl]
      clear gg
      go_wp2_with fail
      refine (toVoteS_any a cap l _ ((unhide HL).grew ((((((((unhide S0).trans (unhide S1)).trans (unhide S2)).trans (unhide S3)).trans (unhide S4)).trans (unhide S5)).trans (unhide S6)).trans (unhide S7))) (unhide hs) hn).mono ?_
      rintro e w9 ⟨v8, hs8, rfl, o8, gg⟩
      have S8 := hide (show Grew w8 w9 from gg)
      have O8 := hide o8
      clear gg o8
      go_wp2_with fail
      refine (eqVoteS_v _ ((unhide X0).grew ((((unhide S5).trans (unhide S6)).trans (unhide S7)).trans (unhide S8))).vtsV (unhide O8).vtsV (unhide hs) (unhide hs) (by omega) (by omega)).mono ?_
      rintro e w10 ⟨rfl, gg⟩
      have S9 := hide (show Grew w9 w10 from gg)
      rw [(sameVs_iff l l).2 rfl]
      clear gg
      go_wp2_with fail
      refine (toItemS_any b cb c _ ((unhide HC).grew ((((((((((unhide S0).trans (unhide S1)).trans (unhide S2)).trans (unhide S3)).trans (unhide S4)).trans (unhide S5)).trans (unhide S6)).trans (unhide S7)).trans (unhide S8)).trans (unhide S9))) hn2).mono ?_
      rintro e w11 ⟨rfl, gg, i10, _⟩
      have S10 := hide (show Grew w10 w11 from gg)
      have I10 := hide i10
      clear gg i10
      go_wp2_with fail
      refine (eqItemS_any _ _ _ _ c c _ ((unhide X1).1.grew (((((unhide S6).trans (unhide S7)).trans (unhide S8)).trans (unhide S9)).trans (unhide S10))) (unhide I10) hn2 hn2).mono ?_
      rintro e w12 ⟨rfl, gg⟩
      have S11 := hide (show Grew w11 w12 from gg)
      rw [(sameB_iff c c).2 rfl]
      clear gg
      go_wp2_with fail
      refine (markV_v 1 _ (.inr ((unhide X0).grew (((((((unhide S5).trans (unhide S6)).trans (unhide S7)).trans (unhide S8)).trans (unhide S9)).trans (unhide S10)).trans (unhide S11)))) (unhide hcn) (by omega) (by omega)).mono ?_
      rintro e wa ⟨rfl, _, qa⟩
      have QA := hide qa
      clear qa
      have Y1 := hide (((unhide X1).2.grew ((((((unhide S6).trans (unhide S7)).trans (unhide S8)).trans (unhide S9)).trans (unhide S10)).trans (unhide S11))).block ((unhide QA).keep _ (fun hm => by have := (unhide L4 _ hm).2; omega)))
      have hca : (0 : Int) ≤ 1 + cntV l := by omega
      have hcb : (1 : Int) + cntV l ≤ 4194306 := by have := unhide hcn; omega
      go_wp2_with fail
      refine (mark_any _ c.length _ _ _ (unhide Y1) hn2 hca (by omega)).mono ?_
      rintro e wb ⟨rfl, _, _, qb⟩
      have QB := hide qb
      clear qb
      have zA := hide (unhide S4).size
      have z0 := hide ((((unhide S0).trans (unhide S1)).trans (unhide S2)).trans (unhide S3)).size
      have FW := hide ((unhide QB).from ((unhide QA).from ((((((((unhide S4).trans (unhide S5)).trans (unhide S6)).trans (unhide S7)).trans (unhide S8)).trans (unhide S9)).trans (unhide S10)).trans (unhide S11)) (fun b hb => (unhide L4 b hb).1)) (fun x hx => by cases hx; exact unhide zA))
      have F0 := hide ((unhide QB).from ((unhide QA).from ((((((((((((unhide S0).trans (unhide S1)).trans (unhide S2)).trans (unhide S3)).trans (unhide S4)).trans (unhide S5)).trans (unhide S6)).trans (unhide S7)).trans (unhide S8)).trans (unhide S9)).trans (unhide S10)).trans (unhide S11)) (fun b hb => by have := (unhide L4 b hb).1; have := unhide z0; omega)) (fun x hx => by cases hx; have := unhide zA; have := unhide z0; show _ ≤ w5.heap.size; omega))
      have R1 := hide (AnsN.ofBlocks (w' := wb) ((unhide R0).grew (((((unhide S7).trans (unhide S8)).trans (unhide S9)).trans (unhide S10)).trans (unhide S11))) (fun g h1 h2 => by
        rw [(unhide QB).keep g (fun x hx => by cases hx; have := unhide z5; show w5.heap.size ≠ g; omega), (unhide QA).keep g (fun hm => by have := (unhide L4 g hm).2; have := unhide z5; omega)]))
      have hcd : ¬ (1 : Int) + cntV l + 4 * c.length < 0 := by omega
      have hcd' : decide ((1 : Int) + cntV l + 4 * c.length < 0) = false := by simpa using hcd
      go_wp2_with fail
      refine (eqIntS_v _ (unhide R1).num ((unhide N3).grew (unhide FW)) (by omega) (by omega)).mono ?_
      rintro e wc ⟨rfl, gc⟩
      rw [decide_eq_true rfl]
      have R2 := hide ((unhide R1).grew gc)
      have FW := hide ((unhide FW).trans gc)
      have F0 := hide ((unhide F0).trans gc)
      clear gc
      have bR := hide (unhide R0).block
      have zG := hide ((unhide S4).trans (unhide S5)).size
      go_wp2_with fail
      refine (markN_v 1 _ (unhide R2) (by omega) (by omega) (by omega)).mono ?_
      rintro e wd ⟨rfl, nd, qd, fd, _⟩
      have FW := hide (fd _ (unhide FW) (fun b hb => by have := (unhide bR b hb).1; have := unhide zG; omega))
      have F0 := hide (fd _ (unhide F0) (fun b hb => by have := (unhide bR b hb).1; have := unhide zG; have := unhide z0; omega))
      have ND := hide nd
      clear nd qd fd
      go_wp2_with fail
      refine (heldN_v (l := []) L.length 1 _ (unhide ND).num (by omega) (by omega) (by omega)).mono ?_
      rintro e we ⟨rfl, ge⟩
      have ND := hide ((unhide ND).grew ge)
      have FW := hide ((unhide FW).trans ge)
      have F0 := hide ((unhide F0).trans ge)
      clear ge
      go_wp2_with fail
      refine (toVoteS_any a cap l _ ((unhide HL).grew (unhide F0)) (unhide hs) hn).mono ?_
      rintro e wf ⟨vf, hsf, rfl, of, gf⟩
      have OF := hide of
      have ND := hide ((unhide ND).grew gf)
      have FW := hide ((unhide FW).trans gf)
      have F0 := hide ((unhide F0).trans gf)
      clear gf of
      go_wp2_with fail
      refine (toItemS_any b cb c _ ((unhide HC).grew (unhide F0)) hn2).mono ?_
      rintro e wh ⟨rfl, gh, ih, _⟩
      have OF := hide ((unhide OF).grew gh)
      have IH := hide ih
      have ND := hide ((unhide ND).grew gh)
      have FW := hide ((unhide FW).trans gh)
      have F0 := hide ((unhide F0).trans gh)
      clear gh ih
      go_wp2_with fail
      refine (implVotesFor_v _ _ c _ (unhide OF).vtsV (unhide hs) hn (unhide IH) hn2).mono ?_
      rintro e wi ⟨ui, rfl, oi, gi⟩
      rw [unhide HE] at oi
      have OI := hide oi.num
      have ND := hide ((unhide ND).grew gi)
      have FW := hide ((unhide FW).trans gi)
      have F0 := hide ((unhide F0).trans gi)
      clear gi oi
      go_wp2_with fail
      refine (eqIntS_v _ (unhide OI) ((unhide N3).grew (unhide FW)) (by omega) (by omega)).mono ?_
      rintro e wj ⟨rfl, gj⟩
      rw [decide_eq_true rfl]
      have ND := hide ((unhide ND).grew gj)
      have F0 := hide ((unhide F0).trans gj)
      clear gj
      go_wp2_with fail
      refine (heldN_v (l := []) L.length 1 _ (unhide ND).num (by omega) (by omega) (by omega)).mono ?_
      rintro e wk ⟨rfl, gk⟩
      have F0 := hide ((unhide F0).trans gk)
      clear gk
      go_wp2
      go_ret
      exact ⟨rfl, unhide F0⟩

set_option maxRecDepth 100000 in
theorem lifted (os : Os) (started : os.Started) (H : Type) (enc : TypeId × Value → H) :
    ReturnsInHanded {} Try.checked os 15 .any (Rows.fnExactVotesForSpec.pre6 enc Try.prog Try.f15 Rows.fnExactVotesForRow.domain false) (Rows.fnExactVotesForSpec.post enc Try.prog Try.f15 false true false false) := by
  refine returnsInHanded_of_change (C := Try.checked) own started (by kernel_rfl) Try.func15
    (ChangeSpec.witness6 (enc := enc) (C := Try.checked) false ⟨#[], #[.slice none 0 0, .slice none 0 0], []⟩ 8 (by kernel_rfl) (by kernel_rfl) (by kernel_rfl) (by kernel_rfl)) ?_
  intro W base args ds gs before hval0 hW hcnd _
  have hval : ∀ (j : Nat) t v, Try.f15.params[j]? = some t → args[j]? = some v → Value.okWide Try.prog W .any base t v := hval0
  have hW' := hW
  obtain ⟨p, q, hA0, hV, rfl, hfz, hnd⟩ := hW
  have hA : DataW.TrodAll enc Try.prog W 0 (fun _ => true) true Try.f15.params.toList args.toList ds p := hA0
  rw [Try.params15] at hA hval
  obtain ⟨v0, vs0, d0, ds0, p0, q0, hargs, rfl, rfl, h0, r0⟩ := trodAll_cons hA
  obtain ⟨v1, vs1, d1, ds1, p1, q1, rfl, rfl, rfl, h1, r1⟩ := trodAll_cons r0
  obtain ⟨rfl, rfl, rfl⟩ := trodAll_nil r1
  obtain rfl : args = #[v0, v1] := by cases args; simp_all
  obtain ⟨rfl, rfl⟩ := trodVars_none hV
  have k0 := h0
  have lt0 : ∀ x ∈ p0, x.block < W.heap.size := by obtain ⟨m, hm⟩ := k0; exact DataW.trod_lt m _ _ _ hm
  obtain ⟨x0, y0, z0, rfl⟩ := okWide_slice Try.underlying57 (hval 0 57 v0 rfl rfl)
  obtain ⟨fuel0, hf0⟩ := h0
  obtain ⟨a0, cap0, l0, hv0, hl0, hn0, hm0⟩ := open_votes hf0
  simp [Value.cells] at hv0
  obtain ⟨rfl, rfl, rfl⟩ := hv0
  have k1 := h1
  have lt1 : ∀ x ∈ p1, x.block < W.heap.size := by obtain ⟨m, hm⟩ := k1; exact DataW.trod_lt m _ _ _ hm
  obtain ⟨x1, y1, z1, rfl⟩ := okWide_slice Try.underlying50 (hval 1 50 v1 rfl rfl)
  obtain ⟨fuel1, hf1⟩ := h1
  obtain ⟨a1, cap1, l1, hv1, hl1, hn1⟩ := open_items hf1
  simp [Value.cells] at hv1
  obtain ⟨rfl, rfl, rfl⟩ := hv1
  clear hA0 hval0
  refine (walk x0 z0 l0 x1 z1 l1 W hl0 hn0 hm0 hl1 hn1).mono fun e W' ⟨he, bel⟩ => ?_
  subst he
  exact ⟨_, rfl, _, _, _, [], _, [], hW', trodAll_mk1 (shut_bool Try.underlying4 _), (trodAll_cons_mk (Below.trod laidOut (by kernel_rfl) (of_decide_eq_true (by kernel_rfl)) k0 bel.below lt0) (trodAll_cons_mk (Below.trod laidOut (by kernel_rfl) (of_decide_eq_true (by kernel_rfl)) k1 bel.below lt1) trodAll_mk0)), rfl, bel.below.frame _, fun h => by cases h⟩

theorem over : Rows.fnExactVotesForRow.holds Try.pinned (OpenSpec.ofChange Rows.fnExactVotesForSpec) :=
  OpenClaim.holds_of_wide 15 Try.f15 rfl rfl rfl rfl rfl rfl rfl ⟨rfl, rfl, rfl, rfl, rfl⟩ rfl rfl rfl rfl rfl (by kernel_rfl) Try.func15 (by kernel_rfl)
    (of_decide_eq_true (by kernel_rfl)) (by unfold Func.isWrapper; first | (rw [if_pos (by decide +kernel)]; kernel_rfl) | (rw [if_neg (by decide +kernel)]; exact ⟨rfl, rfl⟩))
    (fun os started H enc _ => lifted os started H enc)
end Go.Proofs.Ytppikkppgojbpaa.FnExactVotesFor
namespace Go.Proofs.Ytppikkppgojbpaa
theorem fnExactVotesFor_holds : Rows.FnExactVotesForSaid := FnExactVotesFor.over
#print axioms fnExactVotesFor_holds
end Go.Proofs.Ytppikkppgojbpaa
