/-
  FnExactVotesAdd returns true at every row of votes and every vote and leaves its arguments as they were: what the statement says; no condition.
-/
import Derived.Test.YtppikkppgojbpaaVOpen
import Derived.Test.YtppikkppgojbpaaVForms
import Derived.Test.YtppikkppgojbpaaHeld
import Derived.Lib.SmallJoins
import Derived.JoinedOf
import Derived.JoinedAt
import Derived.RowKit3
import Derived.Deep.RegionHeldLaw
import Derived.Deep.DeepFit
namespace Go.Proofs.Ytppikkppgojbpaa.FnExactVotesAdd
set_option linter.unusedVariables false
open Go.ChangeShapes Go.WideShapes Go.ChangeAt Go.RowKit Go.Joins

theorem cnt_le {l : List Vt} (h : totV l ≤ 1048576) : cntV l ≤ 4194305 := by have := cntV_tot l; omega

set_option maxRecDepth 20000 in
set_option maxHeartbeats 8000000 in
theorem walk (a : Option Addr) (cap : Nat) (l : List Vt) (y : Vt) (av : Option Addr) (capv : Nat) (w : World) (hl : Vts w a l) (hn : l.length ≤ maxLen) (hm : ∀ x ∈ l, x.c.length ≤ maxLen) (hc : Its w av y.c) (hnc : y.c.length ≤ maxLen) :
    Calls Try.prog 14 #[.slice a l.length cap, .agg #[.int .i64 y.n, .slice av y.c.length capv]] w fun e w' => e = .returned (.bool true) ∧ Grew w w' := by
  have hz := fun w' (g : Grew w w') => szVoteS_any a cap l 1048576 w' (hl.grew g) (by omega) (by omega) (by unfold maxLen at hn; omega) (fun x hx => by have := hm x hx; unfold maxLen at this; omega)
  have hk : ∀ w1, Grew w w1 → VtV w1 (.agg #[.int .i64 y.n, .slice av y.c.length capv]) y := fun w1 g => ⟨av, capv, rfl, hc.grew g⟩
  have hnc' : y.c.length ≤ 9223372036854775807 := by unfold maxLen at hnc; omega
  have HZ := hide hz
  have HL := hide hl
  have HK := hide hk
  clear hz hm hl hn hc hnc hk
  by_cases ht : (1048576 : Int) < totV l
  · have hx := szR_neg ht
    go_enter Try.func14, Try.ntmps14
    go_wp2_with fail
    refine (unhide HZ _ ((Grew.refl _).alloc _)).mono ?_
    rw [hx]
    rintro e w0 ⟨rfl, g0⟩
    clear hx
    go_wp2
    go_ret
    exact ⟨rfl, ((Grew.refl _).alloc _).trans g0⟩
  · have ht' : totV l ≤ 1048576 := by omega
    have hnn : ¬ (1048576 : Int) - totV l < 0 := by omega
    have hsz : szR 1048576 (totV l) = 1048576 - totV l := szR_pos ht
    have HSZ := hide hsz
    clear hsz
    by_cases ht2 : (1048576 : Int) - totV l < y.c.length
    · have hx := szR_neg ht2
      go_enter Try.func14, Try.ntmps14
      go_wp2_with fail
      refine (unhide HZ _ ((Grew.refl _).alloc _)).mono ?_
      rw [unhide HSZ]
      rintro e w1 ⟨rfl, g1⟩
      have p0 := g1.keep (p := ⟨w.heap.size, 0, none⟩) (v := .int .i64 y.n) (by simp [go_sem])
      have p1 := g1.keep (p := ⟨w.heap.size, 1, none⟩) (v := .slice av y.c.length capv) (by simp [go_sem])
      have G1 := hide (((Grew.refl w).alloc _).trans g1)
      clear g1
      go_wp2_with fail
      refine (szVote_any y _ _ _ (unhide HK _ (unhide G1)) (by omega) (by omega) hnc').mono ?_
      rw [hx]
      rintro e w2 ⟨rfl, g2⟩
      clear hx
      go_wp2
      go_ret
      exact ⟨rfl, (unhide G1).trans g2⟩
    · have hx := hide (szR_pos ht2)
      have hnn2 : ¬ (1048576 : Int) - totV l - y.c.length < 0 := by omega
      have hs := hide (totV_short ht')
      have hcn := hide (cnt_le ht')
      have hn := totV_len ht'
      have hn2 : y.c.length ≤ 1048576 := by omega
      obtain ⟨L, hL⟩ : ∃ L, (addV l y).1 = L := ⟨_, rfl⟩
      obtain ⟨bb, hbb⟩ : ∃ b, (addV l y).2 = b := ⟨_, rfl⟩
      have hLs : Short L := by rw [← hL]; exact addV_short (totV_short ht') hn2
      have hLn : L.length ≤ 1048577 := by have := addV_len l y; rw [← hL]; omega
      have hLc : cntV L ≤ 4194305 := by rw [← hL]; exact addV_cnt (by omega)
      have hb0 : (bb != bb) = false := by cases bb <;> rfl
      have HE := hide (And.intro hL hbb)
      have HLS := hide (And.intro hLs hLc)
      clear hL hbb hLs hLc
      go_enter Try.func14, Try.ntmps14
      go_wp2_with fail
      refine (unhide HZ _ ((Grew.refl _).alloc _)).mono ?_
      rw [unhide HSZ]
      rintro e w1 ⟨rfl, gg⟩
      have p0 := gg.keep (p := ⟨w.heap.size, 0, none⟩) (v := .int .i64 y.n) (by simp [go_sem])
      have p1 := gg.keep (p := ⟨w.heap.size, 1, none⟩) (v := .slice av y.c.length capv) (by simp [go_sem])
      have S0 := hide (show Grew w w1 from ((Grew.refl w).alloc _).trans gg)
      clear gg
      go_wp2_with fail
      refine (szVote_any y _ _ _ (unhide HK _ (unhide S0)) (by omega) (by omega) hnc').mono ?_
      rw [unhide hx]
      rintro e w2 ⟨rfl, gg⟩
      have S1 := hide (show Grew w1 w2 from gg)
      have HP := hide (And.intro (gg.keep p0) (gg.keep p1))
      clear gg p0 p1
      go_wp2_with fail
      go_region_held_law (fun w' => w'.cell? ⟨w.heap.size, 0, none⟩ = some (.int .i64 y.n) ∧ w'.cell? ⟨w.heap.size, 1, none⟩ = some (.slice av y.c.length capv))
        (first | exact ⟨gc.keep (gb.keep (ga.keep ((unhide HP).1))), gc.keep (gb.keep (ga.keep ((unhide HP).2)))⟩ | exact ⟨gb.keep (ga.keep ((unhide HP).1)), gb.keep (ga.keep ((unhide HP).2))⟩ | exact ⟨ga.keep ((unhide HP).1), ga.keep ((unhide HP).2)⟩ | exact ⟨(unhide HP).1, (unhide HP).2⟩)
        (first
          | (go_at_call 42; refine (toVoteS_any a cap l _ ((unhide HL).grew ((unhide S0).trans (unhide S1)).drew) (unhide hs) hn).mono ?_; rintro r w3 ⟨va, hsa, rfl, oa, ga⟩)
          | (go_at_call 39; refine (toVote_any y _ _ (unhide HK _ (((unhide S0).trans (unhide S1)).drew.trans ga)) hn2).mono ?_; rintro r w4 ⟨qa, rfl, _, _, ia, _, gb⟩)
          | (go_at_call 24; refine (specVotesAdd_v y _ _ (oa.grew gb).vtsV (unhide hs) hn ⟨_, _, rfl, ia⟩ hn2).mono ?_; rintro r w5 ⟨u, rfl, ou, gc⟩))
      simp only [unhide HE] at ou ⊢
      have U0 := hide ou.vtsV
      have S2 := hide (show Grew w2 w3 from (Grew.refl _).drew.trans ga)
      have S3 := hide (show Grew w3 w4 from gb)
      have S4 := hide (show Grew w4 w5 from gc)
      clear ga gb gc oa ia ou
      go_wp2_with fail
      refine (toVoteS_any a cap l _ ((unhide HL).grew (((((unhide S0).trans (unhide S1)).trans (unhide S2)).trans (unhide S3)).trans (unhide S4))) (unhide hs) hn).mono ?_
      rintro e w6 ⟨vx, hsx, rfl, ox, gg⟩
      have S5 := hide (show Grew w5 w6 from gg)
      have X0 := hide ox
      have LX := hide (VAns.low (.inr ox))
      clear gg ox
      have p0 := ((((unhide S2).trans (unhide S3)).trans (unhide S4)).trans (unhide S5)).keep (unhide HP).1
      have p1 := ((((unhide S2).trans (unhide S3)).trans (unhide S4)).trans (unhide S5)).keep (unhide HP).2
      go_wp2_with fail
      refine (toVote_any y _ _ (unhide HK _ ((((((unhide S0).trans (unhide S1)).trans (unhide S2)).trans (unhide S3)).trans (unhide S4)).trans (unhide S5))) hn2).mono ?_
      rintro e w7 ⟨qy, rfl, hq1, hq2, iy, oy, gg⟩
      have S6 := hide (show Grew w6 w7 from gg)
      have Y0 := hide (And.intro iy oy)
      have HQ := hide (And.intro hq1 hq2)
      clear gg iy oy p0 p1 hq1 hq2
      go_wp2_with fail
      refine (implVotesAdd_v y _ _ ((unhide X0).grew ((unhide S6).alloc _)).vtsV (unhide hs) hn ⟨_, _, rfl, (unhide Y0).1.grew ((Grew.refl _).alloc _)⟩ hn2).mono ?_
      simp only [unhide HE]
      rintro e w8 ⟨ug, hg, rfl, og, gg⟩
      have x0 := gg.keep (p := ⟨w7.heap.size, 0, none⟩) (v := .int .i64 y.n) (by simp [go_sem])
      have x1 := gg.keep (p := ⟨w7.heap.size, 1, none⟩) (v := .slice (some ⟨qy, 0, none⟩) y.c.length y.c.length) (by simp [go_sem])
      have HX := hide (And.intro x0 x1)
      simp only [World.size_alloc] at og
      have R0 := hide og
      have LR := hide og.low
      have S7 := hide (show Grew w7 w8 from ((Grew.refl _).alloc _).trans gg)
      clear gg og x0 x1
      go_wp2_with fail
      refine (eqVoteS_v _ (unhide R0).vtsV ((unhide U0).grew (((unhide S5).trans (unhide S6)).trans (unhide S7))) (unhide HLS).1 (unhide HLS).1 hLn hLn).mono ?_
      rintro e w9 ⟨rfl, gg⟩
      have S8 := hide (show Grew w8 w9 from gg)
      rw [(sameVs_iff L L).2 rfl]
      clear gg
      go_wp2_with fail
      refine (toVoteS_any a cap l _ ((unhide HL).grew (((((((((unhide S0).trans (unhide S1)).trans (unhide S2)).trans (unhide S3)).trans (unhide S4)).trans (unhide S5)).trans (unhide S6)).trans (unhide S7)).trans (unhide S8))) (unhide hs) hn).mono ?_
      rintro e w10 ⟨vz, hsz, rfl, oz, gg⟩
      have S9 := hide (show Grew w9 w10 from gg)
      have OZ := hide oz
      clear gg oz
      go_wp2_with fail
      refine (eqVoteS_v _ ((unhide X0).grew ((((unhide S6).trans (unhide S7)).trans (unhide S8)).trans (unhide S9))).vtsV (unhide OZ).vtsV (unhide hs) (unhide hs) (by omega) (by omega)).mono ?_
      rintro e w11 ⟨rfl, gg⟩
      have S10 := hide (show Grew w10 w11 from gg)
      rw [(sameVs_iff l l).2 rfl]
      clear gg
      have HP2 := hide (And.intro ((((((((((unhide S2).trans (unhide S3)).trans (unhide S4)).trans (unhide S5)).trans (unhide S6)).trans (unhide S7)).trans (unhide S8)).trans (unhide S9)).trans (unhide S10)).keep (unhide HP).1) (And.intro ((((((((((unhide S2).trans (unhide S3)).trans (unhide S4)).trans (unhide S5)).trans (unhide S6)).trans (unhide S7)).trans (unhide S8)).trans (unhide S9)).trans (unhide S10)).keep (unhide HP).2) (And.intro ((((unhide S8).trans (unhide S9)).trans (unhide S10)).keep (unhide HX).1) ((((unhide S8).trans (unhide S9)).trans (unhide S10)).keep (unhide HX).2))))
      go_wp2_with fail
      go_region_held_law (fun w' => w'.cell? ⟨w.heap.size, 0, none⟩ = some (.int .i64 y.n) ∧ w'.cell? ⟨w.heap.size, 1, none⟩ = some (.slice av y.c.length capv) ∧ w'.cell? ⟨w7.heap.size, 0, none⟩ = some (.int .i64 y.n) ∧ w'.cell? ⟨w7.heap.size, 1, none⟩ = some (.slice (some ⟨qy, 0, none⟩) y.c.length y.c.length))
        (first | exact ⟨gb.keep (ga.keep (unhide HP2).1), gb.keep (ga.keep (unhide HP2).2.1), gb.keep (ga.keep (unhide HP2).2.2.1), gb.keep (ga.keep (unhide HP2).2.2.2)⟩ | exact ⟨ga.keep (unhide HP2).1, ga.keep (unhide HP2).2.1, ga.keep (unhide HP2).2.2.1, ga.keep (unhide HP2).2.2.2⟩ | exact unhide HP2)
        (first
          | (go_at_call 39; refine (toVote_any y _ _ (unhide HK _ (((((((((((unhide S0).trans (unhide S1)).trans (unhide S2)).trans (unhide S3)).trans (unhide S4)).trans (unhide S5)).trans (unhide S6)).trans (unhide S7)).trans (unhide S8)).trans (unhide S9)).trans (unhide S10)).drew) hn2).mono ?_; rintro r w12 ⟨qa, rfl, _, _, ia, _, ga⟩)
          | (go_at_call 40; refine (eqVote_any y y _ _ _ ⟨_, _, rfl, (unhide Y0).1.grew (((((unhide S7).trans (unhide S8)).trans (unhide S9)).trans (unhide S10)).drew.trans ga)⟩ ⟨_, _, rfl, ia⟩ hn2 hn2).mono ?_; rintro r w13 ⟨rfl, gb⟩))
      rw [(sameV_iff y y).2 rfl]
      have S11 := hide (show Grew w11 w12 from (Grew.refl _).drew.trans ga)
      have S12 := hide (show Grew w12 w13 from gb)
      clear ga gb ia
      have x0 := (((((unhide S8).trans (unhide S9)).trans (unhide S10)).trans (unhide S11)).trans (unhide S12)).keep (unhide HX).1
      have x1 := (((((unhide S8).trans (unhide S9)).trans (unhide S10)).trans (unhide S11)).trans (unhide S12)).keep (unhide HX).2
      have zx := hide (unhide S5).size
      have zy := hide (unhide S6).size
      have z0 := hide (((((unhide S0).trans (unhide S1)).trans (unhide S2)).trans (unhide S3)).trans (unhide S4)).size
      have hq1 := (unhide HQ).1
      have hq2 := (unhide HQ).2
      go_wp2_with fail
      refine (markV_v 1 _ (.inr ((unhide X0).grew (((((((unhide S6).trans (unhide S7)).trans (unhide S8)).trans (unhide S9)).trans (unhide S10)).trans (unhide S11)).trans (unhide S12)))) (unhide hcn) (by omega) (by omega)).mono ?_
      rintro e wa ⟨rfl, _, qa⟩
      have QA := hide qa
      clear qa
      have nB : w7.heap.size ∉ ansB vx hsx := fun hm => by have := (unhide LX _ hm).2; have := unhide zy; omega
      have nQ : qy ∉ ansB vx hsx := fun hm => by have := (unhide LX _ hm).2; omega
      have x0 : wa.cell? ⟨w7.heap.size, 0, none⟩ = some (.int .i64 y.n) := by rw [World.cell?_of_block (w := w13) ((unhide QA).keep _ nB)]; exact x0
      have x1 : wa.cell? ⟨w7.heap.size, 1, none⟩ = some (.slice (some ⟨qy, 0, none⟩) y.c.length y.c.length) := by rw [World.cell?_of_block (w := w13) ((unhide QA).keep _ nB)]; exact x1
      have Y1 := hide (((unhide Y0).2.grew ((((((unhide S7).trans (unhide S8)).trans (unhide S9)).trans (unhide S10)).trans (unhide S11)).trans (unhide S12))).block ((unhide QA).keep _ nQ))
      have hca : (0 : Int) ≤ 1 + cntV l := by omega
      have hcb : (1 : Int) + cntV l ≤ 4194306 := by have := unhide hcn; omega
      go_wp2_with fail
      refine (markVote_any y qy _ _ _ (unhide Y1) hn2 hca (by omega)).mono ?_
      rintro e wb ⟨rfl, qb⟩
      have QB := hide qb
      clear qb x0 x1
      have F1 := hide ((unhide QA).from ((((((((unhide S5).trans (unhide S6)).trans (unhide S7)).trans (unhide S8)).trans (unhide S9)).trans (unhide S10)).trans (unhide S11)).trans (unhide S12)) (fun b hb => (unhide LX b hb).1))
      have FW := hide ((unhide QB).from ((unhide F1).alloc _) (fun b hb => by simp at hb; rw [hb]; have := unhide zx; omega))
      have F0 := hide ((((((unhide S0).trans (unhide S1)).trans (unhide S2)).trans (unhide S3)).trans (unhide S4)).trans (unhide FW))
      have zb := hide (unhide QB).size
      have R1 := hide (((unhide R0).grew (((((unhide S8).trans (unhide S9)).trans (unhide S10)).trans (unhide S11)).trans (unhide S12))).kept (w' := wb) (by rw [unhide zb, World.size_alloc, (unhide QA).size]; omega) (fun g h1 h2 => by
        have hne : g ≠ qy := (by omega)
        have hlt : g < wa.heap.size := (by rw [(unhide QA).size]; exact h2)
        rw [(unhide QB).keep g (by simpa using hne), ((Grew.refl wa).alloc _).below.block g hlt, (unhide QA).keep g (fun hm => by have := (unhide LX g hm).2; have := unhide zy; omega)]))
      have hcd : ¬ (1 : Int) + cntV l + 4 * y.c.length < 0 := by omega
      have hcd' : decide ((1 : Int) + cntV l + 4 * y.c.length < 0) = false := by simpa using hcd
      clear nB nQ
      go_wp2_with fail
      refine (eqVoteS_v _ (unhide R1).vtsV ((unhide U0).grew (unhide FW)) (unhide HLS).1 (unhide HLS).1 hLn hLn).mono ?_
      rintro e wc ⟨rfl, gc⟩
      rw [(sameVs_iff L L).2 rfl]
      have R2 := hide ((unhide R1).grew gc)
      have FW := hide ((unhide FW).trans gc)
      have F0 := hide ((unhide F0).trans gc)
      clear gc
      go_wp2_with fail
      refine (markV_v 1 _ (unhide R2) (unhide HLS).2 (by omega) (by omega)).mono ?_
      rintro e wd ⟨rfl, nd, qd⟩
      have lowG := hide (fun b (hb : b ∈ ansB ug hg) => (unhide LR b hb).1)
      have zW := hide ((unhide S5).trans (unhide S6)).size
      have FW := hide (qd.from (unhide FW) (fun b hb => by have := unhide lowG b hb; have := unhide zW; omega))
      have F0 := hide (qd.from (unhide F0) (fun b hb => by have := unhide lowG b hb; have := unhide zW; have := unhide z0; omega))
      have ND := hide nd.vtsV
      clear nd qd
      have hcg : (0 : Int) ≤ 1 + cntV L := by omega
      go_wp2_with fail
      refine (heldV_v 1 _ (unhide ND) (unhide HLS).2 (by omega) (by omega)).mono ?_
      rintro e we ⟨rfl, ge⟩
      have ND := hide ((unhide ND).grew ge)
      have FW := hide ((unhide FW).trans ge)
      have F0 := hide ((unhide F0).trans ge)
      clear ge
      have hne : ((1 : Int) + cntV L != 1 + cntV L) = false := by simp
      have HP3 := hide (And.intro ((unhide FW).keep ((((unhide S2).trans (unhide S3)).trans (unhide S4)).keep (unhide HP).1)) ((unhide FW).keep ((((unhide S2).trans (unhide S3)).trans (unhide S4)).keep (unhide HP).2)))
      go_wp2_with fail
      go_region_held_law (fun w' => w'.cell? ⟨w.heap.size, 0, none⟩ = some (.int .i64 y.n) ∧ w'.cell? ⟨w.heap.size, 1, none⟩ = some (.slice av y.c.length capv))
        (first | exact ⟨gi.keep (gb.keep (ga.keep ((unhide HP3).1))), gi.keep (gb.keep (ga.keep ((unhide HP3).2)))⟩ | exact ⟨gb.keep (ga.keep ((unhide HP3).1)), gb.keep (ga.keep ((unhide HP3).2))⟩ | exact ⟨ga.keep ((unhide HP3).1), ga.keep ((unhide HP3).2)⟩ | exact ⟨(unhide HP3).1, (unhide HP3).2⟩)
        (first
          | (go_at_call 42; refine (toVoteS_any a cap l _ ((unhide HL).grew (unhide F0).drew) (unhide hs) hn).mono ?_; rintro r wf ⟨vf, hsf, rfl, of, ga⟩)
          | (go_at_call 39; refine (toVote_any y _ _ (unhide HK _ ((unhide F0).drew.trans ga)) hn2).mono ?_; rintro r wh ⟨qh, rfl, _, _, ih, _, gb⟩)
          | (go_at_call 25; refine (implVotesAdd_v y _ _ (of.grew gb).vtsV (unhide hs) hn ⟨_, _, rfl, ih⟩ hn2).mono ?_; rintro r wi ⟨ui, hi, rfl, oi, gi⟩))
      simp only [unhide HE] at oi ⊢
      have OI := hide oi.vtsV
      have ND := hide ((unhide ND).grew ((((Grew.refl _).drew.trans ga).trans gb).trans gi))
      have FW := hide ((unhide FW).trans ((((Grew.refl _).drew.trans ga).trans gb).trans gi))
      have F0 := hide ((unhide F0).trans ((((Grew.refl _).drew.trans ga).trans gb).trans gi))
      clear ga gb gi of ih oi
      go_wp2_with fail
      refine (eqVoteS_v _ (unhide OI) ((unhide U0).grew (unhide FW)) (unhide HLS).1 (unhide HLS).1 hLn hLn).mono ?_
      rintro e wj ⟨rfl, gj⟩
      rw [(sameVs_iff L L).2 rfl]
      have ND := hide ((unhide ND).grew gj)
      have F0 := hide ((unhide F0).trans gj)
      clear gj
      go_wp2_with fail
      refine (heldV_v 1 _ (unhide ND) (unhide HLS).2 (by omega) (by omega)).mono ?_
      rintro e wk ⟨rfl, gk⟩
      have F0 := hide ((unhide F0).trans gk)
      clear gk
      go_wp2
      go_ret
      exact ⟨rfl, unhide F0⟩

set_option maxRecDepth 100000 in
theorem lifted (os : Os) (started : os.Started) (H : Type) (enc : TypeId × Value → H) :
    ReturnsInHanded {} Try.checked os 14 .any (Rows.fnExactVotesAddSpec.pre6 enc Try.prog Try.f14 Rows.fnExactVotesAddRow.domain false) (Rows.fnExactVotesAddSpec.post enc Try.prog Try.f14 false true false false) := by
  refine returnsInHanded_of_change (C := Try.checked) own started (by kernel_rfl) Try.func14
    (ChangeSpec.witness6 (enc := enc) (C := Try.checked) false ⟨#[], #[.slice none 0 0, .agg #[.int .i64 0, .slice none 0 0]], []⟩ 8 (by kernel_rfl) (by kernel_rfl) (by kernel_rfl) (by kernel_rfl)) ?_
  intro W base args ds gs before hval0 hW hcnd _
  have hval : ∀ (j : Nat) t v, Try.f14.params[j]? = some t → args[j]? = some v → Value.okWide Try.prog W .any base t v := hval0
  have hW' := hW
  obtain ⟨p, q, hA0, hV, rfl, hfz, hnd⟩ := hW
  have hA : DataW.TrodAll enc Try.prog W 0 (fun _ => true) true Try.f14.params.toList args.toList ds p := hA0
  rw [Try.params14] at hA hval
  obtain ⟨v0, vs0, d0, ds0, p0, q0, hargs, rfl, rfl, h0, r0⟩ := trodAll_cons hA
  obtain ⟨v1, vs1, d1, ds1, p1, q1, rfl, rfl, rfl, h1, r1⟩ := trodAll_cons r0
  obtain ⟨rfl, rfl, rfl⟩ := trodAll_nil r1
  obtain rfl : args = #[v0, v1] := by cases args; simp_all
  obtain ⟨rfl, rfl⟩ := trodVars_none hV
  have k0 := h0
  have lt0 : ∀ x ∈ p0, x.block < W.heap.size := by obtain ⟨m, hm⟩ := k0; exact DataW.trod_lt m _ _ _ hm
  obtain ⟨x0, y0, z0, rfl⟩ := okWide_slice Try.underlying57 (hval 0 57 v0 rfl rfl)
  obtain ⟨fuel0, hf0⟩ := h0
  obtain ⟨a0, cap0, l0, hv0, hl0, hn0, hm0⟩ := open_votes hf0
  simp [Value.cells] at hv0
  obtain ⟨rfl, rfl, rfl⟩ := hv0
  have k1 := h1
  have lt1 : ∀ x ∈ p1, x.block < W.heap.size := by obtain ⟨m, hm⟩ := k1; exact DataW.trod_lt m _ _ _ hm
  obtain ⟨cs1, rfl, hsz1⟩ := okWide_struct Try.underlying52 (hval 1 52 v1 rfl rfl)
  obtain ⟨fuel1, hf1⟩ := h1
  obtain ⟨y1, a1, cap1, hv1, hl1, hn1⟩ := open_vote hf1
  simp [Value.cells] at hv1
  obtain rfl : cs1 = #[.int .i64 y1.n, .slice a1 y1.c.length cap1] := by cases cs1; simp_all
  clear hA0 hval0
  refine (walk x0 z0 l0 y1 a1 cap1 W hl0 hn0 hm0 hl1 hn1).mono fun e W' ⟨he, bel⟩ => ?_
  subst he
  exact ⟨_, rfl, _, _, _, [], _, [], hW', trodAll_mk1 (shut_bool Try.underlying4 _), (trodAll_cons_mk (Below.trod laidOut (by kernel_rfl) (of_decide_eq_true (by kernel_rfl)) k0 bel.below lt0) (trodAll_cons_mk (Below.trod laidOut (by kernel_rfl) (of_decide_eq_true (by kernel_rfl)) k1 bel.below lt1) trodAll_mk0)), rfl, bel.below.frame _, fun h => by cases h⟩

theorem over : Rows.fnExactVotesAddRow.holds Try.pinned (OpenSpec.ofChange Rows.fnExactVotesAddSpec) :=
  OpenClaim.holds_of_wide 14 Try.f14 rfl rfl rfl rfl rfl rfl rfl ⟨rfl, rfl, rfl, rfl, rfl⟩ rfl rfl rfl rfl rfl (by kernel_rfl) Try.func14 (by kernel_rfl)
    (of_decide_eq_true (by kernel_rfl)) (by unfold Func.isWrapper; first | (rw [if_pos (by decide +kernel)]; kernel_rfl) | (rw [if_neg (by decide +kernel)]; exact ⟨rfl, rfl⟩))
    (fun os started H enc _ => lifted os started H enc)
end Go.Proofs.Ytppikkppgojbpaa.FnExactVotesAdd
namespace Go.Proofs.Ytppikkppgojbpaa
theorem fnExactVotesAdd_holds : Rows.FnExactVotesAddSaid := FnExactVotesAdd.over
#print axioms fnExactVotesAdd_holds
end Go.Proofs.Ytppikkppgojbpaa
