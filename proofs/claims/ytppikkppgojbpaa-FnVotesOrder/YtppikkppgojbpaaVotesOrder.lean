/-
  FnVotesOrder returns true at every two rows of bytes and leaves its arguments as they were: what the statement says; no condition.
-/
import Derived.Test.YtppikkppgojbpaaVDraw4
import Derived.Test.YtppikkppgojbpaaVShare
import Derived.Test.YtppikkppgojbpaaNumsV
import Derived.Test.YtppikkppgojbpaaVote3
import Derived.Test.YtppikkppgojbpaaOpen
import Derived.Lib.SmallJoins
import Derived.JoinedOf
import Derived.JoinedAt
import Derived.RowKit3
import Derived.Deep.RegionHeldLaw
import Derived.Deep.DeepFit
namespace Go.Proofs.Ytppikkppgojbpaa.FnVotesOrder
set_option linter.unusedVariables false
open Go.ChangeShapes Go.WideShapes Go.ChangeAt Go.RowKit Go.Joins
attribute [local simp] far_const

theorem order_ok {l : List Vt} {x y : Vt} (h1 : (addV l x).2 = true) (h2 : (addV l y).2 = true) (h3 : (addV (l ++ [x]) y).2 = true) : (addV (l ++ [y]) x).2 = true ∧ (addV (l ++ [y]) x).1 = l ++ [y] ++ [x] ∧ (addV (l ++ [x]) y).1 = l ++ [x] ++ [y] := by
  obtain ⟨a1, a2, a3, a4⟩ := addV_true h1
  obtain ⟨b1, b2, b3, b4⟩ := addV_true h2
  obtain ⟨c1, c2, c3, c4⟩ := addV_true h3
  have hne : x ≠ y := fun e => by
    rw [hasB_app, b3, Bool.false_or] at c3
    rw [(hasB_iff [x] y).2 (by simp [e])] at c3
    cases c3
  have hno : hasB (l ++ [y]) x = false := by
    rw [hasB_app, a3, Bool.false_or]
    cases e : hasB [y] x with
    | false => rfl
    | true => exact absurd (by simpa using (hasB_iff [y] x).1 e) hne
  have := addV_new (votesB_snoc b1 b2 b3) a2 hno
  exact ⟨by rw [this], by rw [this], c4⟩
theorem order_for (l : List Vt) (x y : Vt) (c : List It) : forL (l ++ [y] ++ [x]) c = forL (l ++ [x] ++ [y]) c := by
  apply forL_perm
  rw [List.append_assoc, List.append_assoc]
  exact List.Perm.append_left l (List.Perm.swap _ _ _)
theorem lwInts_eq {v u : Value} {L : List Int} (w : World) (h : NumV w v L) (k : NumV w u L) (hn : L.length ≤ 4) : Calls Try.prog 33 #[v, u] w fun r w' => r = .returned (.bool true) ∧ Grew w w' := by
  refine (lwInts_v w h k (by omega) (by omega)).mono ?_
  rintro r w1 ⟨rfl, g⟩
  exact ⟨by rw [decide_eq_true rfl], g⟩
theorem forL_len (l : List Vt) (c : List It) : (forL l c).length ≤ 4 := by
  unfold forL; split
  · exact forN_len l c
  · simp

set_option maxRecDepth 20000 in
set_option maxHeartbeats 16000000 in
theorem walk (a : Option Addr) (n cap : Nat) (a2 : Option Addr) (n2 cap2 : Nat) (w : World) (hb : Byt w a w.heap.size n) (hc : n ≤ cap) (hb2 : Byt w a2 w.heap.size n2) (hc2 : n2 ≤ cap2) :
    Calls Try.prog 8 #[.slice a n cap, .slice a2 n2 cap2] w fun e w' => e = .returned (.bool true) ∧ Grew w w' := by
  by_cases hn : n ≤ 1048576
  · have hn1 : decide ((1048576 : Int) < (n : Int)) = false := by simp; omega
    by_cases hn2 : n2 ≤ 1048576
    · have hn3 : decide ((1048576 : Int) < (n2 : Int)) = false := by simp; omega
      go_enter Try.func8, Try.ntmps8
      go_wp2_with fail
      refine (drawVotesAdd_any a n cap _ hb hc hn).mono ?_
      rintro e w1 ⟨v, l, x, ax, cx, rfl, vl, hl, hlw, ix, hx, gg⟩
      have V1 := hide vl
      obtain ⟨av, capv, rfl, hcapv, _⟩ := vl
      have I1 := hide ix
      have HS := hide (hlw.short (by omega))
      have hxx : x.c.length ≤ 1048576 := by omega
      have hll : l.length ≤ 1048576 := by omega
      have S0 := hide (show Grew w w1 from gg)
      clear gg ix hlw
      have hb2' : Byt (w1.alloc (.cells #[.int .i64 x.n, .slice ax x.c.length cx] 28)) a2 (w1.alloc (.cells #[.int .i64 x.n, .slice ax x.c.length cx] 28)).heap.size n2 := by
        rcases hb2 with h | ⟨b, off, ha, hb, h⟩
        · exact .inl h
        · have hz := (unhide S0).size
          exact .inr ⟨b, off, ha, by simp; omega, fun i hi => by obtain ⟨z, h1, h2, h3⟩ := h i hi; exact ⟨z, h1, h2, ((unhide S0).alloc _).keep h3⟩⟩
      go_wp2_with fail
      refine (drawVoteOk_any a2 n2 cap2 _ hb2' hc2 hn2).mono ?_
      rintro e w2 ⟨y, ay, cy, rfl, iy, hy7, gg⟩
      have x0 := gg.keep (p := ⟨w1.heap.size, 0, none⟩) (v := .int .i64 x.n) (by simp [go_sem])
      have x1 := gg.keep (p := ⟨w1.heap.size, 1, none⟩) (v := .slice ax x.c.length cx) (by simp [go_sem])
      have I2 := hide iy
      have hyy : y.c.length ≤ 1048576 := by omega
      have S1 := hide (show Grew w1 w2 from ((Grew.refl _).alloc _).trans gg)
      clear gg iy hb2'
      have x0 := ((Grew.refl _).alloc (.cells #[.int .i64 y.n, .slice ay y.c.length cy] 28)).keep x0
      have x1 := ((Grew.refl _).alloc (.cells #[.int .i64 y.n, .slice ay y.c.length cy] 28)).keep x1
      go_wp2_with fail
      refine (specVotesAdd_v x _ _ ((unhide V1).grew ((unhide S1).alloc _)) (unhide HS) hll ⟨_, _, rfl, (unhide I1).grew ((unhide S1).alloc _)⟩ hxx).mono ?_
      rintro e w3 ⟨u3, rfl, o3, gg⟩
      have y0 := gg.keep (p := ⟨w2.heap.size, 0, none⟩) (v := .int .i64 y.n) (by simp [go_sem])
      have y1 := gg.keep (p := ⟨w2.heap.size, 1, none⟩) (v := .slice ay y.c.length cy) (by simp [go_sem])
      have x0 := gg.keep x0
      have x1 := gg.keep x1
      have U3 := hide o3.vtsV
      have S2 := hide (show Grew w2 w3 from ((Grew.refl _).alloc _).trans gg)
      clear gg o3
      go_wp2_with fail
      refine (implVotesAdd_v x _ _ ((unhide V1).grew ((unhide S1).trans (unhide S2))) (unhide HS) hll ⟨_, _, rfl, (unhide I1).grew ((unhide S1).trans (unhide S2))⟩ hxx).mono ?_
      rintro e w4 ⟨u4, hu4, rfl, o4, gg⟩
      have S3 := hide (show Grew w3 w4 from gg)
      have U4 := hide o4.vtsV
      have x0 := gg.keep x0
      have x1 := gg.keep x1
      have y0 := gg.keep y0
      have y1 := gg.keep y1
      clear gg o4
      obtain ⟨L, hL⟩ : ∃ L, (addV l x).1 = L := ⟨_, rfl⟩
      have hLs : Short L := by rw [← hL]; exact addV_short (unhide HS) hxx
      have hLn : L.length ≤ 194 := by have := addV_len l x; rw [← hL]; omega
      rw [hL] at U3 U4
      have HL := hide hL
      have HLS := hide hLs
      clear hL hLs
      cases hb1 : (addV l x).2
      case false =>
        go_wp2_with fail
        refine (lwVotes_v _ ((unhide U4).grew (Grew.refl _)) ((unhide U3).grew (unhide S3)) (unhide HLS) (unhide HLS) (by omega) (by omega)).mono ?_
        rintro e w5 ⟨rfl, gg⟩
        have S4 := hide (show Grew w4 w5 from gg)
        rw [(sameVs_iff L L).2 rfl]
        clear gg
        go_wp2_with fail
        refine (lwVotes_v _ ((unhide U4).grew (unhide S4)) ((unhide U3).grew ((unhide S3).trans (unhide S4))) (unhide HLS) (unhide HLS) (by omega) (by omega)).mono ?_
        rintro e w6 ⟨rfl, gg⟩
        have S5 := hide (show Grew w5 w6 from gg)
        rw [(sameVs_iff L L).2 rfl]
        clear gg
        go_wp2
        go_ret
        exact ⟨rfl, ((((((unhide S0).trans (unhide S1)).trans (unhide S2)).trans (unhide S3)).trans (unhide S4)).trans (unhide S5))⟩
      case true =>
        go_wp2_with fail
        refine (lwVotes_v _ ((unhide U4).grew (Grew.refl _)) ((unhide U3).grew (unhide S3)) (unhide HLS) (unhide HLS) (by omega) (by omega)).mono ?_
        rintro e w5 ⟨rfl, gg⟩
        have S4 := hide (show Grew w4 w5 from gg)
        rw [(sameVs_iff L L).2 rfl]
        have x0 := gg.keep x0
        have x1 := gg.keep x1
        have y0 := gg.keep y0
        have y1 := gg.keep y1
        clear gg
        obtain ⟨_, _, _, hLe⟩ := addV_true hb1
        have HLE := hide ((unhide HL).symm.trans hLe)
        clear hLe
        rw [unhide HLE] at U4
        have hs1 : Short (l ++ [x]) := by rw [← unhide HLE]; exact unhide HLS
        have HS1 := hide hs1
        clear hs1
        have hl1 : (l ++ [x]).length ≤ 1048576 := by simp; omega
        go_wp2_with fail
        refine (implVotesAdd_v y _ _ ((unhide V1).grew ((((unhide S1).trans (unhide S2)).trans (unhide S3)).trans (unhide S4))) (unhide HS) hll ⟨_, _, rfl, (unhide I2).grew (((unhide S2).trans (unhide S3)).trans (unhide S4))⟩ hyy).mono ?_
        rintro e w6 ⟨u6, hu6, rfl, o6, gg⟩
        have S5 := hide (show Grew w5 w6 from gg)
        have U6 := hide o6.vtsV
        have x0 := gg.keep x0
        have x1 := gg.keep x1
        have y0 := gg.keep y0
        have y1 := gg.keep y1
        clear gg o6
        go_wp2_with fail
        refine (implVotesAdd_v y _ _ ((unhide U4).grew ((unhide S4).trans (unhide S5))) (unhide HS1) hl1 ⟨_, _, rfl, (unhide I2).grew ((((unhide S2).trans (unhide S3)).trans (unhide S4)).trans (unhide S5))⟩ hyy).mono ?_
        rintro e w7 ⟨u7, hu7, rfl, o7, gg⟩
        have S6 := hide (show Grew w6 w7 from gg)
        have U7 := hide o7.vtsV
        have x0 := gg.keep x0
        have x1 := gg.keep x1
        have y0 := gg.keep y0
        have y1 := gg.keep y1
        clear gg o7
        cases hb2 : (addV l y).2
        case false =>
          go_wp2
          go_ret
          exact ⟨rfl, (((((((unhide S0).trans (unhide S1)).trans (unhide S2)).trans (unhide S3)).trans (unhide S4)).trans (unhide S5)).trans (unhide S6))⟩
        case true =>
          cases hb3 : (addV (l ++ [x]) y).2
          case false =>
            go_wp2
            go_ret
            exact ⟨rfl, (((((((unhide S0).trans (unhide S1)).trans (unhide S2)).trans (unhide S3)).trans (unhide S4)).trans (unhide S5)).trans (unhide S6))⟩
          case true =>
            obtain ⟨h4, h5, h6⟩ := order_ok hb1 hb2 hb3
            obtain ⟨_, _, _, h7⟩ := addV_true hb2
            rw [h7] at U6
            rw [h6] at U7
            have hs6 : Short (l ++ [y]) := by rw [← h7]; exact addV_short (unhide HS) hyy
            have HS6 := hide hs6
            have hs7 : Short (l ++ [x] ++ [y]) := by rw [← h6]; exact addV_short (unhide HS1) hyy
            have HS7 := hide hs7
            have hl6 : (l ++ [y]).length ≤ 1048576 := by simp; omega
            have H45 := hide (And.intro h4 h5)
            clear hs6 hs7 h4 h5 h6 h7
            go_wp2_with fail
            refine (implVotesAdd_v x _ _ ((unhide U6).grew (unhide S6)) (unhide HS6) hl6 ⟨_, _, rfl, (unhide I1).grew ((((((unhide S1).trans (unhide S2)).trans (unhide S3)).trans (unhide S4)).trans (unhide S5)).trans (unhide S6))⟩ hxx).mono ?_
            rw [(unhide H45).1]
            rintro e w8 ⟨u8, hu8, rfl, o8, gg⟩
            have S7 := hide (show Grew w7 w8 from gg)
            rw [(unhide H45).2] at o8
            have U8 := hide o8.vtsV
            have x0 := gg.keep x0
            have x1 := gg.keep x1
            have y0 := gg.keep y0
            have y1 := gg.keep y1
            clear gg o8
            have hs8 : Short (l ++ [y] ++ [x]) := fun z hz => unhide HS7 z (by simp only [List.mem_append, List.mem_singleton] at hz ⊢; rcases hz with (h | h) | h; exact .inl (.inl h); exact .inr h; exact .inl (.inr h))
            have HS8 := hide hs8
            have hl7 : (l ++ [x] ++ [y]).length ≤ 1048576 := by simp; omega
            have hl8 : (l ++ [y] ++ [x]).length ≤ 1048576 := by simp; omega
            obtain ⟨Lx, hLx⟩ : ∃ Lx, forL (l ++ [x] ++ [y]) x.c = Lx := ⟨_, rfl⟩
            obtain ⟨Ly, hLy⟩ : ∃ Ly, forL (l ++ [x] ++ [y]) y.c = Ly := ⟨_, rfl⟩
            have nx : Lx.length ≤ 4 := by rw [← hLx]; exact forL_len _ _
            have ny : Ly.length ≤ 4 := by rw [← hLy]; exact forL_len _ _
            have EX := hide (And.intro hLx ((order_for l x y x.c).trans hLx))
            have EY := hide (And.intro hLy ((order_for l x y y.c).trans hLy))
            have dx : decide (Lx = Lx) = true := decide_eq_true rfl
            have dy : decide (Ly = Ly) = true := decide_eq_true rfl
            have DD := hide (And.intro dx dy)
            have C7 := hide (unhide S7)
            have C1 := hide (((((((unhide S1).trans (unhide S2)).trans (unhide S3)).trans (unhide S4)).trans (unhide S5)).trans (unhide S6)).trans (unhide S7))
            have C2 := hide ((((((unhide S2).trans (unhide S3)).trans (unhide S4)).trans (unhide S5)).trans (unhide S6)).trans (unhide S7))
            have HP := hide (And.intro x1 y1)
            clear hs8 hLx hLy dx dy x0 y0
            go_wp2_with fail
            go_region_held_law (fun w' => w'.cell? ⟨w1.heap.size, 1, none⟩ = some (.slice ax x.c.length cx) ∧ w'.cell? ⟨w2.heap.size, 1, none⟩ = some (.slice ay y.c.length cy))
              (first | exact ⟨GF.keep (unhide HP).1, GF.keep (unhide HP).2⟩ | exact ⟨GE.keep (unhide HP).1, GE.keep (unhide HP).2⟩ | exact ⟨GD.keep (unhide HP).1, GD.keep (unhide HP).2⟩ | exact ⟨GC.keep (unhide HP).1, GC.keep (unhide HP).2⟩ | exact ⟨GB.keep (unhide HP).1, GB.keep (unhide HP).2⟩ | exact ⟨GA.keep (unhide HP).1, GA.keep (unhide HP).2⟩ | exact unhide HP)
              (first
                | (go_at_call 32; go_fit (implVotesFor_v ax cx x.c _ ((unhide U7).grew (unhide C7).drew) (unhide HS7) hl7 ((unhide I1).grew (unhide C1).drew) hxx); rintro r wa ⟨va, rfl, oa, ga⟩; have GA : Grew w8 wa := (Grew.refl _).drew.trans ga; rw [(unhide EX).1] at oa; have NA := hide oa.num; clear oa ga)
                | (go_at_call 32; go_fit (implVotesFor_v ax cx x.c _ ((unhide U8).grew GA) (unhide HS8) hl8 ((unhide I1).grew ((unhide C1).trans GA)) hxx); rintro r wb ⟨vb, rfl, ob, gb⟩; have GB := GA.trans gb; rw [(unhide EX).2] at ob; have NAB := hide (And.intro ((unhide NA).grew gb) ob.num); clear ob gb)
                | (go_at_call 33; go_fit (lwInts_eq _ (unhide NAB).1 (unhide NAB).2 nx); rintro r wc ⟨rfl, gc⟩; have GC := GB.trans gc; clear gc)
                | (go_at_call 32; go_fit (implVotesFor_v ay cy y.c _ ((unhide U7).grew ((unhide C7).trans GC)) (unhide HS7) hl7 ((unhide I2).grew ((unhide C2).trans GC)) hyy); rintro r wd ⟨vd, rfl, od, gd⟩; have GD := GC.trans gd; rw [(unhide EY).1] at od; have ND := hide od.num; clear od gd)
                | (go_at_call 32; go_fit (implVotesFor_v ay cy y.c _ ((unhide U8).grew GD) (unhide HS8) hl8 ((unhide I2).grew ((unhide C2).trans GD)) hyy); rintro r we ⟨ve, rfl, oe, ge⟩; have GE := GD.trans ge; rw [(unhide EY).2] at oe; have NDE := hide (And.intro ((unhide ND).grew ge) oe.num); clear oe ge)
                | (go_at_call 33; go_fit (lwInts_eq _ (unhide NDE).1 (unhide NDE).2 ny); rintro r wf ⟨rfl, gf⟩; have GF := GE.trans gf; clear gf))
            go_wp2
            go_ret
            exact ⟨rfl, ((((((((unhide S0).trans (unhide S1)).trans (unhide S2)).trans (unhide S3)).trans (unhide S4)).trans (unhide S5)).trans (unhide S6)).trans (unhide S7)).trans GF⟩
    · have hn3 : decide ((1048576 : Int) < (n2 : Int)) = true := by simp; omega
      clear hn2
      go_enter Try.func8, Try.ntmps8
      go_wp2
      go_ret
      exact ⟨rfl, Grew.refl _⟩
  · have hn1 : decide ((1048576 : Int) < (n : Int)) = true := by simp; omega
    clear hn
    go_enter Try.func8, Try.ntmps8
    go_wp2
    go_ret
    exact ⟨rfl, Grew.refl _⟩

set_option maxRecDepth 100000 in
theorem lifted (os : Os) (started : os.Started) (H : Type) (enc : TypeId × Value → H) :
    ReturnsInHanded {} Try.checked os 8 .any (Rows.fnVotesOrderSpec.pre6 enc Try.prog Try.f8 Rows.fnVotesOrderRow.domain false) (Rows.fnVotesOrderSpec.post enc Try.prog Try.f8 false true false false) := by
  refine returnsInHanded_of_change (C := Try.checked) own started (by kernel_rfl) Try.func8
    (ChangeSpec.witness6 (enc := enc) (C := Try.checked) false ⟨#[], #[.slice none 0 0, .slice none 0 0], []⟩ 8 (by kernel_rfl) (by kernel_rfl) (by kernel_rfl) (by kernel_rfl)) ?_
  intro W base args ds gs before hval0 hW hcnd _
  have hval : ∀ (j : Nat) t v, Try.f8.params[j]? = some t → args[j]? = some v → Value.okWide Try.prog W .any base t v := hval0
  have hW' := hW
  obtain ⟨p, q, hA0, hV, rfl, hfz, hnd⟩ := hW
  have hA : DataW.TrodAll enc Try.prog W 0 (fun _ => true) true Try.f8.params.toList args.toList ds p := hA0
  rw [Try.params8] at hA hval
  obtain ⟨v0, vs0, d0, ds0, p0, q0, hargs, rfl, rfl, h0, r0⟩ := trodAll_cons hA
  obtain ⟨v1, vs1, d1, ds1, p1, q1, rfl, rfl, rfl, h1, r1⟩ := trodAll_cons r0
  obtain ⟨rfl, rfl, rfl⟩ := trodAll_nil r1
  obtain rfl : args = #[v0, v1] := by cases args; simp_all
  obtain ⟨rfl, rfl⟩ := trodVars_none hV
  have k0 := h0
  have lt0 : ∀ x ∈ p0, x.block < W.heap.size := by obtain ⟨m, hm⟩ := k0; exact DataW.trod_lt m _ _ _ hm
  obtain ⟨a0, len0, cap0, rfl⟩ := okWide_slice Try.underlying22 (hval 0 22 v0 rfl rfl)
  obtain ⟨fuel0, hf0⟩ := h0
  obtain ⟨hb0, hc0⟩ := open_bytes hf0
  have k1 := h1
  have lt1 : ∀ x ∈ p1, x.block < W.heap.size := by obtain ⟨m, hm⟩ := k1; exact DataW.trod_lt m _ _ _ hm
  obtain ⟨a1, len1, cap1, rfl⟩ := okWide_slice Try.underlying22 (hval 1 22 v1 rfl rfl)
  obtain ⟨fuel1, hf1⟩ := h1
  obtain ⟨hb1, hc1⟩ := open_bytes hf1
  clear hA0 hval0
  refine (walk a0 len0 cap0 a1 len1 cap1 W hb0 hc0 hb1 hc1).mono fun e W' ⟨he, bel⟩ => ?_
  subst he
  exact ⟨_, rfl, _, _, _, [], _, [], hW', trodAll_mk1 (shut_bool Try.underlying4 _), (trodAll_cons_mk (Below.trod laidOut (by kernel_rfl) (of_decide_eq_true (by kernel_rfl)) k0 bel.below lt0) (trodAll_cons_mk (Below.trod laidOut (by kernel_rfl) (of_decide_eq_true (by kernel_rfl)) k1 bel.below lt1) trodAll_mk0)), rfl, bel.below.frame _, fun h => by cases h⟩

theorem over : Rows.fnVotesOrderRow.holds Try.pinned (OpenSpec.ofChange Rows.fnVotesOrderSpec) :=
  OpenClaim.holds_of_wide 8 Try.f8 rfl rfl rfl rfl rfl rfl rfl ⟨rfl, rfl, rfl, rfl, rfl⟩ rfl rfl rfl rfl rfl (by kernel_rfl) Try.func8 (by kernel_rfl)
    (of_decide_eq_true (by kernel_rfl)) (by unfold Func.isWrapper; first | (rw [if_pos (by decide +kernel)]; kernel_rfl) | (rw [if_neg (by decide +kernel)]; exact ⟨rfl, rfl⟩))
    (fun os started H enc _ => lifted os started H enc)
end Go.Proofs.Ytppikkppgojbpaa.FnVotesOrder
namespace Go.Proofs.Ytppikkppgojbpaa
theorem fnVotesOrder_holds : Rows.FnVotesOrderSaid := FnVotesOrder.over
#print axioms fnVotesOrder_holds
end Go.Proofs.Ytppikkppgojbpaa
