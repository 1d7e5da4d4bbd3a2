/-
  FnForAdd returns true at every two rows of bytes and leaves its arguments as they were: what the statement says; no condition.
-/
import Derived.Test.YtppikkppgojbpaaVDraw4
import Derived.Test.YtppikkppgojbpaaVShare
import Derived.Test.YtppikkppgojbpaaNumsV
import Derived.Test.YtppikkppgojbpaaVote3
import Derived.Test.YtppikkppgojbpaaOpen
import Derived.Lib.SmallJoins
import Derived.JoinedOf
import Derived.JoinedAt
import Derived.RowKit3
import Derived.Deep.RegionHeldLaw
import Derived.Deep.DeepFit
namespace Go.Proofs.Ytppikkppgojbpaa.FnForAdd
set_option linter.unusedVariables false
open Go.ChangeShapes Go.WideShapes Go.ChangeAt Go.RowKit Go.Joins
attribute [local simp] far_const

theorem lwInts_eq {v u : Value} {L : List Int} (w : World) (h : NumV w v L) (k : NumV w u L) (hn : L.length ≤ 4) : Calls Try.prog 33 #[v, u] w fun r w' => r = .returned (.bool true) ∧ Grew w w' := by
  refine (lwInts_v w h k (by omega) (by omega)).mono ?_
  rintro r w1 ⟨rfl, g⟩
  exact ⟨by rw [decide_eq_true rfl], g⟩
theorem forL_len (l : List Vt) (c : List It) : (forL l c).length ≤ 4 := by
  unfold forL; split
  · exact forN_len l c
  · simp
/-- Whether a number is among the first j. -/
def hasN (Q : List Int) (z : Int) (j : Nat) : Bool := (Q.take j).any (fun y => y == z)
theorem hasN_zero (Q : List Int) (z : Int) : hasN Q z 0 = false := by simp [hasN]
theorem hasN_old {Q : List Int} {z : Int} {j : Nat} (hj : j < Q.length) (h : hasN Q z j = true) : hasN Q z (j + 1) = true := by
  unfold hasN at *; rw [List.take_succ_eq_append_getElem hj, List.any_append, h]; rfl
theorem hasN_step {Q : List Int} {z : Int} {j : Nat} (hj : j < Q.length) (h : hasN Q z j = false) : hasN Q z (j + 1) = (Q[j] == z) := by
  unfold hasN at *; rw [List.take_succ_eq_append_getElem hj, List.any_append, h]; simp
theorem hasN_all {Q : List Int} {z : Int} (h : z ∈ Q) : hasN Q z Q.length = true := by
  unfold hasN; rw [List.take_length, List.any_eq_true]; exact ⟨z, h, by simp⟩
theorem for_add {l : List Vt} {x : Vt} (h : (addV l x).2 = true) : (forL (l ++ [x]) x.c).length = (forL l x.c).length + 1 ∧ x.n ∈ forL (l ++ [x]) x.c := by
  obtain ⟨h1, h2, h3, _⟩ := addV_true h
  have e1 : forL l x.c = forN l x.c := by unfold forL; rw [h1]; rfl
  have e2 : forL (l ++ [x]) x.c = forN (l ++ [x]) x.c := by unfold forL; rw [votesB_snoc h1 h2 h3]; rfl
  rw [e1, e2]; exact forN_add h2 h3
theorem for_other {l : List Vt} {x : Vt} {c : List It} (h : (addV l x).2 = true) (hc : sameB c x.c = false) : forL l c = forL (l ++ [x]) c := by
  obtain ⟨h1, h2, h3, _⟩ := addV_true h
  have hne : c ≠ x.c := fun e => by rw [(sameB_iff c x.c).2 e] at hc; cases hc
  have e1 : forL l c = forN l c := by unfold forL; rw [h1]; rfl
  have e2 : forL (l ++ [x]) c = forN (l ++ [x]) c := by unfold forL; rw [votesB_snoc h1 h2 h3]; rfl
  rw [e1, e2, forN_other hne]

set_option maxRecDepth 20000 in
set_option maxHeartbeats 16000000 in
theorem walk (a : Option Addr) (n cap : Nat) (a2 : Option Addr) (n2 cap2 : Nat) (w : World) (hb : Byt w a w.heap.size n) (hc : n ≤ cap) (hb2 : Byt w a2 w.heap.size n2) (hc2 : n2 ≤ cap2) :
    Calls Try.prog 9 #[.slice a n cap, .slice a2 n2 cap2] w fun e w' => e = .returned (.bool true) ∧ Grew w w' := by
  by_cases hn : n ≤ 1048576
  · have hn1 : decide ((1048576 : Int) < (n : Int)) = false := by simp; omega
    by_cases hn2 : n2 ≤ 1048576
    · have hn3 : decide ((1048576 : Int) < (n2 : Int)) = false := by simp; omega
      go_enter Try.func9, Try.ntmps9
      go_wp2_with fail
      refine (drawVotesAdd_any a n cap _ hb hc hn).mono ?_
      rintro e w1 ⟨v, l, x, ax, cx, rfl, vl, hl, hlw, ix, hx, gg⟩
      have V1 := hide vl
      obtain ⟨av, capv, rfl, hcapv, _⟩ := vl
      have I1 := hide ix
      have HS := hide (hlw.short (by omega))
      have hxx : x.c.length ≤ 1048576 := by omega
      have hll : l.length ≤ 1048576 := by omega
      have S0 := hide (show Grew w w1 from gg)
      clear gg ix hlw
      have hb2' : Byt (w1.alloc (.cells #[.int .i64 x.n, .slice ax x.c.length cx] 28)) a2 (w1.alloc (.cells #[.int .i64 x.n, .slice ax x.c.length cx] 28)).heap.size n2 := by
        rcases hb2 with h | ⟨b, off, ha, hb, h⟩
        · exact .inl h
        · have hz := (unhide S0).size
          exact .inr ⟨b, off, ha, by simp; omega, fun i hi => by obtain ⟨z, h1, h2, h3⟩ := h i hi; exact ⟨z, h1, h2, ((unhide S0).alloc _).keep h3⟩⟩
      go_wp2_with fail
      refine (drawVoteOk_any a2 n2 cap2 _ hb2' hc2 hn2).mono ?_
      rintro e w2 ⟨y, ay, cy, rfl, iy, hy7, gg⟩
      have x0 := gg.keep (p := ⟨w1.heap.size, 0, none⟩) (v := .int .i64 x.n) (by simp [go_sem])
      have x1 := gg.keep (p := ⟨w1.heap.size, 1, none⟩) (v := .slice ax x.c.length cx) (by simp [go_sem])
      have I2 := hide iy
      have hyy : y.c.length ≤ 1048576 := by omega
      have S1 := hide (show Grew w1 w2 from ((Grew.refl _).alloc _).trans gg)
      clear gg iy hb2'
      have x0 := ((Grew.refl _).alloc (.cells #[.int .i64 y.n, .slice ay y.c.length cy] 28)).keep x0
      have x1 := ((Grew.refl _).alloc (.cells #[.int .i64 y.n, .slice ay y.c.length cy] 28)).keep x1
      go_wp2_with fail
      refine (specVotesAdd_v x _ _ ((unhide V1).grew ((unhide S1).alloc _)) (unhide HS) hll ⟨_, _, rfl, (unhide I1).grew ((unhide S1).alloc _)⟩ hxx).mono ?_
      rintro e w3 ⟨u3, rfl, o3, gg⟩
      have y0 := gg.keep (p := ⟨w2.heap.size, 0, none⟩) (v := .int .i64 y.n) (by simp [go_sem])
      have y1 := gg.keep (p := ⟨w2.heap.size, 1, none⟩) (v := .slice ay y.c.length cy) (by simp [go_sem])
      have x0 := gg.keep x0
      have x1 := gg.keep x1
      have U3 := hide o3.vtsV
      have S2 := hide (show Grew w2 w3 from ((Grew.refl _).alloc _).trans gg)
      clear gg o3
      go_wp2_with fail
      refine (implVotesAdd_v x _ _ ((unhide V1).grew ((unhide S1).trans (unhide S2))) (unhide HS) hll ⟨_, _, rfl, (unhide I1).grew ((unhide S1).trans (unhide S2))⟩ hxx).mono ?_
      rintro e w4 ⟨u4, hu4, rfl, o4, gg⟩
      have S3 := hide (show Grew w3 w4 from gg)
      have U4 := hide o4.vtsV
      have x0 := gg.keep x0
      have x1 := gg.keep x1
      have y0 := gg.keep y0
      have y1 := gg.keep y1
      clear gg o4
      obtain ⟨L, hL⟩ : ∃ L, (addV l x).1 = L := ⟨_, rfl⟩
      have hLs : Short L := by rw [← hL]; exact addV_short (unhide HS) hxx
      have hLn : L.length ≤ 194 := by have := addV_len l x; rw [← hL]; omega
      rw [hL] at U3 U4
      have HL := hide hL
      have HLS := hide hLs
      clear hL hLs
      cases hb1 : (addV l x).2
      case false =>
        go_wp2_with fail
        refine (lwVotes_v _ ((unhide U4).grew (Grew.refl _)) ((unhide U3).grew (unhide S3)) (unhide HLS) (unhide HLS) (by omega) (by omega)).mono ?_
        rintro e w5 ⟨rfl, gg⟩
        have S4 := hide (show Grew w4 w5 from gg)
        rw [(sameVs_iff L L).2 rfl]
        clear gg
        go_wp2_with fail
        refine (lwVotes_v _ ((unhide U4).grew (unhide S4)) ((unhide U3).grew ((unhide S3).trans (unhide S4))) (unhide HLS) (unhide HLS) (by omega) (by omega)).mono ?_
        rintro e w6 ⟨rfl, gg⟩
        have S5 := hide (show Grew w5 w6 from gg)
        rw [(sameVs_iff L L).2 rfl]
        clear gg
        go_wp2
        go_ret
        exact ⟨rfl, ((((((unhide S0).trans (unhide S1)).trans (unhide S2)).trans (unhide S3)).trans (unhide S4)).trans (unhide S5))⟩
      case true =>
        go_wp2_with fail
        refine (lwVotes_v _ ((unhide U4).grew (Grew.refl _)) ((unhide U3).grew (unhide S3)) (unhide HLS) (unhide HLS) (by omega) (by omega)).mono ?_
        rintro e w5 ⟨rfl, gg⟩
        have S4 := hide (show Grew w4 w5 from gg)
        rw [(sameVs_iff L L).2 rfl]
        have x0 := gg.keep x0
        have x1 := gg.keep x1
        have y0 := gg.keep y0
        have y1 := gg.keep y1
        clear gg
        obtain ⟨_, _, _, hLe⟩ := addV_true hb1
        have HLE := hide ((unhide HL).symm.trans hLe)
        clear hLe
        rw [unhide HLE] at U4
        have hs1 : Short (l ++ [x]) := by rw [← unhide HLE]; exact unhide HLS
        have HS1 := hide hs1
        clear hs1
        have hl1 : (l ++ [x]).length ≤ 1048576 := by simp; omega
        obtain ⟨P, hP⟩ : ∃ P, forL l x.c = P := ⟨_, rfl⟩
        obtain ⟨Q, hQ⟩ : ∃ Q, forL (l ++ [x]) x.c = Q := ⟨_, rfl⟩
        have hPn : P.length ≤ 4 := by rw [← hP]; exact forL_len _ _
        have hQn : Q.length ≤ 4 := by rw [← hQ]; exact forL_len _ _
        have hfa := for_add hb1
        rw [hP, hQ] at hfa
        have HPQ := hide (And.intro hP hQ)
        have HFA := hide hfa
        clear hP hQ hfa
        go_wp2_with fail
        refine (implVotesFor_v ax cx x.c _ ((unhide V1).grew ((((unhide S1).trans (unhide S2)).trans (unhide S3)).trans (unhide S4))) (unhide HS) hll ((unhide I1).grew ((((unhide S1).trans (unhide S2)).trans (unhide S3)).trans (unhide S4))) hxx).mono ?_
        rintro e w6 ⟨u6, rfl, o6, gg⟩
        have S5 := hide (show Grew w5 w6 from gg)
        rw [(unhide HPQ).1] at o6
        obtain ⟨a6, c6, hu6, _⟩ := o6.num
        subst hu6
        have x0 := gg.keep x0
        have x1 := gg.keep x1
        have y0 := gg.keep y0
        have y1 := gg.keep y1
        clear gg o6
        go_wp2_with fail
        refine (implVotesFor_v ax cx x.c _ ((unhide U4).grew ((unhide S4).trans (unhide S5))) (unhide HS1) hl1 ((unhide I1).grew (((((unhide S1).trans (unhide S2)).trans (unhide S3)).trans (unhide S4)).trans (unhide S5))) hxx).mono ?_
        rintro e w7 ⟨u7, rfl, o7, gg⟩
        have S6 := hide (show Grew w6 w7 from gg)
        rw [(unhide HPQ).2] at o7
        obtain ⟨a7, c7, hu7, i7⟩ := o7.num
        subst hu7
        have I7 := hide i7
        have x0 := gg.keep x0
        have x1 := gg.keep x1
        have y0 := gg.keep y0
        have y1 := gg.keep y1
        clear gg o7 i7
        have W0 := hide (((((((unhide S0).trans (unhide S1)).trans (unhide S2)).trans (unhide S3)).trans (unhide S4)).trans (unhide S5)).trans (unhide S6))
        have W1 := hide ((((((unhide S1).trans (unhide S2)).trans (unhide S3)).trans (unhide S4)).trans (unhide S5)).trans (unhide S6))
        have W2 := hide (((((unhide S2).trans (unhide S3)).trans (unhide S4)).trans (unhide S5)).trans (unhide S6))
        have W4 := hide (((unhide S4).trans (unhide S5)).trans (unhide S6))
        have HX := hide (And.intro x0 (And.intro x1 y1))
        clear x0 x1 y0 y1
        go_wp2_with fail
        go_loopw [14, 15] (fun hh i wr => ∃ j : Nat, j ≤ Q.length ∧ i = .int .i64 (j : Int) ∧ hh = .bool (hasN Q x.n j) ∧ Grew w7 wr) (fun _ i _ => Q.length - (intOf i).toNat)
        case atStart => exact ⟨0, Nat.zero_le _, rfl, (by rw [hasN_zero]), Grew.refl _⟩
        case round =>
          obtain ⟨j, hj, rfl, rfl, hg⟩ := hrel
          have x0 := hg.keep (unhide HX).1
          have x1 := hg.keep (unhide HX).2.1
          have y1 := hg.keep (unhide HX).2.2
          by_cases hjq : j < Q.length
          · have hjq' : (j : Int) < (Q.length : Int) := by omega
            obtain ⟨b7, o7, rfl, hc7⟩ := ((unhide I7).grew hg).at hjq
            have e0 := Grew.gcell x0
            have e7 := Grew.gcell hc7
            cases hfi : hasN Q x.n j with
            | true =>
              have hnx := hide (hasN_old hjq hfi)
              go_wp2_with fail
              refine quietly (by kernel_rfl) (by kernel_rfl) ?_
              repeat (go_big_quiet_step (first | fail))
              refine wpQuiet_nil ?_
              intro _ hw'
              obtain ⟨⟨nq, osq⟩, hw''⟩ := hw'
              subst hw''
              go_wp2
              go_roundw
              case rel => exact ⟨j + 1, by omega, by go_num, by rw [unhide hnx], hg.trans ⟨_, _, rfl⟩⟩
              case measure => simp [intOf]; omega
            | false =>
              have hnx := hide (hasN_step hjq hfi)
              cases hqx : (Q[j] == x.n)
              all_goals
                go_wp2_with fail
                refine quietly (by kernel_rfl) (by kernel_rfl) ?_
                repeat (go_big_quiet_step (first | fail))
                refine wpQuiet_nil ?_
                intro _ hw'
                obtain ⟨⟨nq, osq⟩, hw''⟩ := hw'
                subst hw''
                go_wp2
                go_roundw
                case rel => exact ⟨j + 1, by omega, by go_num, by rw [unhide hnx, hqx], hg.trans ⟨_, _, rfl⟩⟩
                case measure => simp [intOf]; omega
          · have hj2 : j = Q.length := by omega
            subst hj2
            have hlt0 : ¬ (Q.length : Int) < (Q.length : Int) := by omega
            have hall : hasN Q x.n Q.length = true := hasN_all (unhide HFA).2
            have hlen : ((Q.length : Int) == (P.length : Int) + 1) = true := by have := (unhide HFA).1; simp; omega
            have hwr : IntKind.i64.wrap ((P.length : Int) + 1) = (P.length : Int) + 1 := by rw [IntKind.wrap_i64]; omega
            have iX := hide ((unhide I1).grew ((unhide W1).trans hg))
            have iY := hide ((unhide I2).grew ((unhide W2).trans hg))
            cases hsm : sameB y.c x.c with
            | true =>
              have e1 := Grew.gcell x1
              have f1 := Grew.gcell y1
              have lws := fun w' (g : Grew wr w') => lwSame_any ay ax cy cx y.c x.c w' ((unhide iY).grew g) ((unhide iX).grew g) hyy hxx
              rw [hsm] at lws
              have LWS := hide lws
              clear lws
              go_wp2_with fail
              refine quietly (by kernel_rfl) (by kernel_rfl) ?_
              repeat (go_big_quiet_step (first | (go_at_call 37; exact Calls.far (unhide LWS _ ⟨_, _, rfl⟩))))
              refine wpQuiet_nil ?_
              intro _ hw'
              obtain ⟨⟨nq, osq⟩, hw''⟩ := hw'
              subst hw''
              go_wp2
              go_ret
              exact ⟨rfl, (unhide W0).trans (hg.trans ⟨_, _, rfl⟩)⟩
            | false =>
              obtain ⟨M, hM⟩ : ∃ M, forL (l ++ [x]) y.c = M := ⟨_, rfl⟩
              have nM : M.length ≤ 4 := by rw [← hM]; exact forL_len _ _
              have EM := hide (And.intro hM ((for_other hb1 hsm).trans hM))
              have HP := hide (And.intro x1 y1)
              clear hM x0 x1 y1
              have lws := fun w' (g : Grew wr w') => lwSame_any ay ax cy cx y.c x.c w' ((unhide iY).grew g) ((unhide iX).grew g) hyy hxx
              rw [hsm] at lws
              have LWS := hide lws
              clear lws
              go_wp2_with fail
              go_region_held_law (fun w' => w'.cell? ⟨w1.heap.size, 1, none⟩ = some (.slice ax x.c.length cx) ∧ w'.cell? ⟨w2.heap.size, 1, none⟩ = some (.slice ay y.c.length cy))
                (first | exact ⟨GD.keep (unhide HP).1, GD.keep (unhide HP).2⟩ | exact ⟨GC.keep (unhide HP).1, GC.keep (unhide HP).2⟩ | exact ⟨GB.keep (unhide HP).1, GB.keep (unhide HP).2⟩ | exact ⟨GA.keep (unhide HP).1, GA.keep (unhide HP).2⟩ | exact unhide HP)
                (first
                  | (go_at_call 37; go_fit (unhide LWS _ (Grew.refl _).drew); rintro r wa ⟨rfl, ga⟩; have GA : Grew wr wa := (Grew.refl _).drew.trans ga; clear ga)
                  | (go_at_call 32; go_fit (implVotesFor_v ay cy y.c _ ((unhide U4).grew ((unhide W4).trans (hg.trans GA))) (unhide HS1) hl1 ((unhide iY).grew GA) hyy); rintro r wb ⟨vb, rfl, ob, gb⟩; have GB := GA.trans gb; rw [(unhide EM).1] at ob; have NB := hide ob.num; clear ob gb)
                  | (go_at_call 32; go_fit (implVotesFor_v ay cy y.c _ ((unhide V1).grew ((unhide W1).trans (hg.trans GB))) (unhide HS) hll ((unhide iY).grew GB) hyy); rintro r wc ⟨vc, rfl, oc, gc⟩; have GC := GB.trans gc; rw [(unhide EM).2] at oc; have NBC := hide (And.intro ((unhide NB).grew gc) oc.num); clear oc gc)
                  | (go_at_call 33; go_fit (lwInts_eq _ (unhide NBC).1 (unhide NBC).2 nM); rintro r wd ⟨rfl, gd⟩; have GD := GC.trans gd; clear gd))
              go_wp2
              go_ret
              exact ⟨rfl, (unhide W0).trans (hg.trans GD)⟩
    · have hn3 : decide ((1048576 : Int) < (n2 : Int)) = true := by simp; omega
      clear hn2
      go_enter Try.func9, Try.ntmps9
      go_wp2
      go_ret
      exact ⟨rfl, Grew.refl _⟩
  · have hn1 : decide ((1048576 : Int) < (n : Int)) = true := by simp; omega
    clear hn
    go_enter Try.func9, Try.ntmps9
    go_wp2
    go_ret
    exact ⟨rfl, Grew.refl _⟩

set_option maxRecDepth 100000 in
theorem lifted (os : Os) (started : os.Started) (H : Type) (enc : TypeId × Value → H) :
    ReturnsInHanded {} Try.checked os 9 .any (Rows.fnForAddSpec.pre6 enc Try.prog Try.f9 Rows.fnForAddRow.domain false) (Rows.fnForAddSpec.post enc Try.prog Try.f9 false true false false) := by
  refine returnsInHanded_of_change (C := Try.checked) own started (by kernel_rfl) Try.func9
    (ChangeSpec.witness6 (enc := enc) (C := Try.checked) false ⟨#[], #[.slice none 0 0, .slice none 0 0], []⟩ 8 (by kernel_rfl) (by kernel_rfl) (by kernel_rfl) (by kernel_rfl)) ?_
  intro W base args ds gs before hval0 hW hcnd _
  have hval : ∀ (j : Nat) t v, Try.f9.params[j]? = some t → args[j]? = some v → Value.okWide Try.prog W .any base t v := hval0
  have hW' := hW
  obtain ⟨p, q, hA0, hV, rfl, hfz, hnd⟩ := hW
  have hA : DataW.TrodAll enc Try.prog W 0 (fun _ => true) true Try.f9.params.toList args.toList ds p := hA0
  rw [Try.params9] at hA hval
  obtain ⟨v0, vs0, d0, ds0, p0, q0, hargs, rfl, rfl, h0, r0⟩ := trodAll_cons hA
  obtain ⟨v1, vs1, d1, ds1, p1, q1, rfl, rfl, rfl, h1, r1⟩ := trodAll_cons r0
  obtain ⟨rfl, rfl, rfl⟩ := trodAll_nil r1
  obtain rfl : args = #[v0, v1] := by cases args; simp_all
  obtain ⟨rfl, rfl⟩ := trodVars_none hV
  have k0 := h0
  have lt0 : ∀ x ∈ p0, x.block < W.heap.size := by obtain ⟨m, hm⟩ := k0; exact DataW.trod_lt m _ _ _ hm
  obtain ⟨a0, len0, cap0, rfl⟩ := okWide_slice Try.underlying22 (hval 0 22 v0 rfl rfl)
  obtain ⟨fuel0, hf0⟩ := h0
  obtain ⟨hb0, hc0⟩ := open_bytes hf0
  have k1 := h1
  have lt1 : ∀ x ∈ p1, x.block < W.heap.size := by obtain ⟨m, hm⟩ := k1; exact DataW.trod_lt m _ _ _ hm
  obtain ⟨a1, len1, cap1, rfl⟩ := okWide_slice Try.underlying22 (hval 1 22 v1 rfl rfl)
  obtain ⟨fuel1, hf1⟩ := h1
  obtain ⟨hb1, hc1⟩ := open_bytes hf1
  clear hA0 hval0
  refine (walk a0 len0 cap0 a1 len1 cap1 W hb0 hc0 hb1 hc1).mono fun e W' ⟨he, bel⟩ => ?_
  subst he
  exact ⟨_, rfl, _, _, _, [], _, [], hW', trodAll_mk1 (shut_bool Try.underlying4 _), (trodAll_cons_mk (Below.trod laidOut (by kernel_rfl) (of_decide_eq_true (by kernel_rfl)) k0 bel.below lt0) (trodAll_cons_mk (Below.trod laidOut (by kernel_rfl) (of_decide_eq_true (by kernel_rfl)) k1 bel.below lt1) trodAll_mk0)), rfl, bel.below.frame _, fun h => by cases h⟩

theorem over : Rows.fnForAddRow.holds Try.pinned (OpenSpec.ofChange Rows.fnForAddSpec) :=
  OpenClaim.holds_of_wide 9 Try.f9 rfl rfl rfl rfl rfl rfl rfl ⟨rfl, rfl, rfl, rfl, rfl⟩ rfl rfl rfl rfl rfl (by kernel_rfl) Try.func9 (by kernel_rfl)
    (of_decide_eq_true (by kernel_rfl)) (by unfold Func.isWrapper; first | (rw [if_pos (by decide +kernel)]; kernel_rfl) | (rw [if_neg (by decide +kernel)]; exact ⟨rfl, rfl⟩))
    (fun os started H enc _ => lifted os started H enc)
end Go.Proofs.Ytppikkppgojbpaa.FnForAdd
namespace Go.Proofs.Ytppikkppgojbpaa
theorem fnForAdd_holds : Rows.FnForAddSaid := FnForAdd.over
#print axioms fnForAdd_holds
end Go.Proofs.Ytppikkppgojbpaa
