/-
  FnSureMore returns true at every two rows of bytes and leaves its arguments as they were: what the statement says; no condition.
-/
import Derived.Test.YtibhfiamibccnaaVDraw4
import Derived.Test.YtibhfiamibccnaaVShare
import Derived.Test.YtibhfiamibccnaaNumsV
import Derived.Test.YtibhfiamibccnaaVote3
import Derived.Test.YtibhfiamibccnaaOpen
import Derived.Test.YtibhfiamibccnaaTDraw
import Derived.Test.YtibhfiamibccnaaTreeS
import Derived.Test.YtibhfiamibccnaaVLess
import Derived.Lib.SmallJoins
import Derived.JoinedOf
import Derived.JoinedAt
import Derived.RowKit3
import Derived.Deep.RegionHeldLaw
import Derived.Deep.DeepFit
namespace Go.Proofs.Ytibhfiamibccnaa.FnSureMore
set_option linter.unusedVariables false
open Go.ChangeShapes Go.WideShapes Go.ChangeAt Go.RowKit Go.Joins
attribute [local simp] far_const

theorem sure_pre {l : List Vt} {c : List It} (h : sureF (cnt l) c = true) (k : Nat) : sureF (cnt l) (c.take k) = true := by
  unfold sureF at h ⊢
  rw [List.all_eq_true] at h ⊢
  intro i hi
  simp only [List.mem_range, List.length_take] at hi
  have := h i (by simp; omega)
  rwa [List.take_take, Nat.min_eq_left (by omega)]
theorem goB_take (c : List It) : ∀ (last : Int) (k : Nat), goB last c = true → goB last (c.take k) = true := by
  induction c with
  | nil => intro last k h; simp [goB]
  | cons x r ih =>
    intro last k h
    cases k with
    | zero => simp [goB]
    | succ k =>
      simp only [goB, Bool.and_eq_true, List.take_succ_cons] at h ⊢
      exact ⟨h.1, ih _ k h.2⟩
theorem ok_take {c : List It} (h : okB c = true) (k : Nat) : okB (c.take k) = true := by
  simp only [okB, Bool.and_eq_true, decide_eq_true_eq] at h ⊢
  exact ⟨by simp; omega, goB_take c 0 k h.2⟩
theorem for_cnt {l : List Vt} (h : votesB l = true) (c : List It) : (forL l c).length = cnt l c := by
  unfold forL
  rw [if_pos h]
  exact forN_count l.length l c rfl h
theorem for_len (l : List Vt) (c : List It) : (forL l c).length ≤ 4 := by
  unfold forL; split
  · exact forN_len l c
  · simp
theorem byt_grew {w w' : World} {a : Option Addr} {n : Nat} (h : Byt w a w.heap.size n) (g : Grew w w') : Byt w' a w'.heap.size n := by
  rcases h with h | ⟨b, off, e, hl, hc⟩
  · exact .inl h
  · exact .inr ⟨b, off, e, Nat.lt_of_lt_of_le hl g.size, fun i hi => by obtain ⟨z, h0, h1, h2⟩ := hc i hi; exact ⟨z, h0, h1, g.keep h2⟩⟩
theorem cnt_more (l : List Vt) (x : Vt) (d : List It) : cnt l d ≤ cnt (l ++ [x]) d := by
  unfold cnt; rw [List.filter_append, List.length_append]; omega
theorem sure_mono {l m : List Vt} (h : ∀ d, cnt l d ≤ cnt m d) {c : List It} (hs : sureF (cnt l) c = true) : sureF (cnt m) c = true := by
  unfold sureF at hs ⊢
  rw [List.all_eq_true] at hs ⊢
  intro i hi
  have := of_decide_eq_true (hs i hi)
  exact decide_eq_true (Nat.le_trans this (h _))
theorem cnt_perm {l m : List Vt} (h : l.Perm m) (d : List It) : cnt l d = cnt m d := by
  unfold cnt; exact (h.filter _).length_eq
theorem sure_add {l : List Vt} {x : Vt} {c : List It} (h : sureL l c = true) (hx : (addV l x).2 = true) : sureL (addV l x).1 c = true := by
  obtain ⟨h1, h2, h3, h4⟩ := addV_true hx
  simp only [sureL, Bool.and_eq_true] at h ⊢
  rw [h4]
  exact ⟨votesB_snoc h1 h2 h3, h.2.1, sure_mono (cnt_more l x) h.2.2⟩
theorem sure_back {l : List Vt} {c : List It} (h : sureL l c = true) : sureL l.reverse c = true := by
  simp only [sureL, Bool.and_eq_true] at h ⊢
  refine ⟨by rw [votesB_perm (List.reverse_perm l)]; exact h.1, h.2.1, sure_mono (fun d => ?_) h.2.2⟩
  rw [cnt_perm (List.reverse_perm l)]; exact Nat.le_refl _
def noneL (l : List Vt) (c : List It) (k : Nat) : List Vt := (l.take k).filter (fun y => !sameB y.c c)
theorem noneL_yes {l : List Vt} {c : List It} {k : Nat} (hk : k < l.length) (h : sameB l[k].c c = true) : noneL l c (k + 1) = noneL l c k := by
  unfold noneL; rw [List.take_succ_eq_append_getElem hk, List.filter_append]; simp [h]
theorem noneL_no {l : List Vt} {c : List It} {k : Nat} (hk : k < l.length) (h : sameB l[k].c c = false) : noneL l c (k + 1) = noneL l c k ++ [l[k]] := by
  unfold noneL; rw [List.take_succ_eq_append_getElem hk, List.filter_append]; simp [h]
theorem noneL_len (l : List Vt) (c : List It) (k : Nat) : (noneL l c k).length ≤ l.length := by
  unfold noneL
  have h1 := List.length_filter_le (fun y : Vt => !sameB y.c c) (l.take k)
  have h2 : (l.take k).length ≤ l.length := by simp; omega
  omega
theorem sure_none {l : List Vt} {c : List It} (h : sureL l c = true) : sureL (noneL l c l.length) c = decide (c.length = 0) := by
  simp only [sureL, Bool.and_eq_true] at h
  have hv : votesB (noneL l c l.length) = true := votesB_sub h.1 (by unfold noneL; rw [List.take_length]; exact List.filter_sublist)
  simp only [sureL, hv, h.2.1, Bool.true_and]
  by_cases h0 : c.length = 0
  · have := List.eq_nil_of_length_eq_zero h0
    subst this
    rfl
  · rw [decide_eq_false h0]
    unfold sureF
    rw [List.all_eq_false]
    refine ⟨c.length - 1, by simp; omega, ?_⟩
    rw [show c.length - 1 + 1 = c.length by omega, List.take_length]
    have : cnt (noneL l c l.length) c = 0 := by
      rw [cnt_zero]
      intro x hx e
      unfold noneL at hx
      have := (List.mem_filter.1 hx).2
      rw [(sameB_iff _ _).2 e] at this
      cases this
    rw [this]
    decide
set_option maxRecDepth 20000 in
set_option maxHeartbeats 16000000 in
theorem walk (a : Option Addr) (n cap : Nat) (a2 : Option Addr) (n2 cap2 : Nat) (w : World) (hb : Byt w a w.heap.size n) (hc : n ≤ cap) (hb2 : Byt w a2 w.heap.size n2) (hc2 : n2 ≤ cap2) :
    Calls Try.prog 4 #[.slice a n cap, .slice a2 n2 cap2] w fun e w' => e = .returned (.bool true) ∧ Grew w w' := by
  by_cases hn : n ≤ 1048576
  · have hn1 : decide ((1048576 : Int) < (n : Int)) = false := by simp; omega
    by_cases hn2 : n2 ≤ 1048576
    · have hn3 : decide ((1048576 : Int) < (n2 : Int)) = false := by simp; omega
      go_enter Try.func4, Try.ntmps4
      go_wp2_with fail
      refine (drawTreeSure_any a n cap _ hb hc hn).mono ?_
      rintro e w1 ⟨v, l, b, cb, c, rfl, vl, hl, hlw, ic, hcc, hcb, gg⟩
      have HS := hide (hlw.short (by omega))
      have hxx : c.length ≤ 1048576 := by omega
      have hll : l.length ≤ 1048576 := by omega
      have V1 := hide vl
      obtain ⟨av, capv, rfl, hcapv, hvts⟩ := vl
      have VT := hide hvts
      have I1 := hide ic
      clear ic hlw hvts
      have S0 := hide (show Grew w w1 from gg)
      clear gg
      go_wp2_with fail
      refine (drawVoteOk_any a2 n2 cap2 _ (byt_grew hb2 (unhide S0)) hc2 hn2).mono ?_
      rintro e w2 ⟨x, ax, cx, rfl, ix, hx7, gg⟩
      have IX := hide ix
      have S1 := hide (show Grew w1 w2 from gg)
      clear gg ix
      have hX := hide (implTreeSure_v (some ⟨b, 0, none⟩) cb c (w2.alloc (.cells #[.int .i64 x.n, .slice ax x.c.length cx] 32)) ((unhide V1).grew ((unhide S1).alloc _)) (unhide HS) hll ((unhide I1).grew ((unhide S1).alloc _)) hxx)
      go_wp2_with fail
      refine hX.out.mono ?_
      clear hX
      rintro e w3 ⟨rfl, gg⟩
      have x0 := gg.keep (p := ⟨w2.heap.size, 0, none⟩) (v := .int .i64 x.n) (by simp [go_sem])
      have x1 := gg.keep (p := ⟨w2.heap.size, 1, none⟩) (v := .slice ax x.c.length cx) (by simp [go_sem])
      have S2 := hide (show Grew w2 w3 from ((Grew.refl _).alloc _).trans gg)
      clear gg
      go_wp2_with fail
      refine (specTreeSure_v _ _ c _ ((unhide V1).grew ((unhide S1).trans (unhide S2))) (unhide HS) hll ((unhide I1).grew ((unhide S1).trans (unhide S2))) hcb hxx).mono ?_
      rintro e w4 ⟨rfl, gg⟩
      have S3 := hide (show Grew w3 w4 from gg)
      have x0 := gg.keep x0
      have x1 := gg.keep x1
      clear gg
      obtain ⟨ok, hok⟩ : ∃ ok, Hid (ok = sureL l c) := ⟨_, hide rfl⟩
      rw [← hok.out]
      have hne : (ok != ok) = false := by cases ok <;> rfl
      have heq : (ok == ok) = true := by cases ok <;> rfl
      cases hv : ok with
      | false =>
        rw [hv] at hok
        go_wp2_with fail
        refine (specTreeSure_v _ _ c _ ((unhide V1).grew (((unhide S1).trans (unhide S2)).trans (unhide S3))) (unhide HS) hll ((unhide I1).grew (((unhide S1).trans (unhide S2)).trans (unhide S3))) hcb hxx).mono ?_
        rw [← hok.out]
        rintro e w5 ⟨rfl, gg⟩
        have S4 := hide (show Grew w4 w5 from gg)
        clear gg
        go_wp2
        go_ret
        exact ⟨rfl, (((((unhide S0).trans (unhide S1)).trans (unhide S2)).trans (unhide S3)).trans (unhide S4))⟩
      | true =>
        rw [hv] at hok
        have h0 := hok.out.symm
        have HB := hide (sure_back h0)
        have HN := hide (sure_none h0)
        have HA : Hid ((addV l x).2 = true → sureL (addV l x).1 c = true) := hide (sure_add h0)
        have HAS : Hid (Short (addV l x).1 ∧ (addV l x).1.length ≤ 1048576) := hide (by
          unfold addV
          split
          · split
            · exact ⟨unhide HS, by omega⟩
            · refine ⟨fun y hy => ?_, by simp; omega⟩
              rcases List.mem_append.1 hy with hy | hy
              · exact unhide HS y hy
              · simp only [List.mem_singleton] at hy
                subst hy
                omega
          · exact ⟨fun y hy => (by cases hy), by simp⟩)
        have HSR : Hid (Short l.reverse) := fun y hy => unhide HS y (List.mem_reverse.1 hy)
        have HSN : Hid (Short (noneL l c l.length)) := fun y hy => unhide HS y (List.mem_of_mem_take (List.mem_filter.1 hy).1)
        clear h0 hv
        go_wp2_with fail
        refine (implVotesAdd_v x _ _ ((unhide V1).grew (((unhide S1).trans (unhide S2)).trans (unhide S3))) (unhide HS) hll ⟨_, _, rfl, (unhide IX).grew ((unhide S2).trans (unhide S3))⟩ (by omega)).mono ?_
        rintro e w5 ⟨ux, hsx, rfl, ox, gg⟩
        have S4 := hide (show Grew w4 w5 from gg)
        have OX := hide ox.vtsV
        clear ox
        clear gg
        obtain ⟨fine, hfine⟩ : ∃ f, Hid (f = (addV l x).2) := ⟨_, hide rfl⟩
        rw [← hfine.out] at HA ⊢
        obtain ⟨m, hm⟩ : ∃ m, Hid (m = (addV l x).1) := ⟨_, hide rfl⟩
        rw [← hm.out] at HA HAS OX
        have W1 := hide ((((unhide S1).trans (unhide S2)).trans (unhide S3)).trans (unhide S4))
        have E0 := hide (VShr.empty w5)
        go_wp2_with fail
        go_loopw [11, 12] (fun out i wr => ∃ (v : Value) (k : Nat), out = v ∧ k ≤ l.length ∧ i = .int .i64 k ∧ Hid (VShr wr w5.heap.size v (noneL l c k)) ∧ Grew w5 wr) (fun _ i _ => l.length - (intOf i).toNat)
        case atStart => exact ⟨_, 0, rfl, Nat.zero_le _, rfl, E0, (Grew.refl _).alloc _⟩
        case round =>
          obtain ⟨v, k, rfl, hk, rfl, ho, hg⟩ := hrel
          by_cases hlt : k < l.length
          · obtain ⟨b1, off, rfl, hat0⟩ := ((unhide VT).grew (unhide W1)).at hlt
            obtain ⟨c0, a1, cap1, c1, hi⟩ := hat0.grew hg
            have hL : Lies w5 w5.heap.size (l[k], a1, cap1) := by
              obtain ⟨_, a2', cap2', c2, hi2⟩ := hat0
              have := hg.keep c2
              rw [c1] at this
              simp only [Option.some.injEq, Value.slice.injEq, true_and] at this
              obtain ⟨rfl, rfl⟩ := this
              exact Lies.of hi2
            have hs1 := (unhide HS).at hlt
            have hX := hide (lwSame_any a1 (some ⟨b, 0, none⟩) cap1 cb l[k].c c wr hi ((unhide I1).grew ((unhide W1).trans hg)) hs1 hxx)
            cases hsb : sameB l[k].c c with
            | true =>
              rw [hsb] at hX
              have HST := hide (noneL_yes hlt hsb)
              clear hsb hL hat0 hi
              go_wp2_with fail
              refine hX.out.mono ?_
              clear hX
              rintro e w7 ⟨rfl, g7⟩
              have O7 := hide ((unhide ho).grew g7 hg.size)
              rw [← HST.out] at O7
              go_wp2
              go_roundw
              case rel => exact ⟨_, k + 1, rfl, by omega, by go_num, O7, hg.trans g7⟩
              case measure => simp [intOf]; omega
            | false =>
              rw [hsb] at hX
              have HST := hide (noneL_no hlt hsb)
              clear hsb hat0 hi
              go_wp2_with fail
              refine hX.out.mono ?_
              clear hX
              rintro e w7 ⟨rfl, g7⟩
              have hg7 := hg.trans g7
              have d0 := g7.keep c0
              have d1 := g7.keep c1
              have hLr := hide (hL.kept (w' := w7) (fun b hb => hg7.below.block b hb))
              have ho7 := hide ((unhide ho).grew g7 hg.size)
              have hbl := hide (unhide ho7).block
              have hsz := hg7.size
              have hlen := noneL_len l c k
              clear hL c0 c1
              go_wp2_with (first | (at_builtin; refine wpList_shr rfl _ _ rfl w5.heap.size _ (noneL l c k) rfl ((unhide ho7).grew ((Grew.refl _).alloc _) hsz) (by simp; omega) ⟨w7.heap.size, 0, none⟩ 1 [(l[k], a1, cap1)] 1 rfl rfl (cells_two _ _ _ _ _ _) (fun e he => by simp at he; subst he; exact (unhide hLr).kept (fun b hb => ((Grew.refl w7).alloc _).below.block b (by omega))) (by omega) ?_))
              intro v2 w8 o2 g2
              have O2 : Hid (VShr w8 w5.heap.size v2 (noneL l c (k + 1))) := by rw [HST.out]; exact o2
              have G2 := (hg7.alloc _).grown g2 (fun b hb => (unhide hbl b hb).1)
              clear o2 g2
              go_wp2
              go_roundw
              case rel => exact ⟨_, k + 1, rfl, by omega, by go_num, O2, G2⟩
              case measure => simp [intOf]; omega
          · have hkl : k = l.length := by omega
            have hle : (l.length : Int) ≤ (k : Int) := by omega
            have hd : decide ((k : Int) < (l.length : Int)) = false := by simp; omega
            have hlen := noneL_len l c l.length
            have ON := hide (unhide ho).vtsV
            rw [hkl] at ON
            clear hkl
            have hz : (((c.length : Nat) : Int) == 0) = decide (c.length = 0) := by cases c <;> simp <;> omega
            have hbb : (decide (c.length = 0) == decide (c.length = 0)) = true := by simp
            cases fine with
            | true =>
              have hX := hide (implTreeSure_v (some ⟨b, 0, none⟩) cb c wr ((unhide OX).grew hg) HAS.out.1 HAS.out.2 ((unhide I1).grew ((unhide W1).trans hg)) hxx)
              rw [HA.out rfl] at hX
              go_wp2_with fail
              refine hX.out.mono ?_
              clear hX
              rintro e w7 ⟨rfl, g7⟩
              go_wp2_with fail
              refine (lwBack_v _ ((unhide V1).grew ((unhide W1).trans (hg.trans g7))) hll).mono ?_
              rintro e w8 ⟨ub, rfl, ob, g8⟩
              have OB := hide ob
              clear ob
              go_wp2_with fail
              refine (implTreeSure_v (some ⟨b, 0, none⟩) cb c _ (unhide OB) (unhide HSR) (by simp; omega) ((unhide I1).grew ((unhide W1).trans ((hg.trans g7).trans g8))) hxx).mono ?_
              rw [HB.out]
              rintro e w9 ⟨rfl, g9⟩
              go_wp2_with fail
              refine (implTreeSure_v (some ⟨b, 0, none⟩) cb c _ ((unhide ON).grew ((g7.trans g8).trans g9)) (unhide HSN) (by omega) ((unhide I1).grew ((unhide W1).trans (((hg.trans g7).trans g8).trans g9))) hxx).mono ?_
              rw [HN.out]
              rintro e w10 ⟨rfl, g10⟩
              go_wp2
              go_ret
              exact ⟨by first | rfl | (rw [hz, hbb]) | (simp [hz]), (unhide S0).trans ((unhide W1).trans ((((hg.trans g7).trans g8).trans g9).trans g10))⟩
            | false =>
              have g7 : Grew wr wr := Grew.refl _
              go_wp2_with fail
              refine (lwBack_v _ ((unhide V1).grew ((unhide W1).trans (hg.trans g7))) hll).mono ?_
              rintro e w8 ⟨ub, rfl, ob, g8⟩
              have OB := hide ob
              clear ob
              go_wp2_with fail
              refine (implTreeSure_v (some ⟨b, 0, none⟩) cb c _ (unhide OB) (unhide HSR) (by simp; omega) ((unhide I1).grew ((unhide W1).trans ((hg.trans g7).trans g8))) hxx).mono ?_
              rw [HB.out]
              rintro e w9 ⟨rfl, g9⟩
              go_wp2_with fail
              refine (implTreeSure_v (some ⟨b, 0, none⟩) cb c _ ((unhide ON).grew ((g7.trans g8).trans g9)) (unhide HSN) (by omega) ((unhide I1).grew ((unhide W1).trans (((hg.trans g7).trans g8).trans g9))) hxx).mono ?_
              rw [HN.out]
              rintro e w10 ⟨rfl, g10⟩
              go_wp2
              go_ret
              exact ⟨by first | rfl | (rw [hz, hbb]) | (simp [hz]), (unhide S0).trans ((unhide W1).trans ((((hg.trans g7).trans g8).trans g9).trans g10))⟩
    · have hn3 : decide ((1048576 : Int) < (n2 : Int)) = true := by simp; omega
      clear hn2
      go_enter Try.func4, Try.ntmps4
      go_wp2
      go_ret
      exact ⟨rfl, Grew.refl _⟩
  · have hn1 : decide ((1048576 : Int) < (n : Int)) = true := by simp; omega
    clear hn
    go_enter Try.func4, Try.ntmps4
    go_wp2
    go_ret
    exact ⟨rfl, Grew.refl _⟩

set_option maxRecDepth 100000 in
theorem lifted (os : Os) (started : os.Started) (H : Type) (enc : TypeId × Value → H) :
    ReturnsInHanded {} Try.checked os 4 .any (Rows.fnSureMoreSpec.pre6 enc Try.prog Try.f4 Rows.fnSureMoreRow.domain false) (Rows.fnSureMoreSpec.post enc Try.prog Try.f4 false true false false) := by
  refine returnsInHanded_of_change (C := Try.checked) own started (by kernel_rfl) Try.func4
    (ChangeSpec.witness6 (enc := enc) (C := Try.checked) false ⟨#[], #[.slice none 0 0, .slice none 0 0], []⟩ 8 (by kernel_rfl) (by kernel_rfl) (by kernel_rfl) (by kernel_rfl)) ?_
  intro W base args ds gs before hval0 hW hcnd _
  have hval : ∀ (j : Nat) t v, Try.f4.params[j]? = some t → args[j]? = some v → Value.okWide Try.prog W .any base t v := hval0
  have hW' := hW
  obtain ⟨p, q, hA0, hV, rfl, hfz, hnd⟩ := hW
  have hA : DataW.TrodAll enc Try.prog W 0 (fun _ => true) true Try.f4.params.toList args.toList ds p := hA0
  rw [Try.params4] at hA hval
  obtain ⟨v0, vs0, d0, ds0, p0, q0, hargs, rfl, rfl, h0, r0⟩ := trodAll_cons hA
  obtain ⟨v1, vs1, d1, ds1, p1, q1, rfl, rfl, rfl, h1, r1⟩ := trodAll_cons r0
  obtain ⟨rfl, rfl, rfl⟩ := trodAll_nil r1
  obtain rfl : args = #[v0, v1] := by cases args; simp_all
  obtain ⟨rfl, rfl⟩ := trodVars_none hV
  have k0 := h0
  have lt0 : ∀ x ∈ p0, x.block < W.heap.size := by obtain ⟨m, hm⟩ := k0; exact DataW.trod_lt m _ _ _ hm
  obtain ⟨a0, len0, cap0, rfl⟩ := okWide_slice Try.underlying22 (hval 0 22 v0 rfl rfl)
  obtain ⟨fuel0, hf0⟩ := h0
  obtain ⟨hb0, hc0⟩ := open_bytes hf0
  have k1 := h1
  have lt1 : ∀ x ∈ p1, x.block < W.heap.size := by obtain ⟨m, hm⟩ := k1; exact DataW.trod_lt m _ _ _ hm
  obtain ⟨a1, len1, cap1, rfl⟩ := okWide_slice Try.underlying22 (hval 1 22 v1 rfl rfl)
  obtain ⟨fuel1, hf1⟩ := h1
  obtain ⟨hb1, hc1⟩ := open_bytes hf1
  clear hA0 hval0
  refine (walk a0 len0 cap0 a1 len1 cap1 W hb0 hc0 hb1 hc1).mono fun e W' ⟨he, bel⟩ => ?_
  subst he
  exact ⟨_, rfl, _, _, _, [], _, [], hW', trodAll_mk1 (shut_bool Try.underlying4 _), (trodAll_cons_mk (Below.trod laidOut (by kernel_rfl) (of_decide_eq_true (by kernel_rfl)) k0 bel.below lt0) (trodAll_cons_mk (Below.trod laidOut (by kernel_rfl) (of_decide_eq_true (by kernel_rfl)) k1 bel.below lt1) trodAll_mk0)), rfl, bel.below.frame _, fun h => by cases h⟩

theorem over : Rows.fnSureMoreRow.holds Try.pinned (OpenSpec.ofChange Rows.fnSureMoreSpec) :=
  OpenClaim.holds_of_wide 4 Try.f4 rfl rfl rfl rfl rfl rfl rfl ⟨rfl, rfl, rfl, rfl, rfl⟩ rfl rfl rfl rfl rfl (by kernel_rfl) Try.func4 (by kernel_rfl)
    (of_decide_eq_true (by kernel_rfl)) (by unfold Func.isWrapper; first | (rw [if_pos (by decide +kernel)]; kernel_rfl) | (rw [if_neg (by decide +kernel)]; exact ⟨rfl, rfl⟩))
    (fun os started H enc _ => lifted os started H enc)
end Go.Proofs.Ytibhfiamibccnaa.FnSureMore
namespace Go.Proofs.Ytibhfiamibccnaa
theorem fnSureMore_holds : Rows.FnSureMoreSaid := FnSureMore.over
#print axioms fnSureMore_holds
end Go.Proofs.Ytibhfiamibccnaa
