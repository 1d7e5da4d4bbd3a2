/-
  FnSureQuorum returns true at every two rows of bytes and leaves its arguments as they were: what the statement says; no condition.
-/
import Derived.Test.YtibhfiamibccnabVDraw4
import Derived.Test.YtibhfiamibccnabVShare
import Derived.Test.YtibhfiamibccnabNumsV
import Derived.Test.YtibhfiamibccnabVote3
import Derived.Test.YtibhfiamibccnabOpen
import Derived.Test.YtibhfiamibccnabTDraw
import Derived.Test.YtibhfiamibccnabTreeS
import Derived.Test.YtibhfiamibccnabVLess
import Derived.Lib.SmallJoins
import Derived.JoinedOf
import Derived.JoinedAt
import Derived.RowKit3
import Derived.Deep.RegionHeldLaw
import Derived.Deep.DeepFit
namespace Go.Proofs.Ytibhfiamibccnab.FnSureQuorum
set_option linter.unusedVariables false
open Go.ChangeShapes Go.WideShapes Go.ChangeAt Go.RowKit Go.Joins
attribute [local simp] far_const

theorem sure_pre {l : List Vt} {c : List It} (h : sureF (cnt l) c = true) (k : Nat) : sureF (cnt l) (c.take k) = true := by
  unfold sureF at h ⊢
  rw [List.all_eq_true] at h ⊢
  intro i hi
  simp only [List.mem_range, List.length_take] at hi
  have := h i (by simp; omega)
  rwa [List.take_take, Nat.min_eq_left (by omega)]
theorem goB_take (c : List It) : ∀ (last : Int) (k : Nat), goB last c = true → goB last (c.take k) = true := by
  induction c with
  | nil => intro last k h; simp [goB]
  | cons x r ih =>
    intro last k h
    cases k with
    | zero => simp [goB]
    | succ k =>
      simp only [goB, Bool.and_eq_true, List.take_succ_cons] at h ⊢
      exact ⟨h.1, ih _ k h.2⟩
theorem ok_take {c : List It} (h : okB c = true) (k : Nat) : okB (c.take k) = true := by
  simp only [okB, Bool.and_eq_true, decide_eq_true_eq] at h ⊢
  exact ⟨by simp; omega, goB_take c 0 k h.2⟩
theorem for_cnt {l : List Vt} (h : votesB l = true) (c : List It) : (forL l c).length = cnt l c := by
  unfold forL
  rw [if_pos h]
  exact forN_count l.length l c rfl h
theorem for_len (l : List Vt) (c : List It) : (forL l c).length ≤ 4 := by
  unfold forL; split
  · exact forN_len l c
  · simp
theorem filter_split {α : Type} (l : List α) (p q : α → Bool) : ((l.filter (fun y => !p y)).filter q).length + (l.filter (fun y => q y && p y)).length = (l.filter q).length := by
  induction l with
  | nil => rfl
  | cons x l ih =>
    cases hp : p x <;> cases hq : q x <;> simp only [List.filter_cons, hp, hq, Bool.not_true, Bool.not_false, Bool.and_true, Bool.and_false, if_true, if_false, Bool.false_eq_true, List.length_cons] <;> omega
theorem filter_one {l : List Vt} {x : Vt} (hd : l.Nodup) (hx : x ∈ l) : (l.filter (fun y => sameV y x)).length = 1 := by
  induction l with
  | nil => cases hx
  | cons y l ih =>
    rw [List.nodup_cons] at hd
    by_cases e : y = x
    · subst e
      have h0 : l.filter (fun z => sameV z y) = [] := by
        rw [List.filter_eq_nil_iff]
        intro z hz hs
        rw [sameV_iff] at hs
        exact hd.1 (hs ▸ hz)
      rw [List.filter_cons, if_pos ((sameV_iff _ _).2 rfl), h0]
      rfl
    · rcases List.mem_cons.1 hx with h | h
      · exact absurd h.symm e
      · have : sameV y x = false := by
          cases hs : sameV y x with
          | false => rfl
          | true => exact absurd ((sameV_iff _ _).1 hs) e
        rw [List.filter_cons, this]
        exact ih hd.2 h
def lessL (l : List Vt) (z : Int) (d : List It) (k : Nat) : List Vt := (l.take k).filter (fun y => !sameV y ⟨z, d⟩)
theorem lessL_in {l : List Vt} {z : Int} {d : List It} {k : Nat} (hk : k < l.length) (h : sameV l[k] ⟨z, d⟩ = true) : lessL l z d (k + 1) = lessL l z d k := by
  unfold lessL; rw [List.take_succ_eq_append_getElem hk, List.filter_append]; simp [h]
theorem lessL_out {l : List Vt} {z : Int} {d : List It} {k : Nat} (hk : k < l.length) (h : sameV l[k] ⟨z, d⟩ = false) : lessL l z d (k + 1) = lessL l z d k ++ [l[k]] := by
  unfold lessL; rw [List.take_succ_eq_append_getElem hk, List.filter_append]; simp [h]
theorem lessL_le (l : List Vt) (z : Int) (d : List It) (k : Nat) : (lessL l z d k).length ≤ l.length := by
  unfold lessL
  have h1 := List.length_filter_le (fun y : Vt => !sameV y ⟨z, d⟩) (l.take k)
  have h2 : (l.take k).length ≤ l.length := by simp; omega
  omega
theorem lessL_len {l : List Vt} {z : Int} {d : List It} (hv : votesB l = true) (hm : (⟨z, d⟩ : Vt) ∈ l) : (lessL l z d l.length).length + 1 = l.length := by
  unfold lessL
  rw [List.take_length]
  have h1 := filter_split l (fun y => sameV y ⟨z, d⟩) (fun _ => true)
  have h2 := filter_one ((votesB_iff l).1 hv).2 hm
  have e1 : ∀ m : List Vt, m.filter (fun _ => true) = m := fun m => by simp
  rw [e1, e1] at h1
  simp only [Bool.true_and] at h1
  omega
theorem cnt_less {l : List Vt} {z : Int} {d : List It} (hv : votesB l = true) (hm : (⟨z, d⟩ : Vt) ∈ l) (e : List It) : cnt (lessL l z d l.length) e + (if sameB e d = true then 1 else 0) = cnt l e := by
  unfold lessL cnt
  rw [List.take_length]
  have h1 := filter_split l (fun y => sameV y ⟨z, d⟩) (fun y => sameB y.c e)
  have h2 := filter_one ((votesB_iff l).1 hv).2 hm
  by_cases he : e = d
  · subst he
    rw [if_pos ((sameB_iff e e).2 rfl)]
    have : l.filter (fun y => sameB y.c e && sameV y ⟨z, e⟩) = l.filter (fun y => sameV y ⟨z, e⟩) := by
      apply List.filter_congr
      intro y _
      cases hs : sameV y ⟨z, e⟩ with
      | false => simp
      | true =>
        have := (sameV_iff _ _).1 hs
        subst this
        simp [(sameB_iff e e).2 rfl]
    rw [this, h2] at h1
    exact h1
  · rw [if_neg (fun h => he ((sameB_iff e d).1 h))]
    have : l.filter (fun y => sameB y.c e && sameV y ⟨z, d⟩) = [] := by
      rw [List.filter_eq_nil_iff]
      intro y _ hs
      simp only [Bool.and_eq_true] at hs
      have h3 := (sameV_iff _ _).1 hs.2
      subst h3
      exact he ((sameB_iff _ _).1 hs.1).symm
    rw [this] at h1
    simpa using h1
theorem sure_less {l : List Vt} {z : Int} {c : List It} {N : Nat} (h : sureL l c = true) (h1 : 1 ≤ N) (hN : N ≤ c.length) (hm : (⟨z, c.take N⟩ : Vt) ∈ l) :
    sureL (lessL l z (c.take N) l.length) c = decide (3 < cnt l (c.take N)) := by
  simp only [sureL, Bool.and_eq_true] at h
  have hv : votesB (lessL l z (c.take N) l.length) = true := votesB_sub h.1 (by unfold lessL; rw [List.take_length]; exact List.filter_sublist)
  simp only [sureL, hv, h.2.1, Bool.true_and]
  have hall := h.2.2
  unfold sureF at hall ⊢
  rw [List.all_eq_true] at hall
  by_cases h3 : 3 < cnt l (c.take N)
  · rw [decide_eq_true h3, List.all_eq_true]
    intro i hi
    have a1 := of_decide_eq_true (hall i hi)
    have a2 := cnt_less h.1 hm (c.take (i + 1))
    refine decide_eq_true ?_
    by_cases e : c.take (i + 1) = c.take N
    · rw [if_pos ((sameB_iff _ _).2 e)] at a2; rw [← e] at h3; omega
    · rw [if_neg (fun h => e ((sameB_iff _ _).1 h))] at a2; omega
  · rw [decide_eq_false h3, List.all_eq_false]
    refine ⟨N - 1, by simp; omega, ?_⟩
    rw [show N - 1 + 1 = N by omega]
    have a2 := cnt_less h.1 hm (c.take N)
    rw [if_pos ((sameB_iff _ _).2 rfl)] at a2
    simp
    omega
set_option maxRecDepth 20000 in
set_option maxHeartbeats 4000000 in
theorem walk (a : Option Addr) (n cap : Nat) (a2 : Option Addr) (n2 cap2 : Nat) (w : World) (hb : Byt w a w.heap.size n) (hc : n ≤ cap) (hb2 : Byt w a2 w.heap.size n2) (hc2 : n2 ≤ cap2) :
    Calls Try.prog 5 #[.slice a n cap, .slice a2 n2 cap2] w fun e w' => e = .returned (.bool true) ∧ Grew w w' := by
  by_cases hn : n ≤ 1048576
  · have hn1 : decide ((1048576 : Int) < (n : Int)) = false := by simp; omega
    by_cases hn2 : n2 ≤ 1048576
    · have hn3 : decide ((1048576 : Int) < (n2 : Int)) = false := by simp; omega
      go_enter Try.func5, Try.ntmps5
      go_wp2_with fail
      refine (drawTreeSure_any a n cap _ hb hc hn).mono ?_
      rintro e w1 ⟨v, l, b, cb, c, rfl, vl, hl, hlw, ic, hcc, hcb, gg⟩
      have HS := hide (hlw.short (by omega))
      have hxx : c.length ≤ 1048576 := by omega
      have hll : l.length ≤ 1048576 := by omega
      have V1 := hide vl
      obtain ⟨av, capv, rfl, hcapv, hvts⟩ := vl
      have VT := hide hvts
      have I1 := hide ic
      clear ic hlw hvts
      have S0 := hide (show Grew w w1 from gg)
      clear gg
      go_wp2_with fail
      refine (implTreeSure_v _ _ c _ ((unhide V1).grew (Grew.refl _)) (unhide HS) hll ((unhide I1).grew (Grew.refl _)) hxx).mono ?_
      rintro e w2 ⟨rfl, gg⟩
      have S1 := hide (show Grew w1 w2 from gg)
      clear gg
      go_wp2_with fail
      refine (specTreeSure_v _ _ c _ ((unhide V1).grew (unhide S1)) (unhide HS) hll ((unhide I1).grew (unhide S1)) hcb hxx).mono ?_
      rintro e w3 ⟨rfl, gg⟩
      have S2 := hide (show Grew w2 w3 from gg)
      clear gg
      obtain ⟨ok, hok⟩ : ∃ ok, Hid (ok = sureL l c) := ⟨_, hide rfl⟩
      rw [← hok.out]
      have hne : (ok != ok) = false := by cases ok <;> rfl
      have heq : (ok == ok) = true := by cases ok <;> rfl
      cases hv : ok with
      | false =>
        rw [hv] at hok
        go_wp2_with fail
        refine (specTreeSure_v _ _ c _ ((unhide V1).grew ((unhide S1).trans (unhide S2))) (unhide HS) hll ((unhide I1).grew ((unhide S1).trans (unhide S2))) hcb hxx).mono ?_
        rw [← hok.out]
        rintro e w4 ⟨rfl, gg⟩
        have S3 := hide (show Grew w3 w4 from gg)
        clear gg
        go_wp2
        go_ret
        exact ⟨rfl, ((((unhide S0).trans (unhide S1)).trans (unhide S2)).trans (unhide S3))⟩
      | true =>
        rw [hv] at hok
        by_cases hl0 : c.length = 0
        · have hz0 : (((c.length : Nat) : Int) == 0) = true := by rw [hl0]; rfl
          clear hl0
          go_wp2_with fail
          refine (specTreeSure_v _ _ c _ ((unhide V1).grew ((unhide S1).trans (unhide S2))) (unhide HS) hll ((unhide I1).grew ((unhide S1).trans (unhide S2))) hcb hxx).mono ?_
          rw [← hok.out]
          rintro e w4 ⟨rfl, gg⟩
          have S3 := hide (show Grew w3 w4 from gg)
          clear gg
          go_wp2
          go_ret
          exact ⟨rfl, ((((unhide S0).trans (unhide S1)).trans (unhide S2)).trans (unhide S3))⟩
        · have hz0 : (((c.length : Nat) : Int) == 0) = false := by simp; exact fun e => hl0 (by rw [e]; rfl)
          have h0 := hok.out.symm
          obtain ⟨N, hNN⟩ : ∃ N : Nat, Hid (N = 1 + n2 % c.length) := ⟨_, hide rfl⟩
          have hN1 : 1 ≤ N := by rw [hNN.out]; omega
          have hNl : N ≤ c.length := by rw [hNN.out]; have := Nat.mod_lt n2 (show 0 < c.length by omega); omega
          have hrem : (1 : Int) + (n2 : Int) % (c.length : Int) = (N : Int) := by rw [hNN.out]; simp
          have hml : n2 % c.length ≤ 1048576 := by have := Nat.mod_lt n2 (show 0 < c.length by omega); omega
          have hcut : (N : Int) ≤ (cb : Int) := by omega
          have e1 : ((N : Int)).toNat = N := by omega
          have HLN : Hid ((c.take N).length = N) := hide (by simp; omega)
          have hvl : votesB l = true := by have := h0; simp only [sureL, Bool.and_eq_true] at this; exact this.1
          have hfc := for_cnt hvl (c.take N)
          have hge : 3 ≤ cnt l (c.take N) := by
            have := h0
            simp only [sureL, Bool.and_eq_true] at this
            have hs := this.2.2
            unfold sureF at hs
            rw [List.all_eq_true] at hs
            have := hs (N - 1) (by simp; omega)
            rw [show N - 1 + 1 = N by omega] at this
            exact of_decide_eq_true this
          have hfl : 0 < (forL l (c.take N)).length := by omega
          have hmem : (⟨(forL l (c.take N))[0], c.take N⟩ : Vt) ∈ l := by
            have hm := List.getElem_mem hfl
            have e : forL l (c.take N) = forN l (c.take N) := by unfold forL; rw [if_pos hvl]
            rw [← hasB_iff]
            have h2 : (forL l (c.take N))[0] ∈ forN l (c.take N) := e ▸ hm
            unfold forN at h2
            exact (List.mem_filter.1 h2).2
          have HLE := hide (lessL_len hvl hmem)
          have HSU := hide (sure_less h0 hN1 hNl hmem)
          have HFC := hide hfc
          have hf4 := for_len l (c.take N)
          obtain ⟨Q, hQ⟩ : ∃ Q, Hid (Q = forL l (c.take N)) := ⟨_, hide rfl⟩
          have hX := hide (implVotesFor_v (some ⟨b, 0, none⟩) cb (c.take N) w3 ((unhide V1).grew ((unhide S1).trans (unhide S2))) (unhide HS) hll (((unhide I1).grew ((unhide S1).trans (unhide S2))).take N) (by rw [HLN.out]; omega))
          rw [HLN.out] at hX
          have HQ0 : Hid (0 < Q.length) := hide (by rw [hQ.out]; exact hfl)
          obtain ⟨z, hz⟩ : ∃ z, Hid (z = Q[0]'(HQ0.out)) := ⟨_, hide rfl⟩
          have hzz : (forL l (c.take N))[0] = z := by have := hz.out; simp only [hQ.out] at this; exact this.symm
          rw [hzz] at HLE HSU
          rw [← hQ.out] at hX HFC hf4
          rw [← HFC.out] at HSU
          have HE1 := hide e1
          clear h0 hvl hfc hge hfl hmem hzz hv
          go_wp2_with fail
          refine hX.out.mono ?_
          clear hX
          rintro e w4 ⟨u, rfl, o7, gg⟩
          obtain ⟨ua, ucap, rfl, iq⟩ := o7.num
          obtain ⟨bq, oq, rfl, hq0⟩ := iq.at HQ0.out
          rw [← hz.out] at hq0
          simp only [Nat.add_zero] at hq0
          clear o7 iq
          have S3 := hide (show Grew w3 w4 from gg)
          clear gg
          have W1 := hide (((unhide S1).trans (unhide S2)).trans (unhide S3))
          have E0 := hide (VShr.empty w4)
          have hQ4 : Q.length ≤ 4 := hf4
          have hQp : 0 < Q.length := HQ0.out
          have hQi : (0 : Int) < (Q.length : Int) := by omega
          go_wp2_with fail
          go_loopw [10, 11] (fun out i wr => ∃ (v : Value) (k : Nat), out = v ∧ k ≤ l.length ∧ i = .int .i64 k ∧ Hid (VShr wr w4.heap.size v (lessL l z (c.take N) k)) ∧ Grew w4 wr) (fun _ i _ => l.length - (intOf i).toNat)
          case atStart => exact ⟨_, 0, rfl, Nat.zero_le _, rfl, E0, (Grew.refl _).alloc _⟩
          case round =>
            obtain ⟨v, k, rfl, hk, rfl, ho, hg⟩ := hrel
            by_cases hlt : k < l.length
            · obtain ⟨b1, off, rfl, hat0⟩ := ((unhide VT).grew (unhide W1)).at hlt
              obtain ⟨c0, a1, cap1, c1, hi⟩ := hat0.grew hg
              have hL : Lies w4 w4.heap.size (l[k], a1, cap1) := by
                obtain ⟨_, a2', cap2', c2, hi2⟩ := hat0
                have := hg.keep c2
                rw [c1] at this
                simp only [Option.some.injEq, Value.slice.injEq, true_and] at this
                obtain ⟨rfl, rfl⟩ := this
                exact Lies.of hi2
              have HLi := hide hL
              have hs1 := (unhide HS).at hlt
              have q0 := hg.keep hq0
              have f0 := Grew.gcell c0
              have f1 := Grew.gcell c1
              have f2 := Grew.gcell q0
              have hLS : ∀ W, Grew wr W → Hid (Calls Try.prog 12 #[.slice a1 l[k].c.length cap1, .slice (some ⟨b, 0, none⟩) N cb] W fun r w' => r = .returned (.bool (sameB l[k].c (c.take N))) ∧ Grew W w') := fun W g => by
                have := lwSame_any a1 (some ⟨b, 0, none⟩) cap1 cb l[k].c (c.take N) W (hi.grew g) (((unhide I1).grew ((unhide W1).trans (hg.trans g))).take N) hs1 (by rw [HLN.out]; omega)
                rw [HLN.out] at this
                exact hide this
              have hsv : sameV l[k] ⟨z, c.take N⟩ = (l[k].n == z && sameB l[k].c (c.take N)) := rfl
              have hlen := lessL_le l z (c.take N) k
              clear hL hat0 hi
              cases hnz : (l[k].n == z) with
              | false =>
                have hb : (l[k].n != z) = true := by simp only [bne, hnz]; rfl
                have HST := hide (lessL_out hlt (by rw [hsv, hnz]; rfl))
                clear hsv hnz
                go_wp2_with fail
                refine quietly (by kernel_rfl) (by kernel_rfl) ?_
                repeat (go_big_quiet_step (first | (go_at_call 12; exact Calls.far (hLS _ ⟨_, _, rfl⟩).out)))
                refine wpQuiet_nil ?_
                intro _ hw'
                obtain ⟨⟨nq, osq⟩, hw''⟩ := hw'
                subst hw''
                have g7 : Grew wr (far wr nq osq) := ⟨_, _, rfl⟩
                obtain ⟨w7, hw7⟩ : ∃ w7, Hid (w7 = far wr nq osq) := ⟨_, hide rfl⟩
                rw [← hw7.out] at g7 ⊢
                have hg7 := hg.trans g7
                have d0 := g7.keep c0
                have d1 := g7.keep c1
                have hLr := hide (HLi.out.kept (w' := w7) (fun b hb => hg7.below.block b hb))
                have ho7 := hide ((unhide ho).grew g7 hg.size)
                have hbl := hide (unhide ho7).block
                have hsz := hg7.size
                clear c0 c1
                go_wp2_with (first | (at_builtin; refine wpList_shr rfl _ _ rfl w4.heap.size _ (lessL l z (c.take N) k) rfl ((unhide ho7).grew ((Grew.refl _).alloc _) hsz) (by simp; omega) ⟨w7.heap.size, 0, none⟩ 1 [(l[k], a1, cap1)] 1 rfl rfl (cells_two _ _ _ _ _ _) (fun e he => by simp at he; subst he; exact (unhide hLr).kept (fun b hb => ((Grew.refl w7).alloc _).below.block b (by omega))) (by omega) ?_))
                intro v2 w8 o2 g2
                have O2 : Hid (VShr w8 w4.heap.size v2 (lessL l z (c.take N) (k + 1))) := by rw [HST.out]; exact o2
                have G2 := (hg7.alloc _).grown g2 (fun b hb => (unhide hbl b hb).1)
                clear o2 g2
                go_wp2
                go_roundw
                case rel => exact ⟨_, k + 1, rfl, by omega, by go_num, O2, G2⟩
                case measure => simp [intOf]; omega
              | true =>
                have hb : (l[k].n != z) = false := by simp only [bne, hnz]; rfl
                cases hsb : sameB l[k].c (c.take N) with
                | true =>
                  have HST := hide (lessL_in hlt (by rw [hsv, hnz, hsb]; rfl))
                  rw [hsb] at hLS
                  clear hsv hnz hsb
                  go_wp2_with fail
                  refine quietly (by kernel_rfl) (by kernel_rfl) ?_
                  repeat (go_big_quiet_step (first | (go_at_call 12; exact Calls.far (hLS _ ⟨_, _, rfl⟩).out)))
                  refine wpQuiet_nil ?_
                  intro _ hw'
                  obtain ⟨⟨nq, osq⟩, hw''⟩ := hw'
                  subst hw''
                  have g7 : Grew wr (far wr nq osq) := ⟨_, _, rfl⟩
                  obtain ⟨w7, hw7⟩ : ∃ w7, Hid (w7 = far wr nq osq) := ⟨_, hide rfl⟩
                  rw [← hw7.out] at g7 ⊢
                  have O7 := hide ((unhide ho).grew g7 hg.size)
                  rw [← HST.out] at O7
                  go_wp2
                  go_roundw
                  case rel => exact ⟨_, k + 1, rfl, by omega, by go_num, O7, hg.trans g7⟩
                  case measure => simp [intOf]; omega
                | false =>
                  have HST := hide (lessL_out hlt (by rw [hsv, hnz, hsb]; rfl))
                  rw [hsb] at hLS
                  clear hsv hnz hsb
                  go_wp2_with fail
                  refine quietly (by kernel_rfl) (by kernel_rfl) ?_
                  repeat (go_big_quiet_step (first | (go_at_call 12; exact Calls.far (hLS _ ⟨_, _, rfl⟩).out)))
                  refine wpQuiet_nil ?_
                  intro _ hw'
                  obtain ⟨⟨nq, osq⟩, hw''⟩ := hw'
                  subst hw''
                  have g7 : Grew wr (far wr nq osq) := ⟨_, _, rfl⟩
                  obtain ⟨w7, hw7⟩ : ∃ w7, Hid (w7 = far wr nq osq) := ⟨_, hide rfl⟩
                  rw [← hw7.out] at g7 ⊢
                  have hg7 := hg.trans g7
                  have d0 := g7.keep c0
                  have d1 := g7.keep c1
                  have hLr := hide (HLi.out.kept (w' := w7) (fun b hb => hg7.below.block b hb))
                  have ho7 := hide ((unhide ho).grew g7 hg.size)
                  have hbl := hide (unhide ho7).block
                  have hsz := hg7.size
                  clear c0 c1
                  go_wp2_with (first | (at_builtin; refine wpList_shr rfl _ _ rfl w4.heap.size _ (lessL l z (c.take N) k) rfl ((unhide ho7).grew ((Grew.refl _).alloc _) hsz) (by simp; omega) ⟨w7.heap.size, 0, none⟩ 1 [(l[k], a1, cap1)] 1 rfl rfl (cells_two _ _ _ _ _ _) (fun e he => by simp at he; subst he; exact (unhide hLr).kept (fun b hb => ((Grew.refl w7).alloc _).below.block b (by omega))) (by omega) ?_))
                  intro v2 w8 o2 g2
                  have O2 : Hid (VShr w8 w4.heap.size v2 (lessL l z (c.take N) (k + 1))) := by rw [HST.out]; exact o2
                  have G2 := (hg7.alloc _).grown g2 (fun b hb => (unhide hbl b hb).1)
                  clear o2 g2
                  go_wp2
                  go_roundw
                  case rel => exact ⟨_, k + 1, rfl, by omega, by go_num, O2, G2⟩
                  case measure => simp [intOf]; omega
            · have hkl : k = l.length := by omega
              have hle : (l.length : Int) ≤ (k : Int) := by omega
              have hd : decide ((k : Int) < (l.length : Int)) = false := by simp; omega
              have hlen := lessL_le l z (c.take N) l.length
              have ON := hide (unhide ho).vtsV
              rw [hkl] at ON
              obtain ⟨la, lcap, hlv, hlc, hlt2⟩ := unhide ON
              have hle2 : (((lessL l z (c.take N) l.length).length : Nat) : Int) = (l.length : Int) - 1 := by have := HLE.out; omega
              have hlq : (((lessL l z (c.take N) l.length).length : Nat) : Int) == (l.length : Int) - 1 := by rw [hle2]; simp
              have HSN : Hid (Short (lessL l z (c.take N) l.length)) := fun y hy => unhide HS y (List.mem_of_mem_take (List.mem_filter.1 hy).1)
              subst hlv
              have hX := hide (implTreeSure_v (some ⟨b, 0, none⟩) cb c wr (unhide ON) (unhide HSN) (by omega) ((unhide I1).grew ((unhide W1).trans hg)) hxx)
              rw [HSU.out] at hX
              clear hkl hlt2 hle2
              obtain ⟨LL, hLL⟩ : ∃ LL, Hid (LL = (lessL l z (c.take N) l.length).length) := ⟨_, hide rfl⟩
              rw [← hLL.out] at hX hlq hlen ⊢
              have hdq : decide ((3 : Int) < (Q.length : Int)) = decide (3 < Q.length) := by congr 1; simp; omega
              go_wp2_with fail
              refine hX.out.mono ?_
              clear hX
              rintro e w8 ⟨rfl, g8⟩
              go_wp2
              go_ret
              exact ⟨by first | rfl | simp [hdq] | (simp; omega), (unhide S0).trans ((unhide W1).trans (hg.trans g8))⟩
    · have hn3 : decide ((1048576 : Int) < (n2 : Int)) = true := by simp; omega
      clear hn2
      go_enter Try.func5, Try.ntmps5
      go_wp2
      go_ret
      exact ⟨rfl, Grew.refl _⟩
  · have hn1 : decide ((1048576 : Int) < (n : Int)) = true := by simp; omega
    clear hn
    go_enter Try.func5, Try.ntmps5
    go_wp2
    go_ret
    exact ⟨rfl, Grew.refl _⟩

set_option maxRecDepth 100000 in
theorem lifted (os : Os) (started : os.Started) (H : Type) (enc : TypeId × Value → H) :
    ReturnsInHanded {} Try.checked os 5 .any (Rows.fnSureQuorumSpec.pre6 enc Try.prog Try.f5 Rows.fnSureQuorumRow.domain false) (Rows.fnSureQuorumSpec.post enc Try.prog Try.f5 false true false false) := by
  refine returnsInHanded_of_change (C := Try.checked) own started (by kernel_rfl) Try.func5
    (ChangeSpec.witness6 (enc := enc) (C := Try.checked) false ⟨#[], #[.slice none 0 0, .slice none 0 0], []⟩ 8 (by kernel_rfl) (by kernel_rfl) (by kernel_rfl) (by kernel_rfl)) ?_
  intro W base args ds gs before hval0 hW hcnd _
  have hval : ∀ (j : Nat) t v, Try.f5.params[j]? = some t → args[j]? = some v → Value.okWide Try.prog W .any base t v := hval0
  have hW' := hW
  obtain ⟨p, q, hA0, hV, rfl, hfz, hnd⟩ := hW
  have hA : DataW.TrodAll enc Try.prog W 0 (fun _ => true) true Try.f5.params.toList args.toList ds p := hA0
  rw [Try.params5] at hA hval
  obtain ⟨v0, vs0, d0, ds0, p0, q0, hargs, rfl, rfl, h0, r0⟩ := trodAll_cons hA
  obtain ⟨v1, vs1, d1, ds1, p1, q1, rfl, rfl, rfl, h1, r1⟩ := trodAll_cons r0
  obtain ⟨rfl, rfl, rfl⟩ := trodAll_nil r1
  obtain rfl : args = #[v0, v1] := by cases args; simp_all
  obtain ⟨rfl, rfl⟩ := trodVars_none hV
  have k0 := h0
  have lt0 : ∀ x ∈ p0, x.block < W.heap.size := by obtain ⟨m, hm⟩ := k0; exact DataW.trod_lt m _ _ _ hm
  obtain ⟨a0, len0, cap0, rfl⟩ := okWide_slice Try.underlying22 (hval 0 22 v0 rfl rfl)
  obtain ⟨fuel0, hf0⟩ := h0
  obtain ⟨hb0, hc0⟩ := open_bytes hf0
  have k1 := h1
  have lt1 : ∀ x ∈ p1, x.block < W.heap.size := by obtain ⟨m, hm⟩ := k1; exact DataW.trod_lt m _ _ _ hm
  obtain ⟨a1, len1, cap1, rfl⟩ := okWide_slice Try.underlying22 (hval 1 22 v1 rfl rfl)
  obtain ⟨fuel1, hf1⟩ := h1
  obtain ⟨hb1, hc1⟩ := open_bytes hf1
  clear hA0 hval0
  refine (walk a0 len0 cap0 a1 len1 cap1 W hb0 hc0 hb1 hc1).mono fun e W' ⟨he, bel⟩ => ?_
  subst he
  exact ⟨_, rfl, _, _, _, [], _, [], hW', trodAll_mk1 (shut_bool Try.underlying4 _), (trodAll_cons_mk (Below.trod laidOut (by kernel_rfl) (of_decide_eq_true (by kernel_rfl)) k0 bel.below lt0) (trodAll_cons_mk (Below.trod laidOut (by kernel_rfl) (of_decide_eq_true (by kernel_rfl)) k1 bel.below lt1) trodAll_mk0)), rfl, bel.below.frame _, fun h => by cases h⟩

theorem over : Rows.fnSureQuorumRow.holds Try.pinned (OpenSpec.ofChange Rows.fnSureQuorumSpec) :=
  OpenClaim.holds_of_wide 5 Try.f5 rfl rfl rfl rfl rfl rfl rfl ⟨rfl, rfl, rfl, rfl, rfl⟩ rfl rfl rfl rfl rfl (by kernel_rfl) Try.func5 (by kernel_rfl)
    (of_decide_eq_true (by kernel_rfl)) (by unfold Func.isWrapper; first | (rw [if_pos (by decide +kernel)]; kernel_rfl) | (rw [if_neg (by decide +kernel)]; exact ⟨rfl, rfl⟩))
    (fun os started H enc _ => lifted os started H enc)
end Go.Proofs.Ytibhfiamibccnab.FnSureQuorum
namespace Go.Proofs.Ytibhfiamibccnab
theorem fnSureQuorum_holds : Rows.FnSureQuorumSaid := FnSureQuorum.over
#print axioms fnSureQuorum_holds
end Go.Proofs.Ytibhfiamibccnab
