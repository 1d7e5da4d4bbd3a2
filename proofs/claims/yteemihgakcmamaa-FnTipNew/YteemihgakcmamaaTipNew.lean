/-
  FnTipNew returns true at every two rows of bytes and leaves its arguments as they were: what the statement says; no condition.
-/
import Derived.Test.YteemihgakcmamaaVDraw34
import Derived.Test.YteemihgakcmamaaVLwA
import Derived.Test.YteemihgakcmamaaNumsA
import Derived.Test.YteemihgakcmamaaVote3
import Derived.Test.YteemihgakcmamaaOpen
import Derived.Test.YteemihgakcmamaaTDrawA
import Derived.Test.YteemihgakcmamaaTFormsA
import Derived.Test.YteemihgakcmamaaTMath2
import Derived.Test.YteemihgakcmamaaTMark
import Derived.Lib.SmallJoins
import Derived.JoinedOf
import Derived.JoinedAt
import Derived.RowKit3
import Derived.Deep.RegionHeldLaw
import Derived.Deep.DeepFit
namespace Go.Proofs.Yteemihgakcmamaa.FnTipNew
set_option linter.unusedVariables false
open Go.ChangeShapes Go.WideShapes Go.ChangeAt Go.RowKit Go.Joins
attribute [local simp] far_const

def upL (l : List Vt) (c : List It) : Nat → List Vt
  | 0 => l
  | k + 1 => upL l c k ++ [⟨(k : Int) + 1, c⟩]
theorem for_none {l : List Vt} (hv : votesB l = true) {c : List It} (h : (forL l c).length = 0) : ∀ x ∈ l, x.c ≠ c := by
  intro x hx e
  have hp := vok_parts (((votesB_iff l).1 hv).1 x hx)
  have hm : x.n ∈ forN l c := by
    unfold forN
    rw [List.mem_filter]
    refine ⟨?_, (hasB_iff _ _).2 (by rw [← e]; exact hx)⟩
    have h1 := hp.1
    have h2 := hp.2.1
    simp only [List.mem_cons, List.not_mem_nil, or_false]
    omega
  have e2 : forL l c = forN l c := by unfold forL; rw [if_pos hv]
  rw [← e2, List.eq_nil_of_length_eq_zero h] at hm
  cases hm
theorem up_mem {l : List Vt} {c : List It} {x : Vt} : ∀ k, x ∈ upL l c k ↔ x ∈ l ∨ (∃ i : Nat, i < k ∧ x = ⟨(i : Int) + 1, c⟩) := by
  intro k
  induction k with
  | zero => simp [upL]
  | succ k ih =>
    unfold upL
    rw [List.mem_append, ih, List.mem_singleton]
    constructor
    · rintro ((h | ⟨i, h1, h2⟩) | h)
      · exact .inl h
      · exact .inr ⟨i, by omega, h2⟩
      · exact .inr ⟨k, by omega, h⟩
    · rintro (h | ⟨i, h1, h2⟩)
      · exact .inl (.inl h)
      · by_cases e : i = k
        · exact .inr (by rw [h2, e])
        · exact .inl (.inr ⟨i, by omega, h2⟩)
theorem up_new {l : List Vt} {c : List It} (h : ∀ x ∈ l, x.c ≠ c) (k : Nat) : hasB (upL l c k) ⟨(k : Int) + 1, c⟩ = false := by
  cases hh : hasB (upL l c k) ⟨(k : Int) + 1, c⟩ with
  | false => rfl
  | true =>
    rcases (up_mem k).1 ((hasB_iff _ _).1 hh) with h1 | ⟨i, h1, h2⟩
    · exact absurd rfl (h _ h1)
    · simp only [Vt.mk.injEq, and_true] at h2; omega
theorem up_vok {c : List It} (hok : okB c = true) (hc : 0 < c.length) {k : Nat} (hk : k < 3) : vokB ⟨(k : Int) + 1, c⟩ = true := by
  have h1 : (1 : Int) ≤ (k : Int) + 1 := by omega
  have h2 : (k : Int) + 1 ≤ 4 := by omega
  simp only [vokB, inB, decide_eq_true h1, decide_eq_true h2, hok, decide_eq_true hc, Bool.and_self]
theorem up_votes {l : List Vt} {c : List It} (hv : votesB l = true) (h : ∀ x ∈ l, x.c ≠ c) (hok : okB c = true) (hc : 0 < c.length) : ∀ k, k ≤ 3 → votesB (upL l c k) = true := by
  intro k
  induction k with
  | zero => intro _; exact hv
  | succ k ih => intro hk; exact votesB_snoc (ih (by omega)) (up_vok hok hc (by omega)) (up_new h k)
theorem up_add {l : List Vt} {c : List It} (hv : votesB l = true) (h : ∀ x ∈ l, x.c ≠ c) (hok : okB c = true) (hc : 0 < c.length) {k : Nat} (hk : k < 3) : addV (upL l c k) ⟨(k : Int) + 1, c⟩ = (upL l c (k + 1), true) :=
  addV_new (up_votes hv h hok hc k (by omega)) (up_vok hok hc hk) (up_new h k)
theorem up_cnt (l : List Vt) (c d : List It) : ∀ k, cnt (upL l c k) d = cnt l d + (if sameB c d = true then k else 0) := by
  intro k
  induction k with
  | zero => simp [upL]
  | succ k ih =>
    have e : cnt (upL l c k ++ [⟨(k : Int) + 1, c⟩]) d = cnt (upL l c k) d + (if sameB c d = true then 1 else 0) := by
      unfold cnt; rw [List.filter_append, List.length_append, List.filter_cons]; cases hs : sameB c d <;> simp
    unfold upL
    rw [e, ih]
    cases sameB c d <;> simp <;> omega
theorem up_not {l : List Vt} {c : List It} (h : ∀ x ∈ l, x.c ≠ c) (hc : 0 < c.length) {k : Nat} (hk : k < 3) : sureL (upL l c k) c = false := by
  cases hs : sureL (upL l c k) c with
  | false => rfl
  | true =>
    simp only [sureL, Bool.and_eq_true] at hs
    have := sureF_at hs.2.2 hc (Nat.le_refl _)
    rw [List.take_length, up_cnt, if_pos ((sameB_iff c c).2 rfl), (cnt_zero l c).2 h] at this
    omega
theorem up_len (l : List Vt) (c : List It) : ∀ k, (upL l c k).length = l.length + k := by
  intro k
  induction k with
  | zero => rfl
  | succ k ih => unfold upL; rw [List.length_append, ih]; simp; omega
theorem up_short {l : List Vt} (hs : Short l) {c : List It} (hc : c.length ≤ 1048576) (k : Nat) : Short (upL l c k) := by
  intro x hx
  rcases (up_mem k).1 hx with h | ⟨i, _, h⟩
  · exact hs x h
  · rw [h]; exact hc
theorem no_more {c r : List It} {x : It} (hx : x.e = 30) (h : okB (c ++ [x] ++ r) = true) : r = [] := by
  cases r with
  | nil => rfl
  | cons y r =>
    simp only [okB, Bool.and_eq_true] at h
    have h2 := h.2
    rw [goB_app, Bool.and_eq_true] at h2
    have h3 := h2.2
    rw [endE_snoc] at h3
    simp only [goB, stepB, Bool.and_eq_true, decide_eq_true_eq] at h3
    have h4 := h3.1.1.1
    have h5 := h3.1.1.2
    omega
theorem up_tip {l : List Vt} (hv : votesB l = true) {f : List It} (hf : f = longest (allS l)) {x : It} (hx : x.e = 30) (h : ∀ y ∈ l, y.c ≠ f ++ [x]) (hok : okB (f ++ [x]) = true) : longest (allS (upL l (f ++ [x]) 3)) = f ++ [x] := by
  obtain ⟨c, hc⟩ : ∃ c, c = f ++ [x] := ⟨_, rfl⟩
  have hcl : c.length = f.length + 1 := by rw [hc]; simp
  have hct : c.take f.length = f := by rw [hc]; simp
  rw [← hc] at h hok ⊢
  have hvm := up_votes hv h hok (by omega) 3 (Nat.le_refl _)
  have hfs : sureF (cnt l) f = true := by have := (allS_mem.1 (longest_all (l := l))).2; rwa [← hf] at this
  have hcm : c ∈ allS (upL l c 3) := by
    refine allS_mem.2 ⟨.inr ⟨⟨1, c⟩, (up_mem 3).2 (.inr ⟨0, by omega, rfl⟩), rfl⟩, ?_⟩
    unfold sureF
    rw [List.all_eq_true]
    intro i hi
    rw [List.mem_range] at hi
    refine decide_eq_true ?_
    rw [up_cnt]
    by_cases hi2 : i + 1 ≤ f.length
    · have h1 := sureF_at hfs (k := i + 1) (by omega) hi2
      have e : c.take (i + 1) = f.take (i + 1) := by rw [hc, List.take_append_of_le_length hi2]
      rw [e]; omega
    · rw [List.take_of_length_le (by omega), if_pos ((sameB_iff c c).2 rfl)]; omega
  have hall : ∀ d ∈ allS (upL l c 3), d.length ≤ f.length ∨ d = c := by
    intro d hd
    have hdo := all_ok hvm hd
    obtain ⟨hd1, hd2⟩ := allS_mem.1 hd
    by_cases hp : d.take c.length = c
    · right
      have e : d = f ++ [x] ++ d.drop c.length := by
        have := (List.take_append_drop c.length d).symm
        rw [hp] at this
        rw [← hc]; exact this
      have h0 := no_more hx (by rw [← e]; exact hdo)
      rw [h0, List.append_nil, ← hc] at e
      exact e
    · left
      have hne : ∀ k, c ≠ d.take k := fun k e => by
        apply hp
        have h1 : c.length ≤ k ∧ c.length ≤ d.length := by have := congrArg List.length e; rw [List.length_take] at this; omega
        have h2 : (d.take k).take c.length = d.take c.length := by rw [List.take_take, Nat.min_eq_left h1.1]
        rw [← h2, ← e, List.take_length]
      have hs : sureF (cnt l) d = true := by
        unfold sureF at hd2 ⊢
        rw [List.all_eq_true] at hd2 ⊢
        intro i hi
        have := hd2 i hi
        rwa [up_cnt, if_neg (fun hs => hne _ ((sameB_iff _ _).1 hs)), Nat.add_zero] at this
      have hm : d ∈ allS l := by
        refine allS_mem.2 ⟨?_, hs⟩
        rcases hd1 with h1 | ⟨y, hy, e⟩
        · exact .inl h1
        · rcases (up_mem 3).1 hy with h2 | ⟨i, _, h2⟩
          · exact .inr ⟨y, h2, e⟩
          · rw [h2] at e
            exact absurd (by rw [← e]; exact (List.take_length).symm) (hne c.length)
      rw [hf]
      exact longest_ge _ _ hm
  have h1 := hall _ (longest_all (l := upL l c 3))
  have h2 := longest_ge _ _ hcm
  rcases h1 with h1 | h1
  · omega
  · exact h1
theorem its_at (w : World) (x : It) (t : TypeId) (n : Nat) (hn : w.heap.size = n) : Its (w.alloc (.cells #[.int .i64 x.e, .int .i64 x.f, .int .i64 x.t, .int .i64 x.s] t)) (some ⟨n, 0, none⟩) [x] := by subst hn; exact its_one w x t
theorem add_up {W : World} {l : List Vt} {c : List It} {k : Nat} {va : Option Addr} {vcap xb : Nat} (xc : Nat) (ho : VtsV W (.slice va (upL l c k).length vcap) (upL l c k)) (hs : Short (upL l c k)) (hl : (upL l c k).length ≤ 1048576) (hi : Its W (some ⟨xb, 0, none⟩) c) (hc : c.length ≤ 1048576) (hadd : addV (upL l c k) ⟨(k : Int) + 1, c⟩ = (upL l c (k + 1), true)) :
    Calls Try.prog 55 #[.slice va (upL l c k).length vcap, .agg #[.int .i64 ((k : Int) + 1), .slice (some ⟨xb, 0, none⟩) c.length xc]] W fun r w' => ∃ u hs, r = .returned (.tuple #[u, .bool true]) ∧ VAns w' W.heap.size u hs (upL l c (k + 1)) ∧ Grew W w' := by
  have h := implVotesAdd_v ⟨(k : Int) + 1, c⟩ (.agg #[.int .i64 ((k : Int) + 1), .slice (some ⟨xb, 0, none⟩) c.length xc]) W ho hs hl ⟨_, _, rfl, hi⟩ hc
  rw [hadd] at h
  exact h
set_option maxRecDepth 20000 in
set_option maxHeartbeats 16000000 in
theorem walk (a : Option Addr) (n cap : Nat) (a2 : Option Addr) (n2 cap2 : Nat) (w : World) (hb : Byt w a w.heap.size n) (hc : n ≤ cap) (hb2 : Byt w a2 w.heap.size n2) (hc2 : n2 ≤ cap2) :
    Calls Try.prog 13 #[.slice a n cap, .slice a2 n2 cap2] w fun e w' => e = .returned (.bool true) ∧ Grew w w' := by
  by_cases hn : n ≤ 1048576
  · have hn1 : decide ((1048576 : Int) < (n : Int)) = false := by simp; omega
    by_cases hn2 : n2 ≤ 1048576
    · have hn3 : decide ((1048576 : Int) < (n2 : Int)) = false := by simp; omega
      go_enter Try.func13, Try.ntmps13
      go_wp2_with fail
      refine (drawTreeTip_any a n cap _ hb hc hn).mono ?_
      rintro e w1 ⟨v, l, base, rfl, ol, hl, hlw, gg⟩
      have HS := hide (hlw.short (by omega))
      have hll : l.length ≤ 1048576 := by omega
      have R1 := hide ol
      have V1 := hide ol.vtsV
      obtain ⟨gv, capv, rfl, hcapv, _, _, hvts⟩ := ol.shape
      have VT := hide hvts
      clear ol hlw hvts
      have S0 := hide (show Grew w w1 from gg)
      clear gg
      obtain ⟨f, hf⟩ : ∃ f, Hid (tipL l = f) := ⟨_, hide rfl⟩
      have hfl : f.length ≤ 1048576 := by rw [← hf.out]; exact tipL_short (unhide HS)
      have hsame : Hid (sameB f f = true) := hide ((sameB_iff f f).2 rfl)
      go_wp2_with fail
      refine (implTreeTip_v _ ((unhide V1).grew (Grew.refl _)) (unhide HS) hll).mono ?_
      rw [hf.out]
      rintro e w2 ⟨vf, rfl, hvf, gg⟩
      have S1 := hide (show Grew w1 w2 from gg)
      obtain ⟨fa, fcap, rfl, hfc, hif, _⟩ := hvf.shape
      have IF := hide hif
      clear hif hvf
      clear gg
      go_wp2_with fail
      refine (specTreeTip_r _ ((unhide R1).grew (unhide S1)) (unhide HS) hll).mono ?_
      rw [hf.out]
      rintro e w3 ⟨vs, rfl, ⟨sa2, sc2, hvs2, _, his⟩, gg⟩
      have S2 := hide (show Grew w2 w3 from gg)
      subst hvs2
      have IS := hide his
      clear his
      clear gg
      go_wp2_with fail
      refine (lwSame_any _ _ _ _ f f _ ((unhide IF).grew (unhide S2)) (unhide IS) hfl hfl).mono ?_
      rw [hsame.out]
      rintro e w4 ⟨rfl, gg⟩
      have S3 := hide (show Grew w3 w4 from gg)
      clear gg
      go_wp2_with fail
      refine (specVotesOk_v _ ((unhide V1).grew (((unhide S1).trans (unhide S2)).trans (unhide S3))) (unhide HS) hll).mono ?_
      rintro e w5 ⟨rfl, gg⟩
      have S4 := hide (show Grew w4 w5 from gg)
      clear gg
      cases hv : votesB l with
      | false =>
        go_wp2_with fail
        refine (specTreeTip_r _ ((unhide R1).grew ((((unhide S1).trans (unhide S2)).trans (unhide S3)).trans (unhide S4))) (unhide HS) hll).mono ?_
        rw [hf.out]
        rintro e w6 ⟨vs, rfl, ⟨sa5, sc5, hvs5, _, his⟩, gg⟩
        have S5 := hide (show Grew w5 w6 from gg)
        subst hvs5
        have IS := hide his
        clear his
        clear gg
        go_wp2_with fail
        refine (lwSame_any _ _ _ _ f f _ ((unhide IF).grew ((((unhide S2).trans (unhide S3)).trans (unhide S4)).trans (unhide S5))) (unhide IS) hfl hfl).mono ?_
        rw [hsame.out]
        rintro e w7 ⟨rfl, gg⟩
        have S6 := hide (show Grew w6 w7 from gg)
        clear gg
        go_wp2
        go_ret
        exact ⟨rfl, (((((((unhide S0).trans (unhide S1)).trans (unhide S2)).trans (unhide S3)).trans (unhide S4)).trans (unhide S5)).trans (unhide S6))⟩
      | true =>
        by_cases h16 : (16 : Int) ≤ (f.length : Int)
        · have hd16 : decide ((16 : Int) ≤ (f.length : Int)) = true := decide_eq_true h16
          go_wp2_with fail
          refine (specTreeTip_r _ ((unhide R1).grew ((((unhide S1).trans (unhide S2)).trans (unhide S3)).trans (unhide S4))) (unhide HS) hll).mono ?_
          rw [hf.out]
          rintro e w6 ⟨vs, rfl, ⟨sa5, sc5, hvs5, _, his⟩, gg⟩
          have S5 := hide (show Grew w5 w6 from gg)
          subst hvs5
          have IS := hide his
          clear his
          clear gg
          go_wp2_with fail
          refine (lwSame_any _ _ _ _ f f _ ((unhide IF).grew ((((unhide S2).trans (unhide S3)).trans (unhide S4)).trans (unhide S5))) (unhide IS) hfl hfl).mono ?_
          rw [hsame.out]
          rintro e w7 ⟨rfl, gg⟩
          have S6 := hide (show Grew w6 w7 from gg)
          clear gg
          go_wp2
          go_ret
          exact ⟨rfl, (((((((unhide S0).trans (unhide S1)).trans (unhide S2)).trans (unhide S3)).trans (unhide S4)).trans (unhide S5)).trans (unhide S6))⟩
        · have hd16 : decide ((16 : Int) ≤ (f.length : Int)) = false := decide_eq_false h16
          have hf16 : f.length ≤ 15 := by omega
          have HFL : Hid (f = longest (allS l)) := hide (by rw [← hf.out, tipL_of hv])
          have HV := hide hv
          obtain ⟨s, hs0⟩ : ∃ s : Int, Hid (s = (1 : Int) + (n2 : Int) % 9) := ⟨_, hide rfl⟩
          have hs1 : (1 : Int) + (n2 : Int) % 9 = s := hs0.out.symm
          have hs2 : (1 : Int) + (n2 : Int).tmod 9 = s := by rw [Int.tmod_eq_emod_of_nonneg (by omega)]; exact hs1
          have W0 := hide (((((unhide S0).trans (unhide S1)).trans (unhide S2)).trans (unhide S3)).trans (unhide S4))
          have W1 := hide ((((unhide S1).trans (unhide S2)).trans (unhide S3)).trans (unhide S4))
          have WF := hide (((unhide S2).trans (unhide S3)).trans (unhide S4))
          have E0 := hide (OwnL.empty (w := w5) (Nat.le_refl _))
          clear hv h16
          rcases fa with _ | fad
          · have hf0 : f = [] := by
              rcases (unhide IF) with h | ⟨_, _, h, _⟩
              · exact h
              · cases h
            have hf00 : f.length = 0 := by rw [hf0]; rfl
            have HF0 := hide hf0
            clear hf0
            have o4 : OwnL (w5.alloc (.cells #[] 51)) w5.heap.size (.slice (some ⟨w5.heap.size, 0, none⟩) 0 0) f := by rw [HF0.out]; exact unhide E0
            have O4 := hide o4
            have GG4 := hide ((Grew.refl w5).alloc (.cells #[] 51))
            have hbl := hide (fun k (hk : (Value.slice (some ⟨w5.heap.size, 0, none⟩) 0 0).ownBlock = some k) => (o4.block k hk).1)
            rw [hf00]
            clear o4 hf00
            go_wp2_with (first | (at_builtin; refine wpList_items rfl _ _ rfl w5.heap.size _ f rfl ((unhide O4).grew ((Grew.refl _).alloc _)) _ 1 [(⟨30, 3, 2, s⟩ : It)] 1 rfl rfl (its_at _ (⟨30, 3, 2, s⟩ : It) _ _ (by simp)) (by simp; omega) (by simp <;> omega) ?_))
            intro v5 wy o5 g5
            obtain ⟨c, hX⟩ : ∃ c : List It, f ++ [(⟨30, 3, 2, s⟩ : It)] = c := ⟨_, rfl⟩
            rw [hX] at o5
            have hcl0 : c.length = f.length + 1 := by rw [← hX]; simp
            have HCL := hide hcl0
            have hc16 : c.length ≤ 16 := by omega
            have hcp : 0 < c.length := by omega
            have hcs : c.length ≤ 1048576 := by omega
            have gg5 := (((unhide GG4).alloc _).grown g5 (unhide hbl))
            obtain ⟨xb, xc, rfl, hxc, _, _, xi⟩ := o5.shape
            have XI := hide xi
            have WY := hide ((unhide W1).trans gg5)
            have WZ := hide ((unhide W0).trans gg5)
            have HX := hide hX
            clear o5 g5 gg5 O4 GG4 hbl xi hX hcl0
            go_wp2_with fail
            refine (implChainOk _ _ c _ (unhide XI) hcs).mono ?_
            rintro e wa ⟨rfl, ga⟩
            cases hok : okB c with
            | false =>
              go_wp2
              go_ret
              exact ⟨rfl, (unhide WZ).trans ga⟩
            | true =>
              have HOK := hide hok
              clear hok
              go_wp2_with fail
              refine (implVotesFor_v _ _ c _ ((unhide V1).grew ((unhide WY).trans ga)) (unhide HS) hll ((unhide XI).grew ga) hcs).mono ?_
              rintro e wb ⟨u, rfl, hu, gb⟩
              obtain ⟨ua, ucap, rfl, _⟩ := hu.num
              clear hu
              have gab := ga.trans gb
              obtain ⟨Q, hQ⟩ : ∃ Q : Nat, Hid ((forL l c).length = Q) := ⟨_, hide rfl⟩
              rw [hQ.out]
              by_cases hQ0 : 0 < Q
              · have hQd : decide ((0 : Int) < (Q : Int)) = true := by simp; omega
                have hQi : (0 : Int) < (Q : Int) := by omega
                go_wp2
                go_ret
                exact ⟨rfl, (unhide WZ).trans gab⟩
              · have hQd : decide ((0 : Int) < (Q : Int)) = false := by simp; omega
                have hQi : ¬ (0 : Int) < (Q : Int) := by omega
                have hno := for_none (unhide HV) (c := c) (by rw [hQ.out]; omega)
                have HADD : Hid (∀ k, k < 3 → addV (upL l c k) ⟨(k : Int) + 1, c⟩ = (upL l c (k + 1), true)) := hide (fun k hk => up_add (unhide HV) hno (unhide HOK) hcp hk)
                have HNOT : Hid (∀ k, k < 3 → sureL (upL l c k) c = false) := hide (fun k hk => up_not hno hcp hk)
                have HVM := hide (up_votes (unhide HV) hno (unhide HOK) hcp 3 (Nat.le_refl _))
                have HTI : Hid (longest (allS (upL l c 3)) = c) := hide (by
                  have := up_tip (unhide HV) HFL.out (x := ⟨30, 3, 2, s⟩) rfl (by rw [HX.out]; exact hno) (by rw [HX.out]; exact (unhide HOK))
                  rwa [HX.out] at this)
                have HSU : ∀ k, Hid (Short (upL l c k)) := fun k => hide (up_short (unhide HS) hcs k)
                have HLU : ∀ k, Hid ((upL l c k).length = l.length + k) := fun k => hide (up_len l c k)
                have V0 : Hid (VtsV wb (.slice (some ⟨gv, 0, none⟩) l.length capv) (upL l c 0)) := hide ((unhide V1).grew ((unhide WY).trans gab))
                have HSM : Hid (sameB c c = true) := hide ((sameB_iff c c).2 rfl)
                clear hno
                go_wp2_with fail
                go_loopw [7, 9] (fun x i wr => ∃ (k : Nat) (z : Int), k ≤ 3 ∧ i = .int .i64 z ∧ z = (k : Int) + 1 ∧ Hid (VtsV wr x (upL l c k)) ∧ Grew wb wr) (fun _ i _ => 5 - (intOf i).toNat)
                case atStart => exact ⟨0, 1, Nat.zero_le _, rfl, rfl, V0, Grew.refl _⟩
                case round =>
                  obtain ⟨k, z, hk, rfl, rfl, ho, hg⟩ := hrel
                  obtain ⟨va, vcap, hve, hvl, hvv⟩ := ho.out
                  clear hvl hvv
                  subst hve
                  by_cases hk3 : k < 3
                  · have hd3 : decide ((k : Int) + 1 ≤ 3) = true := by simp; omega
                    have hll2 : (upL l c k).length ≤ 1048576 := by rw [(HLU k).out]; omega
                    have hA := fun W (g : Grew wr W) => hide (add_up xc ((unhide ho).grew g) (HSU k).out hll2 ((unhide XI).grew (gab.trans (hg.trans g))) hcs (HADD.out k hk3))
                    by_cases hk2 : k < 2
                    · have hd2 : decide ((k : Int) + 1 < 3) = true := by simp; omega
                      have hX := hide (implTreeSure_v (some ⟨xb, 0, none⟩) xc c wr (unhide ho) (HSU k).out hll2 ((unhide XI).grew (gab.trans hg)) hcs)
                      rw [HNOT.out k hk3] at hX
                      clear hll2
                      go_wp2_with fail
                      refine hX.out.mono ?_
                      clear hX
                      rintro e w8 ⟨rfl, g8⟩
                      go_wp2_with fail
                      refine (hA w8 g8).out.mono ?_
                      rintro e w9 ⟨u9, hs9, rfl, o9, g9⟩
                      have O9 := hide o9.vtsV
                      clear o9
                      go_wp2
                      go_roundw
                      case rel => exact ⟨k + 1, (k : Int) + 1 + 1, by omega, by first | rfl | go_num | (simp; omega), by omega, O9, (hg.trans g8).trans g9⟩
                      case measure => simp [intOf]; omega
                    · have hd2 : decide ((k : Int) + 1 < 3) = false := by simp; omega
                      clear hll2
                      go_wp2_with fail
                      refine (hA wr (Grew.refl _)).out.mono ?_
                      rintro e w9 ⟨u9, hs9, rfl, o9, g9⟩
                      have O9 := hide o9.vtsV
                      clear o9
                      go_wp2
                      go_roundw
                      case rel => exact ⟨k + 1, (k : Int) + 1 + 1, by omega, by first | rfl | go_num | (simp; omega), by omega, O9, hg.trans g9⟩
                      case measure => simp [intOf]; omega
                  · have hd3 : decide ((k : Int) + 1 ≤ 3) = false := by simp; omega
                    have hk3' : k = 3 := by omega
                    subst hk3'
                    have hll2 : (upL l c 3).length ≤ 1048576 := by rw [(HLU 3).out]; omega
                    obtain ⟨M, hM⟩ : ∃ M, Hid (upL l c 3 = M) := ⟨_, hide rfl⟩
                    have HS3 := HSU 3
                    rw [hM.out] at ho hll2 HVM HTI HS3 ⊢
                    have HT : Hid (tipL M = c) := hide (by rw [tipL_of HVM.out, HTI.out])
                    have HL : Hid (longL M = ((c.length : Nat) : Int)) := hide (by rw [longL_of HVM.out, HTI.out])
                    have hX := hide (implTreeTip_v wr (unhide ho) HS3.out hll2)
                    rw [HT.out] at hX
                    clear HSU HLU
                    go_wp2_with fail
                    refine hX.out.mono ?_
                    clear hX
                    rintro e w8 ⟨v8, rfl, o8, g8⟩
                    obtain ⟨ta, tcap, rfl, _, ti, _⟩ := o8.shape
                    have hX := hide (lwSame_any ta (some ⟨xb, 0, none⟩) tcap xc c c w8 ti ((unhide XI).grew (gab.trans (hg.trans g8))) hcs hcs)
                    rw [HSM.out] at hX
                    clear o8 ti
                    go_wp2_with fail
                    refine hX.out.mono ?_
                    clear hX
                    rintro e w9 ⟨rfl, g9⟩
                    have hX := hide (implTreeLong_v w9 ((unhide ho).grew (g8.trans g9)) HS3.out hll2)
                    rw [HL.out] at hX
                    have hq : (((c.length : Nat) : Int) == 1) = true := by rw [HCL.out, HF0.out]; simp
                    clear hll2
                    go_wp2_with fail
                    refine hX.out.mono ?_
                    clear hX
                    rintro e w10 ⟨rfl, g10⟩
                    go_wp2
                    go_ret
                    exact ⟨by first | rfl | simp [hq] | (simp; omega), (unhide WZ).trans (gab.trans (((hg.trans g8).trans g9).trans g10))⟩
          · have IF4 := hide (((unhide IF).grew (unhide WF)).grew ((Grew.refl w5).alloc (.cells #[] 51)))
            go_wp2_with (first | (at_builtin; refine wpList_items rfl _ _ rfl w5.heap.size _ [] rfl (unhide E0) fad fcap f f.length rfl rfl (unhide IF4) (by simp; omega) (by simp) ?_))
            intro v4 wx o4 g4
            replace o4 : OwnL wx w5.heap.size v4 f := o4
            have gg4 := ((Grew.refl w5).alloc (.cells #[] 51)).grown g4 (fun k hk => by simp [Value.ownBlock] at hk; omega)
            have O4 := hide o4
            have GG4 := hide gg4
            have hbl := hide (fun k (hk : v4.ownBlock = some k) => (o4.block k hk).1)
            have hsz : w5.heap.size ≤ wx.heap.size := gg4.size
            clear o4 g4 gg4
            go_wp2_with (first | (at_builtin; refine wpList_items rfl _ _ rfl w5.heap.size _ f rfl ((unhide O4).grew ((Grew.refl _).alloc _)) ⟨wx.heap.size, 0, none⟩ 1 [(⟨30, 3, 2, s⟩ : It)] 1 rfl rfl (its_one _ _ _) (by simp; omega) (by simp; omega) ?_))
            intro v5 wy o5 g5
            obtain ⟨c, hX⟩ : ∃ c : List It, f ++ [(⟨30, 3, 2, s⟩ : It)] = c := ⟨_, rfl⟩
            rw [hX] at o5
            have hcl0 : c.length = f.length + 1 := by rw [← hX]; simp
            have HCL := hide hcl0
            have hc16 : c.length ≤ 16 := by omega
            have hcp : 0 < c.length := by omega
            have hcs : c.length ≤ 1048576 := by omega
            have gg5 := (((unhide GG4).alloc _).grown g5 (unhide hbl))
            obtain ⟨xb, xc, rfl, hxc, _, _, xi⟩ := o5.shape
            have XI := hide xi
            have WY := hide ((unhide W1).trans gg5)
            have WZ := hide ((unhide W0).trans gg5)
            have HX := hide hX
            clear o5 g5 gg5 O4 GG4 hbl xi hX hcl0
            go_wp2_with fail
            refine (implChainOk _ _ c _ (unhide XI) hcs).mono ?_
            rintro e wa ⟨rfl, ga⟩
            cases hok : okB c with
            | false =>
              go_wp2
              go_ret
              exact ⟨rfl, (unhide WZ).trans ga⟩
            | true =>
              have HOK := hide hok
              clear hok
              go_wp2_with fail
              refine (implVotesFor_v _ _ c _ ((unhide V1).grew ((unhide WY).trans ga)) (unhide HS) hll ((unhide XI).grew ga) hcs).mono ?_
              rintro e wb ⟨u, rfl, hu, gb⟩
              obtain ⟨ua, ucap, rfl, _⟩ := hu.num
              clear hu
              have gab := ga.trans gb
              obtain ⟨Q, hQ⟩ : ∃ Q : Nat, Hid ((forL l c).length = Q) := ⟨_, hide rfl⟩
              rw [hQ.out]
              by_cases hQ0 : 0 < Q
              · have hQd : decide ((0 : Int) < (Q : Int)) = true := by simp; omega
                have hQi : (0 : Int) < (Q : Int) := by omega
                go_wp2
                go_ret
                exact ⟨rfl, (unhide WZ).trans gab⟩
              · have hQd : decide ((0 : Int) < (Q : Int)) = false := by simp; omega
                have hQi : ¬ (0 : Int) < (Q : Int) := by omega
                have hno := for_none (unhide HV) (c := c) (by rw [hQ.out]; omega)
                have HADD : Hid (∀ k, k < 3 → addV (upL l c k) ⟨(k : Int) + 1, c⟩ = (upL l c (k + 1), true)) := hide (fun k hk => up_add (unhide HV) hno (unhide HOK) hcp hk)
                have HNOT : Hid (∀ k, k < 3 → sureL (upL l c k) c = false) := hide (fun k hk => up_not hno hcp hk)
                have HVM := hide (up_votes (unhide HV) hno (unhide HOK) hcp 3 (Nat.le_refl _))
                have HTI : Hid (longest (allS (upL l c 3)) = c) := hide (by
                  have := up_tip (unhide HV) HFL.out (x := ⟨30, 3, 2, s⟩) rfl (by rw [HX.out]; exact hno) (by rw [HX.out]; exact (unhide HOK))
                  rwa [HX.out] at this)
                have HSU : ∀ k, Hid (Short (upL l c k)) := fun k => hide (up_short (unhide HS) hcs k)
                have HLU : ∀ k, Hid ((upL l c k).length = l.length + k) := fun k => hide (up_len l c k)
                have V0 : Hid (VtsV wb (.slice (some ⟨gv, 0, none⟩) l.length capv) (upL l c 0)) := hide ((unhide V1).grew ((unhide WY).trans gab))
                have HSM : Hid (sameB c c = true) := hide ((sameB_iff c c).2 rfl)
                clear hno
                go_wp2_with fail
                go_loopw [7, 9] (fun x i wr => ∃ (k : Nat) (z : Int), k ≤ 3 ∧ i = .int .i64 z ∧ z = (k : Int) + 1 ∧ Hid (VtsV wr x (upL l c k)) ∧ Grew wb wr) (fun _ i _ => 5 - (intOf i).toNat)
                case atStart => exact ⟨0, 1, Nat.zero_le _, rfl, rfl, V0, Grew.refl _⟩
                case round =>
                  obtain ⟨k, z, hk, rfl, rfl, ho, hg⟩ := hrel
                  obtain ⟨va, vcap, hve, hvl, hvv⟩ := ho.out
                  clear hvl hvv
                  subst hve
                  by_cases hk3 : k < 3
                  · have hd3 : decide ((k : Int) + 1 ≤ 3) = true := by simp; omega
                    have hll2 : (upL l c k).length ≤ 1048576 := by rw [(HLU k).out]; omega
                    have hA := fun W (g : Grew wr W) => hide (add_up xc ((unhide ho).grew g) (HSU k).out hll2 ((unhide XI).grew (gab.trans (hg.trans g))) hcs (HADD.out k hk3))
                    by_cases hk2 : k < 2
                    · have hd2 : decide ((k : Int) + 1 < 3) = true := by simp; omega
                      have hX := hide (implTreeSure_v (some ⟨xb, 0, none⟩) xc c wr (unhide ho) (HSU k).out hll2 ((unhide XI).grew (gab.trans hg)) hcs)
                      rw [HNOT.out k hk3] at hX
                      clear hll2
                      go_wp2_with fail
                      refine hX.out.mono ?_
                      clear hX
                      rintro e w8 ⟨rfl, g8⟩
                      go_wp2_with fail
                      refine (hA w8 g8).out.mono ?_
                      rintro e w9 ⟨u9, hs9, rfl, o9, g9⟩
                      have O9 := hide o9.vtsV
                      clear o9
                      go_wp2
                      go_roundw
                      case rel => exact ⟨k + 1, (k : Int) + 1 + 1, by omega, by first | rfl | go_num | (simp; omega), by omega, O9, (hg.trans g8).trans g9⟩
                      case measure => simp [intOf]; omega
                    · have hd2 : decide ((k : Int) + 1 < 3) = false := by simp; omega
                      clear hll2
                      go_wp2_with fail
                      refine (hA wr (Grew.refl _)).out.mono ?_
                      rintro e w9 ⟨u9, hs9, rfl, o9, g9⟩
                      have O9 := hide o9.vtsV
                      clear o9
                      go_wp2
                      go_roundw
                      case rel => exact ⟨k + 1, (k : Int) + 1 + 1, by omega, by first | rfl | go_num | (simp; omega), by omega, O9, hg.trans g9⟩
                      case measure => simp [intOf]; omega
                  · have hd3 : decide ((k : Int) + 1 ≤ 3) = false := by simp; omega
                    have hk3' : k = 3 := by omega
                    subst hk3'
                    have hll2 : (upL l c 3).length ≤ 1048576 := by rw [(HLU 3).out]; omega
                    obtain ⟨M, hM⟩ : ∃ M, Hid (upL l c 3 = M) := ⟨_, hide rfl⟩
                    have HS3 := HSU 3
                    rw [hM.out] at ho hll2 HVM HTI HS3 ⊢
                    have HT : Hid (tipL M = c) := hide (by rw [tipL_of HVM.out, HTI.out])
                    have HL : Hid (longL M = ((c.length : Nat) : Int)) := hide (by rw [longL_of HVM.out, HTI.out])
                    have hX := hide (implTreeTip_v wr (unhide ho) HS3.out hll2)
                    rw [HT.out] at hX
                    clear HSU HLU
                    go_wp2_with fail
                    refine hX.out.mono ?_
                    clear hX
                    rintro e w8 ⟨v8, rfl, o8, g8⟩
                    obtain ⟨ta, tcap, rfl, _, ti, _⟩ := o8.shape
                    have hX := hide (lwSame_any ta (some ⟨xb, 0, none⟩) tcap xc c c w8 ti ((unhide XI).grew (gab.trans (hg.trans g8))) hcs hcs)
                    rw [HSM.out] at hX
                    clear o8 ti
                    go_wp2_with fail
                    refine hX.out.mono ?_
                    clear hX
                    rintro e w9 ⟨rfl, g9⟩
                    have hX := hide (implTreeLong_v w9 ((unhide ho).grew (g8.trans g9)) HS3.out hll2)
                    rw [HL.out] at hX
                    have hq : (((c.length : Nat) : Int) == (f.length : Int) + 1) = true := by rw [HCL.out]; simp
                    clear hll2
                    go_wp2_with fail
                    refine hX.out.mono ?_
                    clear hX
                    rintro e w10 ⟨rfl, g10⟩
                    go_wp2
                    go_ret
                    exact ⟨by first | rfl | simp [hq] | (simp; omega), (unhide WZ).trans (gab.trans (((hg.trans g8).trans g9).trans g10))⟩
    · have hn3 : decide ((1048576 : Int) < (n2 : Int)) = true := by simp; omega
      clear hn2
      go_enter Try.func13, Try.ntmps13
      go_wp2
      go_ret
      exact ⟨rfl, Grew.refl _⟩
  · have hn1 : decide ((1048576 : Int) < (n : Int)) = true := by simp; omega
    clear hn
    go_enter Try.func13, Try.ntmps13
    go_wp2
    go_ret
    exact ⟨rfl, Grew.refl _⟩

set_option maxRecDepth 100000 in
theorem lifted (os : Os) (started : os.Started) (H : Type) (enc : TypeId × Value → H) :
    ReturnsInHanded {} Try.checked os 13 .any (Rows.fnTipNewSpec.pre6 enc Try.prog Try.f13 Rows.fnTipNewRow.domain false) (Rows.fnTipNewSpec.post enc Try.prog Try.f13 false true false false) := by
  refine returnsInHanded_of_change (C := Try.checked) own started (by kernel_rfl) Try.func13
    (ChangeSpec.witness6 (enc := enc) (C := Try.checked) false ⟨#[], #[.slice none 0 0, .slice none 0 0], []⟩ 8 (by kernel_rfl) (by kernel_rfl) (by kernel_rfl) (by kernel_rfl)) ?_
  intro W base args ds gs before hval0 hW hcnd _
  have hval : ∀ (j : Nat) t v, Try.f13.params[j]? = some t → args[j]? = some v → Value.okWide Try.prog W .any base t v := hval0
  have hW' := hW
  obtain ⟨p, q, hA0, hV, rfl, hfz, hnd⟩ := hW
  have hA : DataW.TrodAll enc Try.prog W 0 (fun _ => true) true Try.f13.params.toList args.toList ds p := hA0
  rw [Try.params13] at hA hval
  obtain ⟨v0, vs0, d0, ds0, p0, q0, hargs, rfl, rfl, h0, r0⟩ := trodAll_cons hA
  obtain ⟨v1, vs1, d1, ds1, p1, q1, rfl, rfl, rfl, h1, r1⟩ := trodAll_cons r0
  obtain ⟨rfl, rfl, rfl⟩ := trodAll_nil r1
  obtain rfl : args = #[v0, v1] := by cases args; simp_all
  obtain ⟨rfl, rfl⟩ := trodVars_none hV
  have k0 := h0
  have lt0 : ∀ x ∈ p0, x.block < W.heap.size := by obtain ⟨m, hm⟩ := k0; exact DataW.trod_lt m _ _ _ hm
  obtain ⟨a0, len0, cap0, rfl⟩ := okWide_slice Try.underlying44 (hval 0 44 v0 rfl rfl)
  obtain ⟨fuel0, hf0⟩ := h0
  obtain ⟨hb0, hc0⟩ := open_bytes hf0
  have k1 := h1
  have lt1 : ∀ x ∈ p1, x.block < W.heap.size := by obtain ⟨m, hm⟩ := k1; exact DataW.trod_lt m _ _ _ hm
  obtain ⟨a1, len1, cap1, rfl⟩ := okWide_slice Try.underlying44 (hval 1 44 v1 rfl rfl)
  obtain ⟨fuel1, hf1⟩ := h1
  obtain ⟨hb1, hc1⟩ := open_bytes hf1
  clear hA0 hval0
  refine (walk a0 len0 cap0 a1 len1 cap1 W hb0 hc0 hb1 hc1).mono fun e W' ⟨he, bel⟩ => ?_
  subst he
  exact ⟨_, rfl, _, _, _, [], _, [], hW', trodAll_mk1 (shut_bool Try.underlying4 _), (trodAll_cons_mk (Below.trod laidOut (by kernel_rfl) (of_decide_eq_true (by kernel_rfl)) k0 bel.below lt0) (trodAll_cons_mk (Below.trod laidOut (by kernel_rfl) (of_decide_eq_true (by kernel_rfl)) k1 bel.below lt1) trodAll_mk0)), rfl, bel.below.frame _, fun h => by cases h⟩

theorem over : Rows.fnTipNewRow.holds Try.pinned (OpenSpec.ofChange Rows.fnTipNewSpec) :=
  OpenClaim.holds_of_wide 13 Try.f13 rfl rfl rfl rfl rfl rfl rfl ⟨rfl, rfl, rfl, rfl, rfl⟩ rfl rfl rfl rfl rfl (by kernel_rfl) Try.func13 (by kernel_rfl)
    (of_decide_eq_true (by kernel_rfl)) (by unfold Func.isWrapper; first | (rw [if_pos (by decide +kernel)]; kernel_rfl) | (rw [if_neg (by decide +kernel)]; exact ⟨rfl, rfl⟩))
    (fun os started H enc _ => lifted os started H enc)
end Go.Proofs.Yteemihgakcmamaa.FnTipNew
namespace Go.Proofs.Yteemihgakcmamaa
theorem fnTipNew_holds : Rows.FnTipNewSaid := FnTipNew.over
#print axioms fnTipNew_holds
end Go.Proofs.Yteemihgakcmamaa
