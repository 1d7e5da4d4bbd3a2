/-
  Reading a text: what chainOfText answers at every text.
-/
import Derived.Test.YtfonpbglnkggfaaDoorRead3
import Derived.Test.YtfonpbglnkggfaaDoorRows2
namespace Go.Proofs.YtfonpbglnkggfaaDoor
set_option linter.unusedVariables false
open Go.RowKit
attribute [local simp] far_const

theorem key10 (j : Nat) (hj : j < 10) : (10 : UInt8) ≠ UInt8.ofNat (48 + j) := fun e => by
  have := congrArg UInt8.toNat e
  simp at this
  omega
theorem ten_decL (n : Nat) (hn : n < 100) : (10 : UInt8) ∉ decL n := by
  unfold decL
  split
  · rename_i h; simpa using key10 _ h
  · simp only [List.mem_cons, List.not_mem_nil, or_false, not_or]
    exact ⟨key10 _ (by omega), key10 _ (by omega)⟩
theorem line_cut {x : It} (h : low x) : ∃ a, lineL x = a ++ [10] ∧ (10 : UInt8) ∉ a := by
  obtain ⟨⟨a0, a1⟩, ⟨b0, b1⟩, ⟨c0, c1⟩, d0, d1⟩ := h
  refine ⟨_, rfl, ?_⟩
  have h1 := ten_decL x.e.toNat (by omega)
  have h2 := ten_decL x.f.toNat (by omega)
  have h3 := ten_decL x.t.toNat (by omega)
  have h4 := ten_decL x.s.toNat (by omega)
  simp [h1, h2, h3, h4]
theorem line_len {x : It} (h : low x) : (lineL x).length ≤ 7 := by
  obtain ⟨⟨a0, a1⟩, ⟨b0, b1⟩, ⟨c0, c1⟩, d0, d1⟩ := h
  unfold lineL
  rw [decL_one (show x.f.toNat < 10 by omega), decL_one (show x.t.toNat < 10 by omega), decL_one (show x.s.toNat < 10 by omega)]
  have : (decL x.e.toNat).length ≤ 2 := by unfold decL; split <;> simp
  simp; omega
theorem text_len : ∀ l : List It, (∀ i (h : i < l.length), low l[i]) → (textL l).length ≤ 7 * l.length
  | [], _ => by simp [textL]
  | x :: r, h => by
    have h1 := line_len (show low x from h 0 (Nat.zero_lt_succ _))
    have h2 := text_len r (fun i hi => show low r[i] from h (i + 1) (Nat.succ_lt_succ hi))
    simp only [textL, List.length_append, List.length_cons]
    omega
theorem ok_len {l : List It} (h : okB l = true) : (textL l).length ≤ 112 := by
  have h1 := text_len l (low_of l h)
  unfold okB at h
  simp only [Bool.and_eq_true, decide_eq_true_eq] at h
  omega
/-- Where the rest of a chain's text begins with a line, that line is its next item's. -/
theorem next_item {l c : List It} {t : List UInt8} (hl : okB l = true) (hc : okB c = true) (h : textL l = textL c ++ t) (ht : t ≠ []) :
    ∃ x r, l = c ++ x :: r ∧ low x ∧ t = lineL x ++ textL r ∧ okB (c ++ [x]) = true := by
  obtain ⟨r, hr, hu⟩ := text_pre c l (low_of c hc) (low_of l hl) t h
  cases r with
  | nil => simp [textL] at hu; exact absurd hu ht
  | cons x s =>
    subst hr
    have hx : low x := by
      have := low_of (c ++ x :: s) hl c.length (by simp)
      simpa using this
    refine ⟨x, s, rfl, hx, by simpa [textL] using hu, ?_⟩
    apply okB_app (r := s)
    simpa using hl
theorem line_of {x : It} (hx : low x) {a r s : List UInt8} (ha : (10 : UInt8) ∉ a) (h : a ++ 10 :: r = lineL x ++ s) : a ++ [10] = lineL x ∧ r = s := by
  obtain ⟨b, hb, hb10⟩ := line_cut hx
  rw [hb] at h ⊢
  have h1 := idx_some a r 10 ha
  have h2 := idx_some b s 10 hb10
  rw [show b ++ [10] ++ s = b ++ 10 :: s by simp] at h
  rw [h, h2] at h1
  have := List.append_inj h (by omega)
  exact ⟨by rw [this.1], by simpa using this.2⟩

/-- 'append' onto nothing. -/
theorem wpList_first {ops : Array Oper} {rest : List Oper} {o : Oper} {a : Act} {Q : Exit → Act → World → Prop} {w : World} (hgd : o.guard = none) (s x : Operand)
    (ho : o.op = .call { callee := .builtin .append, args := #[s, x], argTypes := #[24, 24] })
    (base : Nat) (hs : a.eval s = .slice none 0 0)
    (ad : Addr) (c : Nat) (y : It) (hx : a.eval x = .slice (some ad) 1 c) (hm : Its w (some ad) [y]) (hbase : base ≤ w.heap.size)
    (h : ∀ v' w', OwnL w' base v' [y] → w.grownBy w' none → wpList Tryd.prog ops Q rest (a.put o.dst v') w') : wpList Tryd.prog ops Q (o :: rest) a w := by
  obtain ⟨i, hi, hz0, hz1, hz2⟩ := item_info
  refine wpList_append_own w hgd s x 24 ho base 43 i _ 4 32 Tryd.underlying24 hi hz0 hz1 hz2 rfl (by omega) _ 0 [] hs (World.ownsRow_nil _ _ _ _) ad 1 c (flat [y]) hx (flat_length [y]) hm.flat (flat_one [y]) (by unfold maxLen; omega) (by omega) hbase ?_
  intro v' w' h1 h2 h3
  refine h v' w' ⟨fun e => by have := (h3.1 e).2; omega, ?_⟩ h2
  simpa using h1

def sizeOfS : Value → Nat
  | .string s => s.size
  | _ => 0

theorem cutLine_any (t : List UInt8) (w : World) (hs : t.length ≤ 1048576) : Calls Tryd.prog 27 #[.string (bt t)] w fun r w' => ∃ line rest, r = .returned (.tuple #[.string (bt line), .string (bt rest)]) ∧ t = line ++ rest ∧ (t ≠ [] → rest.length < t.length) ∧ (∀ x s, low x → t = lineL x ++ s → line = lineL x ∧ rest = s) ∧ Grew w w' := by
  rcases idx_cases t 10 with h | ⟨a, r, rfl, ha⟩
  · refine (cutLine_none t w hs h).mono ?_
    rintro e w' ⟨rfl, g⟩
    refine ⟨t, [], rfl, by simp, fun hne => by simpa using List.length_pos_iff.2 hne, fun x s hx he => ?_, g⟩
    obtain ⟨b, hb, _⟩ := line_cut hx
    exact absurd (by rw [he, hb]; simp) h
  · refine (cutLine_some a r w hs ha).mono ?_
    rintro e w' ⟨rfl, g⟩
    exact ⟨a ++ [10], r, rfl, by simp, fun _ => by simp; omega, fun x s hx he => line_of hx ha he, g⟩
theorem text_step {c : List It} {x : It} {line rest t T : List UInt8} (hT : T = textL c ++ t) (ht : t = line ++ rest) (hl : lineL x = line) : T = textL (c ++ [x]) ++ rest := by
  rw [hT, ht, textL_app, ← hl]; simp [textL]
theorem cmp_line (x : It) (line : List UInt8) : ((lineB x).toList == line) = true ↔ lineL x = line := by
  rw [ByteArray.toList_eq, lineB_data]; simp

set_option maxHeartbeats 8000000 in
theorem chainOfText_any (T : List UInt8) (w : World) (hs : T.length ≤ 1048576) : Calls Tryd.prog 19 #[.string (bt T)] w fun r w' => Grew w w' ∧
    ((∃ l v, okB l = true ∧ T = textL l ∧ r = .returned (.tuple #[v, .nilIface]) ∧ (l = [] ∧ v = .slice none 0 0 ∨ OwnL w' w.heap.size v l)) ∨ ((∀ l, okB l = true → T ≠ textL l) ∧ ∃ n : Int, r = .returned (.tuple #[.slice none 0 0, .iface 49 (.agg #[.int .i64 n])]))) := by
  by_cases hlong : T.length ≤ 130
  · have h1 : ((130 : Int) < ((bt T).size : Int)) = False := by simp [ByteArray.size]; omega
    obtain ⟨TT, hTT⟩ : ∃ TT, TT = bt T := ⟨_, rfl⟩
    rw [← hTT] at h1 ⊢
    have HTT := hide hTT
    clear hTT
    go_enter Tryd.func19, Tryd.ntmps19
    go_wp2_with fail
    go_loopw [0, 4] (fun tx cc wr => ∃ (c : List It) (t : List UInt8), tx = .string (bt t) ∧ Hid (T = textL c ++ t) ∧ okB c = true ∧ (c = [] ∧ cc = .slice none 0 0 ∨ OwnL wr w.heap.size cc c) ∧ Grew w wr) (fun tx _ _ => sizeOfS tx)
    case atStart => exact ⟨[], T, by rw [unhide HTT], rfl, rfl, .inl ⟨rfl, rfl⟩, Grew.refl _⟩
    case round =>
      obtain ⟨c, t, rfl, hTc, hokc, hcc, hg⟩ := hrel
      by_cases ht0 : t = []
      · subst ht0
        have HT : Hid (T = textL c) := hide (by have := hTc.out; simpa using this)
        have HC := hide hcc
        have HOK := hide hokc
        clear hcc hTc hokc
        go_wp2
        go_ret2
        exact ⟨hg, .inl ⟨c, _, unhide HOK, HT.out, rfl, unhide HC⟩⟩
      · have hemp : t.isEmpty = false := by simpa using ht0
        have hbt : t.length ≤ 130 := by have := congrArg List.length hTc.out; simp at this; omega
        have hc16 : c.length ≤ 16 := by have h := hokc; unfold okB at h; simp only [Bool.and_eq_true, decide_eq_true_eq] at h; exact h.1
        have HT0 := hide ht0
        have HOK := hide hokc
        clear hokc ht0
        go_wp2_with fail
        refine (cutLine_any t _ (by omega)).mono ?_
        rintro r w1 ⟨line, rest, rfl, htl, hlt, hnx, g1⟩
        have H1 := hide (And.intro htl (And.intro hlt hnx))
        have hll : line.length ≤ 130 := by have := congrArg List.length htl; simp at this; omega
        clear htl hlt hnx
        go_wp2_with fail
        refine (itemOfLine_any line _ (by omega)).mono ?_
        rintro r w2 ⟨x, rfl, hx, g2⟩
        have HX := hide hx
        clear hx
        have g12 := g1.trans g2
        have hsz : w.heap.size ≤ w2.heap.size := Nat.le_trans hg.size g12.size
        have fail : ∀ l, okB l = true → T = textL l → okB (c ++ [x]) = true ∧ lineL x = line := fun l hl hTl => by
          obtain ⟨y, r', hlr, hy, hty, hokd⟩ := next_item hl (unhide HOK) (by rw [← hTl]; exact hTc.out) (unhide HT0)
          obtain ⟨hline, _⟩ := (unhide H1).2.2 y _ hy hty
          have := unhide HX y hy hline
          subst this
          exact ⟨hokd, hline.symm⟩
        have FAIL := hide fail
        clear fail
        obtain ⟨d, hd⟩ : ∃ d, d = c ++ [x] := ⟨_, rfl⟩
        have hdl : d.length = c.length + 1 := by rw [hd]; simp
        have hdx : ∀ h, d[c.length]'h = x := fun h => by subst hd; simp
        have hw : wrap64 ((d.length : Int) - 1) = (c.length : Int) := by rw [hdl, show ((c.length + 1 : Nat) : Int) - 1 = (c.length : Int) by omega]; unfold wrap64; omega
        have HD := hide hd
        have HDX := hide hdx
        have HDL := hide hdl
        clear hdl
        have goon : ∀ v' w5, OwnL w5 w.heap.size v' d → Grew w w5 → True := fun _ _ _ _ => trivial
        clear goon
        rcases hcc with ⟨hc0, rfl⟩ | ho
        · have hd1 : d = [x] := by rw [hd, hc0]; rfl
          have HD1 := hide hd1
          clear hd1 hd hdx hc0
          go_wp2_with (first | (at_builtin; refine wpList_first rfl _ _ rfl w.heap.size rfl ⟨w2.heap.size, 0, none⟩ 1 x rfl (its_one _ _ _) (by simp; omega) ?_))
          intro v5 w5 o5 g5
          rw [← unhide HD1] at o5
          have G5 := ((hg.trans g12).alloc _).grown g5 (fun k hk => by cases hk)
          clear g5
          obtain ⟨gd, capd, rfl, hcapd, hgd1, hgd2, itd⟩ := o5.shape
          have HO5 := hide o5
          clear o5
          go_wp2_with fail
          refine (implChainOk _ _ d _ itd (by have := unhide HDL; omega)).mono ?_
          rintro r w6 ⟨rfl, g6⟩
          have G6 := G5.trans g6
          cases hokd : okB d with
          | false =>
            go_wp2
            go_ret2
            refine ⟨G6, .inr ⟨fun l hl he => ?_, _, rfl⟩⟩
            have := (unhide FAIL l hl he).1
            rw [← unhide HD, hokd] at this
            cases this
          | true =>
            have hlx : low x := by have := low_of d hokd c.length (by have := unhide HDL; omega); rwa [unhide HDX] at this
            obtain ⟨b', off', hbo, hat⟩ := (itd.grew g6).at (i := c.length) (by have := unhide HDL; omega)
            rw [unhide HDX] at hat
            simp only [Option.some.injEq, Addr.mk.injEq, and_true] at hbo
            obtain ⟨rfl, rfl⟩ := hbo
            obtain ⟨c0, c1, c2, c3⟩ := hat
            simp only [Nat.zero_add] at c0 c1 c2 c3
            have hcd : (c.length : Int) < (d.length : Int) := by have := unhide HDL; omega
            go_wp2_with fail
            refine (asked_any _ _ _ _ _).mono ?_
            rintro r w7 ⟨rfl, g7⟩
            go_wp2_with fail
            refine (line_any x _ hlx).mono ?_
            rintro r w8 ⟨rfl, g8⟩
            have G8 := (G6.trans g7).trans g8
            cases hcmp : ((lineB x).toList == line) with
            | false =>
              go_wp2
              go_ret2
              refine ⟨G8, .inr ⟨fun l hl he => ?_, _, rfl⟩⟩
              have := (cmp_line x line).2 (unhide FAIL l hl he).2
              rw [hcmp] at this
              cases this
            | true =>
              have HN := hide (text_step hTc.out (unhide H1).1 ((cmp_line x line).1 hcmp))
              have HM := hide ((unhide H1).2.1 (unhide HT0))
              have o8 := (unhide HO5).grew ((g6.trans g7).trans g8)
              have HO8 := hide o8
              clear o8 c0 c1 c2 c3
              go_wp2
              go_roundw
              case rel => exact ⟨d, rest, rfl, by rw [unhide HD]; exact unhide HN, hokd, .inr (unhide HO8), G8⟩
              case measure => have := unhide HM; simpa [sizeOfS, ByteArray.size] using this
        · have hbl : ∀ k, _ = some k → w.heap.size ≤ k := fun k hk => (ho.block k hk).1
          have o2 := ho.grew g12
          clear ho hd hdx
          go_wp2_with (first | (at_builtin; refine wpList_items rfl _ _ rfl w.heap.size _ c rfl (o2.grew ((Grew.refl _).alloc _)) ⟨w2.heap.size, 0, none⟩ 1 [x] 1 rfl rfl (its_one _ _ _) (by simp; omega) (by simp; omega) ?_))
          intro v5 w5 o5 g5
          rw [← unhide HD] at o5
          have G5 := ((hg.trans g12).alloc _).grown g5 hbl
          clear g5 o2 hbl
          obtain ⟨gd, capd, rfl, hcapd, hgd1, hgd2, itd⟩ := o5.shape
          have HO5 := hide o5
          clear o5
          go_wp2_with fail
          refine (implChainOk _ _ d _ itd (by have := unhide HDL; omega)).mono ?_
          rintro r w6 ⟨rfl, g6⟩
          have G6 := G5.trans g6
          cases hokd : okB d with
          | false =>
            go_wp2
            go_ret2
            refine ⟨G6, .inr ⟨fun l hl he => ?_, _, rfl⟩⟩
            have := (unhide FAIL l hl he).1
            rw [← unhide HD, hokd] at this
            cases this
          | true =>
            have hlx : low x := by have := low_of d hokd c.length (by have := unhide HDL; omega); rwa [unhide HDX] at this
            obtain ⟨b', off', hbo, hat⟩ := (itd.grew g6).at (i := c.length) (by have := unhide HDL; omega)
            rw [unhide HDX] at hat
            simp only [Option.some.injEq, Addr.mk.injEq, and_true] at hbo
            obtain ⟨rfl, rfl⟩ := hbo
            obtain ⟨c0, c1, c2, c3⟩ := hat
            simp only [Nat.zero_add] at c0 c1 c2 c3
            have hcd : (c.length : Int) < (d.length : Int) := by have := unhide HDL; omega
            go_wp2_with fail
            refine (asked_any _ _ _ _ _).mono ?_
            rintro r w7 ⟨rfl, g7⟩
            go_wp2_with fail
            refine (line_any x _ hlx).mono ?_
            rintro r w8 ⟨rfl, g8⟩
            have G8 := (G6.trans g7).trans g8
            cases hcmp : ((lineB x).toList == line) with
            | false =>
              go_wp2
              go_ret2
              refine ⟨G8, .inr ⟨fun l hl he => ?_, _, rfl⟩⟩
              have := (cmp_line x line).2 (unhide FAIL l hl he).2
              rw [hcmp] at this
              cases this
            | true =>
              have HN := hide (text_step hTc.out (unhide H1).1 ((cmp_line x line).1 hcmp))
              have HM := hide ((unhide H1).2.1 (unhide HT0))
              have o8 := (unhide HO5).grew ((g6.trans g7).trans g8)
              have HO8 := hide o8
              clear o8 c0 c1 c2 c3
              go_wp2
              go_roundw
              case rel => exact ⟨d, rest, rfl, by rw [unhide HD]; exact unhide HN, hokd, .inr (unhide HO8), G8⟩
              case measure => have := unhide HM; simpa [sizeOfS, ByteArray.size] using this
  · have h1 : (130 : Int) < ((bt T).size : Int) := by simp [ByteArray.size]; omega
    go_enter Tryd.func19, Tryd.ntmps19
    go_wp2
    go_ret2
    exact ⟨Grew.refl _, .inr ⟨fun l hl he => by have := ok_len hl; rw [← he] at this; omega, 0, rfl⟩⟩
end Go.Proofs.YtfonpbglnkggfaaDoor
