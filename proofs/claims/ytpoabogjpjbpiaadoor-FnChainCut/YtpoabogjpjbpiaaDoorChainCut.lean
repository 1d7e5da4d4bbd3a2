/-
  FnChainCut returns true at every row of bytes and leaves its argument as it was, errors.errorType being as the program's text lays it (the card ties it): what the statement says; no other condition.
-/
import Derived.Test.YtpoabogjpjbpiaaDoorBytes
import Derived.Test.YtpoabogjpjbpiaaDoorDoor
import Derived.Test.YtpoabogjpjbpiaaDoorCards
import Derived.Test.YtpoabogjpjbpiaaDoorTie
import Derived.SevenTiedAt
import Derived.Test.YtpoabogjpjbpiaaDoorDraw6
import Derived.Test.YtpoabogjpjbpiaaDoorSame
namespace Go.Proofs.YtpoabogjpjbpiaaDoor.FnChainCut
set_option linter.unusedVariables false
open Go.ChangeShapes Go.WideShapes Go.ChangeAt Go.RowKit

theorem text_last {l : List It} (hl : okB l = true) {t : List UInt8} {c : UInt8} (h : textL l = t ++ [c]) : c = 10 := by
  rcases List.eq_nil_or_concat l with rfl | ⟨i, x, rfl⟩
  · simp [textL] at h
  · have hx : low x := by
      have := low_of (i ++ [x]) (by simpa using hl) i.length (by simp)
      simpa using this
    obtain ⟨a, ha, _⟩ := line_cut hx
    rw [List.concat_eq_append, textL_app] at h
    simp only [textL, List.append_nil] at h
    rw [ha, ← List.append_assoc] at h
    have := List.append_inj' h rfl
    simpa using this.2.symm
theorem line_two (x : It) : 2 ≤ (lineL x).length := by unfold lineL; simp; omega
/-- What a chain's text is, cut at its last item. -/
theorem cut_text {l : List It} (hl : okB l = true) (hne : l ≠ []) : ∃ i x a, l = i ++ [x] ∧ okB i = true ∧ textL l = textL i ++ a ++ [10] ∧ a ≠ [] ∧ (10 : UInt8) ∉ a ∧ (i = [] ∨ ∃ t, textL i = t ++ [10]) := by
  rcases List.eq_nil_or_concat l with rfl | ⟨i, x, rfl⟩
  · exact absurd rfl hne
  · rw [List.concat_eq_append] at hl ⊢
    have hx : low x := by
      have := low_of (i ++ [x]) hl i.length (by simp)
      simpa using this
    obtain ⟨a, ha, hn⟩ := line_cut hx
    have h2 := line_two x
    refine ⟨i, x, a, rfl, okB_app hl, ?_, ?_, hn, ?_⟩
    · rw [textL_app]; simp [textL, ha]
    · rintro rfl; rw [ha] at h2; simp at h2
    · rcases List.eq_nil_or_concat i with h | ⟨j, y, h⟩
      · exact .inl h
      · refine .inr ?_
        have hi := okB_app hl
        rw [List.concat_eq_append] at h
        rw [h] at hi ⊢
        have hy : low y := by
          have := low_of (j ++ [y]) hi j.length (by simp)
          simpa using this
        obtain ⟨b, hb, _⟩ := line_cut hy
        exact ⟨textL j ++ b, by rw [textL_app]; simp [textL, hb]⟩
theorem bt_get (T : List UInt8) (k : Nat) (h : k < (bt T).size) : (bt T)[k] = T[k]'(by simpa [ByteArray.size] using h) := rfl
theorem cut_in {p a : List UInt8} (hn : (10 : UInt8) ∉ a) (k : Nat) (h : k < (bt (p ++ a ++ [10])).size) (h1 : p.length ≤ k) (h2 : k + 1 < (bt (p ++ a ++ [10])).size) : ¬ (bt (p ++ a ++ [10]))[k].toNat = 10 := by
  have hz : (bt (p ++ a ++ [10])).size = p.length + a.length + 1 := by simp [ByteArray.size]; omega
  rw [bt_get]
  intro e
  have e' : (p ++ a ++ [10])[k]'(by simpa [ByteArray.size] using h) = 10 := UInt8.toNat_inj.1 e
  rw [List.getElem_append_left (by simp; omega), List.getElem_append_right h1] at e'
  exact hn (e' ▸ List.getElem_mem _)
theorem cut_at {p t s : List UInt8} (hp : p = t ++ [10]) (k : Nat) (hk : k + 1 = p.length) (h : k < (bt (p ++ s)).size) : (bt (p ++ s))[k].toNat = 10 := by
  rw [bt_get, List.getElem_append_left (by omega)]
  subst hp
  simp at hk
  rw [List.getElem_append_right (by omega)]
  simp [hk]
theorem bt_cut (p s : List UInt8) (n : Nat) (h : n = p.length) : (bt (p ++ s)).extract 0 n = bt p := by
  subst h
  apply ByteArray.ext
  simp
theorem bt_add (p s : List UInt8) : bt p ++ bt s = bt (p ++ s) := by
  apply ByteArray.ext
  simp

theorem not_text {l : List It} (hl : okB l = true) {p q : List UInt8} (hq0 : q ≠ []) (hq : (10 : UInt8) ∉ q) : ¬ p ++ q = textL l := fun h => by
  rcases List.eq_nil_or_concat q with rfl | ⟨t, c, rfl⟩
  · exact hq0 rfl
  · rw [List.concat_eq_append] at h hq
    have := text_last hl (t := p ++ t) (c := c) (by rw [← h]; simp)
    exact hq (by simp [this])
theorem text_inj {l m : List It} (hl : okB l = true) (hm : okB m = true) (h : textL m = textL l) : l = m := by
  obtain ⟨r, e1, e2⟩ := text_pre l m (low_of l hl) (low_of m hm) [] (by simpa using h)
  cases r with
  | nil => simpa using e1.symm
  | cons y r2 => exact absurd e2.symm (lineL_ne y _)

set_option maxHeartbeats 8000000 in
theorem walk (a : Option Addr) (n cap : Nat) (w : World) (hL : ErrLaid w) (hb : Byt w a w.heap.size n) (hc : n ≤ cap) :
    Calls Tryd.prog 4 #[.slice a n cap] w fun e w' => e = .returned (.bool true) ∧ Grew w w' := by
  by_cases hn : n ≤ 1048576
  · have hn1 : decide ((1048576 : Int) < (n : Int)) = false := by simp; omega
    go_enter Tryd.func4, Tryd.ntmps4
    go_wp2_with fail
    refine (drawChainText_any a n cap _ hb hc hn).mono ?_
    rintro e w1 ⟨ga, ca, la, rfl, ia, h1, h2, g1⟩
    obtain ⟨S, hS⟩ : ∃ S, (if okB la = true then textB la else ⟨#[]⟩) = S := ⟨_, rfl⟩
    have HS := hide hS
    clear hS
    go_wp2_with fail
    refine (implChainText _ _ la _ ia (by omega)).mono ?_
    rintro e w2 ⟨rfl, g2⟩
    rw [unhide HS]
    go_wp2_with fail
    refine (specChainText _ _ la _ (ia.grew g2) (by omega)).mono ?_
    rintro e w3 ⟨rfl, g3⟩
    rw [unhide HS]
    have ia3 := ia.grew (g2.trans g3)
    have G3 := g1.trans (g2.trans g3)
    clear ia
    by_cases hok : okB la = true ∧ la ≠ []
    · obtain ⟨hoka, hne⟩ := hok
      obtain ⟨i, x, q, hli, hoki, htx, hq0, hq10, hi0⟩ := cut_text hoka hne
      have eB : S = bt (textL i ++ q ++ [10]) := by
        have := unhide HS
        rw [if_pos hoka] at this
        rw [← this, ← htx]
        exact ByteArray.ext (by rw [← textB_data])
      have hsz : (textL la).length ≤ 112 := ok_len hoka
      have hSz : S.size = (textL i).length + q.length + 1 := by rw [eB]; simp [ByteArray.size]; omega
      have hS112 : S.size ≤ 112 := by rw [htx] at hsz; simp at hsz; omega
      have hq1 : 0 < q.length := List.length_pos_iff.2 hq0
      obtain ⟨m, hm⟩ : ∃ m, m = (textL i).length := ⟨_, rfl⟩
      obtain ⟨m1, hm1⟩ : ∃ m1, m1 = (textL i).length + q.length := ⟨_, rfl⟩
      have hw1 : wrap64 ((S.size : Int) - 1) = (m1 : Int) := by rw [hSz, ← hm1, show ((m1 + 1 : Nat) : Int) - 1 = (m1 : Int) by omega]; unfold wrap64; omega
      have hmS : m < m1 ∧ m1 + 1 = S.size := by omega
      have hA : ∀ k (h : k < S.size), m ≤ k → k + 1 < S.size → ¬ S[k].toNat = 10 := by subst eB; subst hm; exact fun k h => cut_in hq10 k h
      have hB : m = 0 ∨ ∀ k (h : k < S.size), k + 1 = m → S[k].toNat = 10 := by
        rcases hi0 with h | ⟨t, ht⟩
        · left; rw [hm, h]; rfl
        · right
          intro k h hk
          subst eB
          have hx := cut_at (s := q ++ [10]) ht k (by omega)
          simp only [← List.append_assoc] at hx
          exact hx h
      have hemp : S.toList.isEmpty = false := by rw [eB, ByteArray.toList_eq]; simp
      have HH := hide (And.intro hA hB)
      have HI := hide hi0
      have HX := hide (And.intro hm (And.intro hli (And.intro htx eB)))
      clear hA hB hi0 hli htx eB HS hSz hm
      go_wp2_with fail
      go_loopw [5] (fun av wr => ∃ j, av = .int .i64 ((j : Nat) : Int) ∧ m ≤ j ∧ j ≤ m1 ∧ wr = w3) (fun av _ => (intOf av).toNat)
      case atStart => exact ⟨m1, by congr 1; omega, by omega, Nat.le_refl _, rfl⟩
      case round =>
        obtain ⟨j, rfl, hmj, hjm, rfl⟩ := hrel
        by_cases hgo : m < j
        · have hkS0 : j - 1 < S.size := by omega
          have h10 := (unhide HH).1 (j - 1) hkS0 (by omega) (by omega)
          have hj0 : (0 : Int) < (j : Int) := by omega
          go_wp2
          go_roundw
          case rel => exact ⟨j - 1, by congr 1; omega, by omega, by omega, trivial⟩
          case measure => simp [intOf]; omega
        · have hjm' : j = m := by omega
          obtain ⟨em, eli, etx, eS⟩ := unhide HX
          have c1 : S.extract 0 (S.size - 1) = bt (textL i ++ q) := by
            have hz : S.size - 1 = (textL i ++ q).length := by simp; omega
            rw [hz, eS]; exact bt_cut _ _ _ rfl
          have c2 : S.extract 0 j = bt (textL i) := by rw [eS, List.append_assoc]; exact bt_cut _ _ _ (by omega)
          have r1 := fun W => implChainRead (textL i ++ q) W (by simp; omega)
          have r2 := fun W => implChainRead (textL i) W (by omega)
          have r3 := fun W => implChainRead (textL la ++ [32]) W (by simp; omega)
          have hstop : j = 0 ∨ 0 < j ∧ ∃ h : j - 1 < S.size, S[j - 1].toNat = 10 := by
            rcases (unhide HH).2 with h | h
            · exact .inl (by omega)
            · rcases Nat.eq_zero_or_pos j with h0 | h0
              · exact .inl h0
              · exact .inr ⟨h0, by omega, h (j - 1) (by omega) (by omega)⟩
          have c3 : S ++ ⟨#[32]⟩ = bt (textL la ++ [32]) := by rw [eS, etx]; exact bt_add _ [32]
          have i0 := ia3.take i.length
          rw [eli, List.take_left] at i0
          have li : la.length = i.length + 1 := by rw [eli]; simp
          have C3 := hide c3
          have I0 := hide i0
          have LI := hide li
          have H1 := hide r1
          have H2 := hide r2
          have H3 := hide r3
          have C1 := hide c1
          have C2 := hide c2
          clear r1 r2 r3 c1 c2 c3 i0 li em eli etx eS
          rcases hstop with hj0 | ⟨hj0, hkS0, h10⟩
          · have hj0' : decide ((0 : Int) < (j : Int)) = false := by simp; omega
            have hj0'' : decide (0 < j) = false := by simp; omega
            have HJ := hide hjm'
            clear hjm' hj0
            go_wp2_with fail
            rw [unhide C1]
            refine (unhide H1 _ (hL.grew G3)).mono ?_
            rintro r w4 ⟨g4, ⟨l, v, hl, hTl, rfl, _⟩ | ⟨hno, rfl⟩⟩
            case inl => exact absurd hTl (not_text hl hq0 hq10)
            clear hno
            have G4 := G3.trans g4
            go_wp2_with fail
            rw [unhide C2]
            refine (unhide H2 _ (hL.grew G4)).mono ?_
            rintro r w5 ⟨g5, ⟨l, v, hl, hTl, rfl, hv⟩ | ⟨hno, rfl⟩⟩
            case inr => exact absurd rfl (hno i hoki)
            obtain rfl : l = i := text_inj hl hoki hTl
            have G5 := G4.trans g5
            have HV := hide hv
            clear hv hTl
            go_wp2_with fail
            rw [unhide C3]
            refine (unhide H3 _ (hL.grew G5)).mono ?_
            rintro r w6 ⟨g6, ⟨l2, v2, hl2, hTl2, rfl, _⟩ | ⟨hno, rfl⟩⟩
            case inl => exact absurd hTl2 (not_text hl2 (by simp) (by simp))
            clear hno
            obtain ⟨vb, vc, rfl, iv⟩ : ∃ vb vc, v = .slice vb l.length vc ∧ Its w5 vb l := by
              rcases unhide HV with ⟨h0, h⟩ | h
              · subst h0; exact ⟨none, 0, h, .inl rfl⟩
              · obtain ⟨gx, cx, e, _, _, _, ix⟩ := h.shape
                exact ⟨_, cx, e, ix⟩
            have hn0 : 1 ≤ la.length := by have := unhide LI; omega
            have IV := hide (iv.grew g6)
            have IA := hide ((unhide I0).grew ((g4.trans g5).trans g6))
            have G6 := G5.trans g6
            clear iv HV
            go_wp2_with fail
            refine (lwSame_n _ _ _ _ l l _ (unhide IV) (unhide IA) _ _ rfl (by have := unhide LI; omega) (by have := unhide LI; omega) (by omega)).mono ?_
            rintro e w7 ⟨rfl, g7⟩
            rw [(sameB_iff l l).2 rfl]
            go_wp2
            go_ret
            exact ⟨rfl, G6.trans g7⟩
          · have hj0' : (0 : Int) < (j : Int) := by omega
            have HJ := hide hjm'
            clear hjm' hj0
            go_wp2_with fail
            rw [unhide C1]
            refine (unhide H1 _ (hL.grew G3)).mono ?_
            rintro r w4 ⟨g4, ⟨l, v, hl, hTl, rfl, _⟩ | ⟨hno, rfl⟩⟩
            case inl => exact absurd hTl (not_text hl hq0 hq10)
            clear hno
            have G4 := G3.trans g4
            go_wp2_with fail
            rw [unhide C2]
            refine (unhide H2 _ (hL.grew G4)).mono ?_
            rintro r w5 ⟨g5, ⟨l, v, hl, hTl, rfl, hv⟩ | ⟨hno, rfl⟩⟩
            case inr => exact absurd rfl (hno i hoki)
            obtain rfl : l = i := text_inj hl hoki hTl
            have G5 := G4.trans g5
            have HV := hide hv
            clear hv hTl
            go_wp2_with fail
            rw [unhide C3]
            refine (unhide H3 _ (hL.grew G5)).mono ?_
            rintro r w6 ⟨g6, ⟨l2, v2, hl2, hTl2, rfl, _⟩ | ⟨hno, rfl⟩⟩
            case inl => exact absurd hTl2 (not_text hl2 (by simp) (by simp))
            clear hno
            obtain ⟨vb, vc, rfl, iv⟩ : ∃ vb vc, v = .slice vb l.length vc ∧ Its w5 vb l := by
              rcases unhide HV with ⟨h0, h⟩ | h
              · subst h0; exact ⟨none, 0, h, .inl rfl⟩
              · obtain ⟨gx, cx, e, _, _, _, ix⟩ := h.shape
                exact ⟨_, cx, e, ix⟩
            have hn0 : 1 ≤ la.length := by have := unhide LI; omega
            have IV := hide (iv.grew g6)
            have IA := hide ((unhide I0).grew ((g4.trans g5).trans g6))
            have G6 := G5.trans g6
            clear iv HV
            go_wp2_with fail
            refine (lwSame_n _ _ _ _ l l _ (unhide IV) (unhide IA) _ _ rfl (by have := unhide LI; omega) (by have := unhide LI; omega) (by omega)).mono ?_
            rintro e w7 ⟨rfl, g7⟩
            rw [(sameB_iff l l).2 rfl]
            go_wp2
            go_ret
            exact ⟨rfl, G6.trans g7⟩
    · have hS0 : S = ⟨#[]⟩ := by
        rw [← unhide HS]
        by_cases h : okB la = true
        · have : la = [] := Classical.byContradiction fun h' => hok ⟨h, h'⟩
          rw [this]; rfl
        · rw [if_neg h]
      subst hS0
      go_wp2_with fail
      refine (specChainText _ _ la _ ia3 (by omega)).mono ?_
      rintro e w5 ⟨rfl, g5⟩
      rw [unhide HS]
      go_wp2
      go_ret
      exact ⟨rfl, G3.trans g5⟩
  · have hn1 : decide ((1048576 : Int) < (n : Int)) = true := by simp; omega
    go_enter Tryd.func4, Tryd.ntmps4
    go_wp2
    go_ret
    exact ⟨rfl, Grew.refl _⟩

set_option maxRecDepth 100000 in
theorem lifted (os : Os) (started : os.Started) (H : Type) (enc : TypeId × Value → H) :
    ReturnsInHanded {} Tryd.checked os 4 .any (fun w args => (Rows.fnChainCutSpec.pre enc Tryd.prog Tryd.f4 [] false w args ∧ laidMetH Tryd.prog laidE w) ∧ sizedMet enc Tryd.prog Tryd.f4 (OpenSpec.ofChange Rows.fnChainCutSpec) false w args) (Rows.fnChainCutSpec.post enc Tryd.prog Tryd.f4 false true false false) := by
  refine returnsInHanded_of_change_and (C := Tryd.checked) (X := fun w _ => laidMetH Tryd.prog laidE w) (fun _ _ _ hh h => h.of_heap hh) own started (by kernel_rfl) Tryd.func4
    (ChangeSpec.witness_at (enc := enc) (C := Tryd.checked) (os := os) (X := fun w _ => laidMetH Tryd.prog laidE w) false (laidWorld os) #[.slice none 0 0] 8 rfl (by kernel_rfl) (by kernel_rfl) (by kernel_rfl) (by kernel_rfl) (by kernel_rfl) (laidWorld_met os _)) ?_
  intro W base args ds gs before hval0 hW _ _ hL0 _
  have hL : ErrLaid W := errLaid_of hL0
  have hval : ∀ (j : Nat) t v, Tryd.f4.params[j]? = some t → args[j]? = some v → Value.okWide Tryd.prog W .any base t v := hval0
  have hW' := hW
  obtain ⟨p, q, hA0, hV, rfl, hfz, hnd⟩ := hW
  have hA : DataW.TrodAll enc Tryd.prog W 0 (fun _ => true) true Tryd.f4.params.toList args.toList ds p := hA0
  rw [Tryd.params4] at hA hval
  obtain ⟨v0, vs0, d0, ds0, p0, q0, hargs, rfl, rfl, h0, r0⟩ := trodAll_cons hA
  obtain ⟨rfl, rfl, rfl⟩ := trodAll_nil r0
  obtain rfl : args = #[v0] := by cases args; simp_all
  obtain ⟨rfl, rfl⟩ := trodVars_none hV
  have k0 := h0
  have lt0 : ∀ x ∈ p0, x.block < W.heap.size := by obtain ⟨m, hm⟩ := k0; exact DataW.trod_lt m _ _ _ hm
  obtain ⟨a0, len0, cap0, rfl⟩ := okWide_slice Tryd.underlying22 (hval 0 22 v0 rfl rfl)
  obtain ⟨fuel0, hf0⟩ := h0
  obtain ⟨hb0, hc0⟩ := open_bytes hf0
  clear hA0 hval0
  refine (walk a0 len0 cap0 W hL hb0 hc0).mono fun e W' ⟨he, bel⟩ => ?_
  subst he
  exact ⟨_, rfl, _, _, _, [], _, [], hW', trodAll_mk1 (shut_bool Tryd.underlying4 _), (trodAll_cons_mk (Below.trod laidOut (by kernel_rfl) (of_decide_eq_true (by kernel_rfl)) k0 bel.below lt0) trodAll_mk0), rfl, bel.below.frame _, fun h => by cases h⟩

theorem over : Rows.fnChainCutRow.holds Tryd.pinned (OpenSpec.ofChange Rows.fnChainCutSpec) :=
  OpenClaim.holds_of_wide 4 Tryd.f4 rfl rfl rfl rfl rfl rfl rfl ⟨rfl, rfl, rfl, rfl, rfl⟩ rfl rfl rfl rfl rfl (by kernel_rfl) Tryd.func4 (by kernel_rfl)
    (of_decide_eq_true (by kernel_rfl)) (by unfold Func.isWrapper; first | (rw [if_pos (by decide +kernel)]; kernel_rfl) | (rw [if_neg (by decide +kernel)]; exact ⟨rfl, rfl⟩))
    (fun os started H enc _ => lifted os started H enc)
end Go.Proofs.YtpoabogjpjbpiaaDoor.FnChainCut
namespace Go.Proofs.YtpoabogjpjbpiaaDoor
theorem fnChainCut_holds : Rows.FnChainCutSaid := FnChainCut.over
theorem fnChainCut_card : Rows.FnChainCutCardSaid :=
  Claim7.holds_tied_plain_at .later [] [.handle] true Rows.fnChainCutCard.stood.harness true
    fnChainCut_holds (fun _ h => by cases h) (by kernel_rfl) (fun _ h => by cases h) fnChainCut_row_tie rfl ⟨rfl, rfl⟩ (by kernel_rfl) rfl
    (fun f fn hf hfn => by
      obtain rfl : f = 4 := Option.some.inj ((show Tryd.prog.funcNamed "loop.example/witan/laws.FnChainCut" = some 4 by kernel_rfl).symm.trans hf) |>.symm
      obtain rfl : fn = Tryd.f4 := (Option.some.inj (Tryd.func4.symm.trans hfn)).symm
      exact ⟨by kernel_rfl, fun j t ht => by
        rw [Tryd.params4] at ht
        have hall : ∀ t ∈ #[22], Tryd.prog.wantsStandIn t = false := by intro t h; simp at h; rcases h with rfl <;> kernel_rfl
        exact hall t (Array.mem_of_getElem? ht)⟩)
    (by kernel_rfl)
#print axioms fnChainCut_card
end Go.Proofs.YtpoabogjpjbpiaaDoor
