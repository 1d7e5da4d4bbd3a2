/-
  What the specification's ChainRead answers at every text.
-/
import Derived.Test.YtfonpbglnkggfaaDoorCut2
import Derived.Deep.RegionHeldLaw
import Derived.Deep.AppendLies
namespace Go.Proofs.YtfonpbglnkggfaaDoor
set_option linter.unusedVariables false
open Go.RowKit
attribute [local simp] far_const

/-- A line without its newline. -/
def line0 (x : It) : List UInt8 := decL x.e.toNat ++ 58 :: (decL x.f.toNat ++ decL x.t.toNat ++ decL x.s.toNat)
theorem line0_eq (x : It) : lineL x = line0 x ++ [10] := by simp [lineL, line0]
theorem line0_ten {x : It} (h : low x) : (10 : UInt8) ∉ line0 x := by
  obtain ⟨a, ha, hn⟩ := line_cut h
  rw [line0_eq] at ha
  have := List.append_inj' ha rfl
  rw [this.1]; exact hn
theorem fig58 (n : Nat) (hn : n < 100) : (58 : UInt8) ∉ decL n := by
  unfold decL
  have key : ∀ j, j < 10 → (58 : UInt8) ≠ UInt8.ofNat (48 + j) := fun j hj e => by
    have := congrArg UInt8.toNat e
    simp at this
    omega
  split
  · rename_i h; simpa using key _ h
  · simp only [List.mem_cons, List.not_mem_nil, or_false, not_or]
    exact ⟨key _ (by omega), key _ (by omega)⟩
theorem cut_lines : ∀ (l : List It) (s : List (List UInt8)), (∀ i (h : i < l.length), low l[i]) → (textL l).foldl (cstep 10) (s, []) = (s ++ l.map line0, [])
  | [], s, _ => by simp [textL]
  | x :: r, s, h => by
    have hx : low x := h 0 (Nat.zero_lt_succ _)
    have hr := cut_lines r (s ++ [line0 x]) (fun i hi => show low r[i] from h (i + 1) (Nat.succ_lt_succ hi))
    simp only [textL]
    rw [line0_eq, List.append_assoc, List.singleton_append, cut_at_sign 10 (line0 x) _ _ (line0_ten hx)]
    simp only [List.nil_append]
    rw [hr]
    simp
theorem cut_text_lines {l : List It} (h : okB l = true) : cutR (cutS 10 (textL l)) = l.map line0 ++ [[]] := by
  unfold cutS
  rw [cut_lines l [] (low_of l h)]
  simp [cutR]
theorem cut_line0 {x : It} (h : low x) : cutR (cutS 58 (line0 x)) = [decL x.e.toNat, decL x.f.toNat ++ decL x.t.toNat ++ decL x.s.toNat] := by
  obtain ⟨⟨a0, a1⟩, ⟨b0, b1⟩, ⟨c0, c1⟩, d0, d1⟩ := h
  unfold cutS line0
  rw [cut_at_sign 58 _ _ _ (fig58 _ (by omega)), cutF_no]
  · simp [cutR]
  · simp only [List.mem_append, not_or]
    exact ⟨⟨fig58 _ (by omega), fig58 _ (by omega)⟩, fig58 _ (by omega)⟩
theorem cut_piece (c : UInt8) (T : List UInt8) : ∀ p ∈ cutR (cutS c T), p.length ≤ T.length := by
  have : ∀ (T : List UInt8) (s) (N : Nat), (∀ p ∈ cutR s, p.length ≤ N) → ∀ p ∈ cutR (T.foldl (cstep c) s), p.length ≤ N + T.length := by
    intro T
    induction T with
    | nil => intro s N h p hp; simpa using h p hp
    | cons x r ih =>
      intro s N h p hp
      rw [List.foldl_cons] at hp
      have := ih (cstep c s x) (N + 1) (fun q hq => by
        unfold cstep at hq
        split at hq
        · simp only [cutR, List.mem_append, List.mem_singleton] at hq
          rcases hq with (hq | hq) | hq
          · exact Nat.le_trans (h q (by simp [cutR, hq])) (by omega)
          · exact Nat.le_trans (h q (by simp [cutR, hq])) (by omega)
          · simp [hq]
        · simp only [cutR, List.mem_append, List.mem_singleton] at hq
          rcases hq with hq | hq
          · exact Nat.le_trans (h q (by simp [cutR, hq])) (by omega)
          · have := h s.2 (by simp [cutR])
            rw [hq]; simp; omega) p hp
      simp only [List.length_cons]; omega
  intro p hp
  have := this T ([], []) 0 (by simp [cutR]) p hp
  omega
theorem l1Cut_n (T : List UInt8) (c : UInt8) (n : Int) (hn : n = (c.toNat : Int)) (w : World) (hs : T.length ≤ 1048576) : Calls Tryd.prog 15 #[.string (bt T), .int .u8 n] w fun r w' => ∃ v, r = .returned v ∧ OwnS w' w.heap.size v (cutR (cutS c T)) ∧ Grew w w' := by
  subst hn; exact l1Cut_any T c w hs

/-- 'append' onto a row of items that the call owns, and where the new row lies. -/
theorem wpList_items_at {ops : Array Oper} {rest : List Oper} {o : Oper} {a : Act} {Q : Exit → Act → World → Prop} {w : World} (hgd : o.guard = none) (s x : Operand)
    (ho : o.op = .call { callee := .builtin .append, args := #[s, x], argTypes := #[24, 24] })
    (base : Nat) (v : Value) (l : List It) (hs : a.eval s = v) (hown : OwnL w base v l)
    (ad : Addr) (c : Nat) (m : List It) (mn : Nat) (hmn : m.length = mn) (hx : a.eval x = .slice (some ad) mn c) (hm : Its w (some ad) m) (hn : l.length + m.length ≤ 1048576) (hbase : base ≤ w.heap.size)
    (h : ∀ v' w', OwnL w' base v' (l ++ m) → w.grownBy w' v.ownBlock → (v'.ownBlock = v.ownBlock ∨ v'.ownBlock = some w.heap.size) → wpList Tryd.prog ops Q rest (a.put o.dst v') w') : wpList Tryd.prog ops Q (o :: rest) a w := by
  obtain ⟨i, hi, hz0, hz1, hz2⟩ := item_info
  subst hmn
  refine wpList_append_own_at w hgd s x 24 ho base 43 i _ 4 32 Tryd.underlying24 hi hz0 hz1 hz2 rfl (by omega) v l.length (flat l) hs hown.2 ad m.length c (flat m) hx (flat_length m) hm.flat (flat_one m) (by unfold maxLen; omega) (by omega) hbase ?_
  intro v' w' h1 h2 h3 h4
  refine h v' w' ⟨fun e => hown.1 (h3.1 e).1, ?_⟩ h2 h4
  show w'.ownsRow base 43 4 v' (l ++ m).length (Go.Proofs.YtfonpbglnkggfaaDoor.flat (l ++ m))
  rw [List.length_append, flat_app]
  exact h1

theorem it_of {n f t s : Int} {y : It} (lo : low y) (q1 : n = (y.e.toNat : Int)) (q2 : f = (y.f.toNat : Int) ∧ t = (y.t.toNat : Int) ∧ s = (y.s.toNat : Int)) : (⟨n, f, t, s⟩ : It) = y := by
  obtain ⟨⟨a0, a1⟩, ⟨b0, b1⟩, ⟨c0, c1⟩, d0, d1⟩ := lo
  cases y
  simp only [It.mk.injEq] at *
  omega
theorem OwnL.row {w : World} {base : Nat} {v : Value} {l : List It} (h : OwnL w base v l) : w.ownsRow base 43 4 v l.length (Go.Proofs.YtfonpbglnkggfaaDoor.flat l) := h.2
/-- A guard for the walk: fits at an 'if' alone. -/
theorem at_ite {c : Prop} [Decidable c] {A B : Prop} (h : if c then A else B) : if c then A else B := h

/-- What a line's parts tell of the chain whose text it is. -/
theorem part_of {T : List UInt8} {l : List It} (hl : okB l = true) (hT : T = textL l) (k : Nat) (hk : k + 1 < (cutR (cutS 10 T)).length) : ∃ h : k < l.length, (cutR (cutS 10 T))[k]? = some (line0 l[k]) ∧ low l[k] := by
  subst hT
  have e := cut_text_lines hl
  have hkl : k < l.length := by rw [e] at hk; simpa using hk
  refine ⟨hkl, ?_, low_of l hl k hkl⟩
  rw [e, List.getElem?_append_left (by simpa using hkl)]
  simp [hkl]
theorem all_of {T : List UInt8} {l : List It} (hl : okB l = true) (hT : T = textL l) : (cutR (cutS 10 T)).length = l.length + 1 := by
  subst hT
  rw [cut_text_lines hl]; simp

set_option maxHeartbeats 8000000 in
theorem specChainRead (T : List UInt8) (w : World) (hs : T.length ≤ 1048576) : Calls Tryd.prog 5 #[.string (bt T)] w fun r w' => Grew w w' ∧
    ((∃ l v, okB l = true ∧ T = textL l ∧ r = .returned (.tuple #[v, .bool true]) ∧ OwnL w' w.heap.size v l) ∨ ((∀ l, okB l = true → T ≠ textL l) ∧ ∃ v, r = .returned (.tuple #[v, .bool false]) ∧ OwnL w' w.heap.size v [])) := by
  have o0 : OwnL (w.alloc (.cells #[] 43)) w.heap.size (.slice (some ⟨w.heap.size, 0, none⟩) 0 0) [] := OwnL.empty (Nat.le_refl _)
  by_cases hlong : T.length ≤ 130
  · have h1 : decide ((130 : Int) < ((bt T).size : Int)) = false := by simp [ByteArray.size]; omega
    obtain ⟨TT, hTT⟩ : ∃ TT, TT = bt T := ⟨_, rfl⟩
    have hcut := l1Cut_n T 10 10 rfl (w.alloc (.cells #[] 43)) hs
    rw [← hTT] at h1 hcut ⊢
    have HTT := hide hTT
    have O0 := hide o0
    clear hTT o0
    go_enter Tryd.func5, Tryd.ntmps5
    go_wp2_with fail
    refine hcut.mono ?_
    clear hcut
    rintro r w1 ⟨vl, rfl, ol, g1⟩
    have hLS := cutR_len 10 T
    have hpc := cut_piece 10 T
    have hall := fun l (hl : okB l = true) (hT : T = textL l) => part_of hl hT
    have hlen := fun l (hl : okB l = true) (hT : T = textL l) => all_of hl hT
    obtain ⟨LS, hLSe⟩ : ∃ LS, LS = cutR (cutS 10 T) := ⟨_, rfl⟩
    simp only [← hLSe] at hLS hpc hall hlen ol
    have HPC := hide hpc
    have HALL := hide hall
    have HLEN := hide hlen
    have hLpos : 0 < LS.length := by rw [hLSe]; unfold cutR; simp
    have O1 := hide ((unhide O0).grew g1)
    clear hLSe hpc hall hlen O0
    obtain ⟨gl, capl, rfl, hcapl, hgl, hgl1, hc0, _⟩ := ol.shape
    have hne0 : w.heap.size ≠ gl := by simp at hgl; omega
    clear ol
    go_wp2_with fail
    go_loopw [4, 6] (fun ov iv wr => ∃ (k : Nat) (l : List It), iv = .int .i64 (k : Int) ∧ k + 1 ≤ LS.length ∧ l.length = k ∧ OwnL wr w.heap.size ov l ∧ ov.ownBlock ≠ some gl ∧ (∀ i (h : i < LS.length), wr.cell? ⟨gl, i, none⟩ = some (.string (bt LS[i]))) ∧ gl < wr.heap.size ∧ Grew w wr ∧ Hid (∀ l', okB l' = true → T = textL l' → l = l'.take k)) (fun _ iv _ => LS.length - (intOf iv).toNat)
    case atStart => exact ⟨0, [], rfl, hLpos, rfl, unhide O1, by simpa [Value.ownBlock] using hne0, hc0, hgl1, ((Grew.refl _).alloc _).trans g1, fun _ _ _ => by simp⟩
    case round =>
      obtain ⟨k, l, rfl, hk, hlk, hown, hblk, hcells, hglr, hg, hpre⟩ := hrel
      clear hc0 O1
      by_cases hlt : k + 1 < LS.length
      · obtain ⟨P, hP⟩ : ∃ P, LS[k]? = some P := ⟨LS[k], by simp⟩
        have hck := hcells k (by omega)
        have hPm : P ∈ LS := List.mem_of_getElem? hP
        have hPl := unhide HPC P hPm
        have hPe : LS[k] = P := by simpa [List.getElem?_eq_getElem (show k < LS.length by omega)] using hP
        rw [hPe] at hck
        have hlt' : (k : Int) + 1 < (LS.length : Int) := by omega
        have HC := hide hcells
        have HO := hide hown
        have HB := hide hblk
        have HP := hide hP
        have HLK := hide hlk
        clear hcells hown hblk hP hPe hPm hlk
        go_wp2_with fail
        refine (l1Cut_n P 58 58 rfl _ (by omega)).mono ?_
        rintro r w2 ⟨vw, rfl, ow, g2⟩
        have hwp := cut_piece 58 P
        obtain ⟨WS, hWS⟩ : ∃ WS, WS = cutR (cutS 58 P) := ⟨_, rfl⟩
        simp only [← hWS] at hwp ow
        have HWS := hide hWS
        clear hWS
        obtain ⟨gw, capw, rfl, hcapw, hgw, hgw1, hcw, _⟩ := ow.shape
        clear ow
        have hfit : ∀ l', okB l' = true → T = textL l' → ∃ h : k < l'.length, WS = [decL l'[k].e.toNat, decL l'[k].f.toNat ++ decL l'[k].t.toNat ++ decL l'[k].s.toNat] ∧ low l'[k] := fun l' hl' hT' => by
          obtain ⟨h, e, lo⟩ := unhide HALL l' hl' hT' k hlt
          rw [unhide HP] at e
          refine ⟨h, ?_, lo⟩
          rw [unhide HWS, Option.some.inj e]
          exact cut_line0 lo
        have HFIT := hide hfit
        clear hfit
        by_cases h2 : WS.length = 2
        · obtain ⟨p, q, rfl⟩ : ∃ p q, WS = [p, q] := by
            match WS, h2 with
            | [p, q], _ => exact ⟨p, q, rfl⟩
          have cp := hcw 0 (by simp)
          have cq := hcw 1 (by simp)
          have lp := hwp p (by simp)
          have lq := hwp q (by simp)
          simp only [List.getElem_cons_zero, List.getElem_cons_succ] at cp cq
          simp only [List.length_cons, List.length_nil, Nat.zero_add, Nat.reduceAdd] at hcapw ⊢
          clear hcw hwp h2
          have hbw : ∀ b, _ = some b → w.heap.size ≤ b ∧ b < wr.heap.size := fun b hb => (unhide HO).block b hb
          have hn5 : some gw ≠ _ := fun e => by have := hbw gw e.symm; omega
          have HBW := hide hbw
          have HN5 := hide hn5
          clear hbw hn5
          obtain ⟨i, hi, hz0, hz1, hz2⟩ := item_info
          have hsz : w.heap.size ≤ w2.heap.size := Nat.le_trans hg.size g2.size
          have hl130 : l.length ≤ 130 := by have := unhide HLK; omega
          go_wp2_with fail
          go_region_held_law (fun w' => w'.cell? ⟨gw, 0, none⟩ = some (.string (bt p)) ∧ w'.cell? ⟨gw, 1, none⟩ = some (.string (bt q)))
            (first | go_keep | exact ⟨g4.keep (by simp [*]), g4.keep (by simp [*])⟩ | exact ⟨hgrow5.cell (by simp [*]) (unhide HN5), hgrow5.cell (by simp [*]) (unhide HN5)⟩)
            (first
              | (go_at_call 16; refine (l1Dec_any p _ (by omega)).mono ?_; rintro r w3 ⟨n, rfl, hn, rfl⟩)
              | (go_at_call 17; refine (l1Pay_any q _).mono ?_; rintro r w4 ⟨f, t, s, rfl, hfts, g4⟩)
              | (with_reducible refine at_ite ?_; refine step_append_lies _ rfl _ _ 24 rfl w.heap.size 43 i _ 4 32 Tryd.underlying24 hi hz0 hz1 hz2 rfl (by omega) _ l.length (flat l) rfl ((unhide HO).grew ((g2.drew.trans g4).alloc _)).row ⟨w4.heap.size, 0, none⟩ 1 1 (flat [⟨n, f, t, s⟩]) rfl rfl (its_one _ _ _).flat (flat_one _) (by omega) (by unfold maxLen; omega) (by omega) (by simp; have := g4.size; simp at this; omega) _ rfl ?_; intro g5 cap5 w5 hown5 hgrow5 hat5 hlt5))
          simp only [List.getElem_toArray, List.getElem_cons_succ, List.getElem_cons_zero, List.setIfInBounds_toArray, List.set_cons_succ, List.set_cons_zero]
          have o5 : OwnL w5 w.heap.size (.slice (some ⟨g5, 0, none⟩) (l.length + 1) cap5) (l ++ [⟨n, f, t, s⟩]) := ⟨fun e => by simp at e, by rw [List.length_append, flat_app]; exact hown5⟩
          have g24 := g2.drew.trans g4
          have hblk5 : g5 ≠ gl := by
            rcases hat5 with h | h
            · intro e; exact unhide HB (Eq.trans h (congrArg some e))
            · have := g24.size
              simp at h
              omega
          have hcells5 : ∀ i (h : i < LS.length), w5.cell? ⟨gl, i, none⟩ = some (.string (bt LS[i])) := fun i h => by
            refine hgrow5.cell (Grew.keep ((Grew.refl _).alloc _) (g24.keep (unhide HC i h))) ?_
            exact fun e => unhide HB e.symm
          have hgl5 : gl < w5.heap.size := by
            have h1 := hgrow5.size
            have h2 := g24.size
            simp at h1
            omega
          have G5 : Grew w w5 := ((hg.trans g24).alloc _).grown hgrow5 (fun b hb => (unhide HBW b hb).1)
          have hpre5 : ∀ l', okB l' = true → T = textL l' → l ++ [⟨n, f, t, s⟩] = l'.take (k + 1) := fun l' hl' hT' => by
            obtain ⟨hkl, e, lo⟩ := unhide HFIT l' hl' hT'
            rw [List.take_succ_eq_append_getElem hkl, ← hpre l' hl' hT']
            simp only [List.cons.injEq, and_true] at e
            have lo' := lo
            obtain ⟨⟨a0, a1⟩, ⟨b0, b1⟩, ⟨c0, c1⟩, d0, d1⟩ := lo'
            have q1 := hn _ (by omega) e.1
            have q2 := hfts _ _ _ (by omega) (by omega) (by omega) e.2
            rw [it_of lo q1 q2]
          have H5 := hide (And.intro o5 (And.intro hblk5 (And.intro hcells5 hpre5)))
          clear o5 hblk5 hcells5 hpre5 hown5 hgrow5 hat5 hn hfts
          go_wp2
          go_roundw
          case rel => exact ⟨k + 1, _, by go_num, by omega, by simp [unhide HLK], (unhide H5).1, by simpa [Value.ownBlock] using (unhide H5).2.1, (unhide H5).2.2.1, hgl5, G5, (unhide H5).2.2.2⟩
          case measure => simp [intOf]; omega
        · have h2' : ((WS.length : Int) != 2) = true := by simp; omega
          have e0 : OwnL (w2.alloc (.cells #[] 43)) w.heap.size (.slice (some ⟨w2.heap.size, 0, none⟩) 0 0) [] := OwnL.empty (Nat.le_trans hg.size g2.size)
          have E0 := hide e0
          have hno : ∀ l', okB l' = true → T ≠ textL l' := fun l' hl' hT' => by
            obtain ⟨_, e, _⟩ := unhide HFIT l' hl' hT'
            exact h2 (by rw [e]; rfl)
          have HNO := hide hno
          clear e0 hno h2
          go_wp2
          go_ret2
          exact ⟨(hg.trans g2).alloc _, .inr ⟨unhide HNO, _, rfl, unhide E0⟩⟩
      · have hkk : k + 1 = LS.length := by omega
        have hlt' : decide ((k : Int) + 1 < (LS.length : Int)) = false := by simp; omega
        have hsame : ∀ l', okB l' = true → T = textL l' → l = l' := fun l' hl' hT' => by
          have := hpre l' hl' hT'
          have hL' := unhide HLEN l' hl' hT'
          rw [this, List.take_of_length_le (by omega)]
        obtain ⟨go, capo, rfl, hcapo, _, _, io⟩ := hown.shape
        have hl130 : l.length ≤ 130 := by omega
        have HO := hide hown
        have HS := hide hsame
        have HK := hide hkk
        clear hown hsame hcells hpre hkk hlk
        go_wp2_with fail
        refine (specChainOk _ _ l _ io (by omega)).mono ?_
        rintro r w2 ⟨rfl, g2⟩
        cases hok : okB l with
        | false =>
          have e0 : OwnL (w2.alloc (.cells #[] 43)) w.heap.size (.slice (some ⟨w2.heap.size, 0, none⟩) 0 0) [] := OwnL.empty (Nat.le_trans hg.size g2.size)
          have E0 := hide e0
          clear e0
          go_wp2
          go_ret2
          exact ⟨(hg.trans g2).alloc _, .inr ⟨fun l' hl' hT' => (by have := unhide HS l' hl' hT'; rw [this, hl'] at hok; cases hok), _, rfl, unhide E0⟩⟩
        | true =>
          have htx := specChainText _ capo l _ (io.grew g2) (by omega)
          rw [if_pos hok] at htx
          go_wp2_with fail
          refine htx.mono ?_
          rintro r w3 ⟨rfl, g3⟩
          obtain ⟨B, hB⟩ : ∃ B, B = textB l := ⟨_, rfl⟩
          rw [← hB]
          have hTB : (B.toList == TT.toList) = true ↔ T = textL l := by
            rw [hB, unhide HTT, ByteArray.toList_eq, ByteArray.toList_eq, textB_data]
            show (textL l == T) = true ↔ _
            rw [beq_iff_eq]
            exact eq_comm
          cases hcmp : (B.toList == TT.toList) with
          | false =>
            have hne : T ≠ textL l := fun e => by have := hTB.2 e; rw [hcmp] at this; cases this
            have HNE := hide hne
            have e0 : OwnL (w3.alloc (.cells #[] 43)) w.heap.size (.slice (some ⟨w3.heap.size, 0, none⟩) 0 0) [] := OwnL.empty (Nat.le_trans hg.size (g2.trans g3).size)
            have E0 := hide e0
            clear e0 hTB hne hB htx
            go_wp2
            go_ret2
            exact ⟨((hg.trans g2).trans g3).alloc _, .inr ⟨fun l' hl' hT' => (by have := unhide HS l' hl' hT'; rw [← this] at hT'; exact unhide HNE hT'), _, rfl, unhide E0⟩⟩
          | true =>
            have heq := hide (hTB.1 hcmp)
            have O3 := hide ((unhide HO).grew (g2.trans g3))
            clear hTB hB htx
            go_wp2
            go_ret2
            exact ⟨(hg.trans g2).trans g3, .inl ⟨l, _, hok, unhide heq, rfl, unhide O3⟩⟩
  · have h1 : decide ((130 : Int) < ((bt T).size : Int)) = true := by simp [ByteArray.size]; omega
    have O0 := hide o0
    clear o0
    go_enter Tryd.func5, Tryd.ntmps5
    go_wp2
    go_ret2
    exact ⟨(Grew.refl _).alloc _, .inr ⟨fun l hl he => by have := ok_len hl; rw [← he] at this; omega, _, rfl, unhide O0⟩⟩
end Go.Proofs.YtfonpbglnkggfaaDoor
