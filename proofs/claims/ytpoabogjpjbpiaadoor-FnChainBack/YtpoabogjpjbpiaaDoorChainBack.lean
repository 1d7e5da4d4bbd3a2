/-
  FnChainBack returns true at every row of bytes and leaves its argument as it was, errors.errorType being as the program's text lays it (the card ties it): what the statement says; no other condition.
-/
import Derived.Test.YtpoabogjpjbpiaaDoorBytes
import Derived.Test.YtpoabogjpjbpiaaDoorDoor
import Derived.Test.YtpoabogjpjbpiaaDoorCards
import Derived.Test.YtpoabogjpjbpiaaDoorTie
import Derived.SevenTiedAt
import Derived.Test.YtpoabogjpjbpiaaDoorDraw6
import Derived.Test.YtpoabogjpjbpiaaDoorSame
namespace Go.Proofs.YtpoabogjpjbpiaaDoor.FnChainBack
set_option linter.unusedVariables false
open Go.ChangeShapes Go.WideShapes Go.ChangeAt Go.RowKit

def cnt (S : ByteArray) (k : Nat) : Nat := (S.data.toList.take k).count 10
theorem cnt_zero (S : ByteArray) : cnt S 0 = 0 := by simp [cnt]
theorem cnt_le (S : ByteArray) (k : Nat) : cnt S k ≤ S.size := by
  unfold cnt
  have h1 := List.count_le_length (a := (10 : UInt8)) (l := S.data.toList.take k)
  have h2 : S.data.toList.length = S.size := rfl
  simp at h1
  simp at h2
  omega
theorem cnt_step (S : ByteArray) (k : Nat) (h : k < S.size) : cnt S (k + 1) = cnt S k + if S[k] = 10 then 1 else 0 := by
  unfold cnt
  have h' : k < S.data.toList.length := h
  rw [List.take_succ_eq_append_getElem h', List.count_append]
  have e : S.data.toList[k] = S[k] := by simp [ByteArray.getElem_eq_getElem_data]
  rw [e]
  congr 1
  simp [List.count_cons]
theorem count_line {x : It} (h : low x) : (lineL x).count 10 = 1 := by
  obtain ⟨a, ha, hn⟩ := line_cut h
  rw [ha, List.count_append, List.count_eq_zero.2 hn]
  rfl
theorem count_text : ∀ l : List It, (∀ i (h : i < l.length), low l[i]) → (textL l).count 10 = l.length
  | [], _ => by simp [textL]
  | x :: r, h => by
    have h1 := count_line (show low x from h 0 (Nat.zero_lt_succ _))
    have h2 := count_text r (fun i hi => show low r[i] from h (i + 1) (Nat.succ_lt_succ hi))
    simp only [textL, List.count_append, List.length_cons]
    omega
theorem cnt_all {l : List It} (h : okB l = true) (k : Nat) (hk : k = (textB l).size) : cnt (textB l) k = l.length := by
  subst hk
  unfold cnt
  rw [size_list, List.take_length, textB_data, count_text l (low_of l h)]

set_option maxHeartbeats 8000000 in
theorem walk (a : Option Addr) (n cap : Nat) (w : World) (hL : ErrLaid w) (hb : Byt w a w.heap.size n) (hc : n ≤ cap) :
    Calls Tryd.prog 3 #[.slice a n cap] w fun e w' => e = .returned (.bool true) ∧ Grew w w' := by
  by_cases hn : n ≤ 1048576
  · have hn1 : decide ((1048576 : Int) < (n : Int)) = false := by simp; omega
    go_enter Tryd.func3, Tryd.ntmps3
    go_wp2_with fail
    refine (drawChainText_any a n cap _ hb hc hn).mono ?_
    rintro e w1 ⟨ga, ca, la, rfl, ia, h1, h2, g1⟩
    obtain ⟨S, hS⟩ : ∃ S, (if okB la = true then textB la else ⟨#[]⟩) = S := ⟨_, rfl⟩
    have HS := hide hS
    clear hS
    go_wp2_with fail
    refine (implChainText _ _ la _ ia (by omega)).mono ?_
    rintro e w2 ⟨rfl, g2⟩
    rw [unhide HS]
    go_wp2_with fail
    refine (specChainText _ _ la _ (ia.grew g2) (by omega)).mono ?_
    rintro e w3 ⟨rfl, g3⟩
    rw [unhide HS]
    go_wp2_with fail
    refine (specChainOk _ _ la _ (ia.grew (g2.trans g3)) (by omega)).mono ?_
    rintro e w4 ⟨rfl, g4⟩
    have ia4 := ia.grew ((g2.trans g3).trans g4)
    have G4 := g1.trans ((g2.trans g3).trans g4)
    clear ia
    cases hoka : okB la with
    | false =>
      go_wp2_with fail
      refine (specChainText _ _ la _ ia4 (by omega)).mono ?_
      rintro e w5 ⟨rfl, g5⟩
      rw [unhide HS]
      go_wp2
      go_ret
      exact ⟨rfl, G4.trans g5⟩
    | true =>
      have eS : S = textB la := by have := unhide HS; rw [if_pos hoka] at this; exact this.symm
      have eB : S = bt (textL la) := by rw [eS]; exact ByteArray.ext (by rw [← textB_data])
      have hsz : (textL la).length ≤ 112 := ok_len hoka
      have hSz : S.size ≤ 112 := by rw [eB]; simpa [ByteArray.size] using hsz
      have hcall := implChainRead (textL la) w4 (by omega) (hL.grew G4)
      rw [← eB] at hcall
      have hfin : cnt S S.size = la.length := by rw [eS]; exact cnt_all hoka _ rfl
      have HF := hide hfin
      clear eS eB HS hfin
      go_wp2_with fail
      refine hcall.mono ?_
      rintro r w5 ⟨g5, ⟨l, v, hl, hTl, rfl, hv⟩ | ⟨hno, rfl⟩⟩
      case inr => exact absurd rfl (hno la hoka)
      obtain rfl : l = la := by
        obtain ⟨r1, e1, e2⟩ := text_pre l la (low_of l hl) (low_of la hoka) [] (by simpa using hTl)
        cases r1 with
        | nil => simpa using e1.symm
        | cons y r2 => exact absurd e2.symm (lineL_ne y _)
      obtain ⟨vb, vc, rfl, iv⟩ : ∃ vb vc, v = .slice vb l.length vc ∧ Its w5 vb l := by
        rcases hv with ⟨h0, h⟩ | h
        · subst h0; exact ⟨none, 0, h, .inl rfl⟩
        · obtain ⟨gx, cx, e, _, _, _, ix⟩ := h.shape
          exact ⟨_, cx, e, ix⟩
      have G5 := G4.trans g5
      have ia5 := ia4.grew g5
      have IV := hide iv
      have IA := hide ia5
      clear hv hTl hcall iv ia5 ia4
      go_wp2_with fail
      go_loopw [7, 8] (fun lv iv wr => ∃ k, iv = .int .i64 ((k : Nat) : Int) ∧ lv = .int .i64 ((cnt S k : Nat) : Int) ∧ k ≤ S.size ∧ wr = w5) (fun _ iv _ => S.size - (intOf iv).toNat)
      case atStart => exact ⟨0, rfl, by rw [cnt_zero]; rfl, Nat.zero_le _, rfl⟩
      case round =>
        obtain ⟨k, rfl, rfl, hk, rfl⟩ := hrel
        have hck := cnt_le S k
        by_cases hlt : k < S.size
        · have hlt' : (k : Int) < (S.size : Int) := by omega
          have hst := cnt_step S k hlt
          by_cases h10 : S[k] = 10
          · rw [if_pos h10] at hst
            have HS1 := hide hst
            clear hst
            have h10' : S[k].toNat = 10 := by rw [h10]; rfl
            go_wp2
            go_roundw
            case rel => exact ⟨k + 1, by go_num, by rw [unhide HS1]; go_num, by omega, trivial⟩
            case measure => simp [intOf]; omega
          · rw [if_neg h10] at hst
            have HS1 := hide hst
            clear hst
            have h10' : ¬ S[k].toNat = 10 := fun h => h10 (UInt8.toNat_inj.1 h)
            go_wp2
            go_roundw
            case rel => exact ⟨k + 1, by go_num, by rw [unhide HS1]; rfl, by omega, trivial⟩
            case measure => simp [intOf]; omega
        · have hkk : k = S.size := by omega
          have hlt' : decide ((k : Int) < (S.size : Int)) = false := by simp; omega
          have hcn : cnt S k = l.length := by rw [hkk]; exact unhide HF
          have HCN := hide hcn
          clear hcn hkk
          go_wp2_with fail
          refine (lwSame_any _ _ _ _ l l _ (unhide IV) (unhide IA) (by omega) (by omega)).mono ?_
          rintro e w6 ⟨rfl, g6⟩
          rw [(sameB_iff l l).2 rfl]
          have hcn := unhide HCN
          go_wp2
          go_ret
          exact ⟨rfl, G5.trans g6⟩
  · have hn1 : decide ((1048576 : Int) < (n : Int)) = true := by simp; omega
    go_enter Tryd.func3, Tryd.ntmps3
    go_wp2
    go_ret
    exact ⟨rfl, Grew.refl _⟩


set_option maxRecDepth 100000 in
theorem lifted (os : Os) (started : os.Started) (H : Type) (enc : TypeId × Value → H) :
    ReturnsInHanded {} Tryd.checked os 3 .any (fun w args => (Rows.fnChainBackSpec.pre enc Tryd.prog Tryd.f3 [] false w args ∧ laidMetH Tryd.prog laidE w) ∧ sizedMet enc Tryd.prog Tryd.f3 (OpenSpec.ofChange Rows.fnChainBackSpec) false w args) (Rows.fnChainBackSpec.post enc Tryd.prog Tryd.f3 false true false false) := by
  refine returnsInHanded_of_change_and (C := Tryd.checked) (X := fun w _ => laidMetH Tryd.prog laidE w) (fun _ _ _ hh h => h.of_heap hh) own started (by kernel_rfl) Tryd.func3
    (ChangeSpec.witness_at (enc := enc) (C := Tryd.checked) (os := os) (X := fun w _ => laidMetH Tryd.prog laidE w) false (laidWorld os) #[.slice none 0 0] 8 rfl (by kernel_rfl) (by kernel_rfl) (by kernel_rfl) (by kernel_rfl) (by kernel_rfl) (laidWorld_met os _)) ?_
  intro W base args ds gs before hval0 hW _ _ hL0 _
  have hL : ErrLaid W := errLaid_of hL0
  have hval : ∀ (j : Nat) t v, Tryd.f3.params[j]? = some t → args[j]? = some v → Value.okWide Tryd.prog W .any base t v := hval0
  have hW' := hW
  obtain ⟨p, q, hA0, hV, rfl, hfz, hnd⟩ := hW
  have hA : DataW.TrodAll enc Tryd.prog W 0 (fun _ => true) true Tryd.f3.params.toList args.toList ds p := hA0
  rw [Tryd.params3] at hA hval
  obtain ⟨v0, vs0, d0, ds0, p0, q0, hargs, rfl, rfl, h0, r0⟩ := trodAll_cons hA
  obtain ⟨rfl, rfl, rfl⟩ := trodAll_nil r0
  obtain rfl : args = #[v0] := by cases args; simp_all
  obtain ⟨rfl, rfl⟩ := trodVars_none hV
  have k0 := h0
  have lt0 : ∀ x ∈ p0, x.block < W.heap.size := by obtain ⟨m, hm⟩ := k0; exact DataW.trod_lt m _ _ _ hm
  obtain ⟨a0, len0, cap0, rfl⟩ := okWide_slice Tryd.underlying22 (hval 0 22 v0 rfl rfl)
  obtain ⟨fuel0, hf0⟩ := h0
  obtain ⟨hb0, hc0⟩ := open_bytes hf0
  clear hA0 hval0
  refine (walk a0 len0 cap0 W hL hb0 hc0).mono fun e W' ⟨he, bel⟩ => ?_
  subst he
  exact ⟨_, rfl, _, _, _, [], _, [], hW', trodAll_mk1 (shut_bool Tryd.underlying4 _), (trodAll_cons_mk (Below.trod laidOut (by kernel_rfl) (of_decide_eq_true (by kernel_rfl)) k0 bel.below lt0) trodAll_mk0), rfl, bel.below.frame _, fun h => by cases h⟩

theorem over : Rows.fnChainBackRow.holds Tryd.pinned (OpenSpec.ofChange Rows.fnChainBackSpec) :=
  OpenClaim.holds_of_wide 3 Tryd.f3 rfl rfl rfl rfl rfl rfl rfl ⟨rfl, rfl, rfl, rfl, rfl⟩ rfl rfl rfl rfl rfl (by kernel_rfl) Tryd.func3 (by kernel_rfl)
    (of_decide_eq_true (by kernel_rfl)) (by unfold Func.isWrapper; first | (rw [if_pos (by decide +kernel)]; kernel_rfl) | (rw [if_neg (by decide +kernel)]; exact ⟨rfl, rfl⟩))
    (fun os started H enc _ => lifted os started H enc)
end Go.Proofs.YtpoabogjpjbpiaaDoor.FnChainBack
namespace Go.Proofs.YtpoabogjpjbpiaaDoor
theorem fnChainBack_holds : Rows.FnChainBackSaid := FnChainBack.over
theorem fnChainBack_card : Rows.FnChainBackCardSaid :=
  Claim7.holds_tied_plain_at .later [] [.handle] true Rows.fnChainBackCard.stood.harness true
    fnChainBack_holds (fun _ h => by cases h) (by kernel_rfl) (fun _ h => by cases h) fnChainBack_row_tie rfl ⟨rfl, rfl⟩ (by kernel_rfl) rfl
    (fun f fn hf hfn => by
      obtain rfl : f = 3 := Option.some.inj ((show Tryd.prog.funcNamed "loop.example/witan/laws.FnChainBack" = some 3 by kernel_rfl).symm.trans hf) |>.symm
      obtain rfl : fn = Tryd.f3 := (Option.some.inj (Tryd.func3.symm.trans hfn)).symm
      exact ⟨by kernel_rfl, fun j t ht => by
        rw [Tryd.params3] at ht
        have hall : ∀ t ∈ #[22], Tryd.prog.wantsStandIn t = false := by intro t h; simp at h; rcases h with rfl <;> kernel_rfl
        exact hall t (Array.mem_of_getElem? ht)⟩)
    (by kernel_rfl)
#print axioms fnChainBack_card
end Go.Proofs.YtpoabogjpjbpiaaDoor
