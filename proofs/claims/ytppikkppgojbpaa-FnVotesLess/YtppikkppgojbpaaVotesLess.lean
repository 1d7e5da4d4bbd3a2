/-
  FnVotesLess returns true at every two rows of bytes and leaves its arguments as they were: what the statement says; no condition.
-/
import Derived.Test.YtppikkppgojbpaaVDraw4
import Derived.Test.YtppikkppgojbpaaVShare
import Derived.Test.YtppikkppgojbpaaNumsV
import Derived.Test.YtppikkppgojbpaaVote3
import Derived.Test.YtppikkppgojbpaaOpen
import Derived.Test.YtppikkppgojbpaaVLess
import Derived.Lib.SmallJoins
import Derived.JoinedOf
import Derived.JoinedAt
import Derived.RowKit3
import Derived.Deep.RegionHeldLaw
import Derived.Deep.DeepFit
namespace Go.Proofs.Ytppikkppgojbpaa.FnVotesLess
set_option linter.unusedVariables false
open Go.ChangeShapes Go.WideShapes Go.ChangeAt Go.RowKit Go.Joins
attribute [local simp] far_const

set_option maxRecDepth 20000 in
set_option maxHeartbeats 16000000 in
theorem walk (a : Option Addr) (n cap : Nat) (a2 : Option Addr) (n2 cap2 : Nat) (w : World) (hb : Byt w a w.heap.size n) (hc : n ≤ cap) (hb2 : Byt w a2 w.heap.size n2) (hc2 : n2 ≤ cap2) :
    Calls Try.prog 7 #[.slice a n cap, .slice a2 n2 cap2] w fun e w' => e = .returned (.bool true) ∧ Grew w w' := by
  by_cases hn : n ≤ 1048576
  · have hn1 : decide ((1048576 : Int) < (n : Int)) = false := by simp; omega
    by_cases hn2 : n2 ≤ 1048576
    · have hn3 : decide ((1048576 : Int) < (n2 : Int)) = false := by simp; omega
      go_enter Try.func7, Try.ntmps7
      go_wp2_with fail
      refine (drawVotesOk_any a n cap _ hb hc hn).mono ?_
      rintro e w1 ⟨v, l, rfl, vl, hl, hlw, gg⟩
      have V1 := hide vl
      obtain ⟨av, capv, rfl, hcapv, hvts⟩ := vl
      have HVT := hide hvts
      have HS := hide (hlw.short (by omega))
      have hll : l.length ≤ 1048576 := by omega
      have S0 := hide (show Grew w w1 from gg)
      clear gg hlw hvts
      go_wp2_with fail
      refine (implVotesOk_v _ (unhide V1) (unhide HS) hll).mono ?_
      rintro e w2 ⟨rfl, gg⟩
      have S1 := hide (show Grew w1 w2 from gg)
      clear gg
      go_wp2_with fail
      refine (specVotesOk_v _ ((unhide V1).grew (unhide S1)) (unhide HS) hll).mono ?_
      rintro e w3 ⟨rfl, gg⟩
      have S2 := hide (show Grew w2 w3 from gg)
      clear gg
      cases hv : votesB l with
      | false =>
        go_wp2_with fail
        refine (specVotesOk_v _ ((unhide V1).grew ((unhide S1).trans (unhide S2))) (unhide HS) hll).mono ?_
        rw [hv]
        rintro e w4 ⟨rfl, gg⟩
        have S3 := hide (show Grew w3 w4 from gg)
        clear gg
        go_wp2
        go_ret
        exact ⟨rfl, ((((unhide S0).trans (unhide S1)).trans (unhide S2)).trans (unhide S3))⟩
      | true =>
        by_cases hl0 : l.length = 0
        · have hl0' : ((l.length : Int) == 0) = true := by simp [hl0]
          clear hl0
          go_wp2_with fail
          refine (specVotesOk_v _ ((unhide V1).grew ((unhide S1).trans (unhide S2))) (unhide HS) hll).mono ?_
          rw [hv]
          rintro e w4 ⟨rfl, gg⟩
          have S3 := hide (show Grew w3 w4 from gg)
          clear gg
          go_wp2
          go_ret
          exact ⟨rfl, ((((unhide S0).trans (unhide S1)).trans (unhide S2)).trans (unhide S3))⟩
        · have hl0' : ((l.length : Int) == 0) = false := by simpa using hl0
          have hlp : 0 < l.length := by omega
          clear hl0
          have hk0 := Int.emod_nonneg (n2 : Int) (show (l.length : Int) ≠ 0 by omega)
          have hk1 := Int.emod_lt_of_pos (n2 : Int) (show (0 : Int) < (l.length : Int) by omega)
          obtain ⟨k, hk⟩ := Int.eq_ofNat_of_zero_le hk0
          rw [hk] at hk0 hk1
          have hkl : k < l.length := by omega
          have hkl' : (k : Int) < (l.length : Int) := by omega
          have hkc : k ≤ capv := by omega
          obtain ⟨bb, off, rfl, hat⟩ := (unhide HVT).at hkl
          obtain ⟨L0, hL0, hcells, hlies⟩ := (unhide HVT).lie
          have hlen0 : L0.length = l.length := by rw [← hL0]; simp
          have CF := hide (fun (w' : World) (g : Grew w1 w') j u (hj : (cellsV L0)[j]? = some u) => g.keep (hcells j u hj))
          have LF := hide (fun (w' : World) (g : Grew w1 w') (H' : Nat) (hH : w1.heap.size ≤ H') e (he : e ∈ L0) => ((hlies e he).kept (w' := w') (fun b hb => g.below.block b hb)).up hH)
          have HM := hide hL0
          have HLEN := hide hlen0
          have G03 := hide (((unhide S0).trans (unhide S1)).trans (unhide S2))
          have G13 := hide ((unhide S1).trans (unhide S2))
          have hz13 : w1.heap.size ≤ w3.heap.size := (unhide G13).size
          have E1 := hide (show VShr (w3.alloc (.cells #[] 28)).drew w3.heap.size (.slice (some ⟨w3.heap.size, 0, none⟩) 0 0) [] from (VShr.empty w3).grew (Grew.refl _).drew (by simp))
          have K1 := hide (show Grew w3 (w3.alloc (.cells #[] 28)).drew from ((Grew.refl _).alloc _).drew)
          clear hL0 hlen0 hcells hlies hat
          have hw1 : IntKind.i64.wrap ((k : Int) + 1) = (k : Int) + 1 := by rw [IntKind.wrap_i64]; omega
          have hk2 : (k : Int) + 1 ≤ (l.length : Int) := by omega
          have hk3 : (0 : Int) ≤ (k : Int) + 1 := by omega
          have hk4 : ((k : Int) + 1).toNat = k + 1 := by omega
          have HVV := hide hv
          by_cases hce : capv = k + 1
          · subst hce
            have ADF := hide (fun (w' : World) (g : Grew w1 w') j u (hj : (cellsV (L0.drop (k + 1)))[j]? = some u) => show w'.cell? ((⟨bb, off, none⟩ : Addr).add j) = some u by
              rw [List.drop_of_length_le (by rw [unhide HLEN]; omega)] at hj
              simp [cellsV] at hj)
            go_wp2_with fail
            go_region_held_law (fun _ => True) (exact trivial)
              (first
                | ((with_reducible refine at_ite ?_); refine step_shr rfl _ _ rfl w3.heap.size (.slice (some ⟨w3.heap.size, 0, none⟩) 0 0) [] rfl (unhide E1) (by simp) ⟨bb, off, none⟩ _ (L0.take k) k (by rw [List.length_take, unhide HLEN]; omega) rfl (fun j u hj => unhide CF _ ((unhide G13).trans (unhide K1)) j u (cellsV_take hj)) (fun e he => unhide LF _ ((unhide G13).trans (unhide K1)) _ hz13 e (List.mem_of_mem_take he)) (by simp; omega) ?_; intro v4 w4 o4 g4; have gg4 : Grew w3 w4 := (unhide K1).grown g4 (fun k hk => by simp [Value.ownBlock] at hk; omega))
                | ((with_reducible refine at_ite ?_); refine step_shr rfl _ _ rfl w3.heap.size v4 ([] ++ (L0.take k).map (·.1)) rfl o4 gg4.size ⟨bb, off, none⟩ _ (L0.drop (k + 1)) 0 (by rw [List.length_drop, unhide HLEN]; omega) rfl (unhide ADF _ ((unhide G13).trans gg4)) (fun e he => unhide LF _ ((unhide G13).trans gg4) _ hz13 e (List.mem_of_mem_drop he)) (by simp; omega) ?_; intro v5 w5 o5 g5; have gg5 : Grew w3 w5 := gg4.grown g5 (fun k hk => (o4.block k hk).1)))
            all_goals
              simp only [List.getElem_toArray, List.getElem_cons_succ, List.getElem_cons_zero, List.setIfInBounds_toArray, List.set_cons_succ, List.set_cons_zero]
              have e5 : [] ++ (L0.take k).map (·.1) ++ (L0.drop (k + 1)).map (·.1) = l.take k ++ l.drop (k + 1) := by rw [List.nil_append, List.map_take, List.map_drop, unhide HM]
              rw [e5] at o5
              have V5 := hide o5.vtsV
              clear o4 o5 g4 g5 e5 gg4 hw1 hk2 hk3 hk4
              have G15 := hide ((unhide G13).trans gg5)
              have G05 := hide ((unhide G03).trans gg5)
              have hz15 : w1.heap.size ≤ w5.heap.size := (unhide G15).size
              have hek : Hid (∃ e, e ∈ L0 ∧ e.1 = l[k] ∧ w1.cell? ⟨bb, off + k * 2, none⟩ = some (.int .i64 e.1.n) ∧ w1.cell? ⟨bb, off + k * 2 + 1, none⟩ = some (.slice e.2.1 e.1.c.length e.2.2)) := by
                have hkL : k < L0.length := by rw [unhide HLEN]; exact hkl
                obtain ⟨q0, q1⟩ := cellsV_get L0 k hkL
                have ha : ∀ j, (⟨bb, off, none⟩ : Addr).add j = ⟨bb, off + j, none⟩ := fun j => by unfold Addr.add; split <;> simp_all
                have c0 := unhide CF w1 (Grew.refl _) _ _ q0
                have c1 := unhide CF w1 (Grew.refl _) _ _ q1
                rw [ha] at c0 c1
                exact ⟨L0[k], List.getElem_mem hkL, by simp [← unhide HM], c0, c1⟩
              obtain ⟨⟨x, ak, ck⟩, hmem, hxe, c0, c1⟩ := unhide hek
              simp only at hxe c0 c1
              have HXE := hide hxe
              have c0 := (unhide G15).keep c0
              have c1 := (unhide G15).keep c1
              have SC := hide (And.intro c0 c1)
              have HSC := hide (fun (w' : World) (g : Grew w5 w') => And.intro (g.keep c0) (g.keep c1))
              have LX := hide (fun (w' : World) (g : Grew w1 w') e (he : e ∈ [((x, ak, ck) : Vl)]) => unhide LF w' g w5.heap.size hz15 e (by simp at he; rw [he]; exact hmem))
              have E1 := hide (show VShr (w5.alloc (.cells #[] 28)).drew w5.heap.size (.slice (some ⟨w5.heap.size, 0, none⟩) 0 0) [] from (VShr.empty' w5 (Nat.le_refl _)).grew (Grew.refl _).drew (by simp))
              have E2 := hide (show VShr ((w5.alloc (.cells #[] 28)).alloc (.cells #[.int .i64 x.n, .slice ak x.c.length ck] 28)).drew w5.heap.size (.slice (some ⟨w5.heap.size, 0, none⟩) 0 0) [] from (VShr.empty' w5 (Nat.le_refl _)).grew (((Grew.refl _).alloc _).drew) (by simp))
              have E3 := hide (show VShr ((w5.alloc (.cells #[.int .i64 x.n, .slice ak x.c.length ck] 28)).alloc (.cells #[] 28)).drew w5.heap.size (.slice (some ⟨w5.heap.size + 1, 0, none⟩) 0 0) [] by
                have := (VShr.empty' (w5.alloc (.cells #[.int .i64 x.n, .slice ak x.c.length ck] 28)) (H := w5.heap.size) (by simp)).grew (Grew.refl _).drew (by simp; omega)
                rw [World.size_alloc] at this
                exact this)
              have K1 := hide (show Grew w5 (w5.alloc (.cells #[] 28)).drew from ((Grew.refl w5).alloc _).drew)
              have K2 := hide (show Grew w5 ((w5.alloc (.cells #[] 28)).alloc (.cells #[.int .i64 x.n, .slice ak x.c.length ck] 28)).drew from (((Grew.refl w5).alloc _).alloc _).drew)
              have K3 := hide (show Grew w5 ((w5.alloc (.cells #[.int .i64 x.n, .slice ak x.c.length ck] 28)).alloc (.cells #[] 28)).drew from (((Grew.refl w5).alloc _).alloc _).drew)
              have K4 := hide (show Grew w5 (w5.alloc (.cells #[.int .i64 x.n, .slice ak x.c.length ck] 28)).drew from ((Grew.refl w5).alloc _).drew)
              have I2 := hide (show ∀ j u, (cellsV [((x, ak, ck) : Vl)])[j]? = some u → ((w5.alloc (.cells #[] 28)).alloc (.cells #[.int .i64 x.n, .slice ak x.c.length ck] 28)).drew.cell? ((⟨w5.heap.size + 1, 0, none⟩ : Addr).add j) = some u by
                have := cells_two (w5.alloc (.cells #[] 28)) x.n ak x.c.length ck 28
                rw [World.size_alloc] at this
                exact this)
              have I3 := hide (show ∀ j u, (cellsV [((x, ak, ck) : Vl)])[j]? = some u → ((w5.alloc (.cells #[.int .i64 x.n, .slice ak x.c.length ck] 28)).alloc (.cells #[] 28)).drew.cell? ((⟨w5.heap.size, 0, none⟩ : Addr).add j) = some u from fun j u hj => ((Grew.refl _).alloc _).drew.keep (cells_two w5 x.n ak x.c.length ck 28 j u hj))
              have hadd : ∀ (b o j : Nat), ((⟨b, o, none⟩ : Addr).add j).block = b := fun b o j => by unfold Addr.add; split <;> simp_all
              have HA := hide hadd
              clear c0 c1 hxe hmem hadd
              go_wp2_with fail
              go_region_held_law (fun w' => w'.cell? ⟨bb, off + k * 2, none⟩ = some (.int .i64 x.n) ∧ w'.cell? ⟨bb, off + k * 2 + 1, none⟩ = some (.slice ak x.c.length ck))
                (first | exact unhide HSC _ gg7 | exact unhide HSC _ (gg6.alloc _) | exact unhide HSC _ gg6 | exact unhide HSC _ (unhide K1) | exact unhide HSC _ (unhide K2) | exact unhide HSC _ (unhide K3) | exact unhide HSC _ (unhide K4) | exact unhide SC)
                (first
                  | ((with_reducible refine at_ite ?_); refine step_shr rfl _ _ rfl w5.heap.size (.slice (some ⟨w5.heap.size, 0, none⟩) 0 0) [] rfl (unhide E1) (unhide K1).size ⟨bb, off, none⟩ _ L0 l.length (unhide HLEN) rfl (unhide CF _ ((unhide G15).trans (unhide K1))) (unhide LF _ ((unhide G15).trans (unhide K1)) _ hz15) (by simp; omega) ?_; intro v6 w6 o6 g6; rw [List.nil_append, unhide HM] at o6; have gg6 : Grew w5 w6 := (unhide K1).grown g6 (fun k hk => by simp [Value.ownBlock] at hk; omega))
                  | ((with_reducible refine at_ite ?_); refine step_shr rfl _ _ rfl w5.heap.size (.slice (some ⟨w5.heap.size, 0, none⟩) 0 0) [] rfl (unhide E2) (unhide K2).size ⟨bb, off, none⟩ _ L0 l.length (unhide HLEN) rfl (unhide CF _ ((unhide G15).trans (unhide K2))) (unhide LF _ ((unhide G15).trans (unhide K2)) _ hz15) (by simp; omega) ?_; intro v6 w6 o6 g6; rw [List.nil_append, unhide HM] at o6; have gg6 : Grew w5 w6 := (unhide K2).grown g6 (fun k hk => by simp [Value.ownBlock] at hk; omega); have I6 := fun j u hj => g6.cell (unhide I2 j u hj) (by rw [unhide HA]; simp [Value.ownBlock]))
                  | ((with_reducible refine at_ite ?_); refine step_shr rfl _ _ rfl w5.heap.size (.slice (some ⟨w5.heap.size + 1, 0, none⟩) 0 0) [] rfl (unhide E3) (unhide K3).size ⟨bb, off, none⟩ _ L0 l.length (unhide HLEN) rfl (unhide CF _ ((unhide G15).trans (unhide K3))) (unhide LF _ ((unhide G15).trans (unhide K3)) _ hz15) (by simp; omega) ?_; intro v6 w6 o6 g6; rw [List.nil_append, unhide HM] at o6; have gg6 : Grew w5 w6 := (unhide K3).grown g6 (fun k hk => by simp [Value.ownBlock] at hk; omega); have I6 := fun j u hj => g6.cell (unhide I3 j u hj) (by rw [unhide HA]; simp [Value.ownBlock]))
                  | ((with_reducible refine at_ite ?_); refine step_shr rfl _ _ rfl w5.heap.size v6 l rfl (o6.grew ((Grew.refl _).alloc _) gg6.size) (gg6.alloc _).size ⟨w6.heap.size, 0, none⟩ 1 [((x, ak, ck) : Vl)] 1 rfl rfl (cells_two _ _ _ _ _ _) (unhide LX _ ((unhide G15).trans (gg6.alloc _))) (by omega) ?_; intro v7 w7 o7 g7; have gg7 : Grew w5 w7 := (gg6.alloc _).grown g7 (fun k hk => (o6.block k hk).1))
                  | ((with_reducible refine at_ite ?_); refine step_shr rfl _ _ rfl w5.heap.size v6 l rfl o6 gg6.size ⟨w5.heap.size + 1, 0, none⟩ 1 [((x, ak, ck) : Vl)] 1 rfl rfl I6 (unhide LX _ ((unhide G15).trans gg6)) (by omega) ?_; intro v7 w7 o7 g7; have gg7 : Grew w5 w7 := gg6.grown g7 (fun k hk => (o6.block k hk).1))
                  | ((with_reducible refine at_ite ?_); refine step_shr rfl _ _ rfl w5.heap.size v6 l rfl o6 gg6.size ⟨w5.heap.size, 0, none⟩ 1 [((x, ak, ck) : Vl)] 1 rfl rfl I6 (unhide LX _ ((unhide G15).trans gg6)) (by omega) ?_; intro v7 w7 o7 g7; have gg7 : Grew w5 w7 := gg6.grown g7 (fun k hk => (o6.block k hk).1)))
              all_goals
                simp only [List.getElem_toArray, List.getElem_cons_succ, List.getElem_cons_zero, List.setIfInBounds_toArray, List.set_cons_succ, List.set_cons_zero]
                have V7 := hide (show VtsV w7 v7 (l ++ [l[k]]) by have := o7.vtsV; rw [← unhide HXE]; exact this)
                have G17 := hide ((unhide G15).trans gg7)
                have G07 := hide ((unhide G05).trans gg7)
                have V5b := hide ((unhide V5).grew gg7)
                have hs5 : Hid (Short (l.take k ++ l.drop (k + 1))) := fun z hz => unhide HS z (by rcases List.mem_append.1 hz with h | h; exact List.mem_of_mem_take h; exact List.mem_of_mem_drop h)
                have hs7 : Hid (Short (l ++ [l[k]])) := fun z hz => unhide HS z (by rcases List.mem_append.1 hz with h | h; exact h; simp at h; rw [h]; exact List.getElem_mem hkl)
                have hsr : Hid (Short l.reverse) := fun z hz => unhide HS z (List.mem_reverse.1 hz)
                have q5 := hide (votesB_less (unhide HVV) k)
                have q7 := hide (votesB_twice (List.getElem_mem hkl))
                have qr := hide ((votesB_perm (List.reverse_perm l)).trans (unhide HVV))
                have n5 : (l.take k ++ l.drop (k + 1)).length ≤ 1048576 := by simp; omega
                have n7 : (l ++ [l[k]]).length ≤ 1048576 := by simp; omega
                have nr : l.reverse.length ≤ 1048576 := by simp; omega
                clear o6 o7 g6 g7
                go_wp2_with fail
                refine (implVotesOk_v _ (unhide V5b) (unhide hs5) n5).mono ?_
                rw [unhide q5]
                rintro e w8 ⟨rfl, g8⟩
                go_wp2_with fail
                refine (lwBack_v _ ((unhide V1).grew ((unhide G17).trans g8)) hll).mono ?_
                rintro e w9 ⟨u9, rfl, v9, g9⟩
                go_wp2_with fail
                refine (implVotesOk_v _ v9 (unhide hsr) nr).mono ?_
                rw [unhide qr]
                rintro e w10 ⟨rfl, g10⟩
                go_wp2_with fail
                refine (implVotesOk_v _ ((unhide V7).grew ((g8.trans g9).trans g10)) (unhide hs7) n7).mono ?_
                rw [unhide q7]
                rintro e w11 ⟨rfl, g11⟩
                have GE := hide ((unhide G07).trans (((g8.trans g9).trans g10).trans g11))
                clear g8 g9 g10 g11 v9
                go_wp2
                go_ret
                exact ⟨rfl, unhide GE⟩
          · skip
            have ADF := hide (fun (w' : World) (g : Grew w1 w') j u (hj : (cellsV (L0.drop (k + 1)))[j]? = some u) => show w'.cell? ((⟨bb, off + (k + 1) * 2, none⟩ : Addr).add j) = some u by
              rw [← addr_add]; exact unhide CF w' g _ u (cellsV_drop (by rw [unhide HLEN]; omega) hj))
            go_wp2_with fail
            go_region_held_law (fun _ => True) (exact trivial)
              (first
                | ((with_reducible refine at_ite ?_); refine step_shr rfl _ _ rfl w3.heap.size (.slice (some ⟨w3.heap.size, 0, none⟩) 0 0) [] rfl (unhide E1) (by simp) ⟨bb, off, none⟩ _ (L0.take k) k (by rw [List.length_take, unhide HLEN]; omega) rfl (fun j u hj => unhide CF _ ((unhide G13).trans (unhide K1)) j u (cellsV_take hj)) (fun e he => unhide LF _ ((unhide G13).trans (unhide K1)) _ hz13 e (List.mem_of_mem_take he)) (by simp; omega) ?_; intro v4 w4 o4 g4; have gg4 : Grew w3 w4 := (unhide K1).grown g4 (fun k hk => by simp [Value.ownBlock] at hk; omega))
                | ((with_reducible refine at_ite ?_); refine step_shr rfl _ _ rfl w3.heap.size v4 ([] ++ (L0.take k).map (·.1)) rfl o4 gg4.size ⟨bb, off + (k + 1) * 2, none⟩ _ (L0.drop (k + 1)) (l.length - (k + 1)) (by rw [List.length_drop, unhide HLEN]) rfl (unhide ADF _ ((unhide G13).trans gg4)) (fun e he => unhide LF _ ((unhide G13).trans gg4) _ hz13 e (List.mem_of_mem_drop he)) (by simp; omega) ?_; intro v5 w5 o5 g5; have gg5 : Grew w3 w5 := gg4.grown g5 (fun k hk => (o4.block k hk).1)))
            all_goals
              simp only [List.getElem_toArray, List.getElem_cons_succ, List.getElem_cons_zero, List.setIfInBounds_toArray, List.set_cons_succ, List.set_cons_zero]
              have e5 : [] ++ (L0.take k).map (·.1) ++ (L0.drop (k + 1)).map (·.1) = l.take k ++ l.drop (k + 1) := by rw [List.nil_append, List.map_take, List.map_drop, unhide HM]
              rw [e5] at o5
              have V5 := hide o5.vtsV
              clear o4 o5 g4 g5 e5 gg4 hw1 hk2 hk3 hk4
              have G15 := hide ((unhide G13).trans gg5)
              have G05 := hide ((unhide G03).trans gg5)
              have hz15 : w1.heap.size ≤ w5.heap.size := (unhide G15).size
              have hek : Hid (∃ e, e ∈ L0 ∧ e.1 = l[k] ∧ w1.cell? ⟨bb, off + k * 2, none⟩ = some (.int .i64 e.1.n) ∧ w1.cell? ⟨bb, off + k * 2 + 1, none⟩ = some (.slice e.2.1 e.1.c.length e.2.2)) := by
                have hkL : k < L0.length := by rw [unhide HLEN]; exact hkl
                obtain ⟨q0, q1⟩ := cellsV_get L0 k hkL
                have ha : ∀ j, (⟨bb, off, none⟩ : Addr).add j = ⟨bb, off + j, none⟩ := fun j => by unfold Addr.add; split <;> simp_all
                have c0 := unhide CF w1 (Grew.refl _) _ _ q0
                have c1 := unhide CF w1 (Grew.refl _) _ _ q1
                rw [ha] at c0 c1
                exact ⟨L0[k], List.getElem_mem hkL, by simp [← unhide HM], c0, c1⟩
              obtain ⟨⟨x, ak, ck⟩, hmem, hxe, c0, c1⟩ := unhide hek
              simp only at hxe c0 c1
              have HXE := hide hxe
              have c0 := (unhide G15).keep c0
              have c1 := (unhide G15).keep c1
              have SC := hide (And.intro c0 c1)
              have HSC := hide (fun (w' : World) (g : Grew w5 w') => And.intro (g.keep c0) (g.keep c1))
              have LX := hide (fun (w' : World) (g : Grew w1 w') e (he : e ∈ [((x, ak, ck) : Vl)]) => unhide LF w' g w5.heap.size hz15 e (by simp at he; rw [he]; exact hmem))
              have E1 := hide (show VShr (w5.alloc (.cells #[] 28)).drew w5.heap.size (.slice (some ⟨w5.heap.size, 0, none⟩) 0 0) [] from (VShr.empty' w5 (Nat.le_refl _)).grew (Grew.refl _).drew (by simp))
              have E2 := hide (show VShr ((w5.alloc (.cells #[] 28)).alloc (.cells #[.int .i64 x.n, .slice ak x.c.length ck] 28)).drew w5.heap.size (.slice (some ⟨w5.heap.size, 0, none⟩) 0 0) [] from (VShr.empty' w5 (Nat.le_refl _)).grew (((Grew.refl _).alloc _).drew) (by simp))
              have E3 := hide (show VShr ((w5.alloc (.cells #[.int .i64 x.n, .slice ak x.c.length ck] 28)).alloc (.cells #[] 28)).drew w5.heap.size (.slice (some ⟨w5.heap.size + 1, 0, none⟩) 0 0) [] by
                have := (VShr.empty' (w5.alloc (.cells #[.int .i64 x.n, .slice ak x.c.length ck] 28)) (H := w5.heap.size) (by simp)).grew (Grew.refl _).drew (by simp; omega)
                rw [World.size_alloc] at this
                exact this)
              have K1 := hide (show Grew w5 (w5.alloc (.cells #[] 28)).drew from ((Grew.refl w5).alloc _).drew)
              have K2 := hide (show Grew w5 ((w5.alloc (.cells #[] 28)).alloc (.cells #[.int .i64 x.n, .slice ak x.c.length ck] 28)).drew from (((Grew.refl w5).alloc _).alloc _).drew)
              have K3 := hide (show Grew w5 ((w5.alloc (.cells #[.int .i64 x.n, .slice ak x.c.length ck] 28)).alloc (.cells #[] 28)).drew from (((Grew.refl w5).alloc _).alloc _).drew)
              have K4 := hide (show Grew w5 (w5.alloc (.cells #[.int .i64 x.n, .slice ak x.c.length ck] 28)).drew from ((Grew.refl w5).alloc _).drew)
              have I2 := hide (show ∀ j u, (cellsV [((x, ak, ck) : Vl)])[j]? = some u → ((w5.alloc (.cells #[] 28)).alloc (.cells #[.int .i64 x.n, .slice ak x.c.length ck] 28)).drew.cell? ((⟨w5.heap.size + 1, 0, none⟩ : Addr).add j) = some u by
                have := cells_two (w5.alloc (.cells #[] 28)) x.n ak x.c.length ck 28
                rw [World.size_alloc] at this
                exact this)
              have I3 := hide (show ∀ j u, (cellsV [((x, ak, ck) : Vl)])[j]? = some u → ((w5.alloc (.cells #[.int .i64 x.n, .slice ak x.c.length ck] 28)).alloc (.cells #[] 28)).drew.cell? ((⟨w5.heap.size, 0, none⟩ : Addr).add j) = some u from fun j u hj => ((Grew.refl _).alloc _).drew.keep (cells_two w5 x.n ak x.c.length ck 28 j u hj))
              have hadd : ∀ (b o j : Nat), ((⟨b, o, none⟩ : Addr).add j).block = b := fun b o j => by unfold Addr.add; split <;> simp_all
              have HA := hide hadd
              clear c0 c1 hxe hmem hadd
              go_wp2_with fail
              go_region_held_law (fun w' => w'.cell? ⟨bb, off + k * 2, none⟩ = some (.int .i64 x.n) ∧ w'.cell? ⟨bb, off + k * 2 + 1, none⟩ = some (.slice ak x.c.length ck))
                (first | exact unhide HSC _ gg7 | exact unhide HSC _ (gg6.alloc _) | exact unhide HSC _ gg6 | exact unhide HSC _ (unhide K1) | exact unhide HSC _ (unhide K2) | exact unhide HSC _ (unhide K3) | exact unhide HSC _ (unhide K4) | exact unhide SC)
                (first
                  | ((with_reducible refine at_ite ?_); refine step_shr rfl _ _ rfl w5.heap.size (.slice (some ⟨w5.heap.size, 0, none⟩) 0 0) [] rfl (unhide E1) (unhide K1).size ⟨bb, off, none⟩ _ L0 l.length (unhide HLEN) rfl (unhide CF _ ((unhide G15).trans (unhide K1))) (unhide LF _ ((unhide G15).trans (unhide K1)) _ hz15) (by simp; omega) ?_; intro v6 w6 o6 g6; rw [List.nil_append, unhide HM] at o6; have gg6 : Grew w5 w6 := (unhide K1).grown g6 (fun k hk => by simp [Value.ownBlock] at hk; omega))
                  | ((with_reducible refine at_ite ?_); refine step_shr rfl _ _ rfl w5.heap.size (.slice (some ⟨w5.heap.size, 0, none⟩) 0 0) [] rfl (unhide E2) (unhide K2).size ⟨bb, off, none⟩ _ L0 l.length (unhide HLEN) rfl (unhide CF _ ((unhide G15).trans (unhide K2))) (unhide LF _ ((unhide G15).trans (unhide K2)) _ hz15) (by simp; omega) ?_; intro v6 w6 o6 g6; rw [List.nil_append, unhide HM] at o6; have gg6 : Grew w5 w6 := (unhide K2).grown g6 (fun k hk => by simp [Value.ownBlock] at hk; omega); have I6 := fun j u hj => g6.cell (unhide I2 j u hj) (by rw [unhide HA]; simp [Value.ownBlock]))
                  | ((with_reducible refine at_ite ?_); refine step_shr rfl _ _ rfl w5.heap.size (.slice (some ⟨w5.heap.size + 1, 0, none⟩) 0 0) [] rfl (unhide E3) (unhide K3).size ⟨bb, off, none⟩ _ L0 l.length (unhide HLEN) rfl (unhide CF _ ((unhide G15).trans (unhide K3))) (unhide LF _ ((unhide G15).trans (unhide K3)) _ hz15) (by simp; omega) ?_; intro v6 w6 o6 g6; rw [List.nil_append, unhide HM] at o6; have gg6 : Grew w5 w6 := (unhide K3).grown g6 (fun k hk => by simp [Value.ownBlock] at hk; omega); have I6 := fun j u hj => g6.cell (unhide I3 j u hj) (by rw [unhide HA]; simp [Value.ownBlock]))
                  | ((with_reducible refine at_ite ?_); refine step_shr rfl _ _ rfl w5.heap.size v6 l rfl (o6.grew ((Grew.refl _).alloc _) gg6.size) (gg6.alloc _).size ⟨w6.heap.size, 0, none⟩ 1 [((x, ak, ck) : Vl)] 1 rfl rfl (cells_two _ _ _ _ _ _) (unhide LX _ ((unhide G15).trans (gg6.alloc _))) (by omega) ?_; intro v7 w7 o7 g7; have gg7 : Grew w5 w7 := (gg6.alloc _).grown g7 (fun k hk => (o6.block k hk).1))
                  | ((with_reducible refine at_ite ?_); refine step_shr rfl _ _ rfl w5.heap.size v6 l rfl o6 gg6.size ⟨w5.heap.size + 1, 0, none⟩ 1 [((x, ak, ck) : Vl)] 1 rfl rfl I6 (unhide LX _ ((unhide G15).trans gg6)) (by omega) ?_; intro v7 w7 o7 g7; have gg7 : Grew w5 w7 := gg6.grown g7 (fun k hk => (o6.block k hk).1))
                  | ((with_reducible refine at_ite ?_); refine step_shr rfl _ _ rfl w5.heap.size v6 l rfl o6 gg6.size ⟨w5.heap.size, 0, none⟩ 1 [((x, ak, ck) : Vl)] 1 rfl rfl I6 (unhide LX _ ((unhide G15).trans gg6)) (by omega) ?_; intro v7 w7 o7 g7; have gg7 : Grew w5 w7 := gg6.grown g7 (fun k hk => (o6.block k hk).1)))
              all_goals
                simp only [List.getElem_toArray, List.getElem_cons_succ, List.getElem_cons_zero, List.setIfInBounds_toArray, List.set_cons_succ, List.set_cons_zero]
                have V7 := hide (show VtsV w7 v7 (l ++ [l[k]]) by have := o7.vtsV; rw [← unhide HXE]; exact this)
                have G17 := hide ((unhide G15).trans gg7)
                have G07 := hide ((unhide G05).trans gg7)
                have V5b := hide ((unhide V5).grew gg7)
                have hs5 : Hid (Short (l.take k ++ l.drop (k + 1))) := fun z hz => unhide HS z (by rcases List.mem_append.1 hz with h | h; exact List.mem_of_mem_take h; exact List.mem_of_mem_drop h)
                have hs7 : Hid (Short (l ++ [l[k]])) := fun z hz => unhide HS z (by rcases List.mem_append.1 hz with h | h; exact h; simp at h; rw [h]; exact List.getElem_mem hkl)
                have hsr : Hid (Short l.reverse) := fun z hz => unhide HS z (List.mem_reverse.1 hz)
                have q5 := hide (votesB_less (unhide HVV) k)
                have q7 := hide (votesB_twice (List.getElem_mem hkl))
                have qr := hide ((votesB_perm (List.reverse_perm l)).trans (unhide HVV))
                have n5 : (l.take k ++ l.drop (k + 1)).length ≤ 1048576 := by simp; omega
                have n7 : (l ++ [l[k]]).length ≤ 1048576 := by simp; omega
                have nr : l.reverse.length ≤ 1048576 := by simp; omega
                clear o6 o7 g6 g7
                go_wp2_with fail
                refine (implVotesOk_v _ (unhide V5b) (unhide hs5) n5).mono ?_
                rw [unhide q5]
                rintro e w8 ⟨rfl, g8⟩
                go_wp2_with fail
                refine (lwBack_v _ ((unhide V1).grew ((unhide G17).trans g8)) hll).mono ?_
                rintro e w9 ⟨u9, rfl, v9, g9⟩
                go_wp2_with fail
                refine (implVotesOk_v _ v9 (unhide hsr) nr).mono ?_
                rw [unhide qr]
                rintro e w10 ⟨rfl, g10⟩
                go_wp2_with fail
                refine (implVotesOk_v _ ((unhide V7).grew ((g8.trans g9).trans g10)) (unhide hs7) n7).mono ?_
                rw [unhide q7]
                rintro e w11 ⟨rfl, g11⟩
                have GE := hide ((unhide G07).trans (((g8.trans g9).trans g10).trans g11))
                clear g8 g9 g10 g11 v9
                go_wp2
                go_ret
                exact ⟨rfl, unhide GE⟩
    · have hn3 : decide ((1048576 : Int) < (n2 : Int)) = true := by simp; omega
      clear hn2
      go_enter Try.func7, Try.ntmps7
      go_wp2
      go_ret
      exact ⟨rfl, Grew.refl _⟩
  · have hn1 : decide ((1048576 : Int) < (n : Int)) = true := by simp; omega
    clear hn
    go_enter Try.func7, Try.ntmps7
    go_wp2
    go_ret
    exact ⟨rfl, Grew.refl _⟩

set_option maxRecDepth 100000 in
theorem lifted (os : Os) (started : os.Started) (H : Type) (enc : TypeId × Value → H) :
    ReturnsInHanded {} Try.checked os 7 .any (Rows.fnVotesLessSpec.pre6 enc Try.prog Try.f7 Rows.fnVotesLessRow.domain false) (Rows.fnVotesLessSpec.post enc Try.prog Try.f7 false true false false) := by
  refine returnsInHanded_of_change (C := Try.checked) own started (by kernel_rfl) Try.func7
    (ChangeSpec.witness6 (enc := enc) (C := Try.checked) false ⟨#[], #[.slice none 0 0, .slice none 0 0], []⟩ 8 (by kernel_rfl) (by kernel_rfl) (by kernel_rfl) (by kernel_rfl)) ?_
  intro W base args ds gs before hval0 hW hcnd _
  have hval : ∀ (j : Nat) t v, Try.f7.params[j]? = some t → args[j]? = some v → Value.okWide Try.prog W .any base t v := hval0
  have hW' := hW
  obtain ⟨p, q, hA0, hV, rfl, hfz, hnd⟩ := hW
  have hA : DataW.TrodAll enc Try.prog W 0 (fun _ => true) true Try.f7.params.toList args.toList ds p := hA0
  rw [Try.params7] at hA hval
  obtain ⟨v0, vs0, d0, ds0, p0, q0, hargs, rfl, rfl, h0, r0⟩ := trodAll_cons hA
  obtain ⟨v1, vs1, d1, ds1, p1, q1, rfl, rfl, rfl, h1, r1⟩ := trodAll_cons r0
  obtain ⟨rfl, rfl, rfl⟩ := trodAll_nil r1
  obtain rfl : args = #[v0, v1] := by cases args; simp_all
  obtain ⟨rfl, rfl⟩ := trodVars_none hV
  have k0 := h0
  have lt0 : ∀ x ∈ p0, x.block < W.heap.size := by obtain ⟨m, hm⟩ := k0; exact DataW.trod_lt m _ _ _ hm
  obtain ⟨a0, len0, cap0, rfl⟩ := okWide_slice Try.underlying22 (hval 0 22 v0 rfl rfl)
  obtain ⟨fuel0, hf0⟩ := h0
  obtain ⟨hb0, hc0⟩ := open_bytes hf0
  have k1 := h1
  have lt1 : ∀ x ∈ p1, x.block < W.heap.size := by obtain ⟨m, hm⟩ := k1; exact DataW.trod_lt m _ _ _ hm
  obtain ⟨a1, len1, cap1, rfl⟩ := okWide_slice Try.underlying22 (hval 1 22 v1 rfl rfl)
  obtain ⟨fuel1, hf1⟩ := h1
  obtain ⟨hb1, hc1⟩ := open_bytes hf1
  clear hA0 hval0
  refine (walk a0 len0 cap0 a1 len1 cap1 W hb0 hc0 hb1 hc1).mono fun e W' ⟨he, bel⟩ => ?_
  subst he
  exact ⟨_, rfl, _, _, _, [], _, [], hW', trodAll_mk1 (shut_bool Try.underlying4 _), (trodAll_cons_mk (Below.trod laidOut (by kernel_rfl) (of_decide_eq_true (by kernel_rfl)) k0 bel.below lt0) (trodAll_cons_mk (Below.trod laidOut (by kernel_rfl) (of_decide_eq_true (by kernel_rfl)) k1 bel.below lt1) trodAll_mk0)), rfl, bel.below.frame _, fun h => by cases h⟩

theorem over : Rows.fnVotesLessRow.holds Try.pinned (OpenSpec.ofChange Rows.fnVotesLessSpec) :=
  OpenClaim.holds_of_wide 7 Try.f7 rfl rfl rfl rfl rfl rfl rfl ⟨rfl, rfl, rfl, rfl, rfl⟩ rfl rfl rfl rfl rfl (by kernel_rfl) Try.func7 (by kernel_rfl)
    (of_decide_eq_true (by kernel_rfl)) (by unfold Func.isWrapper; first | (rw [if_pos (by decide +kernel)]; kernel_rfl) | (rw [if_neg (by decide +kernel)]; exact ⟨rfl, rfl⟩))
    (fun os started H enc _ => lifted os started H enc)
end Go.Proofs.Ytppikkppgojbpaa.FnVotesLess
namespace Go.Proofs.Ytppikkppgojbpaa
theorem fnVotesLess_holds : Rows.FnVotesLessSaid := FnVotesLess.over
#print axioms fnVotesLess_holds
end Go.Proofs.Ytppikkppgojbpaa
