/-
  What the specification's VotesFor answers.
-/
import Derived.Test.YtjbnohepbmejkaaVMapA
namespace Go.Proofs.Ytjbnohepbmejkaa
set_option linter.unusedVariables false
open Go.RowKit
attribute [local simp] far_const

set_option maxHeartbeats 2000000 in
theorem specVotesFor (a : Option Addr) (cap : Nat) (l : List Vt) (b : Option Addr) (cb : Nat) (c : List It) (w : World) (hl : Vts w a l) (hcap : l.length ≤ cap) (hs : Short l) (hn : l.length ≤ 1048576) (hc : Its w b c) (hnc : c.length ≤ 1048576) :
    Calls Try.prog 108 #[.slice a l.length cap, .slice b c.length cb] w fun r w' => ∃ v, r = .returned v ∧ OwnN w' w.heap.size v (forL l c) ∧ Grew w w' := by
  have o0 : OwnN (w.alloc (.cells #[] 3)) w.heap.size (.slice (some ⟨w.heap.size, 0, none⟩) 0 0) [] := OwnN.lit (Nat.le_refl _) [] 0 rfl (by omega)
  have O0 := hide o0
  clear o0
  go_enter Try.func108, Try.ntmps108
  go_wp2_with fail
  refine (specVotesOk a cap l _ (hl.grew ((Grew.refl _).alloc _)) hcap hs hn).mono ?_
  rintro r w1 ⟨rfl, g1⟩
  have o1 := hide ((unhide O0).grew g1)
  have G1 := ((Grew.refl w).alloc _).trans g1
  clear O0
  cases hb : votesB l with
  | false =>
    have e := hide (show forL l c = [] by unfold forL; rw [hb]; rfl)
    go_wp2
    go_ret
    exact ⟨_, rfl, by rw [unhide e]; exact unhide o1, G1⟩
  | true =>
    have e := hide (show forL l c = forUp l c 4 by unfold forL; rw [hb]; rfl)
    go_wp2_with fail
    go_loopw [5, 6] (fun out i wr => ∃ (v : Value) (k : Nat), k ≤ 4 ∧ out = v ∧ i = .int .i64 ((k : Int) + 1) ∧ Hid (OwnN wr w.heap.size v (forUp l c k)) ∧ Grew w wr) (fun _ i _ => 5 - (intOf i).toNat)
    case atStart => exact ⟨_, 0, by omega, rfl, rfl, unhide o1, G1⟩
    case round =>
      obtain ⟨v, k, hk, rfl, rfl, ho, hg⟩ := hrel
      by_cases hlt : k < 4
      · have hle : (k : Int) + 1 ≤ 4 := by omega
        go_wp2_with fail
        refine (l3Has_any a cap l.length l ⟨(k : Int) + 1, c⟩ _ _ rfl (hl.grew hg) ⟨b, cb, rfl, hc.grew hg⟩ hs hnc hn).mono ?_
        rintro r w2 ⟨rfl, g2⟩
        have hg2 := hg.trans g2
        have ho2 := (unhide ho).grew g2
        cases hh : hasB l ⟨(k : Int) + 1, c⟩ with
        | true =>
          have e := hide (forUp_in hh)
          have hlen := forUp_len l c k
          have hbl := ho2.block
          have hs2 : w.heap.size ≤ w2.heap.size := hg2.size
          go_wp2_with (first | (at_builtin; refine wpList_nums rfl _ _ rfl w.heap.size _ (forUp l c k) rfl (ho2.grew ((Grew.refl _).alloc _)) ⟨w2.heap.size, 0, none⟩ 1 [(k : Int) + 1] 1 rfl rfl (ints_one _ _ _) (by simp; omega) (by simp; omega) ?_))
          intro v' w3 o3 g3
          have hg3 := (hg2.alloc _).grown g3 (fun k hk => (hbl k hk).1)
          have HO : Hid (OwnN w3 w.heap.size v' (forUp l c (k + 1))) := by
            show OwnN w3 w.heap.size v' (forUp l c (k + 1))
            rw [unhide e]; exact o3
          clear o3 ho2 hbl g3
          go_wp2
          go_roundw
          case rel => exact ⟨v', k + 1, by omega, rfl, by go_num, HO, hg3⟩
          case measure => simp [intOf]; omega
        | false =>
          have e := hide (forUp_out hh)
          have HO := hide (show OwnN w2 w.heap.size _ (forUp l c (k + 1)) by rw [unhide e]; exact ho2)
          clear ho2
          go_wp2
          go_roundw
          case rel => exact ⟨_, k + 1, by omega, rfl, by go_num, HO, hg2⟩
          case measure => simp [intOf]; omega
      · have hk4 : k = 4 := by omega
        subst hk4
        go_wp2
        go_ret
        exact ⟨_, rfl, by rw [unhide e]; exact unhide ho, hg⟩
end Go.Proofs.Ytjbnohepbmejkaa
