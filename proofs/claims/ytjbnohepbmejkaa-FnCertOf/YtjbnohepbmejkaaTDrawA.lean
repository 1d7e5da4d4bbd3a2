/-
  Texts together: TDraw, TForms2.
-/
import Derived.Test.YtjbnohepbmejkaaVDrawA
import Derived.Test.YtjbnohepbmejkaaTSpecB
namespace Go.Proofs.Ytjbnohepbmejkaa
set_option linter.unusedVariables false
open Go.RowKit
attribute [local simp] far_const

set_option linter.unusedVariables false
open Go.RowKit
attribute [local simp] far_const

theorem specTreeFinal_r {base : Nat} {v : Value} {l : List Vt} (w : World) (h : VRow w base v l) (hs : Short l) (hn : l.length ≤ 1048576) :
    Calls Try.prog 105 #[v] w fun r w' => ∃ v, r = .returned v ∧ ChV w' v (finalL l) ∧ Grew w w' := by
  obtain ⟨g, cap, rfl, hcap, _, _, hv⟩ := h.shape
  exact specTreeFinal _ cap l w hv hcap h.room hs hn

set_option maxHeartbeats 2000000 in
theorem drawTreeFinal_any (a : Option Addr) (n cap : Nat) (w : World) (hb : Byt w a w.heap.size n) (hc : n ≤ cap) (hn : n ≤ 1048576) :
    Calls Try.prog 55 #[.slice a n cap] w fun r w' => ∃ v l base, r = .returned v ∧ VRow w' base v l ∧ l.length ≤ 193 ∧ Low 16 l ∧ Grew w w' := by
  go_enter Try.func55, Try.ntmps55
  go_wp2_with fail
  refine (open_any a n cap _ hb hc hn).mono ?_
  rintro r w1 ⟨rfl, r1, g1⟩
  have hlt := r1.lt
  go_wp2_with fail
  refine (l71Spoilt_any w.heap.size 0 _ r1 (by omega)).mono ?_
  rintro r w2 ⟨v, l, rfl, o2, hl, hlw, r2, g2⟩
  have O2 := hide o2
  have HLW := hide hlw
  have hlr : w.heap.size < w1.heap.size := hlt
  clear o2 hlw
  go_wp2_with fail
  go_loopw [4, 5] (fun o i wr => ∃ (k base : Nat) (lo : List Vt), k ≤ 4 ∧ i = .int .i64 k ∧ w.heap.size < base ∧ Hid (VRow wr base o lo) ∧ lo.length ≤ 193 ∧ Hid (Low 16 lo) ∧ Rd wr w.heap.size (800 + 801 * k) ∧ Ran w.heap.size w1 wr) (fun _ i _ => 4 - (intOf i).toNat)
  case atStart => exact ⟨0, w1.heap.size, l, Nat.zero_le _, rfl, hlr, O2, hl, HLW, r2.more (by omega), g2⟩
  case round =>
    obtain ⟨k, base, lo, hk, rfl, hbase, ho, hlo, hlow, hrd, hran⟩ := hrel
    obtain ⟨g, cp, rfl, _, _, _, _⟩ := ho.out.shape
    by_cases hlt4 : k < 4
    · have hd4 : decide ((k : Int) < 4) = true := by simp; omega
      have hX := hide (specTreeFinal_r wr ho.out (hlow.out.short (by omega)) (by omega))
      go_wp2_with fail
      refine hX.out.mono ?_
      clear hX
      rintro r w3 ⟨v3, rfl, ⟨va, vc, rfl, _, _⟩, g3⟩
      have r3 := hrd.grew g3
      have n3 := hran.grew g3
      have O3 := hide (ho.out.grew g3)
      obtain ⟨T, hT⟩ : ∃ T, Hid (T = (finalL lo).length) := ⟨_, hide rfl⟩
      rw [← hT.out]
      by_cases h0 : T = 0
      · subst h0
        go_wp2_with fail
        refine (pick_any w.heap.size _ 8 _ r3 (by omega) (by omega)).mono ?_
        rintro r w4 ⟨z, rfl, z0, z1, z2, r4, g4⟩
        clear z1 z2
        have n4 := n3.trans g4
        have O4 := hide (O3.out.ran g4 hbase)
        by_cases hz : 0 < z
        · go_wp2_with fail
          refine (l71Spoilt_any w.heap.size _ _ r4 (by omega)).mono ?_
          rintro r w5 ⟨v5, l5, rfl, o5, hl5, hlw5, r5, g5⟩
          have O5 := hide o5
          have HLW5 := hide hlw5
          have n5 := n4.trans g5
          have hb5 : w.heap.size < w4.heap.size := r4.lt
          clear o5 hlw5
          go_wp2
          go_roundw
          case rel => exact ⟨k + 1, w4.heap.size, l5, by omega, by go_num, hb5, O5, hl5, HLW5, r5.more (by omega), n5⟩
          case measure => simp [intOf]; omega
        · have hz' : decide (0 < z) = false := by simpa using hz
          go_wp2
          go_ret
          exact ⟨_, lo, base, rfl, O4.out, hlo, hlow.out, n4.from g1 (Nat.le_refl _)⟩
      · have h0' : ((T : Int) == 0) = false := by simpa using h0
        go_wp2
        go_ret
        exact ⟨_, lo, base, rfl, O3.out, hlo, hlow.out, n3.from g1 (Nat.le_refl _)⟩
    · have hd4 : decide ((k : Int) < 4) = false := by simp; omega
      go_wp2
      go_ret
      exact ⟨_, lo, base, rfl, ho.out, hlo, hlow.out, hran.from g1 (Nat.le_refl _)⟩
end Go.Proofs.Ytjbnohepbmejkaa
