/-
  Where a chain is in the tree: find.
-/
import Derived.Test.YtibhfiamibccnacTree10
namespace Go.Proofs.Ytibhfiamibccnac
set_option linter.unusedVariables false
open Go.RowKit
attribute [local simp] far_const

theorem TreeF.pre {w : World} {base n : Nat} {M : List It → Prop} {vt pos : List It → Nat} {kv : List It → Value} {kd : List It → List It} {tb : Nat} {cv : Value} {L : List (List It)}
    (h : TreeF w base n M vt pos kv kd tb cv L) {c : List It} {k : Nat} (hk : k < c.length) (hm : ¬ M (c.take k)) : ¬ M (c.take (k + 1)) := fun h1 => by
  rw [List.take_succ_eq_append_getElem hk] at h1
  exact hm (h.up _ _ h1).1

set_option maxRecDepth 20000 in
set_option maxHeartbeats 4000000 in
theorem find_any {w : World} {base n : Nat} {M : List It → Prop} {vt pos : List It → Nat} {kv : List It → Value} {kd : List It → List It} {tb : Nat} {cv : Value} {L : List (List It)}
    (h : TreeF w base n M vt pos kv kd tb cv ([] :: L)) (a : Option Addr) (cap : Nat) (c : List It) (hc : Its w a c) (hl : c.length ≤ 1048576) (hn : n ≤ 536870912) :
    Calls Try.prog 49 #[ptr tb, .slice a c.length cap] w fun r w' => ((M c ∧ r = .returned (ptr (pos c))) ∨ (¬ M c ∧ r = .returned (.pointer none))) ∧ Grew w w' := by
  have hN := nothing_any h
  have HT := hide h
  clear h
  unfold ptr at hN ⊢
  go_enter Try.func49, Try.ntmps49
  go_wp2_with fail
  refine hN.mono ?_
  clear hN
  rintro r w1 ⟨rfl, g1⟩
  go_wp2_with fail
  go_loopw [5, 6] (fun b i wr => ∃ k : Nat, k ≤ c.length ∧ i = .int .i64 k ∧ ((∃ P, b = .pointer (some ⟨P, 0, none⟩) ∧ Hid (P = pos (c.take k)) ∧ Hid (M (c.take k))) ∨ (b = .pointer none ∧ Hid (¬ M (c.take k)))) ∧ Grew w wr) (fun _ i _ => c.length - (intOf i).toNat)
  case atStart => exact ⟨0, Nat.zero_le _, rfl, .inl ⟨_, rfl, hide (by rw [List.take_zero]), hide (by rw [List.take_zero]; exact (unhide HT).nil)⟩, g1⟩
  case round =>
    obtain ⟨k, hk, rfl, hb, hg⟩ := hrel
    by_cases hlt : k < c.length
    · rcases hb with ⟨P, rfl, hP, hm⟩ | ⟨rfl, hm⟩
      · obtain ⟨b1, o1, rfl, hat⟩ := hc.at hlt
        obtain ⟨e0, e1, e2, e3⟩ := hat.grew hg
        clear hat
        have hX := hide (next_any ((unhide HT).grew hg) (c.take k) c[k] hm.out (by omega))
        rw [← hP.out] at hX
        unfold ptr at hX
        go_wp2_with fail
        refine hX.out.mono ?_
        clear hX
        have ht : c.take (k + 1) = c.take k ++ [c[k]] := List.take_succ_eq_append_getElem hlt
        rw [← ht]
        rintro r w2 ⟨(⟨hx, rfl⟩ | ⟨hx, rfl⟩), g2⟩
        · have HM : Hid (M (c.take (k + 1))) := hide (by rw [ht]; exact (unhide HT).dn _ _ hm.out hx)
          clear hx ht
          go_wp2
          go_roundw
          case rel => exact ⟨k + 1, by omega, by go_num, .inl ⟨_, rfl, hide rfl, HM⟩, hg.trans g2⟩
          case measure => simp [intOf]; omega
        · have HM : Hid (¬ M (c.take (k + 1))) := hide (by rw [ht]; exact (unhide HT).notKid hx)
          clear hx ht
          go_wp2
          go_roundw
          case rel => exact ⟨k + 1, by omega, by go_num, .inr ⟨rfl, HM⟩, hg.trans g2⟩
          case measure => simp [intOf]; omega
      · have HM : Hid (¬ M c) := hide (fun hmc => hm.out (by
          have := (unhide HT).row
          clear this
          obtain ⟨m, hm'⟩ : ∃ m, m = c.length - k := ⟨_, rfl⟩
          exact (show ∀ m k, m = c.length - k → k ≤ c.length → M (c.take k) by
            intro m
            induction m with
            | zero => intro k h1 h2; rw [show k = c.length by omega, List.take_length]; exact hmc
            | succ m ih =>
              intro k h1 h2
              have := ih (k + 1) (by omega) (by omega)
              rw [List.take_succ_eq_append_getElem (by omega)] at this
              exact ((unhide HT).up _ _ this).1) m k hm' hk))
        go_wp2
        go_ret
        exact ⟨.inr ⟨HM.out, rfl⟩, hg⟩
    · have hkl : k = c.length := by omega
      have hle : (c.length : Int) ≤ (k : Int) := by omega
      have hd : decide ((k : Int) < (c.length : Int)) = false := by simp; omega
      rcases hb with ⟨P, rfl, hP, hm⟩ | ⟨rfl, hm⟩
      · rw [hkl, List.take_length] at hP hm
        clear hkl
        go_wp2
        go_ret
        exact ⟨.inl ⟨hm.out, by rw [← hP.out]; rfl⟩, hg⟩
      · rw [hkl, List.take_length] at hm
        clear hkl
        go_wp2
        go_ret
        exact ⟨.inr ⟨hm.out, rfl⟩, hg⟩
end Go.Proofs.Ytibhfiamibccnac
