/-
  Rows of chains as they are read: lwAmong, eqItemSS.
-/
import Derived.Test.YtjcnbacbnfmkjaaTAll1
import Derived.Test.YtjcnbacbnfmkjaaSame
namespace Go.Proofs.Ytjcnbacbnfmkjaa
set_option linter.unusedVariables false
open Go.RowKit
attribute [local simp] far_const

/-- A row of chains, as a value that is read. -/
def ChsV (w : World) (v : Value) (cs : List (List It)) : Prop := ∃ a cap, v = .slice a cs.length cap ∧ cs.length ≤ cap ∧ ∀ i (h : i < cs.length), ∃ b off ai ci, a = some ⟨b, off, none⟩ ∧ w.cell? ⟨b, off + i, none⟩ = some (.slice ai cs[i].length ci) ∧ cs[i].length ≤ ci ∧ Its w ai cs[i]
theorem ChsV.grew {w w' : World} {v : Value} {cs : List (List It)} (h : ChsV w v cs) (g : Grew w w') : ChsV w' v cs := by
  obtain ⟨a, cap, h1, h2, h3⟩ := h
  exact ⟨a, cap, h1, h2, fun i hi => by obtain ⟨b, off, ai, ci, e1, e2, e3, e4⟩ := h3 i hi; exact ⟨b, off, ai, ci, e1, g.keep e2, e3, e4.grew g⟩⟩
theorem OwnC.chsV {w : World} {base : Nat} {v : Value} {cs : List (List It)} (h : OwnC w base v cs) : ChsV w v cs := by
  obtain ⟨g, cap, hv, hc, _, _, hx⟩ := h.at
  refine ⟨_, cap, hv, hc, fun i hi => ?_⟩
  obtain ⟨u, hu, ai, ci, e1, e2, e3, _⟩ := hx i hi
  exact ⟨g, 0, ai, ci, rfl, by rw [Nat.zero_add, hu, e1], e2, e3⟩
theorem KRow.chsV {w : World} {base : Nat} {v : Value} {hs : List Nat} {cs : List (List It)} (h : KRow w base v hs cs) : ChsV w v cs := by
  rcases h.chs with ⟨rfl, rfl⟩ | h
  · exact ⟨none, 0, rfl, Nat.le_refl _, fun i hi => absurd hi (Nat.not_lt_zero _)⟩
  · exact h.chsV
/-- Whether a chain is among others. -/
def amongB (cs : List (List It)) (c : List It) : Bool := cs.any (fun d => sameB d c)

set_option maxHeartbeats 2000000 in
/-- Two rows of the same chains are the same. -/
theorem eqItemSS_v {v u : Value} {cs : List (List It)} (w : World) (h : ChsV w v cs) (k : ChsV w u cs) (hs : ∀ d ∈ cs, d.length ≤ 1048576) (hn : cs.length ≤ 1048577) :
    Calls Try.prog 21 #[v, u] w fun r w' => r = .returned (.bool true) ∧ Grew w w' := by
  obtain ⟨a, cap, rfl, hcap, hx⟩ := h
  obtain ⟨a', cap', rfl, hcap', hy⟩ := k
  have HX := hide hx
  have HY := hide hy
  clear hx hy
  have hne : (((cs.length : Nat) : Int) != ((cs.length : Nat) : Int)) = false := by simp
  go_enter Try.func21, Try.ntmps21
  go_wp2_with fail
  go_loopw [5] (fun i wr => ∃ k : Nat, k ≤ cs.length ∧ i = .int .i64 k ∧ Grew w wr) (fun i _ => cs.length - (intOf i).toNat)
  case atStart => exact ⟨0, Nat.zero_le _, rfl, Grew.refl _⟩
  case round =>
    obtain ⟨k, hk, rfl, hg⟩ := hrel
    by_cases hlt : k < cs.length
    · obtain ⟨b1, off, ai, ci, rfl, c1, hci, hi⟩ := HX.out k hlt
      obtain ⟨b2, off2, ai2, ci2, rfl, c2, hci2, hi2⟩ := HY.out k hlt
      have e1 := hg.keep c1
      have e2 := hg.keep c2
      have hs1 := hs _ (List.getElem_mem hlt)
      have hX : ∀ W, Grew wr W → Hid (Calls Try.prog 14 #[.slice ai cs[k].length ci, .slice ai2 cs[k].length ci2] W fun r w' => r = .returned (.bool true) ∧ Grew W w') := fun W g => by
        have := eqItemS_any ai ai2 ci ci2 cs[k] cs[k] W (hi.grew (hg.trans g)) (hi2.grew (hg.trans g)) hs1 hs1
        rw [(sameB_iff cs[k] cs[k]).2 rfl] at this
        exact hide this
      have f1 := Grew.gcell e1
      have f2 := Grew.gcell e2
      clear c1 c2 hi hi2
      go_wp2_with fail
      refine quietly (by kernel_rfl) (by kernel_rfl) ?_
      repeat (go_big_quiet_step (first | (go_at_call 14; exact Calls.far (hX _ ⟨_, _, rfl⟩).out)))
      refine wpQuiet_nil ?_
      intro _ hw'
      obtain ⟨⟨nq, osq⟩, hw''⟩ := hw'
      subst hw''
      have g2 : Grew wr (far wr nq osq) := ⟨_, _, rfl⟩
      go_wp2
      go_roundw
      case rel => exact ⟨k + 1, by omega, by go_num, hg.trans g2⟩
      case measure => simp [intOf]; omega
    · have hle : (cs.length : Int) ≤ (k : Int) := by omega
      have hd : decide ((k : Int) < (cs.length : Int)) = false := by simp; omega
      go_wp2
      go_ret
      exact ⟨rfl, hg⟩
end Go.Proofs.Ytjcnbacbnfmkjaa
