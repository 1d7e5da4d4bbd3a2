/-
  The votes of one of a cert's three.
-/
import Derived.Test.YteemihgakcmamaaCer9
namespace Go.Proofs.Yteemihgakcmamaa
set_option linter.unusedVariables false
open Go.RowKit
attribute [local simp] far_const

/-- A vote of each for one chain. -/
def votesC (c : List It) (l : List Int) : List Vt := l.map (fun n => ⟨n, c⟩)
theorem votesC_take (c : List It) (l : List Int) {k : Nat} (hk : k < l.length) : votesC c (l.take (k + 1)) = votesC c (l.take k) ++ [⟨l[k], c⟩] := by
  unfold votesC; rw [List.take_succ_eq_append_getElem hk, List.map_append]; rfl

set_option maxHeartbeats 1000000 in
theorem ballotVotes_any (a : Option Addr) (cap : Nat) (c : List It) (b : Option Addr) (capb : Nat) (l : List Int) (w : World) (hc : Its w a c) (hl : Ints w b l) (hn : c.length ≤ 1048576) (hnl : l.length ≤ 1048576) :
    Calls Try.prog 74 #[.agg #[.slice a c.length cap, .slice b l.length capb]] w fun r w' => ∃ v hs, r = .returned v ∧ VPart w' w.heap.size v hs l.length (votesC c l) ∧ Grew w w' := by
  have hmk := make_votes l.length hnl
  go_enter Try.func74, Try.ntmps74
  go_wp2_with fail
  clear hmk
  have P0 : Hid (VPart ((w.alloc (.cells #[.slice a c.length cap, .slice b l.length capb] 89)).alloc (zerosV l.length)) (w.heap.size + 1) (.slice (some ⟨w.heap.size + 1, 0, none⟩) l.length l.length) [] l.length []) := by
    have := VPart.made (w.alloc (.cells #[.slice a c.length cap, .slice b l.length capb] 89)) l.length hnl
    simp only [World.size_alloc] at this
    exact this
  have G0 : Hid (Grew w ((w.alloc (.cells #[.slice a c.length cap, .slice b l.length capb] 89)).alloc (zerosV l.length))) := hide (((Grew.refl _).alloc _).alloc _)
  have p0 : ((w.alloc (.cells #[.slice a c.length cap, .slice b l.length capb] 89)).alloc (zerosV l.length)).cell? ⟨w.heap.size, 0, none⟩ = some (.slice a c.length cap) :=
    ((Grew.refl _).alloc _).keep (by simp [go_sem])
  go_loopw [13] (fun i wr => ∃ (k : Nat) (hs : List Nat), k ≤ l.length ∧ i = .int .i64 k ∧ Hid (VPart wr (w.heap.size + 1) (.slice (some ⟨w.heap.size + 1, 0, none⟩) l.length l.length) hs l.length (votesC c (l.take k))) ∧ wr.cell? ⟨w.heap.size, 0, none⟩ = some (.slice a c.length cap) ∧ Hid (Grew w wr)) (fun i _ => l.length - (intOf i).toNat)
  case atStart => exact ⟨0, [], Nat.zero_le _, rfl, P0, p0, G0⟩
  case round =>
    clear P0 p0 G0
    obtain ⟨k, hh, hk, rfl, hp, p0, hg⟩ := hrel
    by_cases hlt : k < l.length
    · obtain ⟨b1, off, rfl, hat⟩ := hl.at hlt
      have c0 := (unhide hg).keep hat
      have hsz := (unhide hg).size
      clear hat
      go_wp2_with fail
      refine (copyVote_any ⟨l[k], c⟩ _ _ ⟨_, _, rfl, hc.grew (unhide hg)⟩ hn).mono ?_
      rintro r w1 ⟨q, rfl, hq1, hq2, qi, qo, g1⟩
      have hp1 := hide ((unhide hp).grew g1)
      have hlk : (votesC c (l.take k)).length = k := by unfold votesC; simp; omega
      obtain ⟨⟨v0, d0⟩, z0⟩ := (unhide hp1).cells (j := k * 2) (by omega)
      obtain ⟨⟨v1, d1⟩, z1⟩ := (unhide hp1).cells (j := k * 2 + 1) (by omega)
      have hlow := fun h hm => ((unhide hp).low h hm).2
      have hg0 : w.heap.size + 1 < wr.heap.size := by obtain ⟨g, c, e, _, _, h⟩ := (unhide hp).shape; simp at e; omega
      have hput := hide ((unhide hp1).put (by omega) ⟨l[k], c⟩ q c.length (by omega) hq2 (fun hm => by have := hlow q hm; omega) (by omega) qi qo (Nat.le_refl _))
      rw [hlk, ← votesC_take c l hlt] at hput
      have p1 := g1.keep p0
      have p2 : ((w1.setCell ⟨w.heap.size + 1, k * 2, none⟩ (.int .i64 l[k])).setCell ⟨w.heap.size + 1, k * 2 + 1, none⟩ (.slice (some ⟨q, 0, none⟩) c.length c.length)).cell? ⟨w.heap.size, 0, none⟩ = some (.slice a c.length cap) := by
        rw [World.cell?_of_block (w := w1) (by rw [Below.heap_setCell _ _ _ _ (by show w.heap.size ≠ w.heap.size + 1; omega), Below.heap_setCell _ _ _ _ (by show w.heap.size ≠ w.heap.size + 1; omega)])]; exact p1
      have G1 := hide ((((unhide hg).trans g1).setCell (p := ⟨w.heap.size + 1, k * 2, none⟩) (by dsimp only; omega) (.int .i64 l[k])).setCell (p := ⟨w.heap.size + 1, k * 2 + 1, none⟩) (by dsimp only; omega) (.slice (some ⟨q, 0, none⟩) c.length c.length))
      clear hp hlow hlk
      go_wp2
      go_roundw
      case rel => exact ⟨k + 1, hh ++ [q], by omega, by go_num, hput, p2, G1⟩
      case measure => simp [intOf]; omega
    · have hkl : k = l.length := by omega
      have hp' : Hid (VPart wr w.heap.size (.slice (some ⟨w.heap.size + 1, 0, none⟩) l.length l.length) hh l.length (votesC c l)) := by
        have := unhide hp
        rw [hkl, List.take_length] at this
        exact this.lower (by omega)
      have hle : (l.length : Int) ≤ (k : Int) := by omega
      clear hkl hp
      go_wp2
      go_ret
      exact ⟨_, hh, rfl, unhide hp', unhide hg⟩
end Go.Proofs.Yteemihgakcmamaa
