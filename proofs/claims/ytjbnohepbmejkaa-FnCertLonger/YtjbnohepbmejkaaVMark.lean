/-
  Rows of votes that are marked, and held against their marks.
-/
import Derived.Test.YtjbnohepbmejkaaVCopy
import Derived.Test.YtjbnohepbmejkaaMarkHeld
namespace Go.Proofs.Ytjbnohepbmejkaa
set_option linter.unusedVariables false
open Go.RowKit
attribute [local simp] far_const

/-- Votes that bear the marks from k on. -/
def marksV : Int → List Vt → List Vt
  | _, [] => []
  | k, x :: r => ⟨k, marks (k + 1) x.c.length⟩ :: marksV (k + 1 + 4 * x.c.length) r
/-- How many marks votes bear. -/
def cntV (l : List Vt) : Nat := l.length + 4 * sumC l
theorem cntV_cons (x : Vt) (l : List Vt) : cntV (x :: l) = 1 + 4 * x.c.length + cntV l := by simp [cntV, sumC]; omega
theorem cntV_take {l : List Vt} {k : Nat} (hk : k < l.length) : cntV (l.take (k + 1)) = cntV (l.take k) + 1 + 4 * l[k].c.length := by
  unfold cntV; rw [sumC_take hk]; simp; omega
theorem cntV_le (l : List Vt) (k : Nat) : cntV (l.take k) ≤ cntV l := by
  unfold cntV; have := sumC_le l k; simp; omega
theorem marksV_len : ∀ (l : List Vt) (k : Int), (marksV k l).length = l.length
  | [], k => rfl
  | x :: r, k => by simp [marksV, marksV_len r]
theorem marksV_get : ∀ (l : List Vt) (k : Int) (i : Nat) (h : i < l.length) (h' : i < (marksV k l).length), (marksV k l)[i] = ⟨k + cntV (l.take i), marks (k + cntV (l.take i) + 1) l[i].c.length⟩
  | [], k, i, h, _ => absurd h (Nat.not_lt_zero _)
  | x :: r, k, 0, h, _ => by simp [marksV, cntV, sumC]
  | x :: r, k, i + 1, h, h' => by
    have hi : i < r.length := by simpa using h
    have := marksV_get r (k + 1 + 4 * x.c.length) i hi (by rw [marksV_len]; exact hi)
    simp only [marksV, List.getElem_cons_succ, this, List.take_succ_cons, cntV_cons]
    have e : k + 1 + 4 * (x.c.length : Int) + (cntV (r.take i) : Int) = k + ((1 + 4 * x.c.length + cntV (r.take i) : Nat) : Int) := by omega
    rw [e]

/-- Only blocks of a list have been written. -/
structure WroteS (bs : List Nat) (w w' : World) : Prop where
  os : w'.os = w.os
  tape : w'.tape = w.tape
  output : w'.output = w.output
  size : w'.heap.size = w.heap.size
  keep : ∀ b, b ∉ bs → w'.heap[b]? = w.heap[b]?
theorem WroteS.refl (bs : List Nat) (w : World) : WroteS bs w w := ⟨rfl, rfl, rfl, rfl, fun _ _ => rfl⟩
theorem WroteS.trans {bs : List Nat} {a b c : World} (h : WroteS bs a b) (k : WroteS bs b c) : WroteS bs a c :=
  ⟨k.os.trans h.os, k.tape.trans h.tape, k.output.trans h.output, k.size.trans h.size, fun x hx => (k.keep x hx).trans (h.keep x hx)⟩
theorem WroteS.of {g : Nat} {bs : List Nat} {w w' : World} (h : Wrote (some ⟨g, 0, none⟩) w w') (hg : g ∈ bs) : WroteS bs w w' :=
  ⟨h.os, h.tape, h.output, h.size, fun b hb => h.keep b (fun x hx => by cases hx; intro e; exact hb (by rw [← e]; exact hg))⟩
theorem WroteS.set {bs : List Nat} {w w' : World} (h : WroteS bs w w') {p : Addr} (hp : p.block ∈ bs) (v : Value) : WroteS bs w (w'.setCell p v) :=
  ⟨h.os, h.tape, h.output, by simpa [World.setCell] using h.size, fun b hb => by rw [Below.heap_setCell _ _ _ _ (fun e => hb (by rw [e]; exact hp))]; exact h.keep b hb⟩
theorem WroteS.mono {bs cs : List Nat} {w w' : World} (h : WroteS bs w w') (hs : ∀ b ∈ bs, b ∈ cs) : WroteS cs w w' := ⟨h.os, h.tape, h.output, h.size, fun b hb => h.keep b (fun hm => hb (hs b hm))⟩
theorem WroteS.from {bs : List Nat} {w0 w w' : World} (h : WroteS bs w w') (g : Grew w0 w) (ha : ∀ b ∈ bs, w0.heap.size ≤ b) : Grew w0 w' :=
  .of_below ⟨h.os.trans g.below.os, h.tape.trans g.below.tape, h.output.trans g.below.output, by rw [h.size]; exact g.size, fun i hi => (h.keep i (fun hm => by have := ha i hm; omega)).trans (g.below.block i hi)⟩

theorem nodup_ne {l : List Nat} (h : l.Nodup) {i k : Nat} (hi : i < l.length) (hk : k < l.length) (e : i ≠ k) : l[i] ≠ l[k] := by
  rw [List.nodup_iff_pairwise_ne, List.pairwise_iff_getElem] at h
  rcases Nat.lt_or_gt_of_ne e with h1 | h1
  · exact h i k hi hk h1
  · exact fun e' => h k i hk hi h1 e'.symm
/-- A vote of a row is marked: its number, then its chain. -/
theorem VPart.setAt {w w' : World} {base g N cap k : Nat} {hs : List Nat} {L : List Vt} {x : Vt} (h : VPart w base (.slice (some ⟨g, 0, none⟩) N cap) hs N L) (hk : k < L.length) (hk' : k < hs.length) (hx : x.c.length = L[k].c.length)
    (hw : Wrote (some ⟨hs[k], 0, none⟩) (w.setCell ⟨g, k * 2, none⟩ (.int .i64 x.n)) w') (hi : Its w' (some ⟨hs[k], 0, none⟩) x.c) (ho : Own w' hs[k] x.c.length) :
    VPart w' base (.slice (some ⟨g, 0, none⟩) N cap) hs N (L.set k x) := by
  obtain ⟨nz, ⟨cs, row, hc⟩, len, le, apart, off, low, its⟩ := h
  have r1 := (row.stored (k * 2) (.int .i64 x.n)).1
  have hgk : hs[k] ≠ g := fun e => off hs[k] (List.getElem_mem hk') (by rw [e]; rfl)
  have hz : w'.heap.size = w.heap.size := by rw [hw.size]; simp [World.setCell]
  have r2 : w'.ownsRow base 45 2 (.slice (some ⟨g, 0, none⟩) N cap) N (cs.set (k * 2) (.int .i64 x.n)) := ownsRow_block r1 (fun b hb => by
    cases hb
    exact hw.keep g (fun y hy => by cases hy; exact hgk))
  have hcl : cs.length = N * 2 := row.1
  refine ⟨nz, ⟨_, r2, fun i hi1 hi2 => ?_⟩, by simp [len], by simpa using le, apart, off, fun b hb => by rw [hz]; exact low b hb, fun i hi1 hi2 => ?_⟩
  · rw [List.length_set] at hi1
    obtain ⟨h1, c, h2, h3⟩ := hc i hi1 hi2
    rw [List.getElem?_set, List.getElem?_set, List.getElem_set, if_neg (show ¬ k * 2 = i * 2 + 1 by omega)]
    by_cases e : k = i
    · subst e
      rw [if_pos rfl, if_pos (by omega), if_pos rfl, hx]
      exact ⟨rfl, c, h2, h3⟩
    · rw [if_neg (by omega), if_neg e]
      exact ⟨h1, c, h2, h3⟩
  · rw [List.length_set] at hi1
    by_cases e : k = i
    · subst e
      rw [List.getElem_set, if_pos rfl]
      exact ⟨hi, ho⟩
    · rw [List.getElem_set, if_neg e]
      have hne : hs[i] ≠ hs[k] := nodup_ne apart hi2 hk' (fun h => e h.symm)
      have hgi : hs[i] ≠ g := fun e => off hs[i] (List.getElem_mem hi2) (by rw [e]; rfl)
      have hb : w'.heap[hs[i]]? = w.heap[hs[i]]? := by
        rw [hw.keep hs[i] (fun y hy => by cases hy; exact fun h => hne h.symm), Below.heap_setCell _ _ _ _ hgi]
      exact ⟨(its i hi1 hi2).1.block hb, (its i hi1 hi2).2.block hb⟩

set_option maxHeartbeats 1000000 in
theorem markV_own (base g cap : Nat) (hs : List Nat) (l : List Vt) (k : Int) (w : World) (h : VOwn w base (.slice (some ⟨g, 0, none⟩) l.length cap) hs l) (hn : cntV l ≤ 4194305) (hk0 : 0 ≤ k) (hk : k ≤ 100000000) :
    Calls Try.prog 78 #[.slice (some ⟨g, 0, none⟩) l.length cap, .int .i64 k] w fun r w' => r = .returned (.int .i64 (k + cntV l)) ∧ VOwn w' base (.slice (some ⟨g, 0, none⟩) l.length cap) hs (marksV k l) ∧ WroteS (g :: hs) w w' := by
  go_enter Try.func78, Try.ntmps78
  go_wp2_with fail
  go_loopw [1, 5] (fun kk i wr => ∃ (j : Nat) (L : List Vt), j ≤ l.length ∧ i = .int .i64 j ∧ kk = .int .i64 (k + cntV (l.take j)) ∧ Hid (L.length = l.length ∧ (∀ i (h : i < L.length) (h' : i < l.length), L[i] = if i < j then ⟨k + cntV (l.take i), marks (k + cntV (l.take i) + 1) l[i].c.length⟩ else l[i])) ∧ Hid (VPart wr base (.slice (some ⟨g, 0, none⟩) l.length cap) hs l.length L) ∧ Hid (WroteS (g :: hs) w wr)) (fun _ i _ => l.length - (intOf i).toNat)
  case atStart => exact ⟨0, l, Nat.zero_le _, rfl, by simp [cntV, sumC], ⟨rfl, fun i h h' => by simp⟩, h, WroteS.refl _ _⟩
  case round =>
    obtain ⟨j, L, hj, rfl, rfl, hL, hp, hw⟩ := hrel
    have hcj := cntV_le l j
    have hlc : l.length ≤ cntV l := by unfold cntV; omega
    by_cases hlt : j < l.length
    · have hjL : j < L.length := by rw [(unhide hL).1]; exact hlt
      have hjh : j < hs.length := by rw [(unhide hp).len, (unhide hL).1]; exact hlt
      have hLj : Hid (L[j] = l[j]) := by
        have := (unhide hL).2 j hjL hlt
        rw [if_neg (Nat.lt_irrefl j)] at this
        exact this
      obtain ⟨⟨v0, d0⟩, z0⟩ := (unhide hp).cells (j := j * 2) (by omega)
      have d1 : ∃ c, wr.cell? ⟨g, j * 2 + 1, none⟩ = some (.slice (some ⟨hs[j], 0, none⟩) l[j].c.length c) := by
        obtain ⟨cs, row, hc⟩ := (unhide hp).row
        obtain ⟨_, c, h2, _⟩ := hc j hjL hjh
        rw [unhide hLj] at h2
        exact ⟨c, by rw [row.cellAt (j * 2 + 1) (by omega)]; exact h2⟩
      obtain ⟨c1, d1⟩ := d1
      have hct := cntV_take hlt
      have hcl := cntV_le l (j + 1)
      have hoj := hide ((unhide hp).its j hjL hjh).2
      rw [unhide hLj] at hoj
      have hgk : hs[j] ≠ g := fun e => (unhide hp).off hs[j] (List.getElem_mem hjh) (by rw [e]; rfl)
      have hown : Own (wr.setCell ⟨g, j * 2, none⟩ (.int .i64 (k + cntV (l.take j)))) hs[j] l[j].c.length := (unhide hoj).block (Below.heap_setCell _ _ _ _ hgk)
      have HO := hide hown
      have HCT := hide hct
      have hb1 : cntV (l.take j) + 1 + 4 * l[j].c.length ≤ 4194305 := by omega
      clear hown hct
      go_wp2_with fail
      refine (mark_any hs[j] l[j].c.length c1 (k + cntV (l.take j) + 1) _ (unhide HO) (by omega) (by omega) (by omega)).mono ?_
      rintro r w1 ⟨rfl, hi1, ho1, hw1⟩
      have hp1 := hide ((unhide hp).setAt (x := ⟨k + cntV (l.take j), marks (k + cntV (l.take j) + 1) l[j].c.length⟩) hjL hjh (by rw [unhide hLj]; exact marks_len _ _) hw1 hi1 (by show Own _ _ (marks _ _).length; rw [marks_len]; exact ho1))
      have hws : Hid (WroteS (g :: hs) w w1) := ((unhide hw).set (p := ⟨g, j * 2, none⟩) (List.mem_cons_self ..) _).trans (WroteS.of hw1 (List.mem_cons_of_mem _ (List.getElem_mem hjh)))
      have hL1 : Hid ((L.set j ⟨k + cntV (l.take j), marks (k + cntV (l.take j) + 1) l[j].c.length⟩).length = l.length ∧ (∀ i (h : i < (L.set j ⟨k + cntV (l.take j), marks (k + cntV (l.take j) + 1) l[j].c.length⟩).length) (h' : i < l.length), (L.set j ⟨k + cntV (l.take j), marks (k + cntV (l.take j) + 1) l[j].c.length⟩)[i] = if i < j + 1 then ⟨k + cntV (l.take i), marks (k + cntV (l.take i) + 1) l[i].c.length⟩ else l[i])) := by
        refine ⟨by rw [List.length_set]; exact (unhide hL).1, fun i h h' => ?_⟩
        rw [List.getElem_set]
        by_cases e : j = i
        · subst e; rw [if_pos rfl, if_pos (Nat.lt_succ_self _)]
        · rw [if_neg e, (unhide hL).2 i (by rw [List.length_set] at h; exact h) h']
          by_cases e2 : i < j
          · rw [if_pos e2, if_pos (by omega)]
          · rw [if_neg e2, if_neg (by omega)]
      have hnk : Hid (k + cntV (l.take j) + 1 + 4 * (l[j].c.length : Int) = k + cntV (l.take (j + 1))) := by
        show k + cntV (l.take j) + 1 + 4 * (l[j].c.length : Int) = k + cntV (l.take (j + 1))
        have := unhide HCT; omega
      clear hi1 ho1 hw1
      go_wp2
      go_roundw
      case rel => exact ⟨j + 1, _, by omega, by go_num, by rw [hnk.out], hL1, hp1, hws⟩
      case measure => simp [intOf]; omega
    · have hjl : j = l.length := by omega
      have hle : (l.length : Int) ≤ (j : Int) := by omega
      have hend : Hid (L = marksV k l) := by
        apply List.ext_getElem (by rw [marksV_len]; exact (unhide hL).1)
        intro i h1 h2
        have h3 : i < l.length := by rw [← (unhide hL).1]; exact h1
        rw [(unhide hL).2 i h1 h3, if_pos (by omega), marksV_get l k i h3]
      have hct : Hid (cntV (l.take j) = cntV l) := by show cntV (l.take j) = cntV l; rw [hjl, List.take_length]
      clear hjl
      go_wp2
      go_ret
      refine ⟨by rw [hct.out]; rfl, ?_, unhide hw⟩
      have := unhide hp
      rw [unhide hend] at this
      show VPart _ _ _ _ (marksV k l).length (marksV k l)
      rw [marksV_len]
      exact this

theorem Vts.at' {w : World} {a : Option Addr} {l : List Vt} (h : Vts w a l) {i : Nat} (hi : i < l.length) {x : Vt} (e : l[i] = x) : ∃ b off, a = some ⟨b, off, none⟩ ∧ VtAt w b (off + i * 2) x := by
  subst e; exact h.at hi

set_option maxHeartbeats 1000000 in
theorem heldV_any (a : Option Addr) (cap : Nat) (l : List Vt) (k : Int) (w : World) (h : Vts w a (marksV k l)) (hn : cntV l ≤ 4194305) (hk0 : 0 ≤ k) (hk : k ≤ 100000000) :
    Calls Try.prog 80 #[.slice a l.length cap, .int .i64 k] w fun r w' => r = .returned (.int .i64 (k + cntV l)) ∧ Grew w w' := by
  go_enter Try.func80, Try.ntmps80
  go_wp2_with fail
  go_loopw [1, 5] (fun kk i wr => ∃ j : Nat, j ≤ l.length ∧ i = .int .i64 j ∧ kk = .int .i64 (k + cntV (l.take j)) ∧ Grew w wr) (fun _ i _ => l.length - (intOf i).toNat)
  case atStart => exact ⟨0, Nat.zero_le _, rfl, by simp [cntV, sumC], Grew.refl _⟩
  case round =>
    obtain ⟨j, hj, rfl, rfl, hg⟩ := hrel
    have hcj := cntV_le l j
    have hlc : l.length ≤ cntV l := by unfold cntV; omega
    by_cases hlt : j < l.length
    · have hjm : j < (marksV k l).length := by rw [marksV_len]; exact hlt
      obtain ⟨b, off, rfl, hat⟩ := h.at' hjm (marksV_get l k j hlt hjm)
      obtain ⟨c0, a1, cap1, c1, i1⟩ := hat.grew hg
      simp only [marks_len] at c0 c1 i1
      have hct := cntV_take hlt
      have hcl := cntV_le l (j + 1)
      have HCT := hide hct
      have hb1 : cntV (l.take j) + 1 + 4 * l[j].c.length ≤ 4194305 := by omega
      clear hct hat
      go_wp2_with fail
      refine (held_any a1 l[j].c.length cap1 (k + cntV (l.take j) + 1) _ i1 (by omega) (by omega) (by omega)).mono ?_
      rintro r w1 ⟨rfl, g1⟩
      have hnk : Hid (k + cntV (l.take j) + 1 + 4 * (l[j].c.length : Int) = k + cntV (l.take (j + 1))) := by
        show k + cntV (l.take j) + 1 + 4 * (l[j].c.length : Int) = k + cntV (l.take (j + 1))
        have := unhide HCT; omega
      have hnn : ¬ k + cntV (l.take j) + 1 + 4 * (l[j].c.length : Int) < 0 := by omega
      have hng := hg.trans g1
      go_wp2
      go_roundw
      case rel => exact ⟨j + 1, by omega, by go_num, by rw [hnk.out], hng⟩
      case measure => simp [intOf]; omega
    · have hjl : j = l.length := by omega
      have hle : (l.length : Int) ≤ (j : Int) := by omega
      have hct : Hid (cntV (l.take j) = cntV l) := by show cntV (l.take j) = cntV l; rw [hjl, List.take_length]
      clear hjl
      go_wp2
      go_ret
      exact ⟨by rw [hct.out]; rfl, hg⟩

end Go.Proofs.Ytjbnohepbmejkaa
