/-
  Texts together: Cer1, Cer2, CerM.
-/
import Derived.Test.YtjbnohepbmejkaaVForms
import Derived.Test.YtjbnohepbmejkaaNumsA
namespace Go.Proofs.Ytjbnohepbmejkaa
set_option linter.unusedVariables false
open Go.RowKit
attribute [local simp] far_const

/-- Rows of numbers, one behind the other. -/
def IntsS (w : World) (a : Option Addr) (ls : List (List Int)) : Prop := ls = [] ∨ ∃ b off, a = some ⟨b, off, none⟩ ∧ ∀ i (h : i < ls.length), ∃ ai ci, w.cell? ⟨b, off + i, none⟩ = some (.slice ai ls[i].length ci) ∧ Ints w ai ls[i]
theorem IntsS.grew {w w' : World} {a : Option Addr} {ls : List (List Int)} (h : IntsS w a ls) (g : Grew w w') : IntsS w' a ls := by
  rcases h with h | ⟨b, off, ha, h⟩
  · exact .inl h
  · refine .inr ⟨b, off, ha, fun i hi => ?_⟩
    obtain ⟨ai, ci, h1, h2⟩ := h i hi
    exact ⟨ai, ci, g.keep h1, h2.grew g⟩
theorem IntsS.at {w : World} {a : Option Addr} {ls : List (List Int)} (h : IntsS w a ls) {i : Nat} (hi : i < ls.length) : ∃ b off ai ci, a = some ⟨b, off, none⟩ ∧ w.cell? ⟨b, off + i, none⟩ = some (.slice ai ls[i].length ci) ∧ Ints w ai ls[i] := by
  rcases h with h | ⟨b, off, ha, h⟩
  · subst h; exact absurd hi (Nat.not_lt_zero _)
  · obtain ⟨ai, ci, h1, h2⟩ := h i hi; exact ⟨b, off, ai, ci, ha, h1, h2⟩
def sumI (l : List (List Int)) : Nat := (l.map List.length).sum
theorem sumI_take {l : List (List Int)} {k : Nat} (hk : k < l.length) : sumI (l.take (k + 1)) = sumI (l.take k) + l[k].length := by
  unfold sumI; rw [List.take_succ_eq_append_getElem hk, List.map_append, List.sum_append]; simp
theorem sumI_le (l : List (List Int)) (k : Nat) : sumI (l.take k) ≤ sumI l := by
  unfold sumI
  conv => rhs; rw [← List.take_append_drop k l, List.map_append, List.sum_append]
  exact Nat.le_add_right _ _
theorem sumI_at {l : List (List Int)} {x : List Int} (h : x ∈ l) : x.length ≤ sumI l := by
  unfold sumI
  induction l with
  | nil => cases h
  | cons y r ih =>
    rcases List.mem_cons.1 h with e | e
    · subst e; simp
    · have := ih e; simp at this ⊢; omega

theorem szIntS_any (a : Option Addr) (cap n : Nat) (left : Int) (w : World) (h0 : 0 ≤ left) (h1 : left ≤ 1048576) (hn : n ≤ 9223372036854775807) :
    Calls Try.prog 128 #[.slice a n cap, .int .i64 left] w fun r w' => r = .returned (.int .i64 (szR left n)) ∧ w' = w := by
  by_cases h : left < n
  · rw [szR_neg h]
    have h' : left - (n : Int) < 0 := by omega
    go_enter Try.func128, Try.ntmps128
    go_wp2
    go_ret
    exact ⟨rfl, rfl⟩
  · rw [szR_pos h]
    have h' : ¬ left - (n : Int) < 0 := by omega
    go_enter Try.func128, Try.ntmps128
    go_wp2
    go_ret
    exact ⟨rfl, rfl⟩

set_option maxHeartbeats 1000000 in
theorem szIntSS_any (a : Option Addr) (cap : Nat) (l : List (List Int)) (left : Int) (w : World) (hl : IntsS w a l) (h0 : 0 ≤ left) (h1 : left ≤ 1048576) (hn : l.length ≤ 9223372036854775807) (hc : ∀ x ∈ l, x.length ≤ 9223372036854775807) :
    Calls Try.prog 91 #[.slice a l.length cap, .int .i64 left] w fun r w' => r = .returned (.int .i64 (szR left (l.length + sumI l))) ∧ Grew w w' := by
  by_cases h : left < l.length
  · have hx : Hid (szR left (l.length + sumI l) = -1) := szR_neg (by omega)
    have h' : left - (l.length : Int) < 0 := by omega
    clear h
    go_enter Try.func91, Try.ntmps91
    go_wp2
    go_ret
    exact ⟨by rw [hx.out]; rfl, Grew.refl _⟩
  · have h' : ¬ left - (l.length : Int) < 0 := by omega
    go_enter Try.func91, Try.ntmps91
    go_wp2_with fail
    go_loopw [1, 5] (fun lf i wr => ∃ k : Nat, k ≤ l.length ∧ i = .int .i64 k ∧ lf = .int .i64 (left - l.length - sumI (l.take k)) ∧ 0 ≤ left - l.length - sumI (l.take k) ∧ Grew w wr) (fun _ i _ => l.length - (intOf i).toNat)
    case atStart => exact ⟨0, Nat.zero_le _, rfl, by simp [sumI], by simp [sumI]; omega, Grew.refl _⟩
    case round =>
      obtain ⟨k, hk, rfl, rfl, hlow, hg⟩ := hrel
      by_cases hlt : k < l.length
      · obtain ⟨b, off, a1, cap1, rfl, c1, hi⟩ := (hl.grew hg).at hlt
        have hsn := hide (sumI_take hlt)
        have hle := hide (sumI_le l (k + 1))
        have hck := hc l[k] (List.getElem_mem hlt)
        clear hi
        go_wp2_with fail
        refine (szIntS_any _ _ l[k].length _ _ hlow (by omega) hck).mono ?_
        rintro r w1 ⟨rfl, rfl⟩
        by_cases hs : left - l.length - sumI (l.take k) < l[k].length
        · rw [szR_neg hs]
          have hx : Hid (szR left (l.length + sumI l) = -1) := szR_neg (by have := unhide hsn; have := unhide hle; omega)
          go_wp2
          go_ret
          exact ⟨by rw [hx.out]; rfl, hg⟩
        · rw [szR_pos hs]
          have hnn : ¬ left - l.length - sumI (l.take k) - l[k].length < 0 := by omega
          have hnx : Hid (left - l.length - sumI (l.take k) - l[k].length = left - l.length - sumI (l.take (k + 1))) := by
            show left - l.length - sumI (l.take k) - l[k].length = left - l.length - sumI (l.take (k + 1))
            have := unhide hsn; omega
          go_wp2
          go_roundw
          case rel => exact ⟨k + 1, by omega, by go_num, by rw [hnx.out], by have := hnx.out; omega, hg⟩
          case measure => simp [intOf]; omega
      · have hle : (l.length : Int) ≤ (k : Int) := by omega
        have hx : Hid (left - l.length - sumI (l.take k) = szR left (l.length + sumI l)) := by
          show left - l.length - sumI (l.take k) = szR left (l.length + sumI l)
          rw [List.take_of_length_le (by omega)] at hlow ⊢
          rw [szR_pos (by omega)]
          omega
        go_wp2
        go_ret
        exact ⟨by rw [← hx.out]; rfl, hg⟩

/-- A row of N rows of numbers, the first of which are ls, each in a block of its own (hs). -/
structure PRow (w : World) (base : Nat) (v : Value) (hs : List Nat) (N : Nat) (ls : List (List Int)) : Prop where
  nz : v ≠ .slice none 0 0
  row : ∃ vs, w.ownsRow base 29 1 v N vs ∧ ∀ i (h : i < ls.length) (h' : i < hs.length), ∃ cap, vs[i]? = some (.slice (some ⟨hs[i], 0, none⟩) ls[i].length cap) ∧ OwnN w base (.slice (some ⟨hs[i], 0, none⟩) ls[i].length cap) ls[i]
  len : hs.length = ls.length
  le : ls.length ≤ N
  apart : hs.Nodup
  off : ∀ h ∈ hs, v.ownBlock ≠ some h
  low : ∀ h ∈ hs, base ≤ h ∧ h < w.heap.size
theorem PRow.kept {w w' : World} {base : Nat} {v : Value} {hs : List Nat} {N : Nat} {l : List (List Int)} (h : PRow w base v hs N l) (hz : w.heap.size ≤ w'.heap.size) (e : ∀ g, base ≤ g → g < w.heap.size → w'.heap[g]? = w.heap[g]?) : PRow w' base v hs N l := by
  obtain ⟨nz, ⟨vs, row, hc⟩, len, le, apart, off, low⟩ := h
  refine ⟨nz, ⟨vs, ownsRow_block row (fun g hg => by obtain ⟨h1, h2⟩ := row.lt g hg; exact e g h1 h2), fun i h h' => ?_⟩, len, le, apart, off, fun h hh => ⟨(low h hh).1, Nat.lt_of_lt_of_le (low h hh).2 hz⟩⟩
  obtain ⟨cap, h1, h2⟩ := hc i h h'
  exact ⟨cap, h1, h2.kept (fun g hb hg _ => e g hb hg)⟩
theorem PRow.grew {w w' : World} {base : Nat} {v : Value} {hs : List Nat} {N : Nat} {l : List (List Int)} (h : PRow w base v hs N l) (g : Grew w w') : PRow w' base v hs N l := h.kept g.size fun b _ hb => g.below.block b hb
theorem PRow.lower {w : World} {base base' : Nat} {v : Value} {hs : List Nat} {N : Nat} {l : List (List Int)} (h : PRow w base v hs N l) (hb : base' ≤ base) : PRow w base' v hs N l := by
  obtain ⟨nz, ⟨vs, row, hc⟩, len, le, apart, off, low⟩ := h
  refine ⟨nz, ⟨vs, ⟨row.1, ?_⟩, fun i h h' => ?_⟩, len, le, apart, off, fun h hh => ⟨Nat.le_trans hb (low h hh).1, (low h hh).2⟩⟩
  · rcases row.2 with h0 | ⟨g, cap, cur, hv, hb', hr⟩
    · exact .inl h0
    · exact .inr ⟨g, cap, cur, hv, Nat.le_trans hb hb', hr⟩
  · obtain ⟨cap, h1, h2⟩ := hc i h h'
    exact ⟨cap, h1, h2.low hb⟩
theorem PRow.shape {w : World} {base : Nat} {v : Value} {hs : List Nat} {N : Nat} {l : List (List Int)} (h : PRow w base v hs N l) : ∃ g cap, v = .slice (some ⟨g, 0, none⟩) N cap ∧ N ≤ cap ∧ base ≤ g ∧ g < w.heap.size := by
  obtain ⟨cs, row, _⟩ := h.row
  rcases row.2 with ⟨hv, hn⟩ | ⟨g, cap, cur, hv, hb, hg, hnc, _⟩
  · exact absurd hv h.nz
  · exact ⟨g, cap, hv, hnc, hb, (Array.getElem?_eq_some_iff.1 hg).1⟩
theorem PRow.cells {w : World} {base g N cap : Nat} {hs : List Nat} {l : List (List Int)} (h : PRow w base (.slice (some ⟨g, 0, none⟩) N cap) hs N l) {j : Nat} (hj : j < N) : (∃ u, w.cell? ⟨g, j, none⟩ = some u) ∧ w.frozen? ⟨g, j, none⟩ = false := by
  obtain ⟨cs, row, _⟩ := h.row
  refine ⟨?_, row.frozenAt j⟩
  have hl : j < cs.length := by rw [row.1]; omega
  exact ⟨cs[j], by rw [row.cellAt j (by omega), List.getElem?_eq_getElem hl]⟩
theorem PRow.ints {w : World} {base g N cap : Nat} {hs : List Nat} {l : List (List Int)} (h : PRow w base (.slice (some ⟨g, 0, none⟩) N cap) hs N l) : IntsS w (some ⟨g, 0, none⟩) l := by
  obtain ⟨nz, ⟨cs, row, hc⟩, len, le, apart, off, low⟩ := h
  refine .inr ⟨g, 0, rfl, fun i hi => ?_⟩
  obtain ⟨c, h1, h2⟩ := hc i hi (by omega)
  obtain ⟨g', c', e, _, _, _, h3, _⟩ := h2.shape
  cases e
  exact ⟨_, c, by rw [Nat.zero_add, row.cellAt i (by omega)]; exact h1, h3⟩
theorem PRow.put {w : World} {base g N cap : Nat} {hs : List Nat} {l : List (List Int)} (h : PRow w base (.slice (some ⟨g, 0, none⟩) N cap) hs N l) (hN : l.length < N) (x : List Int) (q c : Nat) (hq : base ≤ q) (hql : q < w.heap.size) (hqn : q ∉ hs) (hqg : q ≠ g)
    (ho : OwnN w base (.slice (some ⟨q, 0, none⟩) x.length c) x) :
    PRow (w.setCell ⟨g, l.length, none⟩ (.slice (some ⟨q, 0, none⟩) x.length c)) base (.slice (some ⟨g, 0, none⟩) N cap) (hs ++ [q]) N (l ++ [x]) := by
  obtain ⟨nz, ⟨cs, row, hc⟩, len, le, apart, off, low⟩ := h
  have r1 := (row.stored l.length (.slice (some ⟨q, 0, none⟩) x.length c)).1
  have hcl : cs.length = N := by rw [row.1]; omega
  have other : ∀ b, b ≠ g → (w.setCell ⟨g, l.length, none⟩ (.slice (some ⟨q, 0, none⟩) x.length c)).heap[b]? = w.heap[b]? := fun b hb => by
    rw [Below.heap_setCell _ _ _ _ hb]
  have hne : ∀ h ∈ hs, h ≠ g := fun h hh e => off h hh (by rw [e]; rfl)
  refine ⟨nz, ⟨_, r1, fun i hi1 hi2 => ?_⟩, by simp [len], by simp; omega, ?_, fun h hh => ?_, fun h hh => ?_⟩
  · simp only [List.length_append, List.length_singleton] at hi1 hi2
    rw [List.getElem?_set]
    by_cases e : i < l.length
    · obtain ⟨cp, h1, h2⟩ := hc i e (by omega)
      rw [if_neg (by omega), List.getElem_append_left (by omega)]
      simp only [List.getElem_append_left e]
      refine ⟨cp, h1, h2.kept (fun b _ _ hb => other b ?_)⟩
      simp [Value.ownBlock] at hb
      rw [← hb]; exact hne _ (List.getElem_mem (by omega))
    · have e' : i = l.length := by omega
      subst e'
      rw [if_pos rfl, if_pos (by omega), List.getElem_append_right (by omega)]
      simp only [List.getElem_append_right (Nat.le_refl _), len, Nat.sub_self, List.getElem_cons_zero]
      refine ⟨c, rfl, ho.kept (fun b _ _ hb => other b ?_)⟩
      simp [Value.ownBlock] at hb
      rw [← hb]; exact hqg
  · rw [List.nodup_append]
    exact ⟨apart, by simp, fun a ha b hb e => hqn (by simp at hb; rw [← hb, ← e]; exact ha)⟩
  · rcases List.mem_append.1 hh with hh | hh
    · exact off h hh
    · simp at hh; rw [hh]; intro e; exact hqg (Option.some.inj e).symm
  · have hz : (w.setCell ⟨g, l.length, none⟩ (.slice (some ⟨q, 0, none⟩) x.length c)).heap.size = w.heap.size := by simp [World.setCell]
    rw [hz]
    rcases List.mem_append.1 hh with hh | hh
    · exact low h hh
    · simp at hh; rw [hh]; exact ⟨hq, hql⟩

theorem ints_info : (Try.prog.info? 29).map (fun i => (i.zero, i.size, i.bytes)) = some (some (.slice none 0 0), 1, 24) := by kernel_rfl
def zerosI (n : Nat) : Obj := .cells (madeCells #[.slice none 0 0] n) 29
theorem make_rows (n : Nat) (hn : n ≤ 1048576) (w : World) : (Instr.makeSlice 24 (.int .i64 (n : Int)) (.int .i64 (n : Int))).run Try.prog w = .ok (.slice (some ⟨w.heap.size, 0, none⟩) n n) (w.alloc (zerosI n)) := by
  obtain ⟨i, hi, hz⟩ := Option.map_eq_some_iff.1 ints_info
  simp only [Prod.mk.injEq] at hz
  obtain ⟨hz, hs, hb⟩ := hz
  have hr := run_make (P := Try.prog) w 24 29 i _ Try.underlying24 hi hz .i64 .i64 n n (by omega) (Int.le_refl _) (by rw [hb]; omega) (by omega)
  simp only [Int.toNat_natCast, hs, Nat.mul_one] at hr
  exact hr
theorem PRow.made (w : World) (n : Nat) (hn : n ≤ 1048576) : PRow (w.alloc (zerosI n)) w.heap.size (.slice (some ⟨w.heap.size, 0, none⟩) n n) [] n [] :=
  ⟨(fun e => by simp at e), ⟨_, World.ownsRow_lit w (madeCells #[.slice none 0 0] n) n (Nat.le_refl _) (by unfold maxLen; omega) (by rw [size_madeCells]; omega), fun i h => absurd h (Nat.not_lt_zero _)⟩, rfl, Nat.zero_le _, List.nodup_nil, (fun h hh => by cases hh), (fun h hh => by cases hh)⟩

/-- None of the rows is too long. -/
def ShortI (l : List (List Int)) : Prop := ∀ x ∈ l, x.length ≤ 1048576

set_option maxHeartbeats 1000000 in
theorem toIntSS_any (a : Option Addr) (cap : Nat) (l : List (List Int)) (w : World) (hl : IntsS w a l) (hs : ShortI l) (hn : l.length ≤ 1048576) :
    Calls Try.prog 93 #[.slice a l.length cap] w fun r w' => ∃ v hs, r = .returned v ∧ PRow w' w.heap.size v hs l.length l ∧ Grew w w' := by
  have hmk := make_rows l.length hn
  go_enter Try.func93, Try.ntmps93
  go_wp2_with fail
  clear hmk
  go_loopw [4] (fun i wr => ∃ (k : Nat) (hs : List Nat), k ≤ l.length ∧ i = .int .i64 k ∧ Hid (PRow wr w.heap.size (.slice (some ⟨w.heap.size, 0, none⟩) l.length l.length) hs l.length (l.take k)) ∧ Grew w wr) (fun i _ => l.length - (intOf i).toNat)
  case atStart => exact ⟨0, [], Nat.zero_le _, rfl, PRow.made w l.length hn, (Grew.refl _).alloc _⟩
  case round =>
    obtain ⟨k, hh, hk, rfl, hp, hg⟩ := hrel
    by_cases hlt : k < l.length
    · obtain ⟨b, off, a1, cap1, rfl, c1, hi⟩ := (hl.grew hg).at hlt
      have hs1 := hs l[k] (List.getElem_mem hlt)
      have hsz := hg.size
      go_wp2_with fail
      refine (toIntS_any _ _ l[k] _ hi hs1).mono ?_
      rintro r w1 ⟨vq, rfl, qo, g1⟩
      obtain ⟨q, cq, rfl, _, hq1, hq2, _, _⟩ := qo.shape
      have hp1 := hide ((unhide hp).grew g1)
      have hlk : (l.take k).length = k := by simp; omega
      obtain ⟨⟨v0, d0⟩, z0⟩ := (unhide hp1).cells (j := k) (by omega)
      have hlow := fun h hm => ((unhide hp).low h hm).2
      have hg0 : w.heap.size < wr.heap.size := by obtain ⟨g, c, e, _, _, h⟩ := (unhide hp).shape; simp at e; omega
      have hput := hide ((unhide hp1).put (by omega) l[k] q cq (by omega) hq2 (fun hm => by have := hlow q hm; omega) (by omega) (qo.low (by omega)))
      rw [hlk, ← List.take_succ_eq_append_getElem hlt] at hput
      have G1 := hg.trans g1
      clear hp hlow hlk qo hi
      go_wp2
      go_roundw
      case rel => exact ⟨k + 1, hh ++ [q], by omega, by go_num, hput, G1.setCell (p := ⟨w.heap.size, k, none⟩) (Nat.le_refl _) _⟩
      case measure => simp [intOf]; omega
    · have hkl : k = l.length := by omega
      have hp' : Hid (PRow wr w.heap.size (.slice (some ⟨w.heap.size, 0, none⟩) l.length l.length) hh l.length l) := by
        have := unhide hp
        rw [hkl, List.take_length] at this
        exact this
      have hle : (l.length : Int) ≤ (k : Int) := by omega
      clear hkl hp
      go_wp2
      go_ret
      exact ⟨_, hh, rfl, unhide hp', hg⟩

set_option maxHeartbeats 1000000 in
theorem eqIntSS_same (a b : Option Addr) (ca cb : Nat) (l : List (List Int)) (w : World) (hl : IntsS w a l) (hm : IntsS w b l) (hs : ShortI l) (hn : l.length ≤ 1048577) :
    Calls Try.prog 95 #[.slice a l.length ca, .slice b l.length cb] w fun r w' => r = .returned (.bool true) ∧ Grew w w' := by
  go_enter Try.func95, Try.ntmps95
  go_wp2_with fail
  go_loopw [5] (fun i wr => ∃ k : Nat, k ≤ l.length ∧ i = .int .i64 k ∧ Grew w wr) (fun i _ => l.length - (intOf i).toNat)
  case atStart => exact ⟨0, Nat.zero_le _, rfl, Grew.refl _⟩
  case round =>
    obtain ⟨k, hk, rfl, hg⟩ := hrel
    by_cases hlt : k < l.length
    · obtain ⟨b1, o1, a1, cap1, rfl, c1, i1⟩ := (hl.grew hg).at hlt
      obtain ⟨b2, o2, a2, cap2, rfl, d1, i2⟩ := (hm.grew hg).at hlt
      have e1 := Grew.gcell c1
      have f1 := Grew.gcell d1
      have s1 := hs l[k] (List.getElem_mem hlt)
      have hX : ∀ n os, Hid (Calls Try.prog 132 #[.slice a1 l[k].length cap1, .slice a2 l[k].length cap2] (far wr n os) fun r w' => r = .returned (.bool true) ∧ Grew (far wr n os) w') := fun n os => by
        have := eqIntS_any a1 a2 cap1 cap2 l[k] l[k] (far wr n os) (i1.grew ⟨_, _, rfl⟩) (i2.grew ⟨_, _, rfl⟩) s1 s1
        rw [show decide (l[k] = l[k]) = true by simp] at this
        exact this
      clear i1 i2
      go_wp2_with fail
      refine quietly (by kernel_rfl) (by kernel_rfl) ?_
      repeat (go_big_quiet_step (first | (go_at_call 132; exact Calls.far (unhide (hX _ _)))))
      refine wpQuiet_nil ?_
      intro _ hw'
      obtain ⟨⟨nq, osq⟩, hw''⟩ := hw'
      subst hw''
      go_wp2
      go_roundw
      case rel => exact ⟨k + 1, by omega, by go_num, hg.trans ⟨_, _, rfl⟩⟩
      case measure => simp [intOf]; omega
    · have hle : (l.length : Int) ≤ (k : Int) := by omega
      go_wp2
      go_ret
      exact ⟨rfl, hg⟩

set_option linter.unusedVariables false
open Go.RowKit
attribute [local simp] far_const

/-- A cert: a chain, and who voted. -/
structure Ct where
  c : List It
  b : List (List Int)
def totC (x : Ct) : Nat := x.c.length + (x.b.length + sumI x.b)
/-- A cert as a value. -/
def CtV (w : World) (v : Value) (x : Ct) : Prop := ∃ a cap b capb, v = .agg #[.slice a x.c.length cap, .slice b x.b.length capb] ∧ x.c.length ≤ cap ∧ Its w a x.c ∧ IntsS w b x.b
theorem CtV.grew {w w' : World} {v : Value} {x : Ct} (h : CtV w v x) (g : Grew w w') : CtV w' v x := by
  obtain ⟨a, cap, b, capb, h1, h2, h3, h4⟩ := h; exact ⟨a, cap, b, capb, h1, h2, h3.grew g, h4.grew g⟩
/-- The two cells of a cert. -/
def CtAt (w : World) (b : Nat) (u v : Value) : Prop := w.cell? ⟨b, 0, none⟩ = some u ∧ w.cell? ⟨b, 1, none⟩ = some v
theorem CtAt.grew {w w' : World} {b : Nat} {u v : Value} (h : CtAt w b u v) (g : Grew w w') : CtAt w' b u v := ⟨g.keep h.1, g.keep h.2⟩
theorem CtAt.box (w : World) (u v : Value) (t : TypeId) : CtAt (w.alloc (.cells #[u, v] t)) w.heap.size u v := by
  refine ⟨?_, ?_⟩ <;> simp [go_sem]

set_option maxHeartbeats 1000000 in
theorem szCert_any (x : Ct) (a : Option Addr) (cap : Nat) (b : Option Addr) (capb : Nat) (left : Int) (w : World) (hb : IntsS w b x.b) (h0 : 0 ≤ left) (h1 : left ≤ 1048576) (hc : x.c.length ≤ 9223372036854775807) (hn : x.b.length ≤ 9223372036854775807) (hx : ∀ y ∈ x.b, y.length ≤ 9223372036854775807) :
    Calls Try.prog 38 #[.agg #[.slice a x.c.length cap, .slice b x.b.length capb], .int .i64 left] w fun r w' => r = .returned (.int .i64 (szR left (totC x))) ∧ Grew w w' := by
  have hz := fun w => szItemS_any a cap x.c.length left w h0 h1 hc
  by_cases h : left < x.c.length
  · simp only [if_pos h] at hz
    have HZ := hide hz
    have hr : Hid (szR left (totC x) = -1) := szR_neg (by unfold totC; omega)
    clear hz
    go_enter Try.func38, Try.ntmps38
    go_wp2_with fail
    refine (unhide HZ _).mono ?_
    rintro r w1 ⟨rfl, rfl⟩
    go_wp2
    go_ret
    exact ⟨by rw [hr.out]; rfl, (Grew.refl _).alloc _⟩
  · simp only [if_neg h] at hz
    have HZ := hide hz
    have h' : ¬ left - (x.c.length : Int) < 0 := by omega
    clear hz
    have HY : Hid (∀ W, Grew w W → Calls Try.prog 91 #[.slice b x.b.length capb, .int .i64 (left - x.c.length)] W fun r w' => r = .returned (.int .i64 (szR (left - x.c.length) (x.b.length + sumI x.b))) ∧ Grew W w') :=
      hide (fun W g => szIntSS_any b capb x.b (left - x.c.length) W (hb.grew g) (by omega) (by omega) hn hx)
    clear hb hx
    by_cases h2 : left - x.c.length < ((x.b.length + sumI x.b : Nat) : Int)
    · have hr : Hid (szR left (totC x) = -1) := szR_neg (by unfold totC; omega)
      rw [szR_neg h2] at HY
      go_enter Try.func38, Try.ntmps38
      go_wp2_with fail
      refine (unhide HZ _).mono ?_
      rintro r w1 ⟨rfl, rfl⟩
      go_wp2_with fail
      refine (unhide HY _ ((Grew.refl _).alloc _)).mono ?_
      rintro r w1 ⟨rfl, g1⟩
      go_wp2
      go_ret
      exact ⟨by rw [hr.out]; rfl, ((Grew.refl _).alloc _).trans g1⟩
    · have hr : Hid (szR left (totC x) = left - x.c.length - ((x.b.length + sumI x.b : Nat) : Int)) := by
        show szR left (totC x) = _
        rw [szR_pos (by unfold totC; omega)]; unfold totC; omega
      rw [szR_pos h2] at HY
      have h3 : ¬ left - x.c.length - ((x.b.length + sumI x.b : Nat) : Int) < 0 := by omega
      obtain ⟨R, hR⟩ : ∃ R : Int, R = left - x.c.length - ((x.b.length + sumI x.b : Nat) : Int) := ⟨_, rfl⟩
      rw [← hR] at HY h3
      have HR := hide hR
      clear hR h2
      go_enter Try.func38, Try.ntmps38
      go_wp2_with fail
      refine (unhide HZ _).mono ?_
      rintro r w1 ⟨rfl, rfl⟩
      go_wp2_with fail
      refine (unhide HY _ ((Grew.refl _).alloc _)).mono ?_
      rintro r w1 ⟨rfl, g1⟩
      go_wp2
      go_ret
      exact ⟨by rw [hr.out, ← HR.out]; rfl, ((Grew.refl _).alloc _).trans g1⟩

set_option maxHeartbeats 2000000 in
theorem toCert_any (x : Ct) (a : Option Addr) (cap : Nat) (b : Option Addr) (capb : Nat) (w : World) (hl : Its w a x.c) (hb : IntsS w b x.b) (hc : x.c.length ≤ 1048576) (hn : x.b.length ≤ 1048576) (hs : ShortI x.b) :
    Calls Try.prog 40 #[.agg #[.slice a x.c.length cap, .slice b x.b.length capb]] w fun r w' => ∃ q sv hh, r = .returned (.agg #[.slice (some ⟨q, 0, none⟩) x.c.length x.c.length, sv]) ∧ w.heap.size ≤ q ∧ q < w'.heap.size ∧ Its w' (some ⟨q, 0, none⟩) x.c ∧ Own w' q x.c.length ∧ PRow w' (q + 1) sv hh x.b.length x.b ∧ Grew w w' := by
  have HB := hide hb
  clear hb
  go_enter Try.func40, Try.ntmps40
  go_wp2_with fail
  refine (toItemS_any a cap x.c _ (hl.grew ((((Grew.refl w).alloc _).alloc _).alloc _)) hc).mono ?_
  rintro r w1 ⟨rfl, g1, i1, o1⟩
  have c20 := g1.keep (p := ⟨w.heap.size + 1 + 1, 0, none⟩) (v := .slice none 0 0) (by simp [go_sem])
  have c21 := g1.keep (p := ⟨w.heap.size + 1 + 1, 1, none⟩) (v := .slice none 0 0) (by simp [go_sem])
  have c10 := g1.keep (p := ⟨w.heap.size + 1, 0, none⟩) (v := .slice none 0 0) (by simp [go_sem])
  have c11 := g1.keep (p := ⟨w.heap.size + 1, 1, none⟩) (v := .slice none 0 0) (by simp [go_sem])
  have c01 := g1.keep (p := ⟨w.heap.size, 1, none⟩) (v := .slice b x.b.length capb) (by simp [go_sem])
  have z2 : ∀ i, w1.frozen? ⟨w.heap.size + 1 + 1, i, none⟩ = false := fun i => by
    rw [World.frozen?_of_block (g1.below.block (w.heap.size + 1 + 1) (by simp))]
    simp [go_sem]
  have z1 : ∀ i, w1.frozen? ⟨w.heap.size + 1, i, none⟩ = false := fun i => by
    rw [World.frozen?_of_block (g1.below.block (w.heap.size + 1) (by simp))]
    simp [go_sem]
  have z20 := z2 0
  have G1 := hide (((((Grew.refl w).alloc _).alloc _).alloc _).trans g1)
  have hlt := o1.lt
  simp only [World.size_alloc] at i1 o1 hlt ⊢
  obtain ⟨W, hW⟩ : ∃ W, W = w1.setCell ⟨w.heap.size + 1 + 1, 0, none⟩ (.slice (some ⟨w.heap.size + 1 + 1 + 1, 0, none⟩) x.c.length x.c.length) := ⟨_, rfl⟩
  have HW := hide hW
  have GW : Hid (Grew w W) := by rw [hW]; exact (unhide G1).setCell (p := ⟨w.heap.size + 1 + 1, 0, none⟩) (by show w.heap.size ≤ w.heap.size + 1 + 1; omega) _
  have hzW : W.heap.size = w1.heap.size := by rw [hW]; simp [World.setCell]
  have oth : ∀ k, k ≠ w.heap.size + 1 + 1 → W.heap[k]? = w1.heap[k]? := fun k hk => by rw [hW]; exact Below.heap_setCell _ _ _ _ hk
  have I1 := hide (i1.block (oth (w.heap.size + 1 + 1 + 1) (by omega)))
  have O1 := hide (o1.block (oth (w.heap.size + 1 + 1 + 1) (by omega)))
  have d20 : W.cell? ⟨w.heap.size + 1 + 1, 0, none⟩ = some (.slice (some ⟨w.heap.size + 1 + 1 + 1, 0, none⟩) x.c.length x.c.length) := by rw [hW]; simp [go_sem, c20]
  have d21 : W.cell? ⟨w.heap.size + 1 + 1, 1, none⟩ = some (.slice none 0 0) := by rw [hW]; simp [go_sem, c21]
  have d10 : W.cell? ⟨w.heap.size + 1, 0, none⟩ = some (.slice none 0 0) := by rw [World.cell?_of_block (w := w1) (oth _ (by show w.heap.size + 1 ≠ _; omega))]; exact c10
  have d11 : W.cell? ⟨w.heap.size + 1, 1, none⟩ = some (.slice none 0 0) := by rw [World.cell?_of_block (w := w1) (oth _ (by show w.heap.size + 1 ≠ _; omega))]; exact c11
  have y2 : ∀ i, W.frozen? ⟨w.heap.size + 1 + 1, i, none⟩ = false := fun i => by rw [hW]; simp [go_sem, z2]
  have y1 : ∀ i, W.frozen? ⟨w.heap.size + 1, i, none⟩ = false := fun i => by rw [World.frozen?_of_block (w := w1) (oth _ (by show w.heap.size + 1 ≠ _; omega))]; exact z1 i
  clear z1 z2 g1 i1 o1 oth c10 c11 hl
  go_wp2_with fail
  rw [← unhide HW]
  have c21 := d21
  refine (toIntSS_any b capb x.b _ ((unhide HB).grew (unhide GW)) hs hn).mono ?_
  rintro r w2 ⟨sv, hh, rfl, o2, g2⟩
  obtain ⟨gq, cq, rfl, _, _, _⟩ := o2.shape
  have e20 := g2.keep d20
  have e21 := g2.keep d21
  have e10 := g2.keep d10
  have e11 := g2.keep d11
  have lt2 : w.heap.size + 1 + 1 < W.heap.size := World.block_lt_of_cell? _ _ d20
  have x2 : ∀ i, w2.frozen? ⟨w.heap.size + 1 + 1, i, none⟩ = false := fun i => by
    rw [World.frozen?_of_block (g2.below.block (w.heap.size + 1 + 1) lt2)]; exact y2 i
  have x1 : ∀ i, w2.frozen? ⟨w.heap.size + 1, i, none⟩ = false := fun i => by
    rw [World.frozen?_of_block (g2.below.block (w.heap.size + 1) (by omega))]; exact y1 i
  have x21 := x2 1
  have x10 := x1 0
  have x11 := x1 1
  have G2 := hide ((unhide GW).trans g2)
  have I2 := hide ((unhide I1).grew g2)
  have O2 := hide ((unhide O1).grew g2)
  have P2 := hide (o2.lower (base' := w.heap.size + 1 + 1 + 1 + 1) (by omega))
  have hz2 := g2.size
  have hl2 : w.heap.size + 1 + 1 + 1 < w2.heap.size := by omega
  clear HW hW d20 d21 d10 d11 y1 y2 x1 x2 g2 o2 c20 c21 c01 z20 G1 I1 O1 GW
  go_wp2
  refine bodyPost_ret (by simp [results, Try.results40, go_sem, e10, e11]; try rfl) rfl ?_
  have hk : ∀ (u0 u1 u2 : Value) k, k ≠ w.heap.size + 1 → k ≠ w.heap.size + 1 + 1 → (((w2.setCell ⟨w.heap.size + 1 + 1, 1, none⟩ u0).setCell ⟨w.heap.size + 1, 0, none⟩ u1).setCell ⟨w.heap.size + 1, 1, none⟩ u2).heap[k]? = w2.heap[k]? := fun u0 u1 u2 k h1 h2 => by
    rw [Below.heap_setCell _ _ _ _ h1, Below.heap_setCell _ _ _ _ h1, Below.heap_setCell _ _ _ _ h2]
  refine ⟨w.heap.size + 1 + 1 + 1, _, hh, rfl, by omega, ?_, ?_, ?_, ?_, ?_⟩
  · simpa [World.setCell] using hl2
  · exact (unhide I2).block (hk _ _ _ _ (by omega) (by omega))
  · exact (unhide O2).block (hk _ _ _ _ (by omega) (by omega))
  · exact (unhide P2).kept (by simp [World.setCell]) (fun g h1 h2 => hk _ _ _ _ (by omega) (by omega))
  · exact (((unhide G2).setCell (p := ⟨w.heap.size + 1 + 1, 1, none⟩) (by show w.heap.size ≤ w.heap.size + 1 + 1; omega) _).setCell (p := ⟨w.heap.size + 1, 0, none⟩) (by show w.heap.size ≤ w.heap.size + 1; omega) _).setCell (p := ⟨w.heap.size + 1, 1, none⟩) (by show w.heap.size ≤ w.heap.size + 1; omega) _

set_option maxHeartbeats 1000000 in
theorem eqCert_same (x : Ct) (v u : Value) (w : World) (hv : CtV w v x) (hu : CtV w u x) (hc : x.c.length ≤ 1048576) (hn : x.b.length ≤ 1048577) (hs : ShortI x.b) :
    Calls Try.prog 42 #[v, u] w fun r w' => r = .returned (.bool true) ∧ Grew w w' := by
  obtain ⟨a, cap, b, capb, rfl, _, hl, hb⟩ := hv
  obtain ⟨a2, cap2, b2, capb2, rfl, _, hl2, hb2⟩ := hu
  have HX : Hid (∀ W, Grew w W → Calls Try.prog 94 #[.slice a x.c.length cap, .slice a2 x.c.length cap2] W fun r w' => r = .returned (.bool true) ∧ Grew W w') := hide (fun W g => by
    have := eqItemS_any a a2 cap cap2 x.c x.c W (hl.grew g) (hl2.grew g) hc hc
    rw [(sameB_iff _ _).2 rfl] at this
    exact this)
  have HY := hide (fun W (g : Grew w W) => eqIntSS_same b b2 capb capb2 x.b W (hb.grew g) (hb2.grew g) hs hn)
  clear hl hb hl2 hb2
  go_enter Try.func42, Try.ntmps42
  go_wp2_with fail
  refine (unhide HX _ (((Grew.refl _).alloc _).alloc _)).mono ?_
  rintro r w1 ⟨rfl, g1⟩
  have p1 := g1.keep (p := ⟨w.heap.size, 1, none⟩) (v := .slice b x.b.length capb) (by simp [go_sem])
  have q1 := g1.keep (p := ⟨w.heap.size + 1, 1, none⟩) (v := .slice b2 x.b.length capb2) (by simp [go_sem])
  have G1 := hide ((((Grew.refl w).alloc _).alloc _).trans g1)
  clear g1
  go_wp2_with fail
  refine (unhide HY _ (unhide G1)).mono ?_
  rintro r w2 ⟨rfl, g2⟩
  go_wp2
  go_ret
  exact ⟨rfl, (unhide G1).trans g2⟩

set_option linter.unusedVariables false
open Go.RowKit
attribute [local simp] far_const

/-- Rows of numbers that bear the marks from k on. -/
def marksS : Int → List (List Int) → List (List Int)
  | _, [] => []
  | k, x :: r => marksN k x.length :: marksS (k + x.length) r
theorem marksS_len : ∀ (l : List (List Int)) (k : Int), (marksS k l).length = l.length
  | [], k => rfl
  | x :: r, k => by simp [marksS, marksS_len r]
theorem marksS_get : ∀ (l : List (List Int)) (k : Int) (i : Nat) (h : i < l.length) (h' : i < (marksS k l).length), (marksS k l)[i] = marksN (k + sumI (l.take i)) l[i].length
  | [], k, i, h, _ => absurd h (Nat.not_lt_zero _)
  | x :: r, k, 0, h, _ => by simp [marksS, sumI]
  | x :: r, k, i + 1, h, h' => by
    have hi : i < r.length := by simpa using h
    have := marksS_get r (k + x.length) i hi (by rw [marksS_len]; exact hi)
    simp only [marksS, List.getElem_cons_succ, this, List.take_succ_cons]
    have e : sumI (x :: r.take i) = x.length + sumI (r.take i) := by simp [sumI]
    rw [e]
    congr 1
    omega
theorem PRow.setAt {w w' : World} {base N : Nat} {g cp : Nat} {hs : List Nat} {ls : List (List Int)} {k cap : Nat} {x : List Int} (h : PRow w base (.slice (some ⟨g, 0, none⟩) N cp) hs N ls) (hk : k < ls.length) (hk' : k < hs.length) (hx : x.length = ls[k].length)
    (hc : w.cell? ⟨g, k, none⟩ = some (.slice (some ⟨hs[k], 0, none⟩) ls[k].length cap)) (hw : Wrote (some ⟨hs[k], 0, none⟩) w w') (ho : OwnN w' base (.slice (some ⟨hs[k], 0, none⟩) x.length cap) x) : PRow w' base (.slice (some ⟨g, 0, none⟩) N cp) hs N (ls.set k x) := by
  obtain ⟨nz, ⟨vs, row, hcs⟩, len, le, apart, off, low⟩ := h
  have hkeep : ∀ b, b ≠ hs[k] → w'.heap[b]? = w.heap[b]? := fun b hb => hw.keep b (fun y hy => by cases hy; exact fun e => hb e.symm)
  rw [row.cellAt k (by omega)] at hc
  refine ⟨nz, ⟨vs, ownsRow_block row (fun b hb => hkeep b (fun e => off hs[k] (List.getElem_mem hk') (by rw [hb, e]))), fun i hi1 hi2 => ?_⟩, by simp [len], by rw [List.length_set]; exact le, apart, off, fun b hb => by rw [hw.size]; exact low b hb⟩
  rw [List.length_set] at hi1
  obtain ⟨c, h1, h2⟩ := hcs i hi1 hi2
  by_cases e : k = i
  · subst e
    rw [hc] at h1
    simp only [Option.some.injEq, Value.slice.injEq, true_and] at h1
    subst h1
    refine ⟨cap, ?_, ?_⟩
    · rw [List.getElem_set, if_pos rfl, hx]; exact hc
    · simp only [List.getElem_set, if_true]; exact ho
  · refine ⟨c, ?_, ?_⟩
    · rw [List.getElem_set, if_neg e]; exact h1
    · simp only [List.getElem_set, if_neg e]
      exact h2.kept (fun b _ _ hb => hkeep b (by simp [Value.ownBlock] at hb; rw [← hb]; exact nodup_ne apart hi2 hk' (fun h => e h.symm)))

/-- A cert that bears the marks from k on. -/
def marksCt (k : Int) (x : Ct) : Ct := ⟨marks k x.c.length, marksS (k + 4 * x.c.length) x.b⟩

/-- What CertOf answers: nothing at all, or a cert of its own. -/
def CAns (w : World) (base : Nat) (u v : Value) (x : Ct) : Prop := (u = .slice none 0 0 ∧ v = .slice none 0 0 ∧ x = ⟨[], []⟩) ∨ ∃ q hs, u = .slice (some ⟨q, 0, none⟩) x.c.length x.c.length ∧ base ≤ q ∧ q < w.heap.size ∧ Its w (some ⟨q, 0, none⟩) x.c ∧ Own w q x.c.length ∧ PRow w (q + 1) v hs x.b.length x.b
theorem CAns.ctV {w : World} {base : Nat} {u v : Value} {x : Ct} (h : CAns w base u v x) : CtV w (.agg #[u, v]) x := by
  rcases h with ⟨rfl, rfl, rfl⟩ | ⟨q, hs, rfl, _, _, hi, _, hp⟩
  · exact ⟨none, 0, none, 0, rfl, Nat.le_refl _, .inl rfl, .inl rfl⟩
  · obtain ⟨g, cp, rfl, _, _, _⟩ := hp.shape
    exact ⟨_, _, _, _, rfl, Nat.le_refl _, hi, hp.ints⟩
theorem CAns.kept {w w' : World} {base : Nat} {u v : Value} {x : Ct} (h : CAns w base u v x) (hz : w.heap.size ≤ w'.heap.size) (e : ∀ g, base ≤ g → g < w.heap.size → w'.heap[g]? = w.heap[g]?) : CAns w' base u v x := by
  rcases h with h | ⟨q, hs, h1, h2, h3, h4, h5, h6⟩
  · exact .inl h
  · exact .inr ⟨q, hs, h1, h2, Nat.lt_of_lt_of_le h3 hz, h4.block (e q h2 h3), h5.block (e q h2 h3), h6.kept hz (fun g hb hg => e g (by omega) hg)⟩
theorem CAns.grew {w w' : World} {base : Nat} {u v : Value} {x : Ct} (h : CAns w base u v x) (g : Grew w w') : CAns w' base u v x := h.kept g.size fun b _ hb => g.below.block b hb
end Go.Proofs.Ytjbnohepbmejkaa
