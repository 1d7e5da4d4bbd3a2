/-
  Rows of rows of numbers, and certs: counted, copied field by field, held against each other, marked.
-/
import Derived.Test.YteemihgakcmamaaVForms
import Derived.Test.YteemihgakcmamaaNumsA
namespace Go.Proofs.Yteemihgakcmamaa
set_option linter.unusedVariables false
open Go.RowKit
attribute [local simp] far_const

/-- Rows of numbers, one behind the other. -/
def IntsS (w : World) (a : Option Addr) (ls : List (List Int)) : Prop := ls = [] ∨ ∃ b off, a = some ⟨b, off, none⟩ ∧ ∀ i (h : i < ls.length), ∃ ai ci, w.cell? ⟨b, off + i, none⟩ = some (.slice ai ls[i].length ci) ∧ Ints w ai ls[i]
theorem IntsS.grew {w w' : World} {a : Option Addr} {ls : List (List Int)} (h : IntsS w a ls) (g : Grew w w') : IntsS w' a ls := by
  rcases h with h | ⟨b, off, ha, h⟩
  · exact .inl h
  · refine .inr ⟨b, off, ha, fun i hi => ?_⟩
    obtain ⟨ai, ci, h1, h2⟩ := h i hi
    exact ⟨ai, ci, g.keep h1, h2.grew g⟩
theorem IntsS.at {w : World} {a : Option Addr} {ls : List (List Int)} (h : IntsS w a ls) {i : Nat} (hi : i < ls.length) : ∃ b off ai ci, a = some ⟨b, off, none⟩ ∧ w.cell? ⟨b, off + i, none⟩ = some (.slice ai ls[i].length ci) ∧ Ints w ai ls[i] := by
  rcases h with h | ⟨b, off, ha, h⟩
  · subst h; exact absurd hi (Nat.not_lt_zero _)
  · obtain ⟨ai, ci, h1, h2⟩ := h i hi; exact ⟨b, off, ai, ci, ha, h1, h2⟩
def sumI (l : List (List Int)) : Nat := (l.map List.length).sum
theorem sumI_take {l : List (List Int)} {k : Nat} (hk : k < l.length) : sumI (l.take (k + 1)) = sumI (l.take k) + l[k].length := by
  unfold sumI; rw [List.take_succ_eq_append_getElem hk, List.map_append, List.sum_append]; simp
theorem sumI_le (l : List (List Int)) (k : Nat) : sumI (l.take k) ≤ sumI l := by
  unfold sumI
  conv => rhs; rw [← List.take_append_drop k l, List.map_append, List.sum_append]
  exact Nat.le_add_right _ _
theorem sumI_at {l : List (List Int)} {x : List Int} (h : x ∈ l) : x.length ≤ sumI l := by
  unfold sumI
  induction l with
  | nil => cases h
  | cons y r ih =>
    rcases List.mem_cons.1 h with e | e
    · subst e; simp
    · have := ih e; simp at this ⊢; omega

theorem szIntS_any (a : Option Addr) (cap n : Nat) (left : Int) (w : World) (h0 : 0 ≤ left) (h1 : left ≤ 1048576) (hn : n ≤ 9223372036854775807) :
    Calls Try.prog 122 #[.slice a n cap, .int .i64 left] w fun r w' => r = .returned (.int .i64 (szR left n)) ∧ w' = w := by
  by_cases h : left < n
  · rw [szR_neg h]
    have h' : left - (n : Int) < 0 := by omega
    go_enter Try.func122, Try.ntmps122
    go_wp2
    go_ret
    exact ⟨rfl, rfl⟩
  · rw [szR_pos h]
    have h' : ¬ left - (n : Int) < 0 := by omega
    go_enter Try.func122, Try.ntmps122
    go_wp2
    go_ret
    exact ⟨rfl, rfl⟩

set_option maxHeartbeats 1000000 in
theorem szIntSS_any (a : Option Addr) (cap : Nat) (l : List (List Int)) (left : Int) (w : World) (hl : IntsS w a l) (h0 : 0 ≤ left) (h1 : left ≤ 1048576) (hn : l.length ≤ 9223372036854775807) (hc : ∀ x ∈ l, x.length ≤ 9223372036854775807) :
    Calls Try.prog 69 #[.slice a l.length cap, .int .i64 left] w fun r w' => r = .returned (.int .i64 (szR left (l.length + sumI l))) ∧ Grew w w' := by
  by_cases h : left < l.length
  · have hx : Hid (szR left (l.length + sumI l) = -1) := szR_neg (by omega)
    have h' : left - (l.length : Int) < 0 := by omega
    clear h
    go_enter Try.func69, Try.ntmps69
    go_wp2
    go_ret
    exact ⟨by rw [hx.out]; rfl, Grew.refl _⟩
  · have h' : ¬ left - (l.length : Int) < 0 := by omega
    go_enter Try.func69, Try.ntmps69
    go_wp2_with fail
    go_loopw [1, 5] (fun lf i wr => ∃ k : Nat, k ≤ l.length ∧ i = .int .i64 k ∧ lf = .int .i64 (left - l.length - sumI (l.take k)) ∧ 0 ≤ left - l.length - sumI (l.take k) ∧ Grew w wr) (fun _ i _ => l.length - (intOf i).toNat)
    case atStart => exact ⟨0, Nat.zero_le _, rfl, by simp [sumI], by simp [sumI]; omega, Grew.refl _⟩
    case round =>
      obtain ⟨k, hk, rfl, rfl, hlow, hg⟩ := hrel
      by_cases hlt : k < l.length
      · obtain ⟨b, off, a1, cap1, rfl, c1, hi⟩ := (hl.grew hg).at hlt
        have hsn := hide (sumI_take hlt)
        have hle := hide (sumI_le l (k + 1))
        have hck := hc l[k] (List.getElem_mem hlt)
        clear hi
        go_wp2_with fail
        refine (szIntS_any _ _ l[k].length _ _ hlow (by omega) hck).mono ?_
        rintro r w1 ⟨rfl, rfl⟩
        by_cases hs : left - l.length - sumI (l.take k) < l[k].length
        · rw [szR_neg hs]
          have hx : Hid (szR left (l.length + sumI l) = -1) := szR_neg (by have := unhide hsn; have := unhide hle; omega)
          go_wp2
          go_ret
          exact ⟨by rw [hx.out]; rfl, hg⟩
        · rw [szR_pos hs]
          have hnn : ¬ left - l.length - sumI (l.take k) - l[k].length < 0 := by omega
          have hnx : Hid (left - l.length - sumI (l.take k) - l[k].length = left - l.length - sumI (l.take (k + 1))) := by
            show left - l.length - sumI (l.take k) - l[k].length = left - l.length - sumI (l.take (k + 1))
            have := unhide hsn; omega
          go_wp2
          go_roundw
          case rel => exact ⟨k + 1, by omega, by go_num, by rw [hnx.out], by have := hnx.out; omega, hg⟩
          case measure => simp [intOf]; omega
      · have hle : (l.length : Int) ≤ (k : Int) := by omega
        have hx : Hid (left - l.length - sumI (l.take k) = szR left (l.length + sumI l)) := by
          show left - l.length - sumI (l.take k) = szR left (l.length + sumI l)
          rw [List.take_of_length_le (by omega)] at hlow ⊢
          rw [szR_pos (by omega)]
          omega
        go_wp2
        go_ret
        exact ⟨by rw [← hx.out]; rfl, hg⟩

/-- A row of N rows of numbers, the first of which are ls, each in a block of its own (hs). -/
structure PRow (w : World) (base : Nat) (v : Value) (hs : List Nat) (N : Nat) (ls : List (List Int)) : Prop where
  nz : v ≠ .slice none 0 0
  row : ∃ vs, w.ownsRow base 47 1 v N vs ∧ ∀ i (h : i < ls.length) (h' : i < hs.length), ∃ cap, vs[i]? = some (.slice (some ⟨hs[i], 0, none⟩) ls[i].length cap) ∧ OwnN w base (.slice (some ⟨hs[i], 0, none⟩) ls[i].length cap) ls[i]
  len : hs.length = ls.length
  le : ls.length ≤ N
  apart : hs.Nodup
  off : ∀ h ∈ hs, v.ownBlock ≠ some h
  low : ∀ h ∈ hs, base ≤ h ∧ h < w.heap.size
theorem PRow.kept {w w' : World} {base : Nat} {v : Value} {hs : List Nat} {N : Nat} {l : List (List Int)} (h : PRow w base v hs N l) (hz : w.heap.size ≤ w'.heap.size) (e : ∀ g, base ≤ g → g < w.heap.size → w'.heap[g]? = w.heap[g]?) : PRow w' base v hs N l := by
  obtain ⟨nz, ⟨vs, row, hc⟩, len, le, apart, off, low⟩ := h
  refine ⟨nz, ⟨vs, ownsRow_block row (fun g hg => by obtain ⟨h1, h2⟩ := row.lt g hg; exact e g h1 h2), fun i h h' => ?_⟩, len, le, apart, off, fun h hh => ⟨(low h hh).1, Nat.lt_of_lt_of_le (low h hh).2 hz⟩⟩
  obtain ⟨cap, h1, h2⟩ := hc i h h'
  exact ⟨cap, h1, h2.kept (fun g hb hg _ => e g hb hg)⟩
theorem PRow.grew {w w' : World} {base : Nat} {v : Value} {hs : List Nat} {N : Nat} {l : List (List Int)} (h : PRow w base v hs N l) (g : Grew w w') : PRow w' base v hs N l := h.kept g.size fun b _ hb => g.below.block b hb
theorem PRow.lower {w : World} {base base' : Nat} {v : Value} {hs : List Nat} {N : Nat} {l : List (List Int)} (h : PRow w base v hs N l) (hb : base' ≤ base) : PRow w base' v hs N l := by
  obtain ⟨nz, ⟨vs, row, hc⟩, len, le, apart, off, low⟩ := h
  refine ⟨nz, ⟨vs, ⟨row.1, ?_⟩, fun i h h' => ?_⟩, len, le, apart, off, fun h hh => ⟨Nat.le_trans hb (low h hh).1, (low h hh).2⟩⟩
  · rcases row.2 with h0 | ⟨g, cap, cur, hv, hb', hr⟩
    · exact .inl h0
    · exact .inr ⟨g, cap, cur, hv, Nat.le_trans hb hb', hr⟩
  · obtain ⟨cap, h1, h2⟩ := hc i h h'
    exact ⟨cap, h1, h2.low hb⟩
theorem PRow.shape {w : World} {base : Nat} {v : Value} {hs : List Nat} {N : Nat} {l : List (List Int)} (h : PRow w base v hs N l) : ∃ g cap, v = .slice (some ⟨g, 0, none⟩) N cap ∧ N ≤ cap ∧ base ≤ g ∧ g < w.heap.size := by
  obtain ⟨cs, row, _⟩ := h.row
  rcases row.2 with ⟨hv, hn⟩ | ⟨g, cap, cur, hv, hb, hg, hnc, _⟩
  · exact absurd hv h.nz
  · exact ⟨g, cap, hv, hnc, hb, (Array.getElem?_eq_some_iff.1 hg).1⟩
theorem PRow.cells {w : World} {base g N cap : Nat} {hs : List Nat} {l : List (List Int)} (h : PRow w base (.slice (some ⟨g, 0, none⟩) N cap) hs N l) {j : Nat} (hj : j < N) : (∃ u, w.cell? ⟨g, j, none⟩ = some u) ∧ w.frozen? ⟨g, j, none⟩ = false := by
  obtain ⟨cs, row, _⟩ := h.row
  refine ⟨?_, row.frozenAt j⟩
  have hl : j < cs.length := by rw [row.1]; omega
  exact ⟨cs[j], by rw [row.cellAt j (by omega), List.getElem?_eq_getElem hl]⟩
theorem PRow.ints {w : World} {base g N cap : Nat} {hs : List Nat} {l : List (List Int)} (h : PRow w base (.slice (some ⟨g, 0, none⟩) N cap) hs N l) : IntsS w (some ⟨g, 0, none⟩) l := by
  obtain ⟨nz, ⟨cs, row, hc⟩, len, le, apart, off, low⟩ := h
  refine .inr ⟨g, 0, rfl, fun i hi => ?_⟩
  obtain ⟨c, h1, h2⟩ := hc i hi (by omega)
  obtain ⟨g', c', e, _, _, _, h3, _⟩ := h2.shape
  cases e
  exact ⟨_, c, by rw [Nat.zero_add, row.cellAt i (by omega)]; exact h1, h3⟩
theorem PRow.put {w : World} {base g N cap : Nat} {hs : List Nat} {l : List (List Int)} (h : PRow w base (.slice (some ⟨g, 0, none⟩) N cap) hs N l) (hN : l.length < N) (x : List Int) (q c : Nat) (hq : base ≤ q) (hql : q < w.heap.size) (hqn : q ∉ hs) (hqg : q ≠ g)
    (ho : OwnN w base (.slice (some ⟨q, 0, none⟩) x.length c) x) :
    PRow (w.setCell ⟨g, l.length, none⟩ (.slice (some ⟨q, 0, none⟩) x.length c)) base (.slice (some ⟨g, 0, none⟩) N cap) (hs ++ [q]) N (l ++ [x]) := by
  obtain ⟨nz, ⟨cs, row, hc⟩, len, le, apart, off, low⟩ := h
  have r1 := (row.stored l.length (.slice (some ⟨q, 0, none⟩) x.length c)).1
  have hcl : cs.length = N := by rw [row.1]; omega
  have other : ∀ b, b ≠ g → (w.setCell ⟨g, l.length, none⟩ (.slice (some ⟨q, 0, none⟩) x.length c)).heap[b]? = w.heap[b]? := fun b hb => by
    rw [Below.heap_setCell _ _ _ _ hb]
  have hne : ∀ h ∈ hs, h ≠ g := fun h hh e => off h hh (by rw [e]; rfl)
  refine ⟨nz, ⟨_, r1, fun i hi1 hi2 => ?_⟩, by simp [len], by simp; omega, ?_, fun h hh => ?_, fun h hh => ?_⟩
  · simp only [List.length_append, List.length_singleton] at hi1 hi2
    rw [List.getElem?_set]
    by_cases e : i < l.length
    · obtain ⟨cp, h1, h2⟩ := hc i e (by omega)
      rw [if_neg (by omega), List.getElem_append_left (by omega)]
      simp only [List.getElem_append_left e]
      refine ⟨cp, h1, h2.kept (fun b _ _ hb => other b ?_)⟩
      simp [Value.ownBlock] at hb
      rw [← hb]; exact hne _ (List.getElem_mem (by omega))
    · have e' : i = l.length := by omega
      subst e'
      rw [if_pos rfl, if_pos (by omega), List.getElem_append_right (by omega)]
      simp only [List.getElem_append_right (Nat.le_refl _), len, Nat.sub_self, List.getElem_cons_zero]
      refine ⟨c, rfl, ho.kept (fun b _ _ hb => other b ?_)⟩
      simp [Value.ownBlock] at hb
      rw [← hb]; exact hqg
  · rw [List.nodup_append]
    exact ⟨apart, by simp, fun a ha b hb e => hqn (by simp at hb; rw [← hb, ← e]; exact ha)⟩
  · rcases List.mem_append.1 hh with hh | hh
    · exact off h hh
    · simp at hh; rw [hh]; intro e; exact hqg (Option.some.inj e).symm
  · have hz : (w.setCell ⟨g, l.length, none⟩ (.slice (some ⟨q, 0, none⟩) x.length c)).heap.size = w.heap.size := by simp [World.setCell]
    rw [hz]
    rcases List.mem_append.1 hh with hh | hh
    · exact low h hh
    · simp at hh; rw [hh]; exact ⟨hq, hql⟩

theorem ints_info : (Try.prog.info? 47).map (fun i => (i.zero, i.size, i.bytes)) = some (some (.slice none 0 0), 1, 24) := by kernel_rfl
def zerosI (n : Nat) : Obj := .cells (madeCells #[.slice none 0 0] n) 47
theorem make_rows (n : Nat) (hn : n ≤ 1048576) (w : World) : (Instr.makeSlice 23 (.int .i64 (n : Int)) (.int .i64 (n : Int))).run Try.prog w = .ok (.slice (some ⟨w.heap.size, 0, none⟩) n n) (w.alloc (zerosI n)) := by
  obtain ⟨i, hi, hz⟩ := Option.map_eq_some_iff.1 ints_info
  simp only [Prod.mk.injEq] at hz
  obtain ⟨hz, hs, hb⟩ := hz
  have hr := run_make (P := Try.prog) w 23 47 i _ Try.underlying23 hi hz .i64 .i64 n n (by omega) (Int.le_refl _) (by rw [hb]; omega) (by omega)
  simp only [Int.toNat_natCast, hs, Nat.mul_one] at hr
  exact hr
theorem PRow.made (w : World) (n : Nat) (hn : n ≤ 1048576) : PRow (w.alloc (zerosI n)) w.heap.size (.slice (some ⟨w.heap.size, 0, none⟩) n n) [] n [] :=
  ⟨(fun e => by simp at e), ⟨_, World.ownsRow_lit w (madeCells #[.slice none 0 0] n) n (Nat.le_refl _) (by unfold maxLen; omega) (by rw [size_madeCells]; omega), fun i h => absurd h (Nat.not_lt_zero _)⟩, rfl, Nat.zero_le _, List.nodup_nil, (fun h hh => by cases hh), (fun h hh => by cases hh)⟩

/-- None of the rows is too long. -/
def ShortI (l : List (List Int)) : Prop := ∀ x ∈ l, x.length ≤ 1048576

set_option maxHeartbeats 1000000 in
theorem toIntSS_any (a : Option Addr) (cap : Nat) (l : List (List Int)) (w : World) (hl : IntsS w a l) (hs : ShortI l) (hn : l.length ≤ 1048576) :
    Calls Try.prog 72 #[.slice a l.length cap] w fun r w' => ∃ v hs, r = .returned v ∧ PRow w' w.heap.size v hs l.length l ∧ Grew w w' := by
  have hmk := make_rows l.length hn
  go_enter Try.func72, Try.ntmps72
  go_wp2_with fail
  clear hmk
  go_loopw [4] (fun i wr => ∃ (k : Nat) (hs : List Nat), k ≤ l.length ∧ i = .int .i64 k ∧ Hid (PRow wr w.heap.size (.slice (some ⟨w.heap.size, 0, none⟩) l.length l.length) hs l.length (l.take k)) ∧ Grew w wr) (fun i _ => l.length - (intOf i).toNat)
  case atStart => exact ⟨0, [], Nat.zero_le _, rfl, PRow.made w l.length hn, (Grew.refl _).alloc _⟩
  case round =>
    obtain ⟨k, hh, hk, rfl, hp, hg⟩ := hrel
    by_cases hlt : k < l.length
    · obtain ⟨b, off, a1, cap1, rfl, c1, hi⟩ := (hl.grew hg).at hlt
      have hs1 := hs l[k] (List.getElem_mem hlt)
      have hsz := hg.size
      go_wp2_with fail
      refine (toIntS_any _ _ l[k] _ hi hs1).mono ?_
      rintro r w1 ⟨vq, rfl, qo, g1⟩
      obtain ⟨q, cq, rfl, _, hq1, hq2, _, _⟩ := qo.shape
      have hp1 := hide ((unhide hp).grew g1)
      have hlk : (l.take k).length = k := by simp; omega
      obtain ⟨⟨v0, d0⟩, z0⟩ := (unhide hp1).cells (j := k) (by omega)
      have hlow := fun h hm => ((unhide hp).low h hm).2
      have hg0 : w.heap.size < wr.heap.size := by obtain ⟨g, c, e, _, _, h⟩ := (unhide hp).shape; simp at e; omega
      have hput := hide ((unhide hp1).put (by omega) l[k] q cq (by omega) hq2 (fun hm => by have := hlow q hm; omega) (by omega) (qo.low (by omega)))
      rw [hlk, ← List.take_succ_eq_append_getElem hlt] at hput
      have G1 := hg.trans g1
      clear hp hlow hlk qo hi
      go_wp2
      go_roundw
      case rel => exact ⟨k + 1, hh ++ [q], by omega, by go_num, hput, G1.setCell (p := ⟨w.heap.size, k, none⟩) (Nat.le_refl _) _⟩
      case measure => simp [intOf]; omega
    · have hkl : k = l.length := by omega
      have hp' : Hid (PRow wr w.heap.size (.slice (some ⟨w.heap.size, 0, none⟩) l.length l.length) hh l.length l) := by
        have := unhide hp
        rw [hkl, List.take_length] at this
        exact this
      have hle : (l.length : Int) ≤ (k : Int) := by omega
      clear hkl hp
      go_wp2
      go_ret
      exact ⟨_, hh, rfl, unhide hp', hg⟩

set_option maxHeartbeats 1000000 in
theorem eqIntSS_same (a b : Option Addr) (ca cb : Nat) (l : List (List Int)) (w : World) (hl : IntsS w a l) (hm : IntsS w b l) (hs : ShortI l) (hn : l.length ≤ 1048577) :
    Calls Try.prog 77 #[.slice a l.length ca, .slice b l.length cb] w fun r w' => r = .returned (.bool true) ∧ Grew w w' := by
  go_enter Try.func77, Try.ntmps77
  go_wp2_with fail
  go_loopw [5] (fun i wr => ∃ k : Nat, k ≤ l.length ∧ i = .int .i64 k ∧ Grew w wr) (fun i _ => l.length - (intOf i).toNat)
  case atStart => exact ⟨0, Nat.zero_le _, rfl, Grew.refl _⟩
  case round =>
    obtain ⟨k, hk, rfl, hg⟩ := hrel
    by_cases hlt : k < l.length
    · obtain ⟨b1, o1, a1, cap1, rfl, c1, i1⟩ := (hl.grew hg).at hlt
      obtain ⟨b2, o2, a2, cap2, rfl, d1, i2⟩ := (hm.grew hg).at hlt
      have e1 := Grew.gcell c1
      have f1 := Grew.gcell d1
      have s1 := hs l[k] (List.getElem_mem hlt)
      have hX : ∀ n os, Hid (Calls Try.prog 126 #[.slice a1 l[k].length cap1, .slice a2 l[k].length cap2] (far wr n os) fun r w' => r = .returned (.bool true) ∧ Grew (far wr n os) w') := fun n os => by
        have := eqIntS_any a1 a2 cap1 cap2 l[k] l[k] (far wr n os) (i1.grew ⟨_, _, rfl⟩) (i2.grew ⟨_, _, rfl⟩) s1 s1
        rw [show decide (l[k] = l[k]) = true by simp] at this
        exact this
      clear i1 i2
      go_wp2_with fail
      refine quietly (by kernel_rfl) (by kernel_rfl) ?_
      repeat (go_big_quiet_step (first | (go_at_call 126; exact Calls.far (unhide (hX _ _)))))
      refine wpQuiet_nil ?_
      intro _ hw'
      obtain ⟨⟨nq, osq⟩, hw''⟩ := hw'
      subst hw''
      go_wp2
      go_roundw
      case rel => exact ⟨k + 1, by omega, by go_num, hg.trans ⟨_, _, rfl⟩⟩
      case measure => simp [intOf]; omega
    · have hle : (l.length : Int) ≤ (k : Int) := by omega
      go_wp2
      go_ret
      exact ⟨rfl, hg⟩
end Go.Proofs.Yteemihgakcmamaa
