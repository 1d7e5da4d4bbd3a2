/-
  Certs that are marked, and held against their marks; rows of numbers appended to a row of rows.
-/
import Derived.Test.YteemihgakcmamaaCer2
namespace Go.Proofs.Yteemihgakcmamaa
set_option linter.unusedVariables false
open Go.RowKit
attribute [local simp] far_const

/-- Rows of numbers that bear the marks from k on. -/
def marksS : Int → List (List Int) → List (List Int)
  | _, [] => []
  | k, x :: r => marksN k x.length :: marksS (k + x.length) r
theorem marksS_len : ∀ (l : List (List Int)) (k : Int), (marksS k l).length = l.length
  | [], k => rfl
  | x :: r, k => by simp [marksS, marksS_len r]
theorem marksS_get : ∀ (l : List (List Int)) (k : Int) (i : Nat) (h : i < l.length) (h' : i < (marksS k l).length), (marksS k l)[i] = marksN (k + sumI (l.take i)) l[i].length
  | [], k, i, h, _ => absurd h (Nat.not_lt_zero _)
  | x :: r, k, 0, h, _ => by simp [marksS, sumI]
  | x :: r, k, i + 1, h, h' => by
    have hi : i < r.length := by simpa using h
    have := marksS_get r (k + x.length) i hi (by rw [marksS_len]; exact hi)
    simp only [marksS, List.getElem_cons_succ, this, List.take_succ_cons]
    have e : sumI (x :: r.take i) = x.length + sumI (r.take i) := by simp [sumI]
    rw [e]
    congr 1
    omega
theorem PRow.setAt {w w' : World} {base N : Nat} {g cp : Nat} {hs : List Nat} {ls : List (List Int)} {k cap : Nat} {x : List Int} (h : PRow w base (.slice (some ⟨g, 0, none⟩) N cp) hs N ls) (hk : k < ls.length) (hk' : k < hs.length) (hx : x.length = ls[k].length)
    (hc : w.cell? ⟨g, k, none⟩ = some (.slice (some ⟨hs[k], 0, none⟩) ls[k].length cap)) (hw : Wrote (some ⟨hs[k], 0, none⟩) w w') (ho : OwnN w' base (.slice (some ⟨hs[k], 0, none⟩) x.length cap) x) : PRow w' base (.slice (some ⟨g, 0, none⟩) N cp) hs N (ls.set k x) := by
  obtain ⟨nz, ⟨vs, row, hcs⟩, len, le, apart, off, low⟩ := h
  have hkeep : ∀ b, b ≠ hs[k] → w'.heap[b]? = w.heap[b]? := fun b hb => hw.keep b (fun y hy => by cases hy; exact fun e => hb e.symm)
  rw [row.cellAt k (by omega)] at hc
  refine ⟨nz, ⟨vs, ownsRow_block row (fun b hb => hkeep b (fun e => off hs[k] (List.getElem_mem hk') (by rw [hb, e]))), fun i hi1 hi2 => ?_⟩, by simp [len], by rw [List.length_set]; exact le, apart, off, fun b hb => by rw [hw.size]; exact low b hb⟩
  rw [List.length_set] at hi1
  obtain ⟨c, h1, h2⟩ := hcs i hi1 hi2
  by_cases e : k = i
  · subst e
    rw [hc] at h1
    simp only [Option.some.injEq, Value.slice.injEq, true_and] at h1
    subst h1
    refine ⟨cap, ?_, ?_⟩
    · rw [List.getElem_set, if_pos rfl, hx]; exact hc
    · simp only [List.getElem_set, if_true]; exact ho
  · refine ⟨c, ?_, ?_⟩
    · rw [List.getElem_set, if_neg e]; exact h1
    · simp only [List.getElem_set, if_neg e]
      exact h2.kept (fun b _ _ hb => hkeep b (by simp [Value.ownBlock] at hb; rw [← hb]; exact nodup_ne apart hi2 hk' (fun h => e h.symm)))

set_option maxHeartbeats 1000000 in
theorem markIntSS_m (base : Nat) (v : Value) (hs : List Nat) (ls : List (List Int)) (k : Int) (w : World) (h : PRow w base v hs ls.length ls) (hn : ls.length + sumI ls ≤ 1048576) (hk0 : 0 ≤ k) (hk : k ≤ 100000000) :
    Calls Try.prog 79 #[v, .int .i64 k] w fun r w' => r = .returned (.int .i64 (k + sumI ls)) ∧ PRow w' base v hs ls.length (marksS k ls) ∧ WroteS hs w w' := by
  obtain ⟨g, cap, rfl, _, _, _⟩ := h.shape
  have HP : Hid (PRow w base (.slice (some ⟨g, 0, none⟩) ls.length cap) hs ls.length ls) := hide h
  clear h
  go_enter Try.func79, Try.ntmps79
  go_wp2_with fail
  go_loopw [1, 5] (fun kk i wr => ∃ (j : Nat) (L : List (List Int)), j ≤ ls.length ∧ i = .int .i64 j ∧ kk = .int .i64 (k + sumI (ls.take j)) ∧ Hid (L.length = ls.length ∧ (∀ i (h : i < L.length) (h' : i < ls.length), L[i] = if i < j then marksN (k + sumI (ls.take i)) ls[i].length else ls[i])) ∧ Hid (PRow wr base (.slice (some ⟨g, 0, none⟩) ls.length cap) hs ls.length L) ∧ Hid (WroteS hs w wr)) (fun _ i _ => ls.length - (intOf i).toNat)
  case atStart => exact ⟨0, ls, Nat.zero_le _, rfl, by simp [sumI], hide ⟨rfl, fun i h h' => by simp⟩, HP, WroteS.refl _ _⟩
  case round =>
    clear HP
    obtain ⟨j, L, hj, rfl, rfl, hL, hp, hw⟩ := hrel
    have hcj := sumI_le ls j
    by_cases hlt : j < ls.length
    · have hjL : j < L.length := by rw [(unhide hL).1]; exact hlt
      have hjh : j < hs.length := by rw [(unhide hp).len, (unhide hL).1]; exact hlt
      have hLj : Hid (L[j] = ls[j]) := by
        have := (unhide hL).2 j hjL hlt
        rw [if_neg (Nat.lt_irrefl j)] at this
        exact this
      obtain ⟨vs, row, hc⟩ := (unhide hp).row
      obtain ⟨cp, h1, h2⟩ := hc j hjL hjh
      have d1 : wr.cell? ⟨g, j, none⟩ = some (.slice (some ⟨hs[j], 0, none⟩) L[j].length cp) := by rw [row.cellAt j (by omega)]; exact h1
      have D1 := hide d1
      rw [unhide hLj] at d1 h2
      have O2 := hide h2
      have hct := sumI_take hlt
      have hcl := sumI_le ls (j + 1)
      have HCT := hide hct
      have hb1 : sumI (ls.take j) + ls[j].length ≤ 1048576 := by omega
      clear hct h1 h2 hc row vs
      go_wp2_with fail
      refine (markN_any base hs[j] ls[j].length cp ls[j] (k + sumI (ls.take j)) _ (unhide O2) (by omega) (by omega) (by omega)).mono ?_
      rintro r w1 ⟨rfl, o1, hw1⟩
      have hp1 := hide ((unhide hp).setAt (x := marksN (k + sumI (ls.take j)) ls[j].length) hjL hjh (by rw [unhide hLj]; exact marksN_len _ _) (unhide D1) hw1 (by rw [marksN_len]; exact o1))
      have hws : Hid (WroteS hs w w1) := (unhide hw).trans (WroteS.of hw1 (List.getElem_mem hjh))
      have hL1 : Hid ((L.set j (marksN (k + sumI (ls.take j)) ls[j].length)).length = ls.length ∧ (∀ i (h : i < (L.set j (marksN (k + sumI (ls.take j)) ls[j].length)).length) (h' : i < ls.length), (L.set j (marksN (k + sumI (ls.take j)) ls[j].length))[i] = if i < j + 1 then marksN (k + sumI (ls.take i)) ls[i].length else ls[i])) := by
        refine ⟨by rw [List.length_set]; exact (unhide hL).1, fun i h h' => ?_⟩
        rw [List.getElem_set]
        by_cases e : j = i
        · subst e; rw [if_pos rfl, if_pos (Nat.lt_succ_self _)]
        · rw [if_neg e, (unhide hL).2 i (by rw [List.length_set] at h; exact h) h']
          by_cases e2 : i < j
          · rw [if_pos e2, if_pos (by omega)]
          · rw [if_neg e2, if_neg (by omega)]
      have hnk : Hid (k + sumI (ls.take j) + (ls[j].length : Int) = k + sumI (ls.take (j + 1))) := by
        show k + sumI (ls.take j) + (ls[j].length : Int) = k + sumI (ls.take (j + 1))
        have := unhide HCT; omega
      clear hw1 o1
      go_wp2
      go_roundw
      case rel => exact ⟨j + 1, _, by omega, by go_num, by rw [hnk.out], hL1, hp1, hws⟩
      case measure => simp [intOf]; omega
    · have hjl : j = ls.length := by omega
      have hle : (ls.length : Int) ≤ (j : Int) := by omega
      have hend : Hid (L = marksS k ls) := by
        apply List.ext_getElem (by rw [marksS_len]; exact (unhide hL).1)
        intro i h1 h2
        have h3 : i < ls.length := by rw [← (unhide hL).1]; exact h1
        rw [(unhide hL).2 i h1 h3, if_pos (by omega), marksS_get ls k i h3]
      have hct : Hid (sumI (ls.take j) = sumI ls) := by show sumI (ls.take j) = sumI ls; rw [hjl, List.take_length]
      clear hjl
      go_wp2
      go_ret
      exact ⟨by rw [hct.out]; rfl, by rw [← hend.out]; exact unhide hp, unhide hw⟩

set_option maxHeartbeats 1000000 in
theorem heldIntSS_any (a : Option Addr) (cap : Nat) (ls : List (List Int)) (k : Int) (w : World) (h : IntsS w a (marksS k ls)) (hn : ls.length + sumI ls ≤ 1048576) (hk0 : 0 ≤ k) (hk : k ≤ 100000000) :
    Calls Try.prog 91 #[.slice a ls.length cap, .int .i64 k] w fun r w' => r = .returned (.int .i64 (k + sumI ls)) ∧ Grew w w' := by
  have HX := hide h
  clear h
  go_enter Try.func91, Try.ntmps91
  go_wp2_with fail
  go_loopw [1, 5] (fun kk i wr => ∃ j : Nat, j ≤ ls.length ∧ i = .int .i64 j ∧ kk = .int .i64 (k + sumI (ls.take j)) ∧ Grew w wr) (fun _ i _ => ls.length - (intOf i).toNat)
  case atStart => exact ⟨0, Nat.zero_le _, rfl, by simp [sumI], Grew.refl _⟩
  case round =>
    obtain ⟨j, hj, rfl, rfl, hg⟩ := hrel
    have hcj := sumI_le ls j
    by_cases hlt : j < ls.length
    · have hjm : j < (marksS k ls).length := by rw [marksS_len]; exact hlt
      obtain ⟨b, off, ai, ci, rfl, c1, hi⟩ := ((unhide HX).grew hg).at hjm
      rw [marksS_get ls k j hlt hjm] at c1 hi
      rw [marksN_len] at c1
      have HI := hide hi
      have hct := sumI_take hlt
      have hcl := sumI_le ls (j + 1)
      have HCT := hide hct
      have hb1 : sumI (ls.take j) + ls[j].length ≤ 1048576 := by omega
      clear hct hi
      go_wp2_with fail
      refine (heldN_any ai ls[j].length ci (k + sumI (ls.take j)) _ (unhide HI) (by omega) (by omega) (by omega)).mono ?_
      rintro r w1 ⟨rfl, g1⟩
      have hnk : Hid (k + sumI (ls.take j) + (ls[j].length : Int) = k + sumI (ls.take (j + 1))) := by
        show k + sumI (ls.take j) + (ls[j].length : Int) = k + sumI (ls.take (j + 1))
        have := unhide HCT; omega
      have hnn : ¬ k + sumI (ls.take j) + (ls[j].length : Int) < 0 := by omega
      have hng := hg.trans g1
      go_wp2
      go_roundw
      case rel => exact ⟨j + 1, by omega, by go_num, by rw [hnk.out], hng⟩
      case measure => simp [intOf]; omega
    · have hjl : j = ls.length := by omega
      have hle : (ls.length : Int) ≤ (j : Int) := by omega
      have hct : Hid (sumI (ls.take j) = sumI ls) := by show sumI (ls.take j) = sumI ls; rw [hjl, List.take_length]
      clear hjl
      go_wp2
      go_ret
      exact ⟨by rw [hct.out]; rfl, hg⟩

/-- A cert that bears the marks from k on. -/
def marksCt (k : Int) (x : Ct) : Ct := ⟨marks k x.c.length, marksS (k + 4 * x.c.length) x.b⟩

set_option maxHeartbeats 1000000 in
theorem markCert_m (x : Ct) (q base : Nat) (cap : Nat) (sv : Value) (hs : List Nat) (k : Int) (w : World) (ho : Own w q x.c.length) (hp : PRow w base sv hs x.b.length x.b) (hq : q < base) (hq2 : q < w.heap.size) (hc : x.c.length ≤ 1048576) (hn : x.b.length + sumI x.b ≤ 1048576) (hk0 : 0 ≤ k) (hk : k ≤ 1000000) :
    Calls Try.prog 22 #[.agg #[.slice (some ⟨q, 0, none⟩) x.c.length cap, sv], .int .i64 k] w fun r w' => r = .returned (.int .i64 (k + 4 * x.c.length + sumI x.b)) ∧ Its w' (some ⟨q, 0, none⟩) (marks k x.c.length) ∧ PRow w' base sv hs x.b.length (marksS (k + 4 * x.c.length) x.b) ∧ WroteS (q :: hs) (w.alloc (.cells #[.slice (some ⟨q, 0, none⟩) x.c.length cap, sv] 31)) w' := by
  obtain ⟨g, cp, rfl, _, hb1, hb2⟩ := hp.shape
  have HP := hide hp
  clear hp
  go_enter Try.func22, Try.ntmps22
  go_wp2_with fail
  refine (mark_any q x.c.length cap k _ (ho.grew ((Grew.refl _).alloc _)) hc hk0 (by omega)).mono ?_
  rintro r w1 ⟨rfl, i1, _, hw1⟩
  have HW := hide (WroteS.of (bs := q :: hs) hw1 (List.mem_cons_self ..))
  have I1 := hide i1
  have p1 : w1.cell? ⟨w.heap.size, 1, none⟩ = some (.slice (some ⟨g, 0, none⟩) x.b.length cp) := by
    rw [World.cell?_of_block (w := w.alloc _) (hw1.keep w.heap.size (fun y hy => by cases hy; show q ≠ w.heap.size; omega))]
    simp [go_sem]
  have P1 := hide (((unhide HP).grew ((Grew.refl w).alloc _)).kept (w' := w1) (Nat.le_of_eq hw1.size.symm) (fun b h1 h2 => hw1.keep b (fun y hy => by cases hy; show q ≠ b; omega)))
  have LO := hide (fun b (hb : b ∈ hs) => ((unhide HP).low b hb).1)
  clear hw1 i1
  go_wp2_with fail
  refine (markIntSS_m base _ hs x.b (k + 4 * x.c.length) _ (unhide P1) hn (by omega) (by omega)).mono ?_
  rintro r w2 ⟨rfl, p2, hw2⟩
  have HW2 := hide ((unhide HW).trans (hw2.mono (fun b hb => List.mem_cons_of_mem _ hb)))
  have P2 := hide p2
  have I2 := hide ((unhide I1).block (hw2.keep q (fun hm => by have := unhide LO q hm; omega)))
  clear hw2 p2
  go_wp2
  go_ret
  exact ⟨rfl, unhide I2, unhide P2, unhide HW2⟩

set_option maxHeartbeats 1000000 in
theorem heldCert_any (x : Ct) (v : Value) (k : Int) (w : World) (h : CtV w v (marksCt k x)) (hc : x.c.length ≤ 1048576) (hn : x.b.length + sumI x.b ≤ 1048576) (hk0 : 0 ≤ k) (hk : k ≤ 1000000) :
    Calls Try.prog 29 #[v, .int .i64 k] w fun r w' => r = .returned (.int .i64 (k + 4 * x.c.length + sumI x.b)) ∧ Grew w w' := by
  obtain ⟨a, cap, b, capb, rfl, _, hl, hb⟩ := h
  have HL : Hid (Its w a (marks k x.c.length)) := hl
  have HB : Hid (IntsS w b (marksS (k + 4 * x.c.length) x.b)) := hb
  have e1 : (marksCt k x).c.length = x.c.length := marks_len _ _
  have e2 : (marksCt k x).b.length = x.b.length := marksS_len _ _
  rw [e1, e2]
  clear hl hb e1 e2
  have hnn : ¬ k + 4 * (x.c.length : Int) < 0 := by omega
  have hnn2 : ¬ k + 4 * (x.c.length : Int) + (sumI x.b : Int) < 0 := by omega
  go_enter Try.func29, Try.ntmps29
  go_wp2_with fail
  refine (held_any a x.c.length cap k _ ((unhide HL).grew ((Grew.refl _).alloc _)) hc hk0 (by omega)).mono ?_
  rintro r w1 ⟨rfl, g1⟩
  have p1 := g1.keep (p := ⟨w.heap.size, 1, none⟩) (v := .slice b x.b.length capb) (by simp [go_sem])
  have G1 := hide (((Grew.refl w).alloc _).trans g1)
  clear g1
  go_wp2_with fail
  refine (heldIntSS_any b capb x.b (k + 4 * x.c.length) _ ((unhide HB).grew (unhide G1)) hn (by omega) (by omega)).mono ?_
  rintro r w2 ⟨rfl, g2⟩
  go_wp2
  go_ret
  exact ⟨rfl, (unhide G1).trans g2⟩

theorem markIntSS_nil (k : Int) (w : World) : Calls Try.prog 79 #[.slice none 0 0, .int .i64 k] w fun r w' => r = .returned (.int .i64 k) ∧ w' = w := by
  go_enter Try.func79, Try.ntmps79
  go_wp2_with fail
  go_rounds 1
  go_ret
  exact ⟨rfl, rfl⟩
set_option maxHeartbeats 1000000 in
theorem markCert_nil (k : Int) (w : World) (hk0 : 0 ≤ k) (hk : k ≤ 1000000) : Calls Try.prog 22 #[.agg #[.slice none 0 0, .slice none 0 0], .int .i64 k] w fun r w' => r = .returned (.int .i64 k) ∧ Grew w w' := by
  go_enter Try.func22, Try.ntmps22
  go_wp2_with fail
  refine (mark_nil 0 k _).mono ?_
  rintro r w1 ⟨rfl, rfl⟩
  go_wp2_with fail
  refine (markIntSS_nil k _).mono ?_
  rintro r w1 ⟨rfl, rfl⟩
  go_wp2
  go_ret
  exact ⟨rfl, (Grew.refl _).alloc _⟩

/-- What CertOf answers: nothing at all, or a cert of its own. -/
def CAns (w : World) (base : Nat) (u v : Value) (x : Ct) : Prop := (u = .slice none 0 0 ∧ v = .slice none 0 0 ∧ x = ⟨[], []⟩) ∨ ∃ q hs, u = .slice (some ⟨q, 0, none⟩) x.c.length x.c.length ∧ base ≤ q ∧ q < w.heap.size ∧ Its w (some ⟨q, 0, none⟩) x.c ∧ Own w q x.c.length ∧ PRow w (q + 1) v hs x.b.length x.b
theorem CAns.ctV {w : World} {base : Nat} {u v : Value} {x : Ct} (h : CAns w base u v x) : CtV w (.agg #[u, v]) x := by
  rcases h with ⟨rfl, rfl, rfl⟩ | ⟨q, hs, rfl, _, _, hi, _, hp⟩
  · exact ⟨none, 0, none, 0, rfl, Nat.le_refl _, .inl rfl, .inl rfl⟩
  · obtain ⟨g, cp, rfl, _, _, _⟩ := hp.shape
    exact ⟨_, _, _, _, rfl, Nat.le_refl _, hi, hp.ints⟩
theorem CAns.kept {w w' : World} {base : Nat} {u v : Value} {x : Ct} (h : CAns w base u v x) (hz : w.heap.size ≤ w'.heap.size) (e : ∀ g, base ≤ g → g < w.heap.size → w'.heap[g]? = w.heap[g]?) : CAns w' base u v x := by
  rcases h with h | ⟨q, hs, h1, h2, h3, h4, h5, h6⟩
  · exact .inl h
  · exact .inr ⟨q, hs, h1, h2, Nat.lt_of_lt_of_le h3 hz, h4.block (e q h2 h3), h5.block (e q h2 h3), h6.kept hz (fun g hb hg => e g (by omega) hg)⟩
theorem CAns.grew {w w' : World} {base : Nat} {u v : Value} {x : Ct} (h : CAns w base u v x) (g : Grew w w') : CAns w' base u v x := h.kept g.size fun b _ hb => g.below.block b hb
theorem markCert_v {u v : Value} {x : Ct} {base : Nat} (k : Int) (w : World) (h : CAns w base u v x) (hc : x.c.length ≤ 1048576) (hn : x.b.length + sumI x.b ≤ 1048576) (hk0 : 0 ≤ k) (hk : k ≤ 1000000) :
    Calls Try.prog 22 #[.agg #[u, v], .int .i64 k] w fun r w' => r = .returned (.int .i64 (k + 4 * x.c.length + sumI x.b)) ∧ CtV w' (.agg #[u, v]) (marksCt k x) ∧ (∀ w0, Grew w0 w → w0.heap.size ≤ base → Grew w0 w') := by
  rcases h with ⟨rfl, rfl, rfl⟩ | ⟨q, hs, rfl, h1, h2, hi, ho, hp⟩
  · refine (markCert_nil k w hk0 hk).mono ?_
    rintro r w' ⟨rfl, g⟩
    exact ⟨by simp [sumI], ⟨none, 0, none, 0, rfl, Nat.le_refl _, .inl rfl, .inl rfl⟩, fun w0 g0 _ => g0.trans g⟩
  · have hlo := hp.low
    refine (markCert_m x q (q + 1) x.c.length v hs k w ho hp (by omega) h2 hc hn hk0 hk).mono ?_
    rintro r w' ⟨rfl, i1, p1, hw⟩
    refine ⟨rfl, ?_, fun w0 g0 hb => hw.from (g0.alloc _) (fun b hm => ?_)⟩
    · obtain ⟨g, cp, rfl, hcp, _, _⟩ := p1.shape
      have hii : IntsS w' (some ⟨g, 0, none⟩) (marksS (k + 4 * x.c.length) x.b) := p1.ints
      refine ⟨some ⟨q, 0, none⟩, x.c.length, some ⟨g, 0, none⟩, cp, ?_, ?_, i1, hii⟩
      · show Value.agg _ = _; simp only [marksCt, marks_len, marksS_len]
      · show (marks k x.c.length).length ≤ _; rw [marks_len]; exact Nat.le_refl _
    · rcases List.mem_cons.1 hm with e | e
      · rw [e]; omega
      · have := (hlo b e).1; omega
end Go.Proofs.Yteemihgakcmamaa
