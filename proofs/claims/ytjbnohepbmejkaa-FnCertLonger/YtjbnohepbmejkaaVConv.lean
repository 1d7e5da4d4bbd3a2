/-
  The laws' own helpers at votes: counted, copied field by field, held against each other.
-/
import Derived.Test.YtjbnohepbmejkaaVRows
import Derived.Test.YtjbnohepbmejkaaConv
namespace Go.Proofs.Ytjbnohepbmejkaa
set_option linter.unusedVariables false
open Go.RowKit
attribute [local simp] far_const

/-- What is left of a size. -/
def szR (left : Int) (t : Nat) : Int := if left < t then -1 else left - t
theorem szR_neg {left : Int} {t : Nat} (h : left < t) : szR left t = -1 := if_pos h
theorem szR_pos {left : Int} {t : Nat} (h : ¬ left < t) : szR left t = left - t := if_neg h
def sumC (l : List Vt) : Nat := (l.map (fun x => x.c.length)).sum
theorem sumC_app (l m : List Vt) : sumC (l ++ m) = sumC l + sumC m := by unfold sumC; rw [List.map_append, List.sum_append]
theorem sumC_one (x : Vt) : sumC [x] = x.c.length := by simp [sumC]
theorem sumC_take {l : List Vt} {k : Nat} (hk : k < l.length) : sumC (l.take (k + 1)) = sumC (l.take k) + l[k].c.length := by
  rw [List.take_succ_eq_append_getElem hk, sumC_app, sumC_one]
theorem sumC_le (l : List Vt) (k : Nat) : sumC (l.take k) ≤ sumC l := by
  conv => rhs; rw [← List.take_append_drop k l, sumC_app]
  exact Nat.le_add_right _ _
theorem sumC_at {l : List Vt} {x : Vt} (h : x ∈ l) : x.c.length ≤ sumC l := by
  unfold sumC
  induction l with
  | nil => cases h
  | cons y r ih =>
    rcases List.mem_cons.1 h with e | e
    · subst e; simp
    · have := ih e; simp at this ⊢; omega
/-- How great votes are. -/
def totV (l : List Vt) : Nat := l.length + sumC l
theorem totV_short {l : List Vt} (h : totV l ≤ 1048576) : Short l := fun x hx => by have := sumC_at hx; unfold totV at h; omega
theorem totV_len {l : List Vt} (h : totV l ≤ 1048576) : l.length ≤ 1048576 := by unfold totV at h; omega

set_option maxHeartbeats 400000 in
theorem szVote_any (x : Vt) (v : Value) (left : Int) (w : World) (hv : VtV w v x) (h0 : 0 ≤ left) (h1 : left ≤ 1048576) (hn : x.c.length ≤ 9223372036854775807) :
    Calls Try.prog 123 #[v, .int .i64 left] w fun r w' => r = .returned (.int .i64 (szR left x.c.length)) ∧ Grew w w' := by
  obtain ⟨a, cap, rfl, hl⟩ := hv
  have hz := fun w => szItemS_any a cap x.c.length left w h0 h1 hn
  by_cases h : left < x.c.length
  · rw [szR_neg h]
    simp only [if_pos h] at hz
    have HZ := hide hz
    clear hz
    go_enter Try.func123, Try.ntmps123
    go_wp2_with fail
    refine (unhide HZ _).mono ?_
    rintro r w1 ⟨rfl, rfl⟩
    go_wp2
    go_ret
    exact ⟨rfl, (Grew.refl _).alloc _⟩
  · rw [szR_pos h]
    simp only [if_neg h] at hz
    have HZ := hide hz
    have h' : ¬ left - (x.c.length : Int) < 0 := by omega
    clear hz
    go_enter Try.func123, Try.ntmps123
    go_wp2_with fail
    refine (unhide HZ _).mono ?_
    rintro r w1 ⟨rfl, rfl⟩
    go_wp2
    go_ret
    exact ⟨rfl, (Grew.refl _).alloc _⟩

set_option maxHeartbeats 1000000 in
theorem szVoteS_any (a : Option Addr) (cap : Nat) (l : List Vt) (left : Int) (w : World) (hl : Vts w a l) (h0 : 0 ≤ left) (h1 : left ≤ 1048576) (hn : l.length ≤ 9223372036854775807) (hc : ∀ x ∈ l, x.c.length ≤ 9223372036854775807) :
    Calls Try.prog 82 #[.slice a l.length cap, .int .i64 left] w fun r w' => r = .returned (.int .i64 (szR left (totV l))) ∧ Grew w w' := by
  by_cases h : left < l.length
  · have hx : Hid (szR left (totV l) = -1) := szR_neg (by unfold totV; omega)
    have h' : left - (l.length : Int) < 0 := by omega
    clear h
    go_enter Try.func82, Try.ntmps82
    go_wp2
    go_ret
    exact ⟨by rw [hx.out]; rfl, Grew.refl _⟩
  · have h' : ¬ left - (l.length : Int) < 0 := by omega
    go_enter Try.func82, Try.ntmps82
    go_wp2_with fail
    go_loopw [1, 5] (fun lf i wr => ∃ k : Nat, k ≤ l.length ∧ i = .int .i64 k ∧ lf = .int .i64 (left - l.length - sumC (l.take k)) ∧ 0 ≤ left - l.length - sumC (l.take k) ∧ Grew w wr) (fun _ i _ => l.length - (intOf i).toNat)
    case atStart => exact ⟨0, Nat.zero_le _, rfl, by simp [sumC], by simp [sumC]; omega, Grew.refl _⟩
    case round =>
      obtain ⟨k, hk, rfl, rfl, hlow, hg⟩ := hrel
      by_cases hlt : k < l.length
      · obtain ⟨b, off, rfl, hat⟩ := hl.at hlt
        obtain ⟨c0, a1, cap1, c1, hi⟩ := hat.grew hg
        have hsn := hide (sumC_take hlt)
        have hle := hide (sumC_le l (k + 1))
        have hck := hc l[k] (List.getElem_mem hlt)
        clear hat
        go_wp2_with fail
        refine (szVote_any l[k] _ _ _ ⟨_, _, rfl, hi⟩ hlow (by omega) hck).mono ?_
        rintro r w1 ⟨rfl, g1⟩
        by_cases hs : left - l.length - sumC (l.take k) < l[k].c.length
        · rw [szR_neg hs]
          have hx : Hid (szR left (totV l) = -1) := szR_neg (by have := unhide hsn; have := unhide hle; unfold totV; omega)
          go_wp2
          go_ret
          exact ⟨by rw [hx.out]; rfl, hg.trans g1⟩
        · rw [szR_pos hs]
          have hnn : ¬ left - l.length - sumC (l.take k) - l[k].c.length < 0 := by omega
          have hnx : Hid (left - l.length - sumC (l.take k) - l[k].c.length = left - l.length - sumC (l.take (k + 1))) := by
            show left - l.length - sumC (l.take k) - l[k].c.length = left - l.length - sumC (l.take (k + 1))
            have := unhide hsn; omega
          have hng := hg.trans g1
          go_wp2
          go_roundw
          case rel => exact ⟨k + 1, by omega, by go_num, by rw [hnx.out], by have := hnx.out; omega, hng⟩
          case measure => simp [intOf]; omega
      · have hle : (l.length : Int) ≤ (k : Int) := by omega
        have hx : Hid (left - l.length - sumC (l.take k) = szR left (totV l)) := by
          show left - l.length - sumC (l.take k) = szR left (totV l)
          rw [List.take_of_length_le (by omega)] at hlow ⊢
          rw [szR_pos (by unfold totV; omega)]
          unfold totV; omega
        go_wp2
        go_ret
        exact ⟨by rw [← hx.out]; rfl, hg⟩

set_option maxHeartbeats 1000000 in
theorem toVote_any (x : Vt) (v : Value) (w : World) (hv : VtV w v x) (hn : x.c.length ≤ 1048576) :
    Calls Try.prog 125 #[v] w fun r w' => ∃ q, r = .returned (.agg #[.int .i64 x.n, .slice (some ⟨q, 0, none⟩) x.c.length x.c.length]) ∧ w.heap.size ≤ q ∧ q < w'.heap.size ∧ Its w' (some ⟨q, 0, none⟩) x.c ∧ Own w' q x.c.length ∧ Grew w w' := by
  obtain ⟨a, cap, rfl, hl⟩ := hv
  go_enter Try.func125, Try.ntmps125
  go_wp2_with fail
  refine (toItemS_any a cap x.c _ (hl.grew ((((Grew.refl w).alloc _).alloc _).alloc _)) hn).mono ?_
  rintro r w1 ⟨rfl, g1, i1, o1⟩
  have c20 := g1.keep (p := ⟨w.heap.size + 1 + 1, 0, none⟩) (v := .int .i64 x.n) (by simp [go_sem])
  have c21 := g1.keep (p := ⟨w.heap.size + 1 + 1, 1, none⟩) (v := .slice none 0 0) (by simp [go_sem])
  have c10 := g1.keep (p := ⟨w.heap.size + 1, 0, none⟩) (v := .int .i64 0) (by simp [go_sem])
  have c11 := g1.keep (p := ⟨w.heap.size + 1, 1, none⟩) (v := .slice none 0 0) (by simp [go_sem])
  have z2 : ∀ i, w1.frozen? ⟨w.heap.size + 1 + 1, i, none⟩ = false := fun i => by
    rw [World.frozen?_of_block (g1.below.block (w.heap.size + 1 + 1) (by simp))]
    simp [go_sem]
  have z1 : ∀ i, w1.frozen? ⟨w.heap.size + 1, i, none⟩ = false := fun i => by
    rw [World.frozen?_of_block (g1.below.block (w.heap.size + 1) (by simp))]
    simp [go_sem]
  have z20 := z2 1
  have z10 := z1 0
  have z11 := z1 1
  have G1 := hide (((((Grew.refl w).alloc _).alloc _).alloc _).trans g1)
  have hlt := o1.lt
  simp only [World.size_alloc] at i1 o1 hlt ⊢
  have I1 := hide i1
  have O1 := hide o1
  clear z1 z2 g1 i1 o1
  go_wp2
  refine bodyPost_ret (by simp [results, Try.results125, go_sem, c10, c11]; try rfl) rfl ?_
  have hk : ∀ (u0 u1 u2 : Value) b, b ≠ w.heap.size + 1 → b ≠ w.heap.size + 1 + 1 → (((w1.setCell ⟨w.heap.size + 1 + 1, 1, none⟩ u0).setCell ⟨w.heap.size + 1, 0, none⟩ u1).setCell ⟨w.heap.size + 1, 1, none⟩ u2).heap[b]? = w1.heap[b]? := fun u0 u1 u2 b h1 h2 => by
    rw [Below.heap_setCell _ _ _ _ h1, Below.heap_setCell _ _ _ _ h1, Below.heap_setCell _ _ _ _ h2]
  refine ⟨w.heap.size + 1 + 1 + 1, rfl, by omega, ?_, ?_, ?_, ?_⟩
  · simpa [World.setCell] using hlt
  · exact (unhide I1).block (hk _ _ _ _ (by omega) (by omega))
  · exact (unhide O1).block (hk _ _ _ _ (by omega) (by omega))
  · exact (((unhide G1).setCell (p := ⟨w.heap.size + 1 + 1, 1, none⟩) (by show w.heap.size ≤ w.heap.size + 1 + 1; omega) _).setCell (p := ⟨w.heap.size + 1, 0, none⟩) (by show w.heap.size ≤ w.heap.size + 1; omega) _).setCell (p := ⟨w.heap.size + 1, 1, none⟩) (by show w.heap.size ≤ w.heap.size + 1; omega) _

set_option maxHeartbeats 1000000 in
theorem toVoteS_any (a : Option Addr) (cap : Nat) (l : List Vt) (w : World) (hl : Vts w a l) (hs : Short l) (hn : l.length ≤ 1048576) :
    Calls Try.prog 86 #[.slice a l.length cap] w fun r w' => ∃ v hs, r = .returned v ∧ VOwn w' w.heap.size v hs l ∧ Grew w w' := by
  have hmk := make_votes l.length hn
  go_enter Try.func86, Try.ntmps86
  go_wp2_with fail
  clear hmk
  go_loopw [4] (fun i wr => ∃ (k : Nat) (hs : List Nat), k ≤ l.length ∧ i = .int .i64 k ∧ Hid (VPart wr w.heap.size (.slice (some ⟨w.heap.size, 0, none⟩) l.length l.length) hs l.length (l.take k)) ∧ Grew w wr) (fun i _ => l.length - (intOf i).toNat)
  case atStart => exact ⟨0, [], Nat.zero_le _, rfl, VPart.made w l.length hn, (Grew.refl _).alloc _⟩
  case round =>
    obtain ⟨k, hh, hk, rfl, hp, hg⟩ := hrel
    by_cases hlt : k < l.length
    · obtain ⟨b, off, rfl, hat⟩ := hl.at hlt
      obtain ⟨c0, a1, cap1, c1, hi⟩ := hat.grew hg
      have hs1 := hs.at hlt
      have hsz := hg.size
      clear hat
      go_wp2_with fail
      refine (toVote_any l[k] _ _ ⟨_, _, rfl, hi⟩ hs1).mono ?_
      rintro r w1 ⟨q, rfl, hq1, hq2, qi, qo, g1⟩
      have hp1 := hide ((unhide hp).grew g1)
      have hlk : (l.take k).length = k := by simp; omega
      obtain ⟨⟨v0, d0⟩, z0⟩ := (unhide hp1).cells (j := k * 2) (by omega)
      obtain ⟨⟨v1, d1⟩, z1⟩ := (unhide hp1).cells (j := k * 2 + 1) (by omega)
      have hlow := fun h hm => ((unhide hp).low h hm).2
      have hg0 : w.heap.size < wr.heap.size := by obtain ⟨g, c, e, _, _, h⟩ := (unhide hp).shape; simp at e; omega
      have hput := hide ((unhide hp1).put (by omega) l[k] q l[k].c.length (by omega) hq2 (fun hm => by have := hlow q hm; omega) (by omega) qi qo (Nat.le_refl _))
      rw [hlk, ← List.take_succ_eq_append_getElem hlt] at hput
      have G1 := hg.trans g1
      clear hp hlow hlk
      go_wp2
      go_roundw
      case rel => exact ⟨k + 1, hh ++ [q], by omega, by go_num, hput, (G1.setCell (p := ⟨w.heap.size, k * 2, none⟩) (Nat.le_refl _) _).setCell (p := ⟨w.heap.size, k * 2 + 1, none⟩) (Nat.le_refl _) _⟩
      case measure => simp [intOf]; omega
    · have hkl : k = l.length := by omega
      have hp' : Hid (VOwn wr w.heap.size (.slice (some ⟨w.heap.size, 0, none⟩) l.length l.length) hh l) := by
        have := unhide hp
        rw [hkl, List.take_length] at this
        exact this
      have hle : (l.length : Int) ≤ (k : Int) := by omega
      clear hkl hp
      go_wp2
      go_ret
      exact ⟨_, hh, rfl, unhide hp', hg⟩

set_option maxHeartbeats 1000000 in
theorem eqVote_any (x y : Vt) (v u : Value) (w : World) (hv : VtV w v x) (hu : VtV w u y) (hn : x.c.length ≤ 1048576) (hn' : y.c.length ≤ 1048576) :
    Calls Try.prog 119 #[v, u] w fun r w' => r = .returned (.bool (sameV x y)) ∧ Grew w w' := by
  obtain ⟨a, cap, rfl, hl⟩ := hv
  obtain ⟨b, capb, rfl, hm⟩ := hu
  by_cases hne : x.n = y.n
  · have hb : (x.n != y.n) = false := by simpa using hne
    cases hs : sameB x.c y.c
    all_goals
      have hx : Hid (sameV x y = sameB x.c y.c) := by show sameV x y = _; unfold sameV; simp [hne]
      go_enter Try.func119, Try.ntmps119
      go_wp2_with fail
      refine (eqItemS_any _ _ _ _ x.c y.c _ (hl.grew (((Grew.refl _).alloc _).alloc _)) (hm.grew (((Grew.refl _).alloc _).alloc _)) hn hn').mono ?_
      rw [hs]
      rintro r w1 ⟨rfl, g1⟩
      go_wp2
      go_ret
      exact ⟨ret_bool (by rw [hx.out, hs]), (((Grew.refl _).alloc _).alloc _).trans g1⟩
  · have hb : (x.n != y.n) = true := by simpa using hne
    have hx : Hid (sameV x y = false) := by show sameV x y = _; unfold sameV; simp [hne]
    go_enter Try.func119, Try.ntmps119
    go_wp2
    go_ret
    exact ⟨ret_bool hx.out.symm, ((Grew.refl _).alloc _).alloc _⟩

/-- Whether two rows of votes are the same. -/
def sameVs (l m : List Vt) : Bool := decide (l.length = m.length) && (List.range l.length).all (fun i => match l[i]?, m[i]? with | some x, some y => sameV x y | _, _ => false)
theorem sameVs_iff (l m : List Vt) : sameVs l m = true ↔ l = m := by
  unfold sameVs
  simp only [Bool.and_eq_true, decide_eq_true_eq, List.all_eq_true, List.mem_range]
  constructor
  · rintro ⟨h1, h2⟩
    apply List.ext_getElem h1
    intro i hi hj
    have := h2 i hi
    rw [List.getElem?_eq_getElem hi, List.getElem?_eq_getElem hj] at this
    exact (sameV_iff _ _).1 this
  · rintro rfl
    refine ⟨rfl, fun i hi => ?_⟩
    rw [List.getElem?_eq_getElem hi]
    exact (sameV_iff _ _).2 rfl
theorem sameVs_part {l m : List Vt} {k : Nat} (h1 : k < l.length) (h2 : k < m.length) (h : sameV l[k] m[k] = false) : sameVs l m = false := by
  cases e : sameVs l m with
  | false => rfl
  | true =>
    have := (sameVs_iff l m).1 e
    subst this
    rw [(sameV_iff _ _).2 rfl] at h; cases h
theorem sameVs_all {l m : List Vt} (h : l.length = m.length) (hk : ∀ k (h1 : k < l.length) (h2 : k < m.length), sameV l[k] m[k] = true) : sameVs l m = true :=
  (sameVs_iff l m).2 (List.ext_getElem h fun i h1 h2 => (sameV_iff _ _).1 (hk i h1 h2))
theorem sameVs_len {l m : List Vt} (h : l.length ≠ m.length) : sameVs l m = false := by unfold sameVs; simp [h]

set_option maxHeartbeats 1000000 in
theorem eqVoteS_any (a b : Option Addr) (ca cb : Nat) (l m : List Vt) (w : World) (hl : Vts w a l) (hm : Vts w b m) (hsl : Short l) (hsm : Short m) (hn : l.length ≤ 1048577) (hn' : m.length ≤ 1048577) :
    Calls Try.prog 76 #[.slice a l.length ca, .slice b m.length cb] w fun r w' => r = .returned (.bool (sameVs l m)) ∧ Grew w w' := by
  by_cases hlen : l.length = m.length
  · have hne : ((l.length : Int) != (m.length : Int)) = false := by simp [hlen]
    go_enter Try.func76, Try.ntmps76
    go_wp2_with fail
    clear hne
    have HL : Hid (l.length = m.length) := hlen
    have hlen' : m.length ≤ l.length := by omega
    have hlen2 : l.length ≤ m.length := by omega
    clear hlen
    go_loopw [5] (fun i wr => ∃ k : Nat, k ≤ l.length ∧ i = .int .i64 k ∧ Grew w wr ∧ (∀ j (h1 : j < l.length) (h2 : j < m.length), j < k → sameV l[j] m[j] = true)) (fun i _ => l.length - (intOf i).toNat)
    case atStart => exact ⟨0, Nat.zero_le _, rfl, Grew.refl _, fun j _ _ h => absurd h (Nat.not_lt_zero _)⟩
    case round =>
      obtain ⟨k, hk, rfl, hg, hits⟩ := hrel
      have HI : Hid (∀ j (h1 : j < l.length) (h2 : j < m.length), j < k → sameV l[j] m[j] = true) := hits
      clear hits
      by_cases hlt : k < l.length
      · have hlt2 : k < m.length := by omega
        obtain ⟨b1, o1, rfl, hat⟩ := hl.at hlt
        obtain ⟨b2, o2, rfl, hat2⟩ := hm.at hlt2
        obtain ⟨c0, a1, cap1, c1, i1⟩ := hat.grew hg
        obtain ⟨d0, a2, cap2, d1, i2⟩ := hat2.grew hg
        have e0 := Grew.gcell c0
        have e1 := Grew.gcell c1
        have f0 := Grew.gcell d0
        have f1 := Grew.gcell d1
        have s1 := hsl.at hlt
        have s2 := hsm.at hlt2
        clear hat hat2
        cases heq : sameV l[k] m[k] with
        | true =>
          have hnext : Hid (∀ j (h1 : j < l.length) (h2 : j < m.length), j < k + 1 → sameV l[j] m[j] = true) := fun j h1 h2 hj => by
            by_cases e : j = k
            · subst e; exact heq
            · exact HI.out j h1 h2 (by omega)
          go_wp2_with fail
          refine quietly (by kernel_rfl) (by kernel_rfl) ?_
          repeat (go_big_quiet_step (first | (go_at_call 119; exact Calls.far (eqVote_any l[k] m[k] _ _ _ ⟨_, _, rfl, i1.grew ⟨_, _, rfl⟩⟩ ⟨_, _, rfl, i2.grew ⟨_, _, rfl⟩⟩ s1 s2))))
          refine wpQuiet_nil ?_
          intro _ hw'
          obtain ⟨⟨nq, osq⟩, hw''⟩ := hw'
          subst hw''
          go_wp2
          go_roundw
          case rel => exact ⟨k + 1, by omega, by go_num, hg.trans ⟨_, _, rfl⟩, hnext.out⟩
          case measure => simp [intOf]; omega
        | false =>
          have hend : Hid (sameVs l m = false) := sameVs_part hlt hlt2 heq
          go_wp2_with fail
          refine quietly (by kernel_rfl) (by kernel_rfl) ?_
          repeat (go_big_quiet_step (first | (go_at_call 119; exact Calls.far (eqVote_any l[k] m[k] _ _ _ ⟨_, _, rfl, i1.grew ⟨_, _, rfl⟩⟩ ⟨_, _, rfl, i2.grew ⟨_, _, rfl⟩⟩ s1 s2))))
          refine wpQuiet_nil ?_
          intro _ hw'
          obtain ⟨⟨nq, osq⟩, hw''⟩ := hw'
          subst hw''
          go_wp2
          go_ret
          exact ⟨ret_bool hend.out.symm, hg.trans ⟨_, _, rfl⟩⟩
      · have hle : (l.length : Int) ≤ (k : Int) := by omega
        have hend : Hid (sameVs l m = true) := sameVs_all HL.out fun j h1 h2 => HI.out j h1 h2 (by omega)
        go_wp2
        go_ret
        exact ⟨ret_bool hend.out.symm, hg⟩
  · have hne : ((l.length : Int) != (m.length : Int)) = true := by simp; omega
    have hend : Hid (sameVs l m = false) := sameVs_len hlen
    clear hlen
    go_enter Try.func76, Try.ntmps76
    go_wp2
    go_ret
    exact ⟨ret_bool hend.out.symm, Grew.refl _⟩
end Go.Proofs.Ytjbnohepbmejkaa
