/-
  The laws' own helpers: items copied field by field, held against each other, counted.
-/
import Derived.Test.YtjbnohepbmejkaaChainA
import Derived.Deep.OwnRows
namespace Go.Proofs.Ytjbnohepbmejkaa
set_option linter.unusedVariables false
open Go.RowKit
attribute [local simp] far_const

theorem rowIs_grew {w w' : World} {b : Nat} {t : TypeId} {n : Nat} {f : Nat → Value} (h : w.rowIs b t n f) (g : Grew w w') : w'.rowIs b t n f := h.of_block (g.below.block b h.lt)

/-- Items that were made: a row of its own. -/
def Own (w : World) (b n : Nat) : Prop := ∃ f, w.rowIs b 33 (n * 4) f
theorem Own.grew {w w' : World} {b n : Nat} (h : Own w b n) (g : Grew w w') : Own w' b n := by
  obtain ⟨f, hf⟩ := h; exact ⟨f, rowIs_grew hf g⟩
theorem Own.cell {w : World} {b n : Nat} (h : Own w b n) {i : Nat} (hi : i < n * 4) : ∃ v, w.cell? ⟨b, i, none⟩ = some v := by
  obtain ⟨f, hf⟩ := h; exact ⟨_, hf.cell hi⟩
theorem Own.frozen {w : World} {b n : Nat} (h : Own w b n) (i : Nat) : w.frozen? ⟨b, i, none⟩ = false := by
  obtain ⟨f, hf⟩ := h; exact hf.frozen i
theorem Own.set {w : World} {b n : Nat} (h : Own w b n) (i : Nat) (v : Value) : Own (w.setCell ⟨b, i, none⟩ v) b n := by
  obtain ⟨f, hf⟩ := h; exact ⟨_, hf.set i v⟩
theorem Own.lt {w : World} {b n : Nat} (h : Own w b n) : b < w.heap.size := by
  obtain ⟨f, hf⟩ := h; exact hf.lt

def zeros (n : Nat) : Obj := .cells (madeCells #[.int .i64 0, .int .i64 0, .int .i64 0, .int .i64 0] (n * 4)) 33
theorem own_zeros (w : World) (n : Nat) : Own (w.alloc (zeros n)) w.heap.size n := by
  refine ⟨fun i => (madeCells #[.int .i64 0, .int .i64 0, .int .i64 0, .int .i64 0] (n * 4)).getD i undef, ?_⟩
  have := World.rowIs_alloc w (madeCells #[.int .i64 0, .int .i64 0, .int .i64 0, .int .i64 0] (n * 4)) 33 (fun i => (madeCells #[.int .i64 0, .int .i64 0, .int .i64 0, .int .i64 0] (n * 4)).getD i undef) (fun i hi => by simp [Array.getD, hi])
  rwa [size_madeCells] at this
theorem info_item : (Try.prog.info? 33).map (fun i => (i.zero, i.size, i.bytes)) = some (some (.agg #[.int .i64 0, .int .i64 0, .int .i64 0, .int .i64 0]), 4, 32) := by kernel_rfl
theorem make_items (n : Nat) (hn : n ≤ 1048576) (w : World) : (Instr.makeSlice 23 (.int .i64 (n : Int)) (.int .i64 (n : Int))).run Try.prog w = .ok (.slice (some ⟨w.heap.size, 0, none⟩) n n) (w.alloc (zeros n)) := by
  obtain ⟨i, hi, hz⟩ := Option.map_eq_some_iff.1 info_item
  simp only [Prod.mk.injEq] at hz
  obtain ⟨hz, hs, hb⟩ := hz
  have hr := run_make (P := Try.prog) w 23 33 i _ Try.underlying23 hi hz .i64 .i64 n n (by omega) (Int.le_refl _) (by rw [hb]; omega) (by omega)
  simp only [Int.toNat_natCast, hs] at hr
  exact hr

theorem cell_set {w : World} {b i j : Nat} {v u : Value} (h : w.cell? ⟨b, j, none⟩ = some u) : (w.setCell ⟨b, i, none⟩ v).cell? ⟨b, j, none⟩ = some (if i = j then v else u) := by
  by_cases e : i = j
  · subst e; rw [if_pos rfl]; exact World.cell?_setCell_same w _ v h
  · rw [if_neg e, World.cell?_setCell_other]
    · exact h
    · intro c; injection c with _ h2 _; exact e h2
/-- An item stored, cell by cell. -/
def put4 (w : World) (b o : Nat) (x : It) : World := (((w.setCell ⟨b, o, none⟩ (.int .i64 x.e)).setCell ⟨b, o + 1, none⟩ (.int .i64 x.f)).setCell ⟨b, o + 2, none⟩ (.int .i64 x.t)).setCell ⟨b, o + 3, none⟩ (.int .i64 x.s)
theorem cell_put4 {w : World} {b o j : Nat} {x : It} {u : Value} (h : w.cell? ⟨b, j, none⟩ = some u) :
    (put4 w b o x).cell? ⟨b, j, none⟩ = some (if o + 3 = j then .int .i64 x.s else if o + 2 = j then .int .i64 x.t else if o + 1 = j then .int .i64 x.f else if o = j then .int .i64 x.e else u) :=
  cell_set (cell_set (cell_set (cell_set h)))
theorem ItAt.put {w : World} {b n k : Nat} {x : It} (h : Own w b n) (hk : k < n) : ItAt (put4 w b (k * 4) x) b (k * 4) x := by
  obtain ⟨v0, d0⟩ := h.cell (i := k * 4) (by omega)
  obtain ⟨v1, d1⟩ := h.cell (i := k * 4 + 1) (by omega)
  obtain ⟨v2, d2⟩ := h.cell (i := k * 4 + 2) (by omega)
  obtain ⟨v3, d3⟩ := h.cell (i := k * 4 + 3) (by omega)
  refine ⟨?_, ?_, ?_, ?_⟩
  · rw [cell_put4 d0]; simp
  · rw [cell_put4 d1]; simp
  · rw [cell_put4 d2]; simp
  · rw [cell_put4 d3]; simp
theorem ItAt.putOther {w : World} {b j k : Nat} {x y : It} (h : ItAt w b (j * 4) y) (hk : j ≠ k) : ItAt (put4 w b (k * 4) x) b (j * 4) y := by
  obtain ⟨d0, d1, d2, d3⟩ := h
  refine ⟨?_, ?_, ?_, ?_⟩
  · rw [cell_put4 d0, if_neg (by omega), if_neg (by omega), if_neg (by omega), if_neg (by omega)]
  · rw [cell_put4 d1, if_neg (by omega), if_neg (by omega), if_neg (by omega), if_neg (by omega)]
  · rw [cell_put4 d2, if_neg (by omega), if_neg (by omega), if_neg (by omega), if_neg (by omega)]
  · rw [cell_put4 d3, if_neg (by omega), if_neg (by omega), if_neg (by omega), if_neg (by omega)]
theorem Own.put {w : World} {b n : Nat} (h : Own w b n) (o : Nat) (x : It) : Own (put4 w b o x) b n := (((h.set _ _).set _ _).set _ _).set _ _
theorem Grew.put {w w' : World} (h : Grew w w') {b : Nat} (hb : w.heap.size ≤ b) (o : Nat) (x : It) : Grew w (put4 w' b o x) := (((h.setCell hb _).setCell hb _).setCell hb _).setCell hb _

set_option maxHeartbeats 400000 in
theorem toItem_any (e f t s : Int) (w : World) : Calls Try.prog 129 #[.agg #[.int .i64 e, .int .i64 f, .int .i64 t, .int .i64 s]] w fun r w' => r = .returned (.agg #[.int .i64 e, .int .i64 f, .int .i64 t, .int .i64 s]) ∧ Grew w w' := by
  go_enter Try.func129, Try.ntmps129
  go_wp2
  go_returns
  exact ⟨rfl, ((((((Grew.refl _).alloc _).alloc _).alloc _).alloc _).alloc _).alloc _⟩

set_option maxHeartbeats 400000 in
theorem szItemS_any (a : Option Addr) (cap n : Nat) (left : Int) (w : World) (h0 : 0 ≤ left) (h1 : left ≤ 1048576) (hn : n ≤ 9223372036854775807) :
    Calls Try.prog 90 #[.slice a n cap, .int .i64 left] w fun r w' => r = .returned (.int .i64 (if left < n then -1 else left - n)) ∧ w' = w := by
  by_cases h : left < n
  · have h' : left - n < 0 := by omega
    rw [if_pos h]
    go_enter Try.func90, Try.ntmps90
    go_wp2
    go_ret
    exact ⟨rfl, rfl⟩
  · have h' : ¬ left - n < 0 := by omega
    rw [if_neg h]
    go_enter Try.func90, Try.ntmps90
    go_wp2
    go_ret
    exact ⟨rfl, rfl⟩

set_option maxHeartbeats 1000000 in
theorem toItemS_any (a : Option Addr) (cap : Nat) (l : List It) (w : World) (hl : Its w a l) (hn : l.length ≤ 1048576) :
    Calls Try.prog 92 #[.slice a l.length cap] w fun r w' => r = .returned (.slice (some ⟨w.heap.size, 0, none⟩) l.length l.length) ∧ Grew w w' ∧ Its w' (some ⟨w.heap.size, 0, none⟩) l ∧ Own w' w.heap.size l.length := by
  have hmk := make_items l.length hn
  go_enter Try.func92, Try.ntmps92
  go_wp2_with fail
  clear hmk
  go_loopw [4] (fun i wr => ∃ k : Nat, k ≤ l.length ∧ i = .int .i64 k ∧ Grew w wr ∧ (∀ j (h : j < l.length), j < k → ItAt wr w.heap.size (0 + j * 4) l[j]) ∧ Own wr w.heap.size l.length) (fun i _ => l.length - (intOf i).toNat)
  case atStart => exact ⟨0, Nat.zero_le _, rfl, (Grew.refl _).alloc _, fun j _ h => absurd h (Nat.not_lt_zero _), own_zeros _ _⟩
  case round =>
    obtain ⟨k, hk, rfl, hg, hits, hown⟩ := hrel
    by_cases hlt : k < l.length
    · obtain ⟨b, off, rfl, hat⟩ := hl.at hlt
      obtain ⟨c0, c1, c2, c3⟩ := hat.grew hg
      have HI : Hid (∀ j (h : j < l.length), j < k → ItAt wr w.heap.size (0 + j * 4) l[j]) := hits
      clear hits
      go_wp2_with fail
      refine (toItem_any _ _ _ _ _).mono ?_
      rintro r w1 ⟨rfl, g1⟩
      have ho1 := hown.grew g1
      obtain ⟨v0, d0⟩ := ho1.cell (i := k * 4) (by omega)
      obtain ⟨v1, d1⟩ := ho1.cell (i := k * 4 + 1) (by omega)
      obtain ⟨v2, d2⟩ := ho1.cell (i := k * 4 + 2) (by omega)
      obtain ⟨v3, d3⟩ := ho1.cell (i := k * 4 + 3) (by omega)
      have z0 := ho1.frozen (k * 4)
      have z1 := ho1.frozen (k * 4 + 1)
      have z2 := ho1.frozen (k * 4 + 2)
      have z3 := ho1.frozen (k * 4 + 3)
      go_wp2
      go_roundw
      case rel =>
        refine ⟨k + 1, by omega, by go_num, (hg.trans g1).put (Nat.le_refl _) (k * 4) l[k], fun j hj hjk => ?_, ho1.put (k * 4) l[k]⟩
        rw [Nat.zero_add]
        by_cases e : j = k
        · subst e; exact ItAt.put ho1 hlt
        · have := (HI.out j hj (by omega)).grew g1
          rw [Nat.zero_add] at this
          exact this.putOther e
      case measure => simp [intOf]; omega
    · have hkl : k = l.length := by omega
      have HI : Hid (∀ j (h : j < l.length), j < k → ItAt wr w.heap.size (0 + j * 4) l[j]) := hits
      clear hits
      have hle : (l.length : Int) ≤ (k : Int) := by omega
      clear hkl
      go_wp2
      go_ret
      exact ⟨rfl, hg, .inr ⟨_, _, rfl, fun i hi => HI.out i hi (by omega)⟩, hown⟩

theorem eqB_ne_e {x y : It} (h : x.e ≠ y.e) : eqB x y = false := by simp [eqB, h]
theorem eqB_ne_f {x y : It} (h : x.f ≠ y.f) : eqB x y = false := by simp [eqB, h]
theorem eqB_ne_t {x y : It} (h : x.t ≠ y.t) : eqB x y = false := by simp [eqB, h]
theorem eqB_ne_s {x y : It} (h : x.s ≠ y.s) : eqB x y = false := by simp [eqB, h]

set_option maxHeartbeats 1000000 in
theorem eqItem_any (x y : It) (w : World) : Calls Try.prog 131 #[.agg #[.int .i64 x.e, .int .i64 x.f, .int .i64 x.t, .int .i64 x.s], .agg #[.int .i64 y.e, .int .i64 y.f, .int .i64 y.t, .int .i64 y.s]] w fun r w' => r = .returned (.bool (eqB x y)) ∧ Grew w w' := by
  by_cases he : x.e = y.e
  · by_cases hf : x.f = y.f
    · by_cases ht : x.t = y.t
      · by_cases hs : x.s = y.s
        · have hx : eqB x y = true := by simp [eqB, he, hf, ht, hs]
          rw [hx, he, hf, ht, hs]; clear hx he hf ht hs
          go_enter Try.func131, Try.ntmps131
          go_wp2
          go_ret
          exact ⟨rfl, (((((Grew.refl _).alloc _).alloc _).alloc _).alloc _)⟩
        · have hs' : (x.s != y.s) = true := by simpa using hs
          rw [eqB_ne_s hs, he, hf, ht]; clear he hf ht hs
          go_enter Try.func131, Try.ntmps131
          go_wp2
          go_ret
          exact ⟨rfl, (((((Grew.refl _).alloc _).alloc _).alloc _).alloc _)⟩
      · have ht' : (x.t != y.t) = true := by simpa using ht
        rw [eqB_ne_t ht, he, hf]; clear he hf ht
        go_enter Try.func131, Try.ntmps131
        go_wp2
        go_ret
        exact ⟨rfl, (((((Grew.refl _).alloc _).alloc _).alloc _).alloc _)⟩
    · have hf' : (x.f != y.f) = true := by simpa using hf
      rw [eqB_ne_f hf, he]; clear he hf
      go_enter Try.func131, Try.ntmps131
      go_wp2
      go_ret
      exact ⟨rfl, (((((Grew.refl _).alloc _).alloc _).alloc _).alloc _)⟩
  · have he' : (x.e != y.e) = true := by simpa using he
    rw [eqB_ne_e he]; clear he
    go_enter Try.func131, Try.ntmps131
    go_wp2
    go_ret
    exact ⟨rfl, ((Grew.refl _).alloc _).alloc _⟩

/-- Whether two rows of items are the same. -/
def sameB (a b : List It) : Bool := decide (a.length = b.length) && decide (shareN a b = a.length)
theorem sameB_iff (a b : List It) : sameB a b = true ↔ a = b := by
  unfold sameB
  simp only [Bool.and_eq_true, decide_eq_true_eq]
  constructor
  · rintro ⟨h1, h2⟩
    have := shareN_take a b
    rwa [h2, List.take_length, h1, List.take_length] at this
  · rintro rfl; exact ⟨rfl, shareN_self a⟩

set_option maxHeartbeats 1000000 in
theorem eqItemS_any (a b : Option Addr) (ca cb : Nat) (l m : List It) (w : World) (hl : Its w a l) (hm : Its w b m) (hn : l.length ≤ 1048576) (hn' : m.length ≤ 1048576) :
    Calls Try.prog 94 #[.slice a l.length ca, .slice b m.length cb] w fun r w' => r = .returned (.bool (sameB l m)) ∧ Grew w w' := by
  by_cases hlen : l.length = m.length
  · have hne : ((l.length : Int) != (m.length : Int)) = false := by simp [hlen]
    go_enter Try.func94, Try.ntmps94
    go_wp2_with fail
    clear hne
    have HL : Hid (l.length = m.length) := hlen
    have hlen' : m.length ≤ l.length := by omega
    have hlen2 : l.length ≤ m.length := by omega
    clear hlen
    go_loopw [5] (fun i wr => ∃ k : Nat, k ≤ l.length ∧ i = .int .i64 k ∧ Grew w wr ∧ (∀ j (h1 : j < l.length) (h2 : j < m.length), j < k → eqB l[j] m[j] = true)) (fun i _ => l.length - (intOf i).toNat)
    case atStart => exact ⟨0, Nat.zero_le _, rfl, Grew.refl _, fun j _ _ h => absurd h (Nat.not_lt_zero _)⟩
    case round =>
      obtain ⟨k, hk, rfl, hg, hits⟩ := hrel
      have HI : Hid (∀ j (h1 : j < l.length) (h2 : j < m.length), j < k → eqB l[j] m[j] = true) := hits
      clear hits
      by_cases hlt : k < l.length
      · have hlt2 : k < m.length := by omega
        obtain ⟨b1, o1, rfl, hat⟩ := hl.at hlt
        obtain ⟨b2, o2, rfl, hat2⟩ := hm.at hlt2
        obtain ⟨c0, c1, c2, c3⟩ := hat.grew hg
        obtain ⟨d0, d1, d2, d3⟩ := hat2.grew hg
        have e0 := Grew.gcell c0
        have e1 := Grew.gcell c1
        have e2 := Grew.gcell c2
        have e3 := Grew.gcell c3
        have f0 := Grew.gcell d0
        have f1 := Grew.gcell d1
        have f2 := Grew.gcell d2
        have f3 := Grew.gcell d3
        cases heq : eqB l[k] m[k] with
        | true =>
          have hnext : Hid (∀ j (h1 : j < l.length) (h2 : j < m.length), j < k + 1 → eqB l[j] m[j] = true) := fun j h1 h2 hj => by
            by_cases e : j = k
            · subst e; exact heq
            · exact HI.out j h1 h2 (by omega)
          go_wp2_with fail
          refine quietly (by kernel_rfl) (by kernel_rfl) ?_
          repeat (go_big_quiet_step (first | (go_at_call 131; exact Calls.far (eqItem_any l[k] m[k] _))))
          refine wpQuiet_nil ?_
          intro _ hw'
          obtain ⟨⟨nq, osq⟩, hw''⟩ := hw'
          subst hw''
          go_wp2
          go_roundw
          case rel => exact ⟨k + 1, by omega, by go_num, hg.trans ⟨_, _, rfl⟩, hnext.out⟩
          case measure => simp [intOf]; omega
        | false =>
          have hend : Hid (sameB l m = false) := by
            show sameB l m = false
            cases h : sameB l m with
            | false => rfl
            | true =>
              have := (sameB_iff l m).1 h
              subst this
              rw [(eqB_iff l[k] l[k]).2 rfl] at heq
              exact heq
          go_wp2_with fail
          refine quietly (by kernel_rfl) (by kernel_rfl) ?_
          repeat (go_big_quiet_step (first | (go_at_call 131; exact Calls.far (eqItem_any l[k] m[k] _))))
          refine wpQuiet_nil ?_
          intro _ hw'
          obtain ⟨⟨nq, osq⟩, hw''⟩ := hw'
          subst hw''
          go_wp2
          go_ret
          exact ⟨ret_bool hend.out.symm, hg.trans ⟨_, _, rfl⟩⟩
      · have hle : (l.length : Int) ≤ (k : Int) := by omega
        have hend : Hid (sameB l m = true) := by
          show sameB l m = true
          unfold sameB
          rw [← shareN_is l m l.length (Nat.le_refl _) (by omega) (fun i h1 h2 h => HI.out i h1 h2 (by omega)) (fun h _ => absurd h (Nat.lt_irrefl _))]
          simp [HL.out]
        go_wp2
        go_ret
        exact ⟨ret_bool hend.out.symm, hg⟩
  · have hne : ((l.length : Int) != (m.length : Int)) = true := by simp; omega
    have hend : Hid (sameB l m = false) := by show sameB l m = false; unfold sameB; simp [hlen]
    clear hlen
    go_enter Try.func94, Try.ntmps94
    go_wp2
    go_ret
    exact ⟨ret_bool hend.out.symm, Grew.refl _⟩
end Go.Proofs.Ytjbnohepbmejkaa
