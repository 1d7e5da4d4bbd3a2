/-
  Texts together: Nums1, Nums2, NumsV.
-/
import Derived.Test.YtjbnohepbmejkaaRows2
import Derived.Laws.CopyOwn
import Derived.Maps.AppendAt
import Derived.OneCell
import Derived.RegionTactic
import Derived.Test.YtjbnohepbmejkaaMarkHeld
namespace Go.Proofs.Ytjbnohepbmejkaa
set_option linter.unusedVariables false
open Go.RowKit
attribute [local simp] far_const

/-- The numbers of a slice, one behind the other. -/
def Ints (w : World) (a : Option Addr) (l : List Int) : Prop := l = [] ∨ ∃ b off, a = some ⟨b, off, none⟩ ∧ ∀ i (h : i < l.length), w.cell? ⟨b, off + i, none⟩ = some (.int .i64 l[i])
theorem Ints.grew {w w' : World} {a : Option Addr} {l : List Int} (h : Ints w a l) (g : Grew w w') : Ints w' a l := by
  rcases h with h | ⟨b, off, ha, h⟩
  · exact .inl h
  · exact .inr ⟨b, off, ha, fun i hi => g.keep (h i hi)⟩
theorem Ints.at {w : World} {a : Option Addr} {l : List Int} (h : Ints w a l) {i : Nat} (hi : i < l.length) : ∃ b off, a = some ⟨b, off, none⟩ ∧ w.cell? ⟨b, off + i, none⟩ = some (.int .i64 l[i]) := by
  rcases h with h | ⟨b, off, ha, h⟩
  · subst h; exact absurd hi (Nat.not_lt_zero _)
  · exact ⟨b, off, ha, h i hi⟩
theorem Ints.three {w : World} {a : Option Addr} {x y z : Int} (h : Ints w a [x, y, z]) : ∃ b off, a = some ⟨b, off, none⟩ ∧ w.cell? ⟨b, off, none⟩ = some (.int .i64 x) ∧ w.cell? ⟨b, off + 1, none⟩ = some (.int .i64 y) ∧ w.cell? ⟨b, off + 2, none⟩ = some (.int .i64 z) := by
  rcases h with h | ⟨b, off, ha, h⟩
  · cases h
  · exact ⟨b, off, ha, h 0 (by simp), h 1 (by simp), h 2 (by simp)⟩
theorem Ran.ints {R : Nat} {w w' : World} {a : Option Addr} {l : List Int} (h : Ints w a l) (g : Ran R w w') (hR : ∀ x, a = some x → x.block ≠ R) : Ints w' a l := by
  rcases h with h | ⟨b, off, ha, h⟩
  · exact .inl h
  · have hb := hR _ ha
    exact .inr ⟨b, off, ha, fun i hi => g.cell hb (h i hi)⟩

def nums (l : List Int) : List Value := l.map (Value.int .i64)
theorem nums_length (l : List Int) : (nums l).length = l.length := by simp [nums]
theorem nums_one (l : List Int) : ∀ u ∈ nums l, u.oneCell' = true := fun u hu => by
  obtain ⟨x, _, rfl⟩ := List.mem_map.1 hu
  rfl
/-- The cells of numbers that lie in memory. -/
theorem Ints.nums {w : World} {ad : Addr} {l : List Int} (h : Ints w (some ad) l) : ∀ j u, (nums l)[j]? = some u → w.cell? (ad.add j) = some u := by
  intro j u hj
  rcases h with h | ⟨b, off, ha, h⟩
  · subst h; simp [Go.Proofs.Ytjbnohepbmejkaa.nums] at hj
  · simp only [Option.some.injEq] at ha
    subst ha
    have hjl : j < l.length := by
      have := (List.getElem?_eq_some_iff.1 hj).1
      rwa [nums_length] at this
    have hadd : (⟨b, off, none⟩ : Addr).add j = ⟨b, off + j, none⟩ := by unfold Addr.add; split <;> simp_all
    rw [hadd, h j hjl]
    simpa [Go.Proofs.Ytjbnohepbmejkaa.nums, hjl] using hj

/-- A row of numbers that the call owns; never nil. -/
def OwnN (w : World) (base : Nat) (v : Value) (l : List Int) : Prop := v ≠ .slice none 0 0 ∧ w.ownsRow base 3 1 v l.length (nums l)
theorem OwnN.shape {w : World} {base : Nat} {v : Value} {l : List Int} (h : OwnN w base v l) : ∃ g cap, v = .slice (some ⟨g, 0, none⟩) l.length cap ∧ l.length ≤ cap ∧ base ≤ g ∧ g < w.heap.size ∧
    Ints w (some ⟨g, 0, none⟩) l ∧ (∀ i, w.frozen? ⟨g, i, none⟩ = false) := by
  rcases h.2.2 with ⟨hv, hn⟩ | ⟨g, cap, cur, hv, hb, hg, hnc, hcm, hcs, htake⟩
  · exact absurd hv h.1
  · have hlt : g < w.heap.size := (Array.getElem?_eq_some_iff.1 hg).1
    have hv' : w.ownsRow base 3 1 (.slice (some ⟨g, 0, none⟩) l.length cap) l.length (Go.Proofs.Ytjbnohepbmejkaa.nums l) := by rw [← hv]; exact h.2
    refine ⟨g, cap, hv, hnc, hb, hlt, .inr ⟨g, 0, rfl, fun i hi => ?_⟩, fun i => ?_⟩
    · rw [Nat.zero_add, hv'.cellAt i (by omega)]
      simp [Go.Proofs.Ytjbnohepbmejkaa.nums, hi]
    · simp [World.frozen?, hg]
theorem OwnN.kept {w w' : World} {base : Nat} {v : Value} {l : List Int} (h : OwnN w base v l) (e : ∀ g, base ≤ g → g < w.heap.size → v.ownBlock = some g → w'.heap[g]? = w.heap[g]?) : OwnN w' base v l := by
  refine ⟨h.1, h.2.1, ?_⟩
  rcases h.2.2 with h0 | ⟨g, cap, cur, hv, hb, hg, hr⟩
  · exact .inl h0
  · exact .inr ⟨g, cap, cur, hv, hb, by rw [e g hb (Array.getElem?_eq_some_iff.1 hg).1 (by rw [hv]; rfl)]; exact hg, hr⟩
theorem OwnN.grew {w w' : World} {base : Nat} {v : Value} {l : List Int} (h : OwnN w base v l) (g : Grew w w') : OwnN w' base v l :=
  h.kept fun k _ hl _ => g.below.block k hl
theorem OwnN.ran {w w' : World} {R base : Nat} {v : Value} {l : List Int} (h : OwnN w base v l) (g : Ran R w w') (hR : R < base) : OwnN w' base v l :=
  h.kept fun k hk hl _ => g.keep k hl (by omega)
theorem OwnN.low {w : World} {base base' : Nat} {v : Value} {l : List Int} (h : OwnN w base v l) (hb : base' ≤ base) : OwnN w base' v l := by
  refine ⟨h.1, h.2.1, ?_⟩
  rcases h.2.2 with h0 | ⟨g, cap, cur, hv, hb', hr⟩
  · exact .inl h0
  · exact .inr ⟨g, cap, cur, hv, by omega, hr⟩
theorem OwnN.lit {w : World} {base : Nat} (hb : base ≤ w.heap.size) (l : List Int) (n : Nat) (hn : l.length = n) (hm : n ≤ 1048576) : OwnN (w.alloc (.cells (nums l).toArray 3)) base (.slice (some ⟨w.heap.size, 0, none⟩) n n) l := by
  subst hn
  exact ⟨fun e => by simp at e, World.ownsRow_lit w (nums l).toArray l.length hb (by unfold maxLen; omega) (by simp [nums])⟩
theorem OwnN.of_heap {w : World} {base g : Nat} {l : List Int} (hb : base ≤ g) (h : w.heap[g]? = some (.cells (nums l).toArray 3 (0, 0))) (n : Nat) (hn : l.length = n) (hm : n ≤ 1048576) : OwnN w base (.slice (some ⟨g, 0, none⟩) n n) l := by
  subst hn
  refine ⟨fun e => by simp at e, by simp [nums], .inr ⟨g, l.length, (nums l).toArray, rfl, hb, h, Nat.le_refl _, by unfold maxLen; omega, by simp [nums], ?_⟩⟩
  rw [Nat.mul_one, List.take_of_length_le (by simp [nums])]
theorem OwnN.block {w : World} {base : Nat} {v : Value} {l : List Int} (h : OwnN w base v l) : ∀ k, v.ownBlock = some k → base ≤ k ∧ k < w.heap.size := World.ownsRow.lt h.2
theorem OwnN.set {w : World} {base g n cap : Nat} {l : List Int} (h : OwnN w base (.slice (some ⟨g, 0, none⟩) n cap) l) (i : Nat) (x : Int) : OwnN (w.setCell ⟨g, i, none⟩ (.int .i64 x)) base (.slice (some ⟨g, 0, none⟩) n cap) (l.set i x) := by
  have hn : n = l.length := by
    obtain ⟨_, _, hv, _⟩ := h.shape
    simp at hv; exact hv.2.1
  subst hn
  have hs := (World.ownsRow.stored h.2 i (.int .i64 x)).1
  refine ⟨h.1, ?_⟩
  have e : nums (l.set i x) = (nums l).set i (.int .i64 x) := by simp [nums, List.map_set]
  rw [e, List.length_set]
  exact hs
theorem int_info : (Try.prog.info? 3).map (fun i => (i.zero, i.size, i.bytes)) = some (some (.int .i64 0), 1, 8) := by kernel_rfl

/-- 'append' onto a row of numbers that the call owns, from numbers that lie in memory. -/
theorem wpList_nums {ops : Array Oper} {rest : List Oper} {o : Oper} {a : Act} {Q : Exit → Act → World → Prop} {w : World} (hgd : o.guard = none) (s x : Operand)
    (ho : o.op = .call { callee := .builtin .append, args := #[s, x], argTypes := #[29, 29] })
    (base : Nat) (v : Value) (l : List Int) (hs : a.eval s = v) (hown : OwnN w base v l)
    (ad : Addr) (c : Nat) (m : List Int) (mn : Nat) (hmn : m.length = mn) (hx : a.eval x = .slice (some ad) mn c) (hm : Ints w (some ad) m) (hn : l.length + m.length ≤ 1048576) (hbase : base ≤ w.heap.size)
    (h : ∀ v' w', OwnN w' base v' (l ++ m) → w.grownBy w' v.ownBlock → wpList Try.prog ops Q rest (a.put o.dst v') w') : wpList Try.prog ops Q (o :: rest) a w := by
  obtain ⟨i, hi, hz0, hz1, hz2⟩ := info_parts int_info
  subst hmn
  refine wpList_append_own w hgd s x 29 ho base 3 i _ 1 8 Try.underlying29 hi hz0 hz1 hz2 rfl (by omega) v l.length (nums l) hs hown.2 ad m.length c (nums m) hx (by simp [nums]) hm.nums (nums_one m) (by unfold maxLen; omega) (by omega) hbase ?_
  intro v' w' h1 h2 h3
  refine h v' w' ⟨fun e => hown.1 (h3.1 e).1, ?_⟩ h2
  have e : nums (l ++ m) = nums l ++ nums m := by simp [nums]
  rw [List.length_append, e]
  exact h1
theorem make_nums (n : Nat) (hn : n ≤ 1048576) (w : World) : (Instr.makeSlice 29 (.int .i64 (n : Int)) (.int .i64 (n : Int))).run Try.prog w = .ok (.slice (some ⟨w.heap.size, 0, none⟩) n n) (w.alloc (.cells (madeCells #[.int .i64 0] n) 3)) := by
  obtain ⟨i, hi, hz⟩ := Option.map_eq_some_iff.1 int_info
  simp only [Prod.mk.injEq] at hz
  obtain ⟨hz, hs, hb⟩ := hz
  have hr := run_make (P := Try.prog) w 29 3 i _ Try.underlying29 hi hz .i64 .i64 n n (by omega) (Int.le_refl _) (by rw [hb]; omega) (by omega)
  simp only [Int.toNat_natCast, hs, Nat.mul_one] at hr
  exact hr
theorem nums_zeros (n : Nat) : madeCells #[.int .i64 0] n = (nums (List.replicate n 0)).toArray := by
  apply Array.ext'
  rw [toList_madeCells_one]
  simp [nums]

/-- What a call answers: nothing at all, or a row of its own. -/
def AnsN (w : World) (base : Nat) (v : Value) (l : List Int) : Prop := (v = .slice none 0 0 ∧ l = []) ∨ OwnN w base v l
theorem AnsN.shape {w : World} {base : Nat} {v : Value} {l : List Int} (h : AnsN w base v l) : ∃ a cap, v = .slice a l.length cap ∧ l.length ≤ cap ∧ Ints w a l ∧ (∀ x, a = some x → base ≤ x.block ∧ x.block < w.heap.size) := by
  rcases h with ⟨rfl, rfl⟩ | h
  · exact ⟨none, 0, rfl, Nat.le_refl _, .inl rfl, fun x hx => by cases hx⟩
  · obtain ⟨g, cap, rfl, h1, h2, h3, h4, _⟩ := h.shape
    exact ⟨_, cap, rfl, h1, h4, fun x hx => by cases hx; exact ⟨h2, h3⟩⟩
theorem AnsN.grew {w w' : World} {base : Nat} {v : Value} {l : List Int} (h : AnsN w base v l) (g : Grew w w') : AnsN w' base v l := by
  rcases h with h | h
  · exact .inl h
  · exact .inr (h.grew g)
theorem AnsN.low {w : World} {base base' : Nat} {v : Value} {l : List Int} (h : AnsN w base v l) (hb : base' ≤ base) : AnsN w base' v l := by
  rcases h with h | h
  · exact .inl h
  · exact .inr (h.low hb)

set_option linter.unusedVariables false
open Go.RowKit
attribute [local simp] far_const

set_option maxHeartbeats 1000000 in
theorem lwInts_any (a b : Option Addr) (ca cb : Nat) (l m : List Int) (w : World) (hl : Ints w a l) (hm : Ints w b m) (hn : l.length ≤ 1048576) (hn' : m.length ≤ 1048576) :
    Calls Try.prog 65 #[.slice a l.length ca, .slice b m.length cb] w fun r w' => r = .returned (.bool (decide (l = m))) ∧ Grew w w' := by
  by_cases hlen : l.length = m.length
  · have hne : ((l.length : Int) != (m.length : Int)) = false := by simp [hlen]
    go_enter Try.func65, Try.ntmps65
    go_wp2_with fail
    clear hne
    have HL := hide hlen
    have hlen' : m.length ≤ l.length := by omega
    have hlen2 : l.length ≤ m.length := by omega
    clear hlen
    go_loopw [5] (fun i wr => ∃ k : Nat, k ≤ l.length ∧ i = .int .i64 k ∧ Grew w wr ∧ Hid (∀ j (h1 : j < l.length) (h2 : j < m.length), j < k → l[j] = m[j])) (fun i _ => l.length - (intOf i).toNat)
    case atStart => exact ⟨0, Nat.zero_le _, rfl, Grew.refl _, fun j _ _ h => absurd h (Nat.not_lt_zero _)⟩
    case round =>
      obtain ⟨k, hk, rfl, hg, HI⟩ := hrel
      by_cases hlt : k < l.length
      · have hlt2 : k < m.length := by omega
        obtain ⟨b1, o1, rfl, hat⟩ := hl.at hlt
        obtain ⟨b2, o2, rfl, hat2⟩ := hm.at hlt2
        have c0 := hg.keep hat
        have d0 := hg.keep hat2
        have e0 := Grew.gcell c0
        have f0 := Grew.gcell d0
        clear hat hat2
        by_cases heq : l[k] = m[k]
        · have hnext : Hid (∀ j (h1 : j < l.length) (h2 : j < m.length), j < k + 1 → l[j] = m[j]) := fun j h1 h2 hj => by
            by_cases e : j = k
            · subst e; exact heq
            · exact HI.out j h1 h2 (by omega)
          have hne : (l[k] != m[k]) = false := by simp [heq]
          clear heq
          go_wp2_with fail
          refine quietly (by kernel_rfl) (by kernel_rfl) ?_
          repeat (go_big_quiet_step (first | fail))
          refine wpQuiet_nil ?_
          intro _ hw'
          obtain ⟨⟨nq, osq⟩, hw''⟩ := hw'
          subst hw''
          go_wp2
          go_roundw
          case rel => exact ⟨k + 1, by omega, by go_num, hg.trans ⟨_, _, rfl⟩, hnext⟩
          case measure => simp [intOf]; omega
        · have hend : Hid (decide (l = m) = false) := by
            show decide (l = m) = false
            rw [decide_eq_false_iff_not]
            intro h
            subst h
            exact heq rfl
          have hne : (l[k] != m[k]) = true := by simpa using heq
          clear heq
          go_wp2_with fail
          refine quietly (by kernel_rfl) (by kernel_rfl) ?_
          repeat (go_big_quiet_step (first | fail))
          refine wpQuiet_nil ?_
          intro _ hw'
          obtain ⟨⟨nq, osq⟩, hw''⟩ := hw'
          subst hw''
          go_wp2
          go_ret
          exact ⟨ret_bool hend.out.symm, hg.trans ⟨_, _, rfl⟩⟩
      · have hle : (l.length : Int) ≤ (k : Int) := by omega
        have hend : Hid (decide (l = m) = true) := by
          show decide (l = m) = true
          rw [decide_eq_true_eq]
          exact List.ext_getElem HL.out fun i h1 h2 => HI.out i h1 h2 (by omega)
        clear hlt
        go_wp2
        go_ret
        exact ⟨ret_bool hend.out.symm, hg⟩
  · have hne : ((l.length : Int) != (m.length : Int)) = true := by simp; omega
    have hend : Hid (decide (l = m) = false) := by show decide (l = m) = false; rw [decide_eq_false_iff_not]; intro h; exact hlen (by rw [h])
    clear hlen
    go_enter Try.func65, Try.ntmps65
    go_wp2
    go_ret
    exact ⟨ret_bool hend.out.symm, Grew.refl _⟩

set_option maxHeartbeats 1000000 in
theorem eqIntS_any (a b : Option Addr) (ca cb : Nat) (l m : List Int) (w : World) (hl : Ints w a l) (hm : Ints w b m) (hn : l.length ≤ 1048576) (hn' : m.length ≤ 1048576) :
    Calls Try.prog 132 #[.slice a l.length ca, .slice b m.length cb] w fun r w' => r = .returned (.bool (decide (l = m))) ∧ Grew w w' := by
  by_cases hlen : l.length = m.length
  · have hne : ((l.length : Int) != (m.length : Int)) = false := by simp [hlen]
    go_enter Try.func132, Try.ntmps132
    go_wp2_with fail
    clear hne
    have HL := hide hlen
    have hlen' : m.length ≤ l.length := by omega
    have hlen2 : l.length ≤ m.length := by omega
    clear hlen
    go_loopw [5] (fun i wr => ∃ k : Nat, k ≤ l.length ∧ i = .int .i64 k ∧ Grew w wr ∧ Hid (∀ j (h1 : j < l.length) (h2 : j < m.length), j < k → l[j] = m[j])) (fun i _ => l.length - (intOf i).toNat)
    case atStart => exact ⟨0, Nat.zero_le _, rfl, Grew.refl _, fun j _ _ h => absurd h (Nat.not_lt_zero _)⟩
    case round =>
      obtain ⟨k, hk, rfl, hg, HI⟩ := hrel
      by_cases hlt : k < l.length
      · have hlt2 : k < m.length := by omega
        obtain ⟨b1, o1, rfl, hat⟩ := hl.at hlt
        obtain ⟨b2, o2, rfl, hat2⟩ := hm.at hlt2
        have c0 := hg.keep hat
        have d0 := hg.keep hat2
        have e0 := Grew.gcell c0
        have f0 := Grew.gcell d0
        clear hat hat2
        by_cases heq : l[k] = m[k]
        · have hnext : Hid (∀ j (h1 : j < l.length) (h2 : j < m.length), j < k + 1 → l[j] = m[j]) := fun j h1 h2 hj => by
            by_cases e : j = k
            · subst e; exact heq
            · exact HI.out j h1 h2 (by omega)
          have hne : (l[k] != m[k]) = false := by simp [heq]
          clear heq
          go_wp2_with fail
          refine quietly (by kernel_rfl) (by kernel_rfl) ?_
          repeat (go_big_quiet_step (first | fail))
          refine wpQuiet_nil ?_
          intro _ hw'
          obtain ⟨⟨nq, osq⟩, hw''⟩ := hw'
          subst hw''
          go_wp2
          go_roundw
          case rel => exact ⟨k + 1, by omega, by go_num, hg.trans ⟨_, _, rfl⟩, hnext⟩
          case measure => simp [intOf]; omega
        · have hend : Hid (decide (l = m) = false) := by
            show decide (l = m) = false
            rw [decide_eq_false_iff_not]
            intro h
            subst h
            exact heq rfl
          have hne : (l[k] != m[k]) = true := by simpa using heq
          clear heq
          go_wp2_with fail
          refine quietly (by kernel_rfl) (by kernel_rfl) ?_
          repeat (go_big_quiet_step (first | fail))
          refine wpQuiet_nil ?_
          intro _ hw'
          obtain ⟨⟨nq, osq⟩, hw''⟩ := hw'
          subst hw''
          go_wp2
          go_ret
          exact ⟨ret_bool hend.out.symm, hg.trans ⟨_, _, rfl⟩⟩
      · have hle : (l.length : Int) ≤ (k : Int) := by omega
        have hend : Hid (decide (l = m) = true) := by
          show decide (l = m) = true
          rw [decide_eq_true_eq]
          exact List.ext_getElem HL.out fun i h1 h2 => HI.out i h1 h2 (by omega)
        clear hlt
        go_wp2
        go_ret
        exact ⟨ret_bool hend.out.symm, hg⟩
  · have hne : ((l.length : Int) != (m.length : Int)) = true := by simp; omega
    have hend : Hid (decide (l = m) = false) := by show decide (l = m) = false; rw [decide_eq_false_iff_not]; intro h; exact hlen (by rw [h])
    clear hlen
    go_enter Try.func132, Try.ntmps132
    go_wp2
    go_ret
    exact ⟨ret_bool hend.out.symm, Grew.refl _⟩

set_option maxHeartbeats 1000000 in
theorem toIntS_any (a : Option Addr) (cap : Nat) (l : List Int) (w : World) (hl : Ints w a l) (hn : l.length ≤ 1048576) :
    Calls Try.prog 130 #[.slice a l.length cap] w fun r w' => ∃ v, r = .returned v ∧ OwnN w' w.heap.size v l ∧ Grew w w' := by
  have hmk := make_nums l.length hn
  have O0 := hide (OwnN.lit (w := w) (Nat.le_refl _) (List.replicate l.length 0) l.length (by simp) hn)
  rw [← nums_zeros] at O0
  go_enter Try.func130, Try.ntmps130
  go_wp2_with fail
  clear hmk
  go_loopw [4] (fun i wr => ∃ k : Nat, k ≤ l.length ∧ i = .int .i64 k ∧ Grew w wr ∧ Hid (∃ m : List Int, m.length = l.length ∧ OwnN wr w.heap.size (.slice (some ⟨w.heap.size, 0, none⟩) l.length l.length) m ∧ ∀ i (h : i < m.length) (h2 : i < l.length), i < k → m[i] = l[i])) (fun i _ => l.length - (intOf i).toNat)
  case atStart => exact ⟨0, Nat.zero_le _, rfl, (Grew.refl _).alloc _, ⟨_, by simp, unhide O0, fun i _ _ h => absurd h (Nat.not_lt_zero _)⟩⟩
  case round =>
    obtain ⟨k, hk, rfl, hg, HM⟩ := hrel
    clear O0
    by_cases hlt : k < l.length
    · obtain ⟨b, off, rfl, hat⟩ := hl.at hlt
      have c0 := hg.keep hat
      clear hat
      obtain ⟨m, hm, hom, hall⟩ := unhide HM
      obtain ⟨g', cp, hv, _, _, _, hi, hf⟩ := hom.shape
      simp only [Value.slice.injEq, Option.some.injEq, Addr.mk.injEq, and_true] at hv
      obtain ⟨rfl, _, _⟩ := hv
      obtain ⟨_, _, hv, d0⟩ := hi.at (i := k) (by omega)
      simp only [Option.some.injEq, Addr.mk.injEq, and_true] at hv
      obtain ⟨rfl, rfl⟩ := hv
      rw [Nat.zero_add] at d0
      have z0 := hf k
      have HN : Hid (∃ m : List Int, m.length = l.length ∧ OwnN (wr.setCell ⟨w.heap.size, k, none⟩ (.int .i64 l[k])) w.heap.size (.slice (some ⟨w.heap.size, 0, none⟩) l.length l.length) m ∧ ∀ i (h : i < m.length) (h2 : i < l.length), i < k + 1 → m[i] = l[i]) := by
        refine ⟨m.set k l[k], by simpa using hm, hom.set k _, fun i h h2 hij => ?_⟩
        rw [List.getElem_set]
        split
        · rename_i e; subst e; rfl
        · exact hall i (by simpa using h) h2 (by omega)
      obtain ⟨D, hD⟩ : ∃ D, D = m[k]'(by omega) := ⟨_, rfl⟩
      rw [← hD] at d0
      clear hi hf hall hom hm HM hD
      go_wp2
      go_roundw
      case rel => exact ⟨k + 1, by omega, by go_num, hg.setCell (Nat.le_refl _) _, HN⟩
      case measure => simp [intOf]; omega
    · have hle : (l.length : Int) ≤ (k : Int) := by omega
      have hkl : Hid (l.length ≤ k) := by show l.length ≤ k; omega
      clear hlt
      go_wp2
      go_ret
      obtain ⟨m, hm, hom, hall⟩ := unhide HM
      have e : m = l := List.ext_getElem hm fun i h1 h2 => hall i h1 h2 (by have := unhide hkl; omega)
      rw [e] at hom
      exact ⟨_, rfl, hom, hg⟩

/-- The marks from k on. -/
def marksN : Int → Nat → List Int
  | _, 0 => []
  | k, n + 1 => k :: marksN (k + 1) n
theorem marksN_len : ∀ (n : Nat) (k : Int), (marksN k n).length = n
  | 0, _ => rfl
  | n + 1, k => by simp [marksN, marksN_len n]
theorem marksN_get : ∀ (n : Nat) (k : Int) (i : Nat) (h : i < (marksN k n).length), (marksN k n)[i] = k + i
  | 0, k, i, h => by simp [marksN] at h
  | n + 1, k, 0, h => by simp [marksN]
  | n + 1, k, i + 1, h => by
    have := marksN_get n (k + 1) i (by simpa [marksN] using h)
    simp only [marksN, List.getElem_cons_succ, this]
    omega
theorem Wrote.ints {a b : Option Addr} {w w' : World} {l : List Int} (h : Wrote a w w') (i : Ints w b l) (hne : 0 < l.length → ∀ x y, a = some x → b = some y → x.block ≠ y.block) : Ints w' b l := by
  by_cases h0 : l = []
  · exact .inl h0
  · have hp : 0 < l.length := List.length_pos_iff.2 h0
    rcases i with i | ⟨g, off, hb, i⟩
    · exact .inl i
    · have e : w'.heap[g]? = w.heap[g]? := h.keep g (fun x hx => hne hp x _ hx hb)
      refine .inr ⟨g, off, hb, fun j hj => ?_⟩
      rw [World.cell?_of_block (w := w) e]; exact i j hj
theorem Wrote.ownN {a : Option Addr} {w w' : World} {base : Nat} {v : Value} {l : List Int} (h : Wrote a w w') (o : OwnN w base v l) (hne : ∀ x g, a = some x → v.ownBlock = some g → x.block ≠ g) : OwnN w' base v l :=
  o.kept fun g _ _ hv => h.keep g fun x hx => hne x g hx hv

set_option linter.unusedVariables false
open Go.RowKit
attribute [local simp] far_const

/-- The slice value v reads as the numbers l. -/
def NumV (w : World) (v : Value) (l : List Int) : Prop := ∃ a cap, v = .slice a l.length cap ∧ Ints w a l
theorem NumV.grew {w w' : World} {v : Value} {l : List Int} (h : NumV w v l) (g : Grew w w') : NumV w' v l := by
  obtain ⟨a, cap, rfl, h⟩ := h; exact ⟨a, cap, rfl, h.grew g⟩
theorem AnsN.num {w : World} {base : Nat} {v : Value} {l : List Int} (h : AnsN w base v l) : NumV w v l := by
  obtain ⟨a, cap, rfl, _, h, _⟩ := h.shape; exact ⟨a, cap, rfl, h⟩
theorem OwnN.ans {w : World} {base : Nat} {v : Value} {l : List Int} (h : OwnN w base v l) : AnsN w base v l := .inr h
theorem OwnN.num {w : World} {base : Nat} {v : Value} {l : List Int} (h : OwnN w base v l) : NumV w v l := h.ans.num
theorem NumV.of {w : World} {a : Option Addr} {n cap : Nat} {l : List Int} (hn : l.length = n) (h : Ints w a l) : NumV w (.slice a n cap) l := ⟨a, cap, by rw [hn], h⟩
/-- What three numbers look like. -/
theorem NumV.three {w : World} {v : Value} {x y z : Int} (h : NumV w v [x, y, z]) : ∃ b off cap, v = .slice (some ⟨b, off, none⟩) 3 cap ∧ w.cell? ⟨b, off, none⟩ = some (.int .i64 x) ∧ w.cell? ⟨b, off + 1, none⟩ = some (.int .i64 y) ∧ w.cell? ⟨b, off + 2, none⟩ = some (.int .i64 z) := by
  obtain ⟨a, cap, rfl, h⟩ := h
  obtain ⟨b, off, rfl, h'⟩ := h.three
  exact ⟨b, off, cap, rfl, h'⟩
theorem NumV.shape {w : World} {v : Value} {l : List Int} (h : NumV w v l) : ∃ a cap, v = .slice a l.length cap := by
  obtain ⟨a, cap, rfl, h⟩ := h
  exact ⟨a, cap, rfl⟩
theorem AnsN.block {w : World} {base : Nat} {v : Value} {l : List Int} (h : AnsN w base v l) : ∀ k, v.ownBlock = some k → base ≤ k ∧ k < w.heap.size := by
  rcases h with ⟨rfl, rfl⟩ | h
  · intro k hk; cases hk
  · exact h.block
theorem AnsN.kept {w w' : World} {base : Nat} {v : Value} {l : List Int} (h : AnsN w base v l) (e : ∀ g, v.ownBlock = some g → w'.heap[g]? = w.heap[g]?) : AnsN w' base v l := by
  rcases h with h | h
  · exact .inl h
  · exact .inr (h.kept fun g _ _ hg => e g hg)

theorem lwInts_v {v u : Value} {l m : List Int} (w : World) (hl : NumV w v l) (hm : NumV w u m) (hn : l.length ≤ 1048576) (hn' : m.length ≤ 1048576) :
    Calls Try.prog 65 #[v, u] w fun r w' => r = .returned (.bool (decide (l = m))) ∧ Grew w w' := by
  obtain ⟨a, ca, rfl, hl⟩ := hl
  obtain ⟨b, cb, rfl, hm⟩ := hm
  exact lwInts_any a b ca cb l m w hl hm hn hn'
theorem eqIntS_v {v u : Value} {l m : List Int} (w : World) (hl : NumV w v l) (hm : NumV w u m) (hn : l.length ≤ 1048576) (hn' : m.length ≤ 1048576) :
    Calls Try.prog 132 #[v, u] w fun r w' => r = .returned (.bool (decide (l = m))) ∧ Grew w w' := by
  obtain ⟨a, ca, rfl, hl⟩ := hl
  obtain ⟨b, cb, rfl, hm⟩ := hm
  exact eqIntS_any a b ca cb l m w hl hm hn hn'
end Go.Proofs.Ytjbnohepbmejkaa
