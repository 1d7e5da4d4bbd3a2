/-
  The tree of votes: treeOf; and where a chain is in it: find.
-/
import Derived.Test.YtibhfiamibccnacTree9
namespace Go.Proofs.Ytibhfiamibccnac
set_option linter.unusedVariables false
open Go.RowKit
attribute [local simp] far_const

/-- The chains that votes are for, as they stand first, behind nothing. -/
def firstsL (l : List Vt) : List (List It) := l.foldl (fun acc x => if acc.any (fun d => sameB d x.c) then acc else acc ++ [x.c]) [[]]
theorem firstsL_snoc (l : List Vt) (x : Vt) : firstsL (l ++ [x]) = if (firstsL l).any (fun d => sameB d x.c) then firstsL l else firstsL l ++ [x.c] := by simp [firstsL]
theorem firstsL_mem (l : List Vt) (c : List It) : c ∈ firstsL l ↔ c = [] ∨ ∃ x ∈ l, x.c = c := by
  obtain ⟨n, hn⟩ : ∃ n, l.length = n := ⟨_, rfl⟩
  induction n generalizing l with
  | zero => have := List.eq_nil_of_length_eq_zero hn; subst this; simp [firstsL]
  | succ n ih =>
    rcases List.eq_nil_or_concat l with rfl | ⟨m, x, rfl⟩
    · simp at hn
    rw [List.concat_eq_append] at hn ⊢
    have hi := ih m (by simp at hn; exact hn)
    rw [firstsL_snoc]
    split
    · rename_i h
      rw [hi]
      constructor
      · rintro (h | ⟨y, hy, e⟩)
        · exact .inl h
        · exact .inr ⟨y, List.mem_append.2 (.inl hy), e⟩
      · rintro (h' | ⟨y, hy, e⟩)
        · exact .inl h'
        · rcases List.mem_append.1 hy with hy | hy
          · exact .inr ⟨y, hy, e⟩
          · simp only [List.mem_singleton] at hy
            subst hy
            rw [List.any_eq_true] at h
            obtain ⟨d, hd, hs⟩ := h
            rw [sameB_iff] at hs
            rw [← hi, ← e, ← hs]
            exact hd
    · rw [List.mem_append, hi]
      constructor
      · rintro ((h | ⟨y, hy, e⟩) | h)
        · exact .inl h
        · exact .inr ⟨y, List.mem_append.2 (.inl hy), e⟩
        · simp only [List.mem_singleton] at h
          exact .inr ⟨x, by simp, h.symm⟩
      · rintro (h | ⟨y, hy, e⟩)
        · exact .inl (.inl h)
        · rcases List.mem_append.1 hy with hy | hy
          · exact .inl (.inr ⟨y, hy, e⟩)
          · simp only [List.mem_singleton] at hy
            subst hy
            exact .inr (by simp [e])
theorem firstsL_head (l : List Vt) : ∃ r, firstsL l = [] :: r := by
  obtain ⟨n, hn⟩ : ∃ n, l.length = n := ⟨_, rfl⟩
  induction n generalizing l with
  | zero => have := List.eq_nil_of_length_eq_zero hn; subst this; exact ⟨[], rfl⟩
  | succ n ih =>
    rcases List.eq_nil_or_concat l with rfl | ⟨m, x, rfl⟩
    · simp at hn
    rw [List.concat_eq_append] at hn ⊢
    obtain ⟨r, hr⟩ := ih m (by simp at hn; exact hn)
    rw [firstsL_snoc]
    split
    · exact ⟨r, hr⟩
    · exact ⟨r ++ [x.c], by rw [hr]; rfl⟩
theorem firstsL_len (l : List Vt) : (firstsL l).length ≤ l.length + 1 := by
  obtain ⟨n, hn⟩ : ∃ n, l.length = n := ⟨_, rfl⟩
  induction n generalizing l with
  | zero => have := List.eq_nil_of_length_eq_zero hn; subst this; simp [firstsL]
  | succ n ih =>
    rcases List.eq_nil_or_concat l with rfl | ⟨m, x, rfl⟩
    · simp at hn
    rw [List.concat_eq_append] at hn ⊢
    have hi := ih m (by simp at hn; exact hn)
    rw [firstsL_snoc]
    split <;> simp <;> omega
theorem cnt_zero (l : List Vt) (c : List It) : cnt l c = 0 ↔ ∀ x ∈ l, x.c ≠ c := by
  unfold cnt
  rw [List.length_eq_zero_iff, List.filter_eq_nil_iff]
  constructor
  · intro h x hx e; exact h x hx ((sameB_iff _ _).2 e)
  · intro h x hx e; exact h x hx ((sameB_iff _ _).1 e)
theorem cnt_snoc (l : List Vt) (x : Vt) : cnt (l ++ [x]) = upd (cnt l) x.c (cnt l x.c + 1) := by
  funext c
  unfold cnt
  rw [List.filter_append, List.length_append]
  by_cases e : c = x.c
  · subst e
    rw [upd_same]
    have : sameB x.c x.c = true := (sameB_iff _ _).2 rfl
    simp [this]
  · rw [upd_other _ _ e]
    have : sameB x.c c = false := by
      cases h : sameB x.c c with
      | false => rfl
      | true => exact absurd ((sameB_iff _ _).1 h).symm e
    simp [this]
theorem cnt_le (l : List Vt) (c : List It) : cnt l c ≤ l.length := List.length_filter_le _ _
theorem firstsL_step {l : List Vt} {x : Vt} (hx : x.c ≠ []) : (if cnt l x.c = 0 then firstsL l ++ [x.c] else firstsL l) = firstsL (l ++ [x]) := by
  rw [firstsL_snoc]
  by_cases h : (firstsL l).any (fun d => sameB d x.c) = true
  · rw [if_pos h, if_neg]
    rw [List.any_eq_true] at h
    obtain ⟨d, hd, hs⟩ := h
    rw [sameB_iff] at hs
    subst hs
    rw [firstsL_mem] at hd
    rcases hd with hd | ⟨y, hy, e⟩
    · exact absurd hd hx
    · rw [cnt_zero]
      exact fun h => h y hy e
  · rw [if_neg h, if_pos]
    rw [cnt_zero]
    intro y hy e
    apply h
    rw [List.any_eq_true]
    exact ⟨x.c, (firstsL_mem _ _).2 (.inr ⟨y, hy, e⟩), (sameB_iff _ _).2 rfl⟩

/-- The tree of votes in memory. -/
def TreeV (w : World) (base : Nat) (l : List Vt) (tb : Nat) : Prop :=
  ∃ M pos kv kd cv, TreeF w base (16 * l.length) M (cnt l) pos kv kd tb cv (firstsL l) ∧ ∀ d, M d ↔ d = [] ∨ ∃ x ∈ l, d <+: x.c
theorem TreeV.grew {w w' : World} {base : Nat} {l : List Vt} {tb : Nat} (h : TreeV w base l tb) (g : Grew w w') : TreeV w' base l tb := by
  obtain ⟨M, pos, kv, kd, cv, h, hm⟩ := h; exact ⟨M, pos, kv, kd, cv, h.grew g, hm⟩

theorem treeStart (w : World) : TreeV (((w.alloc (.cells #[.pointer none, .int .i64 0, .int .i64 0, .int .i64 0, .int .i64 0, .int .i64 0, .int .i64 0, .slice none 0 0] 66)).alloc (.cells #[.pointer (some ⟨w.heap.size, 0, none⟩)] 58)).alloc (.cells #[.slice (some ⟨w.heap.size + 1, 0, none⟩) 1 1] 90)) w.heap.size [] (w.heap.size + 1 + 1) := by
  obtain ⟨A, hA⟩ : ∃ A, A = w.alloc (.cells #[.pointer none, .int .i64 0, .int .i64 0, .int .i64 0, .int .i64 0, .int .i64 0, .int .i64 0, .slice none 0 0] 66) := ⟨_, rfl⟩
  obtain ⟨B, hB⟩ : ∃ B, B = A.alloc (.cells #[.pointer (some ⟨w.heap.size, 0, none⟩)] 58) := ⟨_, rfl⟩
  obtain ⟨C, hC⟩ : ∃ C, C = B.alloc (.cells #[.slice (some ⟨w.heap.size + 1, 0, none⟩) 1 1] 90) := ⟨_, rfl⟩
  rw [← hA, ← hB, ← hC]
  have sA : A.heap.size = w.heap.size + 1 := by rw [hA]; simp
  have sB : B.heap.size = w.heap.size + 1 + 1 := by rw [hB]; simp [sA]
  have hA0 : A.heap[w.heap.size]? = some (brO none ⟨0, 0, 0, 0⟩ 0 0 (.slice none 0 0)) := by rw [hA]; exact heap_alloc_new w _
  have hB0 : B.heap[w.heap.size]? = some (brO none ⟨0, 0, 0, 0⟩ 0 0 (.slice none 0 0)) := by rw [hB, heap_alloc_old _ _ (by omega)]; exact hA0
  have hB1 : B.heap[w.heap.size + 1]? = some (.cells #[.pointer (some ⟨w.heap.size, 0, none⟩)] 58 (0, 0)) := by rw [hB, ← sA]; exact heap_alloc_new A _
  have hC0 : C.heap[w.heap.size]? = some (brO none ⟨0, 0, 0, 0⟩ 0 0 (.slice none 0 0)) := by rw [hC, heap_alloc_old _ _ (by omega)]; exact hB0
  have hC1 : C.heap[w.heap.size + 1]? = some (.cells #[.pointer (some ⟨w.heap.size, 0, none⟩)] 58 (0, 0)) := by rw [hC, heap_alloc_old _ _ (by omega)]; exact hB1
  have hC2 : C.heap[w.heap.size + 1 + 1]? = some (.cells #[.slice (some ⟨w.heap.size + 1, 0, none⟩) 1 1] 90 (0, 0)) := by rw [hC, ← sB]; exact heap_alloc_new B _
  refine ⟨fun d => d = [], fun _ => w.heap.size, fun _ => .slice none 0 0, fun _ => [], .slice (some ⟨w.heap.size + 1, 0, none⟩) 1 1, ?_, fun d => by simp⟩
  refine { nil := rfl, up := fun c x h => (by simp at h), dn := fun c x _ h => (by cases h), inj := fun c d h1 h2 _ => (by rw [h1, h2]), zero := fun c _ => rfl, few := fun c _ => (by simp), low := fun c _ => Nat.le_refl _, blk := ?_, row := fun c _ => World.ownsRow_nil _ _ _ _, kk := fun c d k _ _ h _ => (by cases h), tlow := (by omega), tblk := hC2, trow := ?_, mem := fun c h => (by simpa [firstsL] using h), kt := fun c k _ h => (by cases h) }
  · intro c hc
    subst hc
    exact hC0
  · refine ⟨by simp [firstsL], .inr ⟨w.heap.size + 1, 1, _, rfl, by omega, hC1, by simp [firstsL], by unfold maxLen; omega, rfl, rfl⟩⟩

set_option maxRecDepth 20000 in
set_option maxHeartbeats 4000000 in
theorem treeOf_any (a : Option Addr) (cap : Nat) (l : List Vt) (w : World) (hl : Vts w a l) (hs : Short l) (hn : l.length ≤ 1048576) :
    Calls Try.prog 35 #[.slice a l.length cap] w fun r w' => ((votesB l = true ∧ ∃ tb base, r = .returned (.tuple #[ptr tb, .bool true]) ∧ TreeV w' base l tb ∧ w.heap.size ≤ base ∧ base ≤ w'.heap.size) ∨ (votesB l = false ∧ r = .returned (.tuple #[.pointer none, .bool false]))) ∧ Grew w w' := by
  go_enter Try.func35, Try.ntmps35
  go_wp2_with fail
  refine (implVotesOk a cap l _ hl hs hn).mono ?_
  rintro r w1 ⟨rfl, g1⟩
  cases hv : votesB l with
  | false =>
    go_wp2
    go_ret2
    exact ⟨.inr ⟨hv, rfl⟩, g1⟩
  | true =>
    have hst := hide (treeStart w1)
    have HV := hide ((votesB_iff l).1 hv).1
    have HVB := hide hv
    clear hv
    go_wp2_with fail
    obtain ⟨W, hW⟩ : ∃ W, Hid (W = ((w1.alloc (.cells #[.pointer none, .int .i64 0, .int .i64 0, .int .i64 0, .int .i64 0, .int .i64 0, .int .i64 0, .slice none 0 0] 66)).alloc (.cells #[.pointer (some ⟨w1.heap.size, 0, none⟩)] 58)).alloc (.cells #[.slice (some ⟨w1.heap.size + 1, 0, none⟩) 1 1] 90)) := ⟨_, hide rfl⟩
    rw [← hW.out] at hst ⊢
    have gW : Grew w1 W := by rw [hW.out]; exact (((Grew.refl w1).alloc _).alloc _).alloc _
    go_loopw [16] (fun i wr => ∃ k : Nat, k ≤ l.length ∧ i = .int .i64 k ∧ Hid (TreeV wr w1.heap.size (l.take k) (w1.heap.size + 1 + 1)) ∧ Grew w1 wr) (fun i _ => l.length - (intOf i).toNat)
    case atStart => exact ⟨0, Nat.zero_le _, rfl, by rw [List.take_zero]; exact hst, gW⟩
    case round =>
      obtain ⟨k, hk, rfl, hT, hg⟩ := hrel
      by_cases hlt : k < l.length
      · obtain ⟨b, off, rfl, hat⟩ := hl.at hlt
        have hat1 := hat.grew g1
        obtain ⟨c0, a1, cap1, c1, hi⟩ := hat1
        have k1 := hg.keep c1
        have hs1 := hs.at hlt
        have hvk : vokB l[k] = true := HV.out _ (List.getElem_mem hlt)
        have h16 : l[k].c.length ≤ 16 ∧ l[k].c ≠ [] := by
          simp only [vokB, okB, Bool.and_eq_true, decide_eq_true_eq] at hvk
          exact ⟨hvk.1.2.1, fun e => by rw [e] at hvk; simp at hvk⟩
        obtain ⟨M, pos, kv, kd, cv, hF, hM⟩ := unhide hT
        obtain ⟨r, hr⟩ := firstsL_head (l.take k)
        have hfl := firstsL_len (l.take k)
        have hcl := cnt_le (l.take k) l[k].c
        rw [hr] at hF hfl
        have hA := treeAdd_any hF hg.size a1 cap1 l[k].c (hi.grew hg) (fun y hy => by
          rcases hi with h0 | ⟨bb, oo, e1, hh⟩
          · exact absurd h0 h16.2
          · rw [e1] at hy
            cases hy
            have := World.block_lt_of_cell? _ _ (hh 0 (by have := h16.2; cases e : l[k].c <;> simp_all)).1
            exact this) hs1 (by simp; omega) (by simp at hfl; omega) (by simp at hcl; omega)
        have HA := hide hA
        have HM := hide hM
        have HC := hide h16
        clear hA hT hF hM hat hfl hcl h16 hvk
        unfold ptr at HA
        go_wp2_with fail
        refine HA.out.mono ?_
        clear HA
        rintro r2 w2 ⟨⟨v, rfl⟩, M2, pos2, kv2, kd2, cv2, hT2, hM2, hB2⟩
        have HT2 : Hid (TreeV w2 w1.heap.size (l.take (k + 1)) (w1.heap.size + 1 + 1)) := by
          show TreeV _ _ _ _
          have ht : l.take (k + 1) = l.take k ++ [l[k]] := List.take_succ_eq_append_getElem hlt
          rw [ht]
          refine ⟨M2, pos2, kv2, kd2, cv2, ?_, fun d => ?_⟩
          · rw [cnt_snoc, ← firstsL_step HC.out.2, hr]
            refine hT2.more ?_
            have := HC.out.1
            simp
            omega
          · rw [hM2 d, HM.out d]
            constructor
            · rintro ((h | ⟨y, hy, e⟩) | h)
              · exact .inl h
              · exact .inr ⟨y, List.mem_append.2 (.inl hy), e⟩
              · exact .inr ⟨l[k], List.mem_append.2 (.inr (List.mem_singleton.2 rfl)), h⟩
            · rintro (h | ⟨y, hy, e⟩)
              · exact .inl (.inl h)
              · rcases List.mem_append.1 hy with hy | hy
                · exact .inl (.inr ⟨y, hy, e⟩)
                · simp only [List.mem_singleton] at hy
                  subst hy
                  exact .inr e
        clear hT2 hM2
        have hg2 : Grew w1 w2 := .of_below (hg.below.trans hB2)
        go_wp2
        go_roundw
        case rel => exact ⟨k + 1, by omega, by go_num, HT2, hg2⟩
        case measure => simp [intOf]; omega
      · have hkl : k = l.length := by omega
        have hle : (l.length : Int) ≤ (k : Int) := by omega
        have HT2 : Hid (TreeV wr w1.heap.size l (w1.heap.size + 1 + 1)) := by
          have := hT
          rw [hkl, List.take_length] at this
          exact this
        clear hkl hT
        go_wp2
        go_ret2
        exact ⟨.inl ⟨HVB.out, w1.heap.size + 1 + 1, w1.heap.size, rfl, HT2.out, g1.size, hg.size⟩, g1.trans hg⟩
end Go.Proofs.Ytibhfiamibccnac
