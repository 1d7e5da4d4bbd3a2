/-
  Rows of strings that a call owns; l1Cut.
-/
import Derived.Test.YtfonpbglnkggfaaDoorRead4
import Derived.Maps.AppendAt
import Derived.OneCell
import Derived.RegionTactic
import Derived.WalkKit
namespace Go.Proofs.YtfonpbglnkggfaaDoor
set_option linter.unusedVariables false
open Go.RowKit
attribute [local simp] far_const

def strs (l : List (List UInt8)) : List Value := l.map fun x => .string (bt x)
/-- A row of strings that the call owns; never nil. -/
def OwnS (w : World) (base : Nat) (v : Value) (l : List (List UInt8)) : Prop := v ≠ .slice none 0 0 ∧ w.ownsRow base 9 1 v l.length (strs l)
theorem OwnS.shape {w : World} {base : Nat} {v : Value} {l : List (List UInt8)} (h : OwnS w base v l) : ∃ g cap, v = .slice (some ⟨g, 0, none⟩) l.length cap ∧ l.length ≤ cap ∧ base ≤ g ∧ g < w.heap.size ∧
    (∀ i (hi : i < l.length), w.cell? ⟨g, i, none⟩ = some (.string (bt l[i]))) ∧ (∀ i, w.frozen? ⟨g, i, none⟩ = false) := by
  rcases h.2.2 with ⟨hv, hn⟩ | ⟨g, cap, cur, hv, hb, hg, hnc, hcm, hcs, htake⟩
  · exact absurd hv h.1
  · have hlt : g < w.heap.size := (Array.getElem?_eq_some_iff.1 hg).1
    have hv' : w.ownsRow base 9 1 (.slice (some ⟨g, 0, none⟩) l.length cap) l.length (strs l) := by rw [← hv]; exact h.2
    refine ⟨g, cap, hv, hnc, hb, hlt, fun i hi => ?_, fun i => ?_⟩
    · rw [hv'.cellAt i (by omega)]
      simp [strs, hi]
    · simp [World.frozen?, hg]
theorem OwnS.kept {w w' : World} {base : Nat} {v : Value} {l : List (List UInt8)} (h : OwnS w base v l) (e : ∀ g, base ≤ g → g < w.heap.size → v.ownBlock = some g → w'.heap[g]? = w.heap[g]?) : OwnS w' base v l := by
  refine ⟨h.1, h.2.1, ?_⟩
  rcases h.2.2 with h0 | ⟨g, cap, cur, hv, hb, hg, hr⟩
  · exact .inl h0
  · exact .inr ⟨g, cap, cur, hv, hb, by rw [e g hb (Array.getElem?_eq_some_iff.1 hg).1 (by rw [hv]; rfl)]; exact hg, hr⟩
theorem OwnS.grew {w w' : World} {base : Nat} {v : Value} {l : List (List UInt8)} (h : OwnS w base v l) (g : Grew w w') : OwnS w' base v l :=
  h.kept fun k _ hl _ => g.below.block k hl
theorem OwnS.low {w : World} {base base' : Nat} {v : Value} {l : List (List UInt8)} (h : OwnS w base v l) (hb : base' ≤ base) : OwnS w base' v l := by
  refine ⟨h.1, h.2.1, ?_⟩
  rcases h.2.2 with h0 | ⟨g, cap, cur, hv, hb', hr⟩
  · exact .inl h0
  · exact .inr ⟨g, cap, cur, hv, by omega, hr⟩
theorem OwnS.one {w : World} {base : Nat} (hb : base ≤ w.heap.size) (x : List UInt8) : OwnS (w.alloc (.cells #[.string (bt x)] 9)) base (.slice (some ⟨w.heap.size, 0, none⟩) 1 1) [x] :=
  ⟨fun e => by simp at e, World.ownsRow_lit w #[.string (bt x)] 1 hb (by unfold maxLen; omega) rfl⟩
theorem OwnS.block {w : World} {base : Nat} {v : Value} {l : List (List UInt8)} (h : OwnS w base v l) : ∀ k, v.ownBlock = some k → base ≤ k ∧ k < w.heap.size := World.ownsRow.lt h.2
theorem heap_setCell_at {w : World} {g i : Nat} {cur : Array Value} {t : TypeId} {f : Nat × Nat} (h : w.heap[g]? = some (.cells cur t f)) (u : Value) : (w.setCell ⟨g, i, none⟩ u).heap[g]? = some (.cells (cur.setIfInBounds i u) t f) := by
  have hlt := lt_of_block h
  have h' : w.heap[g] = .cells cur t f := by simpa [Array.getElem?_eq_getElem hlt] using h
  show (w.heap.modify g _)[g]? = _
  rw [Array.getElem?_eq_getElem (by simpa using hlt), Array.getElem_modify_self, h']
  rfl
theorem OwnS.set {w : World} {base g n cap : Nat} {l : List (List UInt8)} (h : OwnS w base (.slice (some ⟨g, 0, none⟩) n cap) l) (i : Nat) (x : List UInt8) (hi : i < l.length) : OwnS (w.setCell ⟨g, i, none⟩ (.string (bt x))) base (.slice (some ⟨g, 0, none⟩) n cap) (l.set i x) := by
  refine ⟨h.1, by simp [strs], ?_⟩
  rcases h.2.2 with ⟨hv, _⟩ | ⟨g', cap', cur, hv, hb, hg, hnc, hcm, hcs, htake⟩
  · exact absurd hv h.1
  · simp only [Value.slice.injEq, Option.some.injEq, Addr.mk.injEq, and_true] at hv
    obtain ⟨rfl, rfl, rfl⟩ := hv
    refine .inr ⟨g, cap, cur.setIfInBounds i (.string (bt x)), by simp, hb, heap_setCell_at hg _, by simpa using hnc, hcm, by simpa using hcs, ?_⟩
    simp only [List.length_set, Nat.mul_one] at htake ⊢
    rw [Array.toList_setIfInBounds, List.take_set, htake]
    simp [strs, List.map_set]
theorem str_info : (Tryd.prog.info? 9).map (fun i => (i.zero, i.size, i.bytes)) = some (some (.string ⟨#[]⟩), 1, 16) := by kernel_rfl
theorem strs_one (l : List (List UInt8)) : ∀ u ∈ strs l, u.oneCell' = true := fun u hu => by
  obtain ⟨x, _, rfl⟩ := List.mem_map.1 hu
  rfl

/-- 'append' of one string onto a row of strings that the call owns. -/
theorem wpList_str {ops : Array Oper} {rest : List Oper} {o : Oper} {a : Act} {Q : Exit → Act → World → Prop} {w : World} (hgd : o.guard = none) (s x : Operand)
    (ho : o.op = .call { callee := .builtin .append, args := #[s, x], argTypes := #[36, 36] })
    (base : Nat) (v : Value) (l : List (List UInt8)) (hs : a.eval s = v) (hown : OwnS w base v l)
    (ad : Addr) (c : Nat) (y : List UInt8) (hx : a.eval x = .slice (some ad) 1 c) (hm : w.cell? ad = some (.string (bt y))) (hn : l.length ≤ 1048577) (hbase : base ≤ w.heap.size)
    (h : ∀ v' w', OwnS w' base v' (l ++ [y]) → w.grownBy w' v.ownBlock → wpList Tryd.prog ops Q rest (a.put o.dst v') w') : wpList Tryd.prog ops Q (o :: rest) a w := by
  obtain ⟨i, hi, hz0, hz1, hz2⟩ := info_parts str_info
  refine wpList_append_own w hgd s x 36 ho base 9 i _ 1 16 Tryd.underlying36 hi hz0 hz1 hz2 rfl (by omega) v l.length (strs l) hs hown.2 ad 1 c (strs [y]) hx rfl ?_ (strs_one _) (by unfold maxLen; omega) (by omega) hbase ?_
  · intro j u hj
    match j, hj with
    | 0, hj =>
      simp [strs] at hj
      subst hj
      exact hm
    | j + 1, hj => simp [strs] at hj
  · intro v' w' h1 h2 h3
    refine h v' w' ⟨fun e => hown.1 (h3.1 e).1, ?_⟩ h2
    have e : strs (l ++ [y]) = strs l ++ strs [y] := by simp [strs]
    rw [List.length_append, e]
    exact h1

/-! A text, cut at a byte. -/
def cstep (c : UInt8) (s : List (List UInt8) × List UInt8) (x : UInt8) : List (List UInt8) × List UInt8 := if x = c then (s.1 ++ [s.2], []) else (s.1, s.2 ++ [x])
def cutS (c : UInt8) (T : List UInt8) : List (List UInt8) × List UInt8 := T.foldl (cstep c) ([], [])
def cutR (s : List (List UInt8) × List UInt8) : List (List UInt8) := s.1 ++ [s.2]
theorem cutS_succ (c : UInt8) (T : List UInt8) (k : Nat) (h : k < T.length) : cutS c (T.take (k + 1)) = cstep c (cutS c (T.take k)) T[k] := by
  unfold cutS
  rw [List.take_succ_eq_append_getElem h, List.foldl_append]
  rfl
theorem cutR_len (c : UInt8) (T : List UInt8) : (cutR (cutS c T)).length ≤ T.length + 1 := by
  have : ∀ (T : List UInt8) (s), (cutR (T.foldl (cstep c) s)).length ≤ (cutR s).length + T.length := by
    intro T
    induction T with
    | nil => intro s; simp
    | cons x r ih =>
      intro s
      rw [List.foldl_cons]
      refine Nat.le_trans (ih _) ?_
      have : (cutR (cstep c s x)).length ≤ (cutR s).length + 1 := by unfold cstep cutR; split <;> simp
      simp only [List.length_cons]; omega
  have := this T ([], [])
  unfold cutS
  simp [cutR] at this ⊢
  omega
theorem cut_last (c : UInt8) (T : List UInt8) : (cutS c T).2.length ≤ T.length := by
  have : ∀ (T : List UInt8) (s), (T.foldl (cstep c) s).2.length ≤ s.2.length + T.length := by
    intro T
    induction T with
    | nil => intro s; simp
    | cons x r ih =>
      intro s
      rw [List.foldl_cons]
      refine Nat.le_trans (ih _) ?_
      have : (cstep c s x).2.length ≤ s.2.length + 1 := by unfold cstep; split <;> simp
      simp only [List.length_cons]; omega
  have := this T ([], [])
  simpa [cutS] using this
theorem cutF_no (c : UInt8) : ∀ (a : List UInt8) (s), c ∉ a → a.foldl (cstep c) s = (s.1, s.2 ++ a)
  | [], s, _ => by simp
  | x :: r, s, h => by
    simp only [List.mem_cons, not_or] at h
    rw [List.foldl_cons, show cstep c s x = (s.1, s.2 ++ [x]) by unfold cstep; rw [if_neg (fun e => h.1 e.symm)], cutF_no c r _ h.2]
    simp
theorem cut_at_sign (c : UInt8) (a r : List UInt8) (s) (h : c ∉ a) : (a ++ c :: r).foldl (cstep c) s = r.foldl (cstep c) (s.1 ++ [s.2 ++ a], []) := by
  rw [List.foldl_append, cutF_no c a s h, List.foldl_cons]
  congr 1
  unfold cstep
  rw [if_pos rfl]

set_option maxHeartbeats 4000000 in
theorem l1Cut_any (T : List UInt8) (c : UInt8) (w : World) (hs : T.length ≤ 1048576) : Calls Tryd.prog 15 #[.string (bt T), .int .u8 (c.toNat : Int)] w fun r w' => ∃ v, r = .returned v ∧ OwnS w' w.heap.size v (cutR (cutS c T)) ∧ Grew w w' := by
  obtain ⟨TT, hTT⟩ : ∃ TT, TT = bt T := ⟨_, rfl⟩
  have hz : TT.size = T.length := by rw [hTT]; simp [ByteArray.size]
  have hget : ∀ k (h : k < TT.size), TT[k] = T[k]'(by omega) := by subst hTT; exact fun k h => rfl
  rw [← hTT]
  have HG := hide hget
  clear hTT hget
  have o0 : OwnS (w.alloc (.cells #[.string ⟨#[]⟩] 9)) w.heap.size (.slice (some ⟨w.heap.size, 0, none⟩) 1 1) [[]] := OwnS.one (Nat.le_refl _) []
  have O0 := hide o0
  clear o0
  go_enter Tryd.func15, Tryd.ntmps15
  go_wp2_with fail
  go_loopw [5, 6] (fun ov iv wr => ∃ k, iv = .int .i64 ((k : Nat) : Int) ∧ k ≤ T.length ∧ OwnS wr w.heap.size ov (cutR (cutS c (T.take k))) ∧ Grew w wr) (fun _ iv _ => T.length - (intOf iv).toNat)
  case atStart => exact ⟨0, rfl, Nat.zero_le _, unhide O0, (Grew.refl _).alloc _⟩
  case round =>
    obtain ⟨k, rfl, hk, hown, hg⟩ := hrel
    clear O0
    by_cases hlt : k < T.length
    · have hlt' : (k : Int) < (TT.size : Int) := by omega
      have hkT : k < TT.size := by omega
      have hTk := unhide HG k hkT
      have hst := cutS_succ c T k hlt
      obtain ⟨st, hcs⟩ : ∃ st, st = cutS c (T.take k) := ⟨_, rfl⟩
      rw [← hcs] at hown hst
      have hst2 : st.2.length ≤ T.length := by
        have := cut_last c (T.take k)
        rw [← hcs, List.length_take] at this
        omega
      have hlen : (cutR st).length ≤ 1048577 := by
        have := cutR_len c (T.take k)
        rw [← hcs, List.length_take] at this
        omega
      by_cases hx : TT[k] = c
      · have hx' : (((TT[k].toNat : Nat) : Int) == ((c.toNat : Nat) : Int)) = true := by rw [hx]; simp
        have hnew : cutR (cutS c (T.take (k + 1))) = cutR st ++ [[]] := by rw [hst, ← hTk]; unfold cstep cutR; rw [if_pos hx]
        have HN := hide hnew
        have hbl : ∀ b, _ = some b → w.heap.size ≤ b := fun b hb => (hown.block b hb).1
        have O1 := hide hown
        clear hnew hst hcs hTk hx
        go_wp2_with (first | (at_builtin; refine wpList_str rfl _ _ rfl w.heap.size _ (cutR st) rfl ((unhide O1).grew ((Grew.refl _).alloc _)) ⟨wr.heap.size, 0, none⟩ 1 [] rfl (by simp) (by omega) (by simp; have := hg.size; omega) ?_))
        intro v5 w5 o5 g5
        have G5 := (hg.alloc _).grown g5 hbl
        rw [← unhide HN] at o5
        have HO5 := hide o5
        clear o5 g5
        go_wp2
        go_roundw
        case rel => exact ⟨k + 1, by go_num, by omega, unhide HO5, G5⟩
        case measure => simp [intOf]; omega
      · have hx' : (((TT[k].toNat : Nat) : Int) == ((c.toNat : Nat) : Int)) = false := by
          rw [beq_eq_false_iff_ne]; intro h; exact hx (UInt8.toNat_inj.1 (by omega))
        have hnew : cutR (cutS c (T.take (k + 1))) = (cutR st).set ((cutR st).length - 1) (st.2 ++ [TT[k]]) := by
          rw [hst, ← hTk]; unfold cstep cutR; rw [if_neg hx]
          simp
        obtain ⟨g, cap, rfl, hcap, hbg, hgs, hcell, hfz⟩ := hown.shape
        have hpos : 0 < (cutR st).length := by unfold cutR; simp
        have hlast := hcell ((cutR st).length - 1) (by omega)
        have hlx : (cutR st)[(cutR st).length - 1]'(by omega) = st.2 := by unfold cutR; simp
        rw [hlx] at hlast
        have hfr := hfz ((cutR st).length - 1)
        have HN := hide hnew
        have O1 := hide hown
        clear hnew hst hcs hTk hx hcell hfz hlx hown
        obtain ⟨L, hL⟩ : ∃ L, (cutR st).length = L := ⟨_, rfl⟩
        rw [hL] at hlast hfr hpos hlen hcap ⊢
        have HL := hide hL
        clear hL
        obtain ⟨B, hB⟩ : ∃ B, B = bt st.2 := ⟨_, rfl⟩
        obtain ⟨X, hX⟩ : ∃ X, X = strOfNums [(TT[k].toNat : Int)] := ⟨_, rfl⟩
        have hc := conv_one (TT[k].toNat : Int)
        rw [← hX] at hc
        rw [← hB] at hlast
        have hsum : (9223372036854775807 < B.size + X.size) = False := by
          have h1 : B.size = st.2.length := by rw [hB]; simp [ByteArray.size]
          have h2 := strOfNums_size [(TT[k].toNat : Int)]
          rw [← hX] at h2
          simp only [List.length_cons, List.length_nil] at h2
          simp only [eq_iff_iff, iff_false]; omega
        have HB := hide (And.intro hB hX)
        clear hB hX
        go_wp2_with fail
        have hBX : B ++ X = bt (st.2 ++ [TT[k]]) := by
          rw [(unhide HB).1, (unhide HB).2]
          apply ByteArray.ext
          simp [strOfNums]
        have o2 := (unhide O1).set (L - 1) (st.2 ++ [TT[k]]) (by have := unhide HL; omega)
        rw [← hBX] at o2
        have hnew := unhide HN
        rw [unhide HL] at hnew o2
        rw [← hnew] at o2
        have O2 := hide o2
        clear o2 hnew hBX
        go_region
        go_wp2
        go_roundw
        case rel => exact ⟨k + 1, by go_num, by omega, ((unhide O2).grew ((Grew.refl _).alloc _)).grew (Grew.refl _).drew, ((hg.setCell hbg _).alloc _).drew⟩
        case measure => simp [intOf]; omega
    · have hlt' : decide ((k : Int) < (TT.size : Int)) = false := by simp; omega
      have e : T.take k = T := List.take_of_length_le (by omega)
      rw [e] at hown
      have HO := hide hown
      clear hown
      go_wp2
      go_ret
      exact ⟨_, rfl, unhide HO, hg⟩
end Go.Proofs.YtfonpbglnkggfaaDoor
