/-
  Texts together: Tree13, Tree14, Tree15, Tree16.
-/
import Derived.RangeFuncNested
import Derived.RangeFuncBound
import Derived.RangeFuncCalls
import Derived.RangeFuncLeaves
import Derived.Shelf.Abstract
import Derived.Shelf.RegionOpen
import Derived.WalkKit
import Derived.OwnWalkIn
import Derived.TacticsInMore
import Derived.LoopNIn
import Derived.LoopIn
import Derived.Test.YtjbnohepbmejkaaTreeB
import Derived.Deep.RegionHeld
import Derived.Test.YtjbnohepbmejkaaRound
import Derived.Test.YtjbnohepbmejkaaTree6
import Derived.Test.YtjbnohepbmejkaaTreeS
namespace Go.Proofs.Ytjbnohepbmejkaa
set_option linter.unusedVariables false
open Go.RowKit Go.Shelf
attribute [local go_sem] Oper.semAt_some

/-- Those of the chains listed that are sure, by their places. -/
def sureIx (vt : List It → Nat) (L : List (List It)) (k : Nat) : List Nat := (List.range k).filter (fun i => sureF vt (L.getD i []))
theorem sureIx_zero (vt : List It → Nat) (L : List (List It)) : sureIx vt L 0 = [] := rfl
theorem sureIx_yes {vt : List It → Nat} {L : List (List It)} {k : Nat} (h : sureF vt (L.getD k []) = true) : sureIx vt L (k + 1) = sureIx vt L k ++ [k] := by
  unfold sureIx; rw [List.range_succ, List.filter_append]; simp only [List.filter_cons, h, List.filter_nil, if_true]
theorem sureIx_no {vt : List It → Nat} {L : List (List It)} {k : Nat} (h : sureF vt (L.getD k []) = false) : sureIx vt L (k + 1) = sureIx vt L k := by
  unfold sureIx; rw [List.range_succ, List.filter_append]; simp [h, -List.getD_eq_getElem?_getD]
theorem sureIx_len (vt : List It → Nat) (L : List (List It)) (k : Nat) : (sureIx vt L k).length ≤ k := by
  unfold sureIx
  have := List.length_filter_le (fun i => sureF vt (L.getD i [])) (List.range k)
  simpa using this
theorem sureIx_pre (vt : List It → Nat) (L : List (List It)) {k n : Nat} (h : k ≤ n) : sureIx vt L k <+: sureIx vt L n := by
  induction n with
  | zero => rw [show k = 0 by omega]; exact List.prefix_refl _
  | succ n ih =>
    by_cases e : k = n + 1
    · rw [e]; exact List.prefix_refl _
    · have := ih (by omega)
      cases hs : sureF vt (L.getD n []) with
      | true => rw [sureIx_yes hs]; exact this.trans (List.prefix_append _ _)
      | false => rw [sureIx_no hs]; exact this
theorem sureIx_map (vt : List It → Nat) (L : List (List It)) : (sureIx vt L L.length).map (fun i => L.getD i []) = L.filter (sureF vt) := by
  unfold sureIx
  have e : (List.range L.length).map (fun i => L.getD i []) = L := by
    apply List.ext_getElem
    · simp
    · intro i h1 h2
      simp at h1
      simp [h2]
  have h : ∀ (l : List Nat), (l.filter (fun i => sureF vt (L.getD i []))).map (fun i => L.getD i []) = (l.map (fun i => L.getD i [])).filter (sureF vt) := by
    intro l
    rw [List.filter_map]
    rfl
  rw [h, e]
theorem getD_mem {L : List (List It)} {r : List (List It)} (h : L = [] :: r) (i : Nat) : L.getD i [] ∈ L := by
  rw [List.getD_eq_getElem?_getD]
  by_cases hi : i < L.length
  · rw [List.getElem?_eq_getElem hi]; exact List.getElem_mem hi
  · rw [List.getElem?_eq_none (by omega), h]; exact List.mem_cons_self

set_option maxRecDepth 100000 in
set_option maxHeartbeats 4000000 in
theorem sureIt_in (n : Nat) (hn : 1 ≤ n) (l Bn : Nat) {w0 : World} {base m : Nat} {M : List It → Prop} {vt pos : List It → Nat} {kv : List It → Value} {kd : List It → List It} {tb : Nat} {cv : Value} {L r : List (List It)}
    (h : TreeF w0 base m M vt pos kv kd tb cv L) (hL : L = [] :: r) (hlen : L.length ≤ 1073741824) (hs : ∀ c ∈ L, c.length ≤ 1048576) (J Jx : List Nat → World → Prop)
    (W : World) (hJ : AbidesFrom W.heap.size J) (hY : ∀ pre (x : Nat) W, J pre W → pre.length < L.length → YieldAt Fence.wide (n - 1) Try.prog l #[ptr (pos (L.getD x []))] W fun e W' =>
      (e = .returned (.bool true) ∧ J (pre ++ [x]) W' ∧ Below w0.heap.size W W') ∨ (e = .returned (.bool false) ∧ Jx (pre ++ [x]) W'))
    (hBn : W.cell? ⟨Bn, 0, none⟩ = some (ptr tb)) (hP : Below w0.heap.size w0 W) (h0 : J [] W) :
    CallsIn Fence.wide n Try.prog 143 #[.func (.yield l) #[] #[], ptr Bn] W fun e W' => (∃ v, e = .returned v) ∧
      ((∃ ys, ys = sureIx vt L L.length ∧ J ys W') ∨ (∃ pre, pre <+: sureIx vt L L.length ∧ Jx pre W')) := by
  have hTW := h.grew (.of_below hP)
  obtain ⟨g, cap, hcv, hrow⟩ : ∃ g cap, Hid (cv = .slice (some ⟨g, 0, none⟩) L.length cap) ∧ Hid (∀ i (hi : i < L.length), g < w0.heap.size ∧ w0.cell? ⟨g, i, none⟩ = some (ptr (pos (L.getD i [])))) := by
    rcases ownsRow_at h.trow with ⟨h1, _⟩ | ⟨g, cap, hv, hx⟩
    · rw [hL] at h1; simp at h1
    · refine ⟨g, cap, hide hv, hide (fun i hi => ?_)⟩
      have hc := hx i (by simpa using hi)
      refine ⟨World.block_lt_of_cell? _ _ hc, ?_⟩
      rw [hc, List.getElem_map, List.getD_eq_getElem?_getD, List.getElem?_eq_getElem hi]
      rfl
  have t0 : W.cell? ⟨tb, 0, none⟩ = some (.slice (some ⟨g, 0, none⟩) L.length cap) := by rw [← hcv.out]; simp [World.cell?, hTW.tblk]
  have hX : ∀ wr k, Below w0.heap.size w0 wr → Hid (Calls Try.prog 144 #[.pointer (some ⟨pos (L.getD k []), 0, none⟩)] wr fun r w' => r = .returned (.bool (sureF vt (L.getD k []))) ∧ Grew wr w') :=
    fun wr k g => hide (sure_any (h.grew (.of_below g)) _ (h.mem _ (getD_mem hL k)) (hs _ (getD_mem hL k)))
  clear hTW h hL hs
  unfold ptr at hBn hY hrow ⊢
  refine callsIn_of_wp Try.func143 rfl trivial ?_ rfl
  simp only [Try.ntmps143, List.size_toArray, List.length_cons, List.length_nil, Nat.reduceAdd, Nat.reduceSub, Array.replicate_succ, Array.replicate_zero, List.push_toArray, List.append_toArray, List.nil_append, List.cons_append]
  gi_wp2
  gi_loopw [10] (fun i wr => ∃ k : Nat, k ≤ L.length ∧ i = .int .i64 k ∧ Below w0.heap.size w0 wr ∧ W.heap.size ≤ wr.heap.size ∧ J (sureIx vt L k) wr)
    (fun i _ => L.length - (intOf i).toNat)
  case atStart => exact ⟨0, Nat.zero_le _, rfl, hP, Nat.le_refl _, h0⟩
  case round =>
    obtain ⟨k, hk, rfl, hB, hsz, hJs⟩ := hrel
    by_cases hlt : k < L.length
    · obtain ⟨hgl, hcell⟩ := hrow.out k hlt
      have hcw := (hB.cell (p := ⟨g, k, none⟩) hgl).trans hcell
      clear hcell
      have hX' := hX wr k hB
      have hYk := hide (fun w2 => hY (sureIx vt L k) k w2)
      have hln := sureIx_len vt L k
      obtain ⟨P, hPP⟩ : ∃ P, Hid (P = pos (L.getD k [])) := ⟨_, hide rfl⟩
      rw [← hPP.out] at hcw hX' hYk
      cases hsu : sureF vt (L.getD k []) with
      | false =>
        rw [hsu] at hX'
        have HN := hide (sureIx_no hsu)
        clear hsu
        gi_wp2_with (refine ⟨trivial, ?_⟩; gi_at_call 144; refine (callsIn_wide.2 hX'.out).mono ?_; rintro r w2 ⟨rfl, g2⟩)
        refine ⟨fun _ h => (by cases h), ?_⟩
        have hB2 : Below w0.heap.size w0 w2 := hB.trans (g2.below.mono hB.size)
        have hJ2 := hJ _ _ _ none hJs g2.grownBy (fun r e => by cases e)
        gi_wp2
        go_roundw
        case rel => exact ⟨k + 1, by omega, by go_num, hB2, Nat.le_trans hsz g2.size, by rw [HN.out]; exact hJ2⟩
        case measure => simp [intOf]; omega
      | true =>
        rw [hsu] at hX'
        have HN := hide (sureIx_yes hsu)
        clear hsu
        gi_wp2_with (refine ⟨trivial, ?_⟩; gi_at_call 144; refine (callsIn_wide.2 hX'.out).mono ?_; rintro r w2 ⟨rfl, g2⟩; obtain ⟨fn, tmps, assign, body, hy, hR⟩ := hYk.out w2 (hJ _ _ _ none hJs g2.grownBy (fun r e => by cases e)) (by omega))
        refine hR.mono ?_
        have hB2 : Below w0.heap.size w0 w2 := hB.trans (g2.below.mono hB.size)
        rw [← HN.out]
        rintro e W3 (⟨rfl, hJ3, hk3⟩ | ⟨rfl, hJx3⟩)
        · gi_wp2
          go_roundw
          case rel => exact ⟨k + 1, by omega, by go_num, hB2.trans hk3, Nat.le_trans hsz (Nat.le_trans g2.size hk3.size), hJ3⟩
          case measure => simp [intOf]; omega
        · gi_wp2
          refine bodyPost_ret (results_none rfl _ _ _) rfl ?_
          exact ⟨⟨_, rfl⟩, .inr ⟨_, sureIx_pre vt L (by omega), hJx3⟩⟩
    · have hkl : k = L.length := by omega
      have hle : (L.length : Int) ≤ (k : Int) := by omega
      rw [hkl] at hJs
      clear hkl
      gi_wp2
      go_end0
      exact ⟨⟨_, rfl⟩, .inl ⟨_, rfl, hJs⟩⟩

set_option maxHeartbeats 1000000 in
theorem treeSures_any (p : Nat) (w : World) :
    Calls Try.prog 112 #[ptr p] w fun e w' => e = .returned (.func (.func 143) #[] #[ptr w.heap.size]) ∧ w' = w.alloc (.cells #[ptr p] 92) := by
  unfold ptr
  go_enter Try.func112, Try.ntmps112
  go_wp2
  go_ret
  exact ⟨rfl, rfl⟩

theorem sureIt_stops (n : Nat) (hn : 1 ≤ n) (Bn : Nat) {w0 : World} {base m : Nat} {M : List It → Prop} {vt pos : List It → Nat} {kv : List It → Value} {kd : List It → List It} {tb : Nat} {cv : Value} {L r : List (List It)}
    (h : TreeF w0 base m M vt pos kv kd tb cv L) (hL : L = [] :: r) (hlen : L.length ≤ 1073741824) (hs : ∀ c ∈ L, c.length ≤ 1048576) (w : World) (hBn : Bn < w.heap.size)
    (hc : w.cell? ⟨Bn, 0, none⟩ = some (ptr tb)) (hB : Below w0.heap.size w0 w) :
    SeqStopsK Fence.wide n Try.prog 143 #[ptr Bn] (fun x : Nat => #[ptr (pos (L.getD x []))]) (Below w0.heap.size) (fun ys => ys = sureIx vt L L.length) (fun pre => pre <+: sureIx vt L L.length) L.length w :=
  fun l J Jx W hW hJ _ hY h0 => sureIt_in n hn l Bn h hL hlen hs J Jx W hJ hY ((hW.cell (p := ⟨Bn, 0, none⟩) hBn).trans hc) (hB.trans (hW.mono hB.size)) h0

set_option linter.unusedVariables false
open Go.RowKit Go.Shelf
attribute [local go_sem] Oper.semAt_some
attribute [local simp] far_const

/-- The first of the longest. -/
def longest (cs : List (List It)) : List It := cs.foldl (fun t c => if t.length < c.length then c else t) []
theorem longest_snoc (cs : List (List It)) (c : List It) : longest (cs ++ [c]) = if (longest cs).length < c.length then c else longest cs := by unfold longest; rw [List.foldl_append]; rfl
theorem longest_mem (cs : List (List It)) : longest cs = [] ∨ longest cs ∈ cs := by
  obtain ⟨n, hn⟩ : ∃ n, cs.length = n := ⟨_, rfl⟩
  induction n generalizing cs with
  | zero => have := List.eq_nil_of_length_eq_zero hn; subst this; exact .inl rfl
  | succ n ih =>
    rcases List.eq_nil_or_concat cs with rfl | ⟨m, x, rfl⟩
    · simp at hn
    rw [List.concat_eq_append] at hn ⊢
    rw [longest_snoc]
    split
    · exact .inr (by simp)
    · rcases ih m (by simp at hn; exact hn) with h | h
      · exact .inl h
      · exact .inr (List.mem_append.2 (.inl h))
theorem longest_in {L r : List (List It)} (hL : L = [] :: r) (pre : List Nat) : longest (pre.map (fun i => L.getD i [])) ∈ L := by
  rcases longest_mem (pre.map (fun i => L.getD i [])) with h | h
  · rw [h, hL]; exact List.mem_cons_self
  · obtain ⟨i, _, e⟩ := List.mem_map.1 h
    rw [← e]; exact getD_mem hL i

set_option linter.unusedVariables false
open Go.RowKit Go.Shelf
attribute [local go_sem] Oper.semAt_some
attribute [local simp] far_const

/-- Of which most is final, the first, and how much. -/
def mostF (cs : List (List It)) : List It × Nat := cs.foldl (fun t c => if t.2 < finN c then (c, finN c) else t) ([], 0)
theorem mostF_snoc (cs : List (List It)) (c : List It) : mostF (cs ++ [c]) = if (mostF cs).2 < finN c then (c, finN c) else mostF cs := by unfold mostF; rw [List.foldl_append]; rfl
theorem finN_lt (c : List It) : finN c ≤ c.length := by
  unfold finN
  cases h : (List.range c.length).reverse.find? (fun j => endsB (c.take (j + 1))) with
  | none => simp
  | some j =>
    have := List.mem_of_find?_eq_some h
    simp at this
    simp
    omega
theorem mostF_mem (cs : List (List It)) : (mostF cs).2 ≤ (mostF cs).1.length ∧ ((mostF cs).1 = [] ∨ (mostF cs).1 ∈ cs) := by
  obtain ⟨n, hn⟩ : ∃ n, cs.length = n := ⟨_, rfl⟩
  induction n generalizing cs with
  | zero => have := List.eq_nil_of_length_eq_zero hn; subst this; exact ⟨Nat.le_refl _, .inl rfl⟩
  | succ n ih =>
    rcases List.eq_nil_or_concat cs with rfl | ⟨m, x, rfl⟩
    · simp at hn
    rw [List.concat_eq_append] at hn ⊢
    rw [mostF_snoc]
    obtain ⟨h1, h2⟩ := ih m (by simp at hn; exact hn)
    split
    · exact ⟨finN_lt x, .inr (by simp)⟩
    · exact ⟨h1, h2.imp id (fun h => List.mem_append.2 (.inl h))⟩
theorem mostF_in {L r : List (List It)} (hL : L = [] :: r) (pre : List Nat) : (mostF (pre.map (fun i => L.getD i []))).1 ∈ L := by
  rcases (mostF_mem (pre.map (fun i => L.getD i []))).2 with h | h
  · rw [h, hL]; exact List.mem_cons_self
  · obtain ⟨i, _, e⟩ := List.mem_map.1 h
    rw [← e]; exact getD_mem hL i

set_option maxRecDepth 100000 in
set_option maxHeartbeats 4000000 in
theorem mostFinal_any {w : World} {base m : Nat} {M : List It → Prop} {vt pos : List It → Nat} {kv : List It → Value} {kd : List It → List It} {tb : Nat} {cv : Value} {L r : List (List It)}
    (h : TreeF w base m M vt pos kv kd tb cv L) (hL : L = [] :: r) (hlen : L.length ≤ 1073741824) (hs : ∀ c ∈ L, c.length ≤ 1048576) :
    Calls Try.prog 61 #[ptr tb] w fun r w' => r = .returned (.tuple #[ptr (pos (mostF (L.filter (sureF vt))).1), .int .i64 ((mostF (L.filter (sureF vt))).2 : Nat)]) ∧ Grew w w' := by
  have hN := hide (nothing_any (L := r) (hL ▸ h))
  have HT := hide h
  have HL := hide hL
  clear h hL
  unfold ptr at hN
  refine (callsIn_wide (n := 3)).1 ?_
  unfold ptr
  refine callsIn_of_wp_marks Try.func61 rfl trivial ?_ rfl
  simp only [Try.ntmps61, List.size_toArray, List.length_cons, List.length_nil, Nat.reduceAdd, Nat.reduceSub, Array.replicate_succ, Array.replicate_zero, List.push_toArray, List.append_toArray, List.nil_append, List.cons_append]
  gi_wp2_with (first | (refine ⟨trivial, ?_⟩; gi_at_call 111; refine (callsIn_wide.2 hN.out).mono ?_; rintro e w1 ⟨rfl, g1⟩) | (refine ⟨trivial, ?_⟩; gi_at_call 112; refine (callsIn_wide.2 (treeSures_any _ _)).mono ?_; rintro e w' ⟨rfl, rfl⟩))
  have h1 := (unhide HT).grew g1
  obtain ⟨W1, hW1⟩ : ∃ W1, Hid (W1 = ((w1.alloc (.cells #[.pointer (some ⟨pos [], 0, none⟩)] 95)).alloc (.cells #[.int .i64 0] 3)).alloc (.cells #[ptr tb] 92)) := ⟨_, hide rfl⟩
  rw [← hW1.out]
  have c0 := cellNew w1 (.pointer (some ⟨pos [], 0, none⟩)) 95
  have c1 := cellNew (w1.alloc (.cells #[.pointer (some ⟨pos [], 0, none⟩)] 95)) (.int .i64 0) 3
  have c2 := cellNew ((w1.alloc (.cells #[.pointer (some ⟨pos [], 0, none⟩)] 95)).alloc (.cells #[.int .i64 0] 3)) (ptr tb) 92
  simp only [World.size_alloc] at c1 c2
  have k0 := cellOld (.cells #[ptr tb] 92) (cellOld (.cells #[.int .i64 0] 3) c0.1)
  have k0f := frozenOld (.cells #[ptr tb] 92) (cellOld (.cells #[.int .i64 0] 3) c0.1) (frozenOld (.cells #[.int .i64 0] 3) c0.1 c0.2)
  have k1 := cellOld (.cells #[ptr tb] 92) c1.1
  have k1f := frozenOld (.cells #[ptr tb] 92) c1.1 c1.2
  have hsz : W1.heap.size = w1.heap.size + 1 + 1 + 1 := by rw [hW1.out]; simp
  have hB0 : Below w1.heap.size w1 W1 := by rw [hW1.out]; exact ((((Grew.refl w1).alloc _).alloc _).alloc _).below
  rw [← hW1.out] at c2 k0 k0f k1 k1f
  clear c0 c1
  have hmem : ∀ i, M (L.getD i []) := fun i => h1.mem _ (getD_mem HL.out i)
  have hsi : ∀ i, (L.getD i []).length ≤ 1048576 := fun i => hs _ (getD_mem HL.out i)
  have hst : ∀ pre : List Nat, (mostF (pre.map (fun i => L.getD i []))).2 ≤ 1048576 := fun pre => Nat.le_trans (mostF_mem _).1 (hs _ (mostF_in HL.out pre))
  refine wpIn_rangeFunc_ownF rfl (by omega) (gf := 143) (lb := #[ptr (w1.heap.size + 1 + 1)]) rfl trivial (enters_of Try.func143 (by kernel_rfl) rfl)
    (sureIt_stops 2 (by omega) (w1.heap.size + 1 + 1) h1 HL.out hlen hs W1 (by omega) c2.1 hB0) belowK_t (belowK_b (by omega)) (Below.refl _ _) (fun _ => rfl)
    (fun pre W => (W.cell? ⟨w1.heap.size, 0, none⟩ = some (ptr (pos (mostF (pre.map (fun i => L.getD i []))).1)) ∧ W.frozen? ⟨w1.heap.size, 0, none⟩ = false ∧ W.cell? ⟨w1.heap.size + 1, 0, none⟩ = some (.int .i64 ((mostF (pre.map (fun i => L.getD i []))).2 : Nat)) ∧ W.frozen? ⟨w1.heap.size + 1, 0, none⟩ = false) ∧ Below w1.heap.size w1 W)
    (fun _ _ _ => False)
    (OwnFrom.and (Own.from (fun s A B row hs hg hr => ⟨cell_kept hs.1 hg hr, (frozen_kept hs.1 hg hr).trans hs.2.1, cell_kept hs.2.2.1 hg hr, (frozen_kept hs.2.2.1 hg hr).trans hs.2.2.2⟩) _) (ownFrom_below (Nat.le_refl _) (by omega)))
    (fun cd => (fun _ _ _ _ hs _ _ => hs))
    ⟨⟨k0, k0f, k1, k1f⟩, hB0⟩
    (fun x => { tmps := #[.pointer (some ⟨tb, 0, none⟩), undef, .pointer none, .int .i64 0, .pointer (some ⟨w1.heap.size, 0, none⟩), .pointer (some ⟨w1.heap.size + 1, 0, none⟩), ptr (pos (L.getD x [])), undef, .pointer (some ⟨tb, 0, none⟩), .pointer (some ⟨pos [], 0, none⟩), .pointer (some ⟨tb, 0, none⟩), .func (.func 143) #[] #[ptr (w1.heap.size + 1 + 1)], ptr (pos (L.getD x [])), undef, undef, undef, undef, undef, undef, undef, undef, undef], defers := [] }) ?assign ?body ?done ?stop
  case assign =>
    intro l x W K hK
    gi_wp2
    exact hK
  case body =>
    rintro l pre x W ⟨⟨hc0, hf0, hc1, hf1⟩, hB⟩ _
    have hE := hide (finalSize_any (h1.grew (.of_below hB)) _ (hmem x) (hsi x))
    have ls := hst pre
    have li := finN_lt (L.getD x [])
    have lj := hsi x
    have hstep := mostF_snoc (pre.map (fun i => L.getD i [])) (L.getD x [])
    have hmap : (pre ++ [x]).map (fun i => L.getD i []) = pre.map (fun i => L.getD i []) ++ [L.getD x []] := by simp
    unfold ptr at hc0 hE ⊢
    obtain ⟨c, hc⟩ : ∃ c, c = L.getD x [] := ⟨_, rfl⟩
    obtain ⟨t, ht⟩ : ∃ t, t = mostF (pre.map (fun i => L.getD i [])) := ⟨_, rfl⟩
    rw [← hc] at hE li lj hstep hmap ⊢
    rw [← ht] at ls hstep hc0 hc1
    rw [← hmap] at hstep
    have HS := hide hstep
    clear hc ht hstep hmap
    obtain ⟨N, hN⟩ : ∃ N, Hid (N = finN c) := ⟨_, hide rfl⟩
    rw [← hN.out] at hE HS li
    by_cases hlt : t.2 < N
    · have hd : decide (t.2 < N) = true := decide_eq_true hlt
      have HX := HS.out
      rw [if_pos hlt] at HX
      have HX := hide HX
      clear HS hlt
      gi_wp2_with (refine ⟨trivial, ?_⟩; gi_at_call 113; refine (CallsIn.inRound l (callsIn_wide.2 hE.out)).mono ?_; rintro r w2 ⟨rfl, g2⟩; have d0 := g2.keep hc0; have df0 := g2.frozen hc0 hf0; have d1 := g2.keep hc1; have df1 := g2.frozen hc1 hf1)
      have hB2 : Below w1.heap.size w1 w2 := hB.trans (g2.below.mono hB.size)
      refine ⟨g2.others.trans ((KeepsOthers.setCell _ _ _).trans (KeepsOthers.setCell _ _ _)), ((g2.below.mono hB.size).setCell (p := ⟨w1.heap.size, 0, none⟩) (Nat.le_refl _) _).setCell (p := ⟨w1.heap.size + 1, 0, none⟩) (by simp) _, ⟨?_, ?_, ?_, ?_⟩, (hB2.setCell (p := ⟨w1.heap.size, 0, none⟩) (Nat.le_refl _) _).setCell (p := ⟨w1.heap.size + 1, 0, none⟩) (by simp) _⟩
      · rw [HX.out, World.cell?_setCell_other _ _ _ _ (by intro e; injection e; omega)]
        exact World.cell?_setCell_same' _ _ _ (by rw [d0]; rfl)
      · rw [World.frozen?_setCell, World.frozen?_setCell]; exact df0
      · rw [HX.out, World.cell?_setCell_same' _ _ _ (by rw [World.cell?_setCell_other _ _ _ _ (by intro e; injection e; omega), d1]; rfl), hN.out]
      · rw [World.frozen?_setCell, World.frozen?_setCell]; exact df1
    · have hd : decide (t.2 < N) = false := decide_eq_false hlt
      have HX := HS.out
      rw [if_neg hlt] at HX
      have HX := hide HX
      clear HS hlt
      gi_wp2_with (refine ⟨trivial, ?_⟩; gi_at_call 113; refine (CallsIn.inRound l (callsIn_wide.2 hE.out)).mono ?_; rintro r w2 ⟨rfl, g2⟩; have d0 := g2.keep hc0; have df0 := g2.frozen hc0 hf0; have d1 := g2.keep hc1; have df1 := g2.frozen hc1 hf1)
      have hB2 : Below w1.heap.size w1 w2 := hB.trans (g2.below.mono hB.size)
      exact ⟨g2.others, g2.below.mono hB.size, ⟨by rw [HX.out]; exact d0, df0, by rw [HX.out]; exact d1, df1⟩, hB2⟩
  case done =>
    rintro D ys W hD rfl ⟨⟨hc0, hf0, hc1, hf1⟩, hB⟩ hK
    rw [sureIx_map] at hc0 hc1
    unfold ptr at hc0
    gi_wp2
    gi_region
    all_goals gi_wp2
    all_goals refine ⟨by simp, .inl ⟨_, _, rfl, run_takeDeferred (show W.drew.heap[D]? = _ from hK), ?_⟩⟩
    all_goals exact ⟨_, results_tmp2 rfl _ _ _, rfl, g1.trans (.of_below ((hB.drew).trans (belowK_b (w := w1) (Nat.le_refl _) W.drew D _ _ (by omega) hK rfl rfl)))⟩
  case stop =>
    rintro D cd pre W hD hpre h hK
    exact h.elim

set_option linter.unusedVariables false
open Go.RowKit
attribute [local simp] far_const

/-- All sure chains. -/
def allS (l : List Vt) : List (List It) := (firstsL l).filter (sureF (cnt l))
def tipL (l : List Vt) : List It := if votesB l = true then longest (allS l) else []
def longL (l : List Vt) : Int := if votesB l = true then ((longest (allS l)).length : Nat) else -1
def finalL (l : List Vt) : List It := if votesB l = true then (mostF (allS l)).1.take (mostF (allS l)).2 else []
/-- What a call answers: nothing at all, or a new row of items. -/
def AnsI (w : World) (base : Nat) (v : Value) (l : List It) : Prop := (v = .slice none 0 0 ∧ l = []) ∨ FreshI w base v l
theorem AnsI.grew {w w' : World} {base : Nat} {v : Value} {l : List It} (h : AnsI w base v l) (g : Grew w w') : AnsI w' base v l := h.imp id (fun h => h.grew g)
theorem AnsI.shape {w : World} {base : Nat} {v : Value} {l : List It} (h : AnsI w base v l) : ∃ a cap, v = .slice a l.length cap ∧ l.length ≤ cap ∧ Its w a l ∧ (∀ x, a = some x → base ≤ x.block) := by
  rcases h with ⟨rfl, rfl⟩ | ⟨g, rfl, hb, hi, _⟩
  · exact ⟨none, 0, rfl, Nat.le_refl _, .inl rfl, fun x hx => by cases hx⟩
  · exact ⟨_, _, rfl, Nat.le_refl _, hi, fun x hx => by cases hx; exact hb⟩
theorem Short.firsts {l : List Vt} (h : Short l) : ∀ c ∈ firstsL l, c.length ≤ 1048576 := by
  intro c hc
  rcases (firstsL_mem l c).1 hc with rfl | ⟨x, hx, rfl⟩
  · simp
  · exact h x hx
theorem allS_sub {l : List Vt} {c : List It} (h : c ∈ allS l) : c ∈ firstsL l := (List.mem_filter.1 h).1
theorem longest_firsts (l : List Vt) : longest (allS l) ∈ firstsL l := by
  rcases longest_mem (allS l) with h | h
  · rw [h]; exact (firstsL_mem _ _).2 (.inl rfl)
  · exact allS_sub h
theorem mostF_firsts (l : List Vt) : (mostF (allS l)).1 ∈ firstsL l := by
  rcases (mostF_mem (allS l)).2 with h | h
  · rw [h]; exact (firstsL_mem _ _).2 (.inl rfl)
  · exact allS_sub h

set_option maxRecDepth 20000 in
set_option maxHeartbeats 4000000 in
theorem implTreeFinal (a : Option Addr) (cap : Nat) (l : List Vt) (w : World) (hl : Vts w a l) (hs : Short l) (hn : l.length ≤ 1048576) :
    Calls Try.prog 21 #[.slice a l.length cap] w fun r w' => ∃ v, r = .returned v ∧ AnsI w' w.heap.size v (finalL l) ∧ Grew w w' := by
  have hT := hide (treeOf_any a cap l w hl hs hn)
  unfold ptr at hT
  go_enter Try.func21, Try.ntmps21
  go_wp2_with fail
  refine hT.out.mono ?_
  clear hT
  rintro r w1 ⟨(⟨hv, tb, base, rfl, ⟨M, pos, kv, kd, cv, hF, hM⟩, hb1, hb2⟩ | ⟨hv, rfl⟩), g1⟩
  · obtain ⟨r, hr⟩ := firstsL_head l
    have he : Hid (finalL l = (mostF (allS l)).1.take (mostF (allS l)).2) := by show finalL l = _; simp [finalL, hv]
    have hX := hide (mostFinal_any hF hr (by have := firstsL_len l; omega) hs.firsts)
    unfold ptr at hX
    have HF := hide hF
    clear hF hM hb1 hb2 hr hv
    go_wp2_with fail
    refine hX.out.mono ?_
    clear hX
    rintro rr w2 ⟨rfl, g2⟩
    have hmm := (unhide HF).mem _ (mostF_firsts l)
    have hY := hide (beginning_any ((unhide HF).grew g2) _ hmm (hs.firsts _ (mostF_firsts l)) (mostF (allS l)).2 (mostF_mem _).1)
    unfold ptr at hY
    unfold allS at hY
    clear hmm
    go_wp2_with fail
    refine hY.out.mono ?_
    clear hY
    rintro rr w3 ⟨v, rfl, hfr, g3⟩
    have HR := hide hfr
    clear hfr
    go_wp2
    go_ret
    refine ⟨v, rfl, .inr ?_, (g1.trans g2).trans g3⟩
    rw [he.out]
    obtain ⟨g, h1, h2, h3⟩ := HR.out
    exact ⟨g, h1, Nat.le_trans (g1.trans g2).size h2, h3⟩
  · have he : Hid (finalL l = []) := by show finalL l = _; simp [finalL, hv]
    clear hv
    go_wp2
    go_ret
    exact ⟨_, rfl, .inl ⟨rfl, he.out⟩, g1⟩
end Go.Proofs.Ytjbnohepbmejkaa
