/-
  Texts together: VLw, VShare.
-/
import Derived.Test.YtjbnohepbmejkaaVForms
import Derived.Test.YtjbnohepbmejkaaSame
import Derived.Deep.Slices
import Derived.Deep.Strs
namespace Go.Proofs.Ytjbnohepbmejkaa
set_option linter.unusedVariables false
open Go.RowKit
attribute [local simp] far_const

set_option maxHeartbeats 1000000 in
theorem lwVote_any (x y : Vt) (v u : Value) (w : World) (hv : VtV w v x) (hu : VtV w u y) (hn : x.c.length ≤ 1048576) (hn' : y.c.length ≤ 1048576) :
    Calls Try.prog 69 #[v, u] w fun r w' => r = .returned (.bool (sameV x y)) ∧ Grew w w' := by
  obtain ⟨a, cap, rfl, hl⟩ := hv
  obtain ⟨b, capb, rfl, hm⟩ := hu
  by_cases hne : x.n = y.n
  · have hb : (x.n == y.n) = true := by simpa using hne
    have hx : Hid (sameV x y = sameB x.c y.c) := by show sameV x y = _; unfold sameV; simp [hne]
    clear hne
    go_enter Try.func69, Try.ntmps69
    go_wp2_with fail
    refine (lwSame_any _ _ _ _ x.c y.c _ (hl.grew (((Grew.refl _).alloc _).alloc _)) (hm.grew (((Grew.refl _).alloc _).alloc _)) hn hn').mono ?_
    rintro r w1 ⟨rfl, g1⟩
    go_wp2
    go_ret
    exact ⟨ret_bool hx.out.symm, (((Grew.refl _).alloc _).alloc _).trans g1⟩
  · have hb : (x.n == y.n) = false := by simpa using hne
    have hx : Hid (sameV x y = false) := by show sameV x y = _; unfold sameV; simp [hne]
    clear hne
    go_enter Try.func69, Try.ntmps69
    go_wp2
    go_ret
    exact ⟨ret_bool hx.out.symm, ((Grew.refl _).alloc _).alloc _⟩

set_option maxHeartbeats 1000000 in
theorem lwVotes_any (a b : Option Addr) (ca cb : Nat) (l m : List Vt) (nl nm : Nat) (w : World) (hln : l.length = nl) (hmn : m.length = nm) (hl : Vts w a l) (hm : Vts w b m) (hsl : Short l) (hsm : Short m) (hn : nl ≤ 1048577) (hn' : nm ≤ 1048577) :
    Calls Try.prog 26 #[.slice a nl ca, .slice b nm cb] w fun r w' => r = .returned (.bool (sameVs l m)) ∧ Grew w w' := by
  subst hln hmn
  by_cases hlen : l.length = m.length
  · have hne : ((l.length : Int) != (m.length : Int)) = false := by simp [hlen]
    go_enter Try.func26, Try.ntmps26
    go_wp2_with fail
    clear hne
    have HL : Hid (l.length = m.length) := hlen
    have hlen' : m.length ≤ l.length := by omega
    have hlen2 : l.length ≤ m.length := by omega
    clear hlen
    go_loopw [5] (fun i wr => ∃ k : Nat, k ≤ l.length ∧ i = .int .i64 k ∧ Grew w wr ∧ (∀ j (h1 : j < l.length) (h2 : j < m.length), j < k → sameV l[j] m[j] = true)) (fun i _ => l.length - (intOf i).toNat)
    case atStart => exact ⟨0, Nat.zero_le _, rfl, Grew.refl _, fun j _ _ h => absurd h (Nat.not_lt_zero _)⟩
    case round =>
      obtain ⟨k, hk, rfl, hg, hits⟩ := hrel
      have HI : Hid (∀ j (h1 : j < l.length) (h2 : j < m.length), j < k → sameV l[j] m[j] = true) := hits
      clear hits
      by_cases hlt : k < l.length
      · have hlt2 : k < m.length := by omega
        obtain ⟨b1, o1, rfl, hat⟩ := hl.at hlt
        obtain ⟨b2, o2, rfl, hat2⟩ := hm.at hlt2
        obtain ⟨c0, a1, cap1, c1, i1⟩ := hat.grew hg
        obtain ⟨d0, a2, cap2, d1, i2⟩ := hat2.grew hg
        have e0 := Grew.gcell c0
        have e1 := Grew.gcell c1
        have f0 := Grew.gcell d0
        have f1 := Grew.gcell d1
        have s1 := hsl.at hlt
        have s2 := hsm.at hlt2
        clear hat hat2
        cases heq : sameV l[k] m[k] with
        | true =>
          have hnext : Hid (∀ j (h1 : j < l.length) (h2 : j < m.length), j < k + 1 → sameV l[j] m[j] = true) := fun j h1 h2 hj => by
            by_cases e : j = k
            · subst e; exact heq
            · exact HI.out j h1 h2 (by omega)
          go_wp2_with fail
          refine quietly (by kernel_rfl) (by kernel_rfl) ?_
          repeat (go_big_quiet_step (first | (go_at_call 69; exact Calls.far (lwVote_any l[k] m[k] _ _ _ ⟨_, _, rfl, i1.grew ⟨_, _, rfl⟩⟩ ⟨_, _, rfl, i2.grew ⟨_, _, rfl⟩⟩ s1 s2))))
          refine wpQuiet_nil ?_
          intro _ hw'
          obtain ⟨⟨nq, osq⟩, hw''⟩ := hw'
          subst hw''
          go_wp2
          go_roundw
          case rel => exact ⟨k + 1, by omega, by go_num, hg.trans ⟨_, _, rfl⟩, hnext.out⟩
          case measure => simp [intOf]; omega
        | false =>
          have hend : Hid (sameVs l m = false) := sameVs_part hlt hlt2 heq
          go_wp2_with fail
          refine quietly (by kernel_rfl) (by kernel_rfl) ?_
          repeat (go_big_quiet_step (first | (go_at_call 69; exact Calls.far (lwVote_any l[k] m[k] _ _ _ ⟨_, _, rfl, i1.grew ⟨_, _, rfl⟩⟩ ⟨_, _, rfl, i2.grew ⟨_, _, rfl⟩⟩ s1 s2))))
          refine wpQuiet_nil ?_
          intro _ hw'
          obtain ⟨⟨nq, osq⟩, hw''⟩ := hw'
          subst hw''
          go_wp2
          go_ret
          exact ⟨ret_bool hend.out.symm, hg.trans ⟨_, _, rfl⟩⟩
      · have hle : (l.length : Int) ≤ (k : Int) := by omega
        have hend : Hid (sameVs l m = true) := sameVs_all HL.out fun j h1 h2 => HI.out j h1 h2 (by omega)
        go_wp2
        go_ret
        exact ⟨ret_bool hend.out.symm, hg⟩
  · have hne : ((l.length : Int) != (m.length : Int)) = true := by simp; omega
    have hend : Hid (sameVs l m = false) := sameVs_len hlen
    clear hlen
    go_enter Try.func26, Try.ntmps26
    go_wp2
    go_ret
    exact ⟨ret_bool hend.out.symm, Grew.refl _⟩

set_option maxHeartbeats 2000000 in
theorem lwHas_any (a : Option Addr) (cap n : Nat) (l : List Vt) (x : Vt) (v : Value) (w : World) (hln : l.length = n) (hl : Vts w a l) (hv : VtV w v x) (hs : Short l) (hx : x.c.length ≤ 1048576) (hn : n ≤ 1048576) :
    Calls Try.prog 23 #[.slice a n cap, v] w fun r w' => r = .returned (.bool (hasB l x)) ∧ Grew w w' := by
  obtain ⟨av, capv, rfl, hxl⟩ := hv
  subst hln
  go_enter Try.func23, Try.ntmps23
  go_wp2_with fail
  go_loopw [5] (fun i wr => ∃ k : Nat, k ≤ l.length ∧ i = .int .i64 k ∧ Hid (hasB (l.take k) x = false) ∧ Grew (w.alloc (.cells #[.int .i64 x.n, .slice av x.c.length capv] 45)) wr) (fun i _ => l.length - (intOf i).toNat)
  case atStart => exact ⟨0, Nat.zero_le _, rfl, rfl, Grew.refl _⟩
  case round =>
    obtain ⟨k, hk, rfl, hno, hg⟩ := hrel
    have G := hide (((Grew.refl w).alloc _).trans hg)
    by_cases hlt : k < l.length
    · obtain ⟨b, off, rfl, hat⟩ := hl.at hlt
      obtain ⟨c0, a1, cap1, c1, hi⟩ := hat.grew (unhide G)
      have d0 := hg.keep (p := ⟨w.heap.size, 0, none⟩) (v := .int .i64 x.n) (by simp [go_sem])
      have d1 := hg.keep (p := ⟨w.heap.size, 1, none⟩) (v := .slice av x.c.length capv) (by simp [go_sem])
      have hxi := hxl.grew (unhide G)
      have e0 := Grew.gcell c0
      have e1 := Grew.gcell c1
      have f0 := Grew.gcell d0
      have f1 := Grew.gcell d1
      have hs1 := hs.at hlt
      clear hat hl hxl
      cases hsame : sameV l[k] x with
      | true =>
        have hend : Hid (hasB l x = true) := hasB_part l x k hlt hsame
        go_wp2_with fail
        refine quietly (by kernel_rfl) (by kernel_rfl) ?_
        repeat (go_big_quiet_step (first | (go_at_call 69; exact Calls.far (lwVote_any l[k] x _ _ _ ⟨_, _, rfl, hi.grew ⟨_, _, rfl⟩⟩ ⟨_, _, rfl, hxi.grew ⟨_, _, rfl⟩⟩ hs1 hx))))
        refine wpQuiet_nil ?_
        intro _ hw'
        obtain ⟨⟨nq, osq⟩, hw''⟩ := hw'
        subst hw''
        rw [hsame]
        go_wp2
        go_ret
        exact ⟨ret_bool hend.out.symm, (unhide G).trans ⟨_, _, rfl⟩⟩
      | false =>
        have hnext : Hid (hasB (l.take (k + 1)) x = false) := by
          show hasB (l.take (k + 1)) x = false
          rw [hasB_take_snoc l x k hlt, show hasB (l.take k) x = false from hno.out, hsame]; rfl
        go_wp2_with fail
        refine quietly (by kernel_rfl) (by kernel_rfl) ?_
        repeat (go_big_quiet_step (first | (go_at_call 69; exact Calls.far (lwVote_any l[k] x _ _ _ ⟨_, _, rfl, hi.grew ⟨_, _, rfl⟩⟩ ⟨_, _, rfl, hxi.grew ⟨_, _, rfl⟩⟩ hs1 hx))))
        refine wpQuiet_nil ?_
        intro _ hw'
        obtain ⟨⟨nq, osq⟩, hw''⟩ := hw'
        subst hw''
        rw [hsame]
        go_wp2
        go_roundw
        case rel => exact ⟨k + 1, by omega, by go_num, hnext, hg.trans ⟨_, _, rfl⟩⟩
        case measure => simp [intOf]; omega
    · have hle : (l.length : Int) ≤ (k : Int) := by omega
      have hend : Hid (hasB l x = false) := by
        show hasB l x = false
        have : l.take k = l := List.take_of_length_le (by omega)
        rw [← this]; exact hno.out
      go_wp2
      go_ret
      exact ⟨ret_bool hend.out.symm, unhide G⟩

theorem VtsV.at {w : World} {v : Value} {l : List Vt} (h : VtsV w v l) {i : Nat} (hi : i < l.length) : ∃ b off cap, v = .slice (some ⟨b, off, none⟩) l.length cap ∧ VtAt w b (off + i * 2) l[i] := by
  obtain ⟨a, cap, rfl, _, hv⟩ := h
  obtain ⟨b, off, rfl, hat⟩ := hv.at hi
  exact ⟨b, off, cap, rfl, hat⟩
theorem lwVotes_v {v u : Value} {l m : List Vt} (w : World) (h : VtsV w v l) (k : VtsV w u m) (hs : Short l) (hs' : Short m) (hn : l.length ≤ 1048577) (hn' : m.length ≤ 1048577) : Calls Try.prog 26 #[v, u] w fun r w' => r = .returned (.bool (sameVs l m)) ∧ Grew w w' := by
  obtain ⟨a, cap, rfl, hc, hv⟩ := h
  obtain ⟨b, capb, rfl, hcb, hvb⟩ := k
  exact lwVotes_any a b cap capb l m _ _ w rfl rfl hv hvb hs hs' hn hn'
theorem lwHas_v {v : Value} {l : List Vt} (x : Vt) (vx : Value) (w : World) (h : VtsV w v l) (hv : VtV w vx x) (hs : Short l) (hx : x.c.length ≤ 1048576) (hn : l.length ≤ 1048576) : Calls Try.prog 23 #[v, vx] w fun r w' => r = .returned (.bool (hasB l x)) ∧ Grew w w' := by
  obtain ⟨a, cap, rfl, hc, hvs⟩ := h
  exact lwHas_any a cap _ l x vx w rfl hvs hv hs hx hn

set_option linter.unusedVariables false
open Go.RowKit
attribute [local simp] far_const

/-- A vote as it lies: where its chain is, and how much room it has. -/
abbrev Vl := Vt × Option Addr × Nat
def cellsV : List Vl → List Value
  | [] => []
  | e :: r => .int .i64 e.1.n :: .slice e.2.1 e.1.c.length e.2.2 :: cellsV r
theorem cellsV_length : ∀ L : List Vl, (cellsV L).length = L.length * 2
  | [] => rfl
  | e :: r => by simp [cellsV, cellsV_length r]; omega
theorem cellsV_app (L M : List Vl) : cellsV (L ++ M) = cellsV L ++ cellsV M := by
  induction L with
  | nil => rfl
  | cons e r ih => simp [cellsV, ih]
theorem cellsV_get : ∀ (L : List Vl) (i : Nat) (h : i < L.length), (cellsV L)[i * 2]? = some (.int .i64 L[i].1.n) ∧ (cellsV L)[i * 2 + 1]? = some (.slice L[i].2.1 L[i].1.c.length L[i].2.2)
  | [], i, h => absurd h (Nat.not_lt_zero _)
  | e :: r, 0, _ => ⟨rfl, rfl⟩
  | e :: r, i + 1, h => by
    have := cellsV_get r i (by simpa using h)
    rw [show (i + 1) * 2 = i * 2 + 1 + 1 by omega]
    simp only [cellsV, List.getElem?_cons_succ, List.getElem_cons_succ]
    exact this
theorem cellsV_one : ∀ L : List Vl, ∀ u ∈ cellsV L, u.oneCell' = true
  | [], u, h => by simp [cellsV] at h
  | e :: r, u, h => by
    simp only [cellsV, List.mem_cons] at h
    rcases h with h | h | h
    · subst h; rfl
    · subst h; rfl
    · exact cellsV_one r u h
/-- The chain lies in memory below H, or is empty. -/
def Lies (w : World) (H : Nat) (e : Vl) : Prop := Its w e.2.1 e.1.c ∧ (e.1.c = [] ∨ ∃ x, e.2.1 = some x ∧ x.block < H)
theorem Lies.of {w : World} {e : Vl} (h : Its w e.2.1 e.1.c) : Lies w w.heap.size e := by
  refine ⟨h, ?_⟩
  rcases h with h | ⟨b, off, ha, h⟩
  · exact .inl h
  · by_cases h0 : e.1.c = []
    · exact .inl h0
    · exact .inr ⟨_, ha, World.block_lt_of_cell? _ _ (h 0 (List.length_pos_iff.2 h0)).1⟩
theorem Lies.kept {w w' : World} {H : Nat} {e : Vl} (h : Lies w H e) (k : ∀ b, b < H → w'.heap[b]? = w.heap[b]?) : Lies w' H e := by
  refine ⟨?_, h.2⟩
  rcases h.2 with h0 | ⟨x, hx, hb⟩
  · exact .inl h0
  · exact h.1.block' (fun y hy => by rw [hx] at hy; cases hy; exact k _ hb)
/-- Votes that lie in memory: their cells. -/
theorem Vts.lie {w : World} {ad : Addr} {l : List Vt} (h : Vts w (some ad) l) : ∃ L : List Vl, L.map (·.1) = l ∧ (∀ j u, (cellsV L)[j]? = some u → w.cell? (ad.add j) = some u) ∧ ∀ e ∈ L, Lies w w.heap.size e := by
  rcases h with h | ⟨b, off, ha, h⟩
  · subst h; exact ⟨[], rfl, (fun j u hj => by simp [cellsV] at hj), (fun e he => by cases he)⟩
  · simp only [Option.some.injEq] at ha
    subst ha
    have hit : ∀ i, i < l.length → ∃ y : Option Addr × Nat, ∃ hi : i < l.length, w.cell? ⟨b, off + i * 2, none⟩ = some (.int .i64 l[i].n) ∧ w.cell? ⟨b, off + i * 2 + 1, none⟩ = some (.slice y.1 l[i].c.length y.2) ∧ Its w y.1 l[i].c := fun i hi => by
      obtain ⟨h0, a, cap, h1, h2⟩ := h i hi
      exact ⟨(a, cap), hi, h0, h1, h2⟩
    obtain ⟨g, hg⟩ := @Go.Deep.choose_lt (Option Addr × Nat) ⟨(none, 0)⟩ _ _ hit
    refine ⟨(List.range l.length).map (fun i => (l[i]?.getD ⟨0, []⟩, g i)), ?_, fun j u hj => ?_, fun e he => ?_⟩
    · apply List.ext_getElem (by simp)
      intro i h1 h2
      simp [List.getElem?_eq_getElem h2]
    · have hadd : (⟨b, off, none⟩ : Addr).add j = ⟨b, off + j, none⟩ := by unfold Addr.add; split <;> simp_all
      rw [hadd]
      have hjl : j < l.length * 2 := by
        have := (List.getElem?_eq_some_iff.1 hj).1
        rw [cellsV_length] at this; simpa using this
      obtain ⟨i, r, hr, rfl⟩ : ∃ i r, r < 2 ∧ j = i * 2 + r := ⟨j / 2, j % 2, by omega, by omega⟩
      have hi : i < l.length := by omega
      obtain ⟨_, c0, c1, _⟩ := hg i hi
      obtain ⟨q0, q1⟩ := cellsV_get ((List.range l.length).map (fun i => (l[i]?.getD ⟨0, []⟩, g i))) i (by simpa using hi)
      simp only [List.getElem_map, List.getElem_range, List.getElem?_eq_getElem hi, Option.getD_some] at q0 q1
      rw [← Nat.add_assoc]
      match r, hr with
      | 0, _ => rw [Nat.add_zero] at hj ⊢; rw [c0]; rw [q0] at hj; exact hj
      | 1, _ => rw [c1]; rw [q1] at hj; exact hj
    · obtain ⟨i, hi, rfl⟩ := List.mem_map.1 he
      have hi' := List.mem_range.1 hi
      obtain ⟨_, _, _, i1⟩ := hg i hi'
      refine Lies.of ?_
      simp only [List.getElem?_eq_getElem hi', Option.getD_some]
      exact i1
/-- A row of votes of the call's own whose chains lie below H. -/
def VShr (w : World) (H : Nat) (v : Value) (l : List Vt) : Prop := v ≠ .slice none 0 0 ∧ ∃ L : List Vl, L.map (·.1) = l ∧ w.ownsRow H 45 2 v l.length (cellsV L) ∧ ∀ e ∈ L, Lies w H e
theorem VShr.kept {w w' : World} {H : Nat} {v : Value} {l : List Vt} (h : VShr w H v l) (k : ∀ b, b < w.heap.size → w'.heap[b]? = w.heap[b]?) (hH : H ≤ w.heap.size) : VShr w' H v l := by
  obtain ⟨nz, L, hL, row, hl⟩ := h
  exact ⟨nz, L, hL, ownsRow_block row (fun g hg => k g (row.lt g hg).2), fun e he => (hl e he).kept (fun b hb => k b (by omega))⟩
theorem VShr.grew {w w' : World} {H : Nat} {v : Value} {l : List Vt} (h : VShr w H v l) (g : Grew w w') (hH : H ≤ w.heap.size) : VShr w' H v l := h.kept (fun b hb => g.below.block b hb) hH
theorem VShr.block {w : World} {H : Nat} {v : Value} {l : List Vt} (h : VShr w H v l) : ∀ k, v.ownBlock = some k → H ≤ k ∧ k < w.heap.size := by
  obtain ⟨_, L, _, row, _⟩ := h; exact row.lt
theorem VShr.empty (w : World) : VShr (w.alloc (.cells #[] 45)) w.heap.size (.slice (some ⟨w.heap.size, 0, none⟩) 0 0) [] :=
  ⟨(fun e => by simp at e), [], rfl, World.ownsRow_lit w #[] 0 (Nat.le_refl _) (by unfold maxLen; omega) rfl, (fun e he => by cases he)⟩
theorem VShr.vtsV {w : World} {H : Nat} {v : Value} {l : List Vt} (h : VShr w H v l) : VtsV w v l := by
  obtain ⟨nz, L, hL, row, hl⟩ := h
  have hlen : L.length = l.length := by rw [← hL]; simp
  rcases row.2 with ⟨hv, hn⟩ | ⟨g, cap, cur, hv, hb, hg, hnc, _⟩
  · exact absurd hv nz
  · refine ⟨_, cap, hv, hnc, .inr ⟨g, 0, rfl, fun i hi => ?_⟩⟩
    subst hv
    have hi' : i < L.length := by omega
    obtain ⟨q0, q1⟩ := cellsV_get L i hi'
    have e : l[i] = L[i].1 := by simp [← hL]
    rw [Nat.zero_add, e]
    exact ⟨by rw [row.cellAt (i * 2) (by omega)]; exact q0, L[i].2.1, L[i].2.2, by rw [row.cellAt (i * 2 + 1) (by omega)]; exact q1, (hl _ (List.getElem_mem hi')).1⟩
/-- 'append' of votes that lie in older memory. -/
theorem VShr.grow {w : World} {H : Nat} {v : Value} {l : List Vt} (h : VShr w H v l) (M : List Vl) (hM : ∀ e ∈ M, Lies w H e) (hH : H ≤ w.heap.size) :
    ∃ cs, w.ownsRow H 45 2 v l.length cs ∧ ∀ v' w', w'.ownsRow H 45 2 v' (l.length + M.length) (cs ++ cellsV M) → v' ≠ .slice none 0 0 → w.grownBy w' v.ownBlock → VShr w' H v' (l ++ M.map (·.1)) := by
  obtain ⟨nz, L, hL, row, hl⟩ := h
  refine ⟨cellsV L, row, fun v' w' h1 h2 h3 => ⟨h2, L ++ M, by rw [List.map_append, hL], ?_, fun e he => ?_⟩⟩
  · rw [List.length_append, List.length_map, cellsV_app]; exact h1
  · have hk : ∀ b, b < H → w'.heap[b]? = w.heap[b]? := fun b hb => h3.block b (by omega) (fun e => by have := (row.lt b e.symm).1; omega)
    rcases List.mem_append.1 he with he | he
    · exact (hl e he).kept hk
    · exact (hM e he).kept hk
theorem wpList_shr {ops : Array Oper} {rest : List Oper} {o : Oper} {a : Act} {Q : Exit → Act → World → Prop} {w : World} (hgd : o.guard = none) (s x : Operand)
    (ho : o.op = .call { callee := .builtin .append, args := #[s, x], argTypes := #[35, 35] })
    (H : Nat) (v : Value) (l : List Vt) (hse : a.eval s = v) (hown : VShr w H v l) (hH : H ≤ w.heap.size)
    (ad : Addr) (c : Nat) (M : List Vl) (mn : Nat) (hmn : M.length = mn) (hx : a.eval x = .slice (some ad) mn c) (hc : ∀ j u, (cellsV M)[j]? = some u → w.cell? (ad.add j) = some u) (hM : ∀ e ∈ M, Lies w H e) (hn : l.length + mn ≤ 1048577)
    (h : ∀ v' w', VShr w' H v' (l ++ M.map (·.1)) → w.grownBy w' v.ownBlock → wpList Try.prog ops Q rest (a.put o.dst v') w') : wpList Try.prog ops Q (o :: rest) a w := by
  obtain ⟨i, hi0, hz0, hz1, hz2⟩ := info_parts vote_info
  subst hmn
  have nz := hown.1
  obtain ⟨cs, row, hgrow⟩ := hown.grow M hM hH
  refine wpList_append_own w hgd s x 35 ho H 45 i _ 2 32 Try.underlying35 hi0 hz0 hz1 hz2 rfl (by omega) v l.length cs hse row ad M.length c (cellsV M) hx (cellsV_length M) hc (cellsV_one M) (by unfold maxLen; omega) (by omega) hH ?_
  intro v' w' h1 h2 h3
  exact h v' w' (hgrow v' w' h1 (fun e => nz (h3.1 e).1) h2) h2

theorem back_step {l : List Vt} {k : Nat} (hk : k < l.length) : (l.drop (k + 1)).reverse ++ [l[k]] = (l.drop k).reverse := by
  rw [List.drop_eq_getElem_cons hk, List.reverse_cons]

theorem VtsV.vts {w : World} {a : Option Addr} {n cap : Nat} {l : List Vt} (h : VtsV w (.slice a n cap) l) : Vts w a l ∧ n = l.length ∧ l.length ≤ cap := by
  obtain ⟨b, c, e, h1, h2⟩ := h
  simp only [Value.slice.injEq] at e
  obtain ⟨rfl, rfl, rfl⟩ := e
  exact ⟨h2, rfl, h1⟩
end Go.Proofs.Ytjbnohepbmejkaa
