/-
  All votes of a cert, by the specification.
-/
import Derived.Test.YtjbnohepbmejkaaCerW2
import Derived.Test.YtjbnohepbmejkaaVSpec3
namespace Go.Proofs.Ytjbnohepbmejkaa
set_option linter.unusedVariables false
open Go.RowKit
attribute [local simp] far_const

/-- 'append' of one vote inside a region that draws its order; the chains lie where they lie. -/
theorem step_vrow {ops : Array Oper} {o : Oper} {a : Act} {w : World} {K : Act → World → Prop} {Q : Exit → Act → World → Prop} {E : Prop} (hgd : o.guard = none) (s x : Operand)
    (ho : o.op = .call { callee := .builtin .append, args := #[s, x], argTypes := #[35, 35] })
    (base : Nat) (v : Value) (l : List Vt) (hse : a.eval s = v) (hown : VRow w base v l)
    (ad : Addr) (c : Nat) (hx : a.eval x = .slice (some ad) 1 c) (y : Vt) (ay : Option Addr) (cq : Nat) (hc : ∀ j u, ([.int .i64 y.n, .slice ay y.c.length cq] : List Value)[j]? = some u → w.cell? (ad.add j) = some u)
    (hi : Its w ay y.c) (ha : ∀ x, ay = some x → x.off = 0 ∧ x.spot = none ∧ base ≤ x.block ∧ x.block < w.heap.size ∧ v.ownBlock ≠ some x.block) (hcp : y.c.length ≤ cq) (hn : l.length + 1 ≤ 1048577) (hbase : base ≤ w.heap.size)
    (h : ∀ v' w', VRow w' base v' (l ++ [y]) → w.grownBy w' v.ownBlock → K (a.put o.dst v') w') :
    if Region.wanted o (yielded ops a.tmps) = true then Oper.wp Try.prog o a w K Q else E := by
  obtain ⟨i, hi0, hz0, hz1, hz2⟩ := info_parts vote_info
  obtain ⟨cs, row, hgrow⟩ := hown.grow y ay cq hi ha hcp
  refine step_append_lies w hgd s x 35 ho base 45 i _ 2 32 Try.underlying35 hi0 hz0 hz1 hz2 rfl (by omega) v l.length cs hse row ad 1 c [.int .i64 y.n, .slice ay y.c.length cq] hx rfl hc (by simp [Value.oneCell']) (by omega) (by unfold maxLen; omega) (by omega) hbase _ rfl ?_
  intro g cap w' h1 h2 h3 h4
  refine h _ w' (hgrow _ w' h1 (fun e => by simp at e) h2 ?_) h2
  rcases h3 with h3 | h3
  · exact .inl h3.symm
  · exact .inr (by rw [h3]; rfl)

/-- The votes of the first k of a cert's By. -/
def accV (c : List It) (b : List (List Int)) (p : Nat) : Nat → List Vt
  | 0 => []
  | k + 1 => accV c b p k ++ votesC (c.take (p + k)) (b.getD k [])
theorem accV_len (c : List It) (b : List (List Int)) (p : Nat) (h : ∀ x ∈ b, x.length ≤ 4) : ∀ k, (accV c b p k).length ≤ 4 * k := by
  intro k
  induction k with
  | zero => simp [accV]
  | succ k ih =>
    have : (b.getD k []).length ≤ 4 := by
      rw [List.getD_eq_getElem?_getD]
      cases hb : b[k]? with
      | none => simp
      | some y => exact h y (List.mem_of_getElem? hb)
    simp only [accV, List.length_append, votesC_len]; omega
theorem accV_all {x : Ct} (h : certB x = true) : cvotes x = accV x.c x.b (x.c.length - 2) 3 := by
  have h3 := certB_three h
  unfold cvotes
  rw [if_pos h]
  simp only [accV, List.nil_append, Nat.add_zero]
  rw [show x.c.length - 2 + 1 = x.c.length - 1 by omega, show x.c.length - 2 + 2 = x.c.length by omega, List.take_length]
theorem accV_step (c : List It) (b : List (List Int)) (p : Nat) {k : Nat} (hk : k < b.length) : accV c b p (k + 1) = accV c b p k ++ votesC (c.take (p + k)) b[k] := by
  simp only [accV]; rw [List.getD_eq_getElem?_getD, List.getElem?_eq_getElem hk]; rfl
theorem VRow.lower {w : World} {base base' : Nat} {v : Value} {l : List Vt} (h : VRow w base v l) (hb : base' ≤ base) : VRow w base' v l := by
  obtain ⟨nz, cs, row, hc⟩ := h
  refine ⟨nz, cs, ⟨row.1, ?_⟩, fun i hi => ?_⟩
  · rcases row.2 with h0 | ⟨g, cap, cur, hv, hb', hr⟩
    · exact .inl h0
    · exact .inr ⟨g, cap, cur, hv, Nat.le_trans hb hb', hr⟩
  · obtain ⟨a, cap, k1, k2, k3, k4, k5⟩ := hc i hi
    exact ⟨a, cap, k1, k2, k3, fun y hy => ⟨(k4 y hy).1, (k4 y hy).2.1, Nat.le_trans hb (k4 y hy).2.2.1, (k4 y hy).2.2.2⟩, k5⟩
theorem keep4 {w w' : World} {p0 p1 p2 p3 : Addr} {u0 u1 u2 u3 : Value} (h : w.cell? p0 = some u0 ∧ w.cell? p1 = some u1 ∧ w.cell? p2 = some u2 ∧ w.cell? p3 = some u3) (g : Grew w w') : w'.cell? p0 = some u0 ∧ w'.cell? p1 = some u1 ∧ w'.cell? p2 = some u2 ∧ w'.cell? p3 = some u3 :=
  ⟨g.keep h.1, g.keep h.2.1, g.keep h.2.2.1, g.keep h.2.2.2⟩

set_option maxRecDepth 20000 in
set_option maxHeartbeats 4000000 in
theorem specCertVotes (x : Ct) (v : Value) (w : World) (hv : CtV w v x) (hc : x.c.length ≤ 1048576) (hn : x.b.length ≤ 1048576) (hs : ShortI x.b) :
    Calls Try.prog 27 #[v] w fun r w' => ∃ u, r = .returned u ∧ VRow w' w.heap.size u (cvotes x) ∧ Grew w w' := by
  have hX := fun W => hide (fun (g : Grew w W) => specCertOk x v W (hv.grew g) hc hn hs)
  obtain ⟨a, cap, b, capb, rfl, hcap, hl, hb⟩ := hv
  have VE : Hid (∀ o : Obj, VRow ((w.alloc o).alloc (.cells #[] 45)) (w.heap.size + 1) (.slice (some ⟨w.heap.size + 1, 0, none⟩) 0 0) []) := hide (fun o => by
    have := VRow.empty (w := w.alloc o) (base := w.heap.size + 1) (by simp)
    simpa using this)
  cases h : certB x with
  | false =>
    have hf : Hid (cvotes x = []) := by show cvotes x = []; unfold cvotes; rw [if_neg (by rw [h]; decide)]
    rw [h] at hX
    clear hl hb
    go_enter Try.func27, Try.ntmps27
    go_wp2_with fail
    refine (unhide (hX _) (((Grew.refl _).alloc _).alloc _)).mono ?_
    rintro r w1 ⟨rfl, g1⟩
    have VE := hide ((unhide VE _).grew g1)
    have G1 := hide ((((Grew.refl w).alloc _).alloc _).trans g1)
    clear g1
    go_wp2
    go_ret
    exact ⟨_, rfl, by rw [hf.out]; exact (unhide VE).lower (by omega), unhide G1⟩
  | true =>
    have h3 : x.c.length ≥ 3 := certB_three h
    have h3b : x.b.length = 3 := by simp only [certB, Bool.and_eq_true, decide_eq_true_eq] at h; exact h.2.2.1
    have hall : x.b.all byB = true := by simp only [certB, Bool.and_eq_true, decide_eq_true_eq] at h; exact h.2.2.2
    have hf := hide (accV_all h)
    have h4 : Hid (∀ y ∈ x.b, y.length ≤ 4) := hide (fun y hy => (byB_len (List.all_eq_true.1 hall y hy)).2)
    have HAL := hide (accV_len x.c x.b (x.c.length - 2) (unhide h4))
    rw [h] at hX
    obtain ⟨n, hn'⟩ : ∃ n, x.c.length = n := ⟨_, rfl⟩
    obtain ⟨p, hp⟩ : ∃ p, n - 2 = p := ⟨_, rfl⟩
    rw [hn'] at hX hcap hc hf HAL h3 ⊢
    rw [hp] at hf HAL
    have hw1 : IntKind.i64.wrap ((n : Int) - 2) = (p : Int) := by rw [IntKind.wrap_i64]; omega
    have hw1' : wrap64 ((n : Int) - 2) = (p : Int) := by unfold wrap64; omega
    have HNP := hide (And.intro (And.intro hp hcap) (And.intro h3 hn'))
    have HL := hide hl
    have HB := hide hb
    have H3 := hide h3b
    rw [h3b] at hX ⊢
    clear hl hb h3 hall h hs hp hn' hcap h3b
    go_enter Try.func27, Try.ntmps27
    go_wp2_with fail
    refine (unhide (hX _) (((Grew.refl _).alloc _).alloc _)).mono ?_
    rintro r w1 ⟨rfl, g1⟩
    obtain ⟨W, hW⟩ : ∃ W, W = w.alloc (.cells #[.slice a n cap, .slice b 3 capb] 26) := ⟨_, rfl⟩
    have p0 : W.cell? ⟨w.heap.size, 0, none⟩ = some (.slice a n cap) := by rw [hW]; simp [go_sem]
    have p1 : W.cell? ⟨w.heap.size, 1, none⟩ = some (.slice b 3 capb) := by rw [hW]; simp [go_sem]
    have hzW : W.heap.size = w.heap.size + 1 := by rw [hW]; simp
    have GB : Hid (Grew w W) := by rw [hW]; exact (Grew.refl w).alloc _
    have V1 : Hid (VRow w1 W.heap.size (.slice (some ⟨w.heap.size + 1, 0, none⟩) 0 0) []) := by rw [hzW]; exact (unhide VE _).grew g1
    have G1 : Hid (Grew W w1) := by rw [hW]; exact ((Grew.refl _).alloc _).trans g1
    have pp0 := (unhide G1).keep p0
    clear g1 VE hX hW
    go_wp2_with fail
    clear pp0
    go_loopw [3, 5] (fun out i wr => ∃ (v : Value) (k : Nat), k ≤ 3 ∧ v = out ∧ i = .int .i64 k ∧ Hid (VRow wr W.heap.size v (accV x.c x.b p k)) ∧ Hid (Grew W wr)) (fun _ i _ => 3 - (intOf i).toNat)
    case atStart => exact ⟨_, 0, by omega, rfl, rfl, V1, G1⟩
    case round =>
      clear V1 G1
      obtain ⟨vo, k, hk, rfl, rfl, hv, hg⟩ := hrel
      by_cases hk3 : k < 3
      · have hlb : k < x.b.length := by have := H3.out; omega
        obtain ⟨b0, off, ai, ci, rfl, d0, j0⟩ := ((unhide HB).grew (unhide GB)).at hlb
        have hst := hide (accV_step x.c x.b p hlb)
        have hl4 := unhide h4 _ (List.getElem_mem hlb)
        have hk3' : (k : Int) < 3 := by omega
        obtain ⟨q, hq⟩ : ∃ q, p + k = q := ⟨_, rfl⟩
        have hqn : q ≤ n := by have := (unhide HNP).1.1; have := (unhide HNP).2.1; omega
        have hqc : q ≤ cap := by have := (unhide HNP).1.2; omega
        have hqm : q ≤ 1048576 := by omega
        have hw2 : IntKind.i64.wrap ((p : Int) + (k : Int)) = (q : Int) := by rw [IntKind.wrap_i64]; omega
        have hw2' : wrap64 ((p : Int) + (k : Int)) = (q : Int) := by unfold wrap64; omega
        have hlq : Hid ((x.c.take q).length = q) := by show (x.c.take q).length = q; rw [List.length_take]; exact Nat.min_eq_left (Nat.le_trans hqn (Nat.le_of_eq (unhide HNP).2.2.symm))
        have IT := hide (((unhide HL).grew (unhide GB)).take q)
        rw [hq] at hst
        obtain ⟨T, hT⟩ : ∃ T, x.c.take q = T := ⟨_, rfl⟩
        rw [hT] at hst hlq IT
        obtain ⟨L, hL⟩ : ∃ L, x.b[k] = L := ⟨_, rfl⟩
        rw [hL] at hst d0 j0 hl4
        have hal := unhide HAL k
        have q0 := (unhide hg).keep p0
        have q1 := (unhide hg).keep p1
        have q2 := (unhide hg).keep d0
        have HJ := hide j0
        clear hL hq hT j0 hqn
        go_wp2_with fail
        go_loopw [3, 6] (fun out i wr => ∃ (v : Value) (j : Nat), j ≤ L.length ∧ v = out ∧ i = .int .i64 j ∧ Hid (VRow wr W.heap.size v (accV x.c x.b p k ++ votesC T (L.take j))) ∧ Hid (Grew W wr)) (fun _ i _ => L.length - (intOf i).toNat)
        case atStart => exact ⟨vo, 0, Nat.zero_le _, rfl, rfl, by show VRow _ _ _ _; simpa [votesC] using unhide hv, hg⟩
        case round =>
          clear hv hg q0 q1 q2
          obtain ⟨vi, j, hj, rfl, rfl, hv, hg⟩ := hrel
          have c0 := (unhide hg).keep p0
          have c1 := (unhide hg).keep p1
          have c2 := (unhide hg).keep d0
          by_cases hjl : j < L.length
          · obtain ⟨bi, oi, rfl, hat⟩ := (unhide HJ).at hjl
            have hsv := hide (votesC_take T L hjl)
            obtain ⟨z, hz⟩ : ∃ z, L[j] = z := ⟨_, rfl⟩
            rw [hz] at hat hsv
            have c3 := (unhide hg).keep hat
            have HC := hide (And.intro c0 (And.intro c1 (And.intro c2 c3)))
            have HW := hide (And.intro p0 (And.intro p1 (And.intro d0 hat)))
            have HG := hide (unhide hg)
            have hjl' : (j : Int) < (L.length : Int) := by omega
            have hbk := hide (unhide hv).block
            have hln : Hid ((accV x.c x.b p k ++ votesC T (L.take j)).length + 1 ≤ 1048577) := by
              show _ ≤ _; rw [List.length_append, votesC_len, List.length_take]; omega
            have hzz := (unhide hg).size
            clear hz hat
            go_wp2_with fail
            go_region_held_law (fun w' => w'.cell? ⟨w.heap.size, 0, none⟩ = some (.slice a n cap) ∧ w'.cell? ⟨w.heap.size, 1, none⟩ = some (.slice (some ⟨b0, off, none⟩) 3 capb) ∧ w'.cell? ⟨b0, off + k, none⟩ = some (.slice (some ⟨bi, oi, none⟩) L.length ci) ∧ w'.cell? ⟨bi, oi + j, none⟩ = some (.int .i64 z))
              (first | exact unhide HC | exact keep4 (unhide HC) g3 | exact keep4 (keep4 (unhide HC) g3) ((Grew.refl _).alloc _) | exact keep4 (unhide HW) G4)
              (first
                | (go_at_call 70; refine (l1Copy_own a cap T q (unhide hlq) _ ((unhide IT).grew (unhide hg).drew) hqm).mono ?_; rintro r w3 ⟨v3, rfl, o3, g3⟩; obtain ⟨gq, cq, rfl, hcq, hgq, hlt, i3⟩ := o3.shape; have hgq' : wr.heap.size ≤ gq := hgq; have hz3 := g3.size)
                | (with_reducible refine at_ite ?_; refine step_vrow rfl _ _ rfl W.heap.size vi _ rfl ((unhide hv).grew (((Grew.refl _).drew.trans g3).alloc _)) ⟨w3.heap.size, 0, none⟩ 1 rfl ⟨z, T⟩ (some ⟨gq, 0, none⟩) cq (cells_two _ _ _ _ _ _) (i3.grew ((Grew.refl _).alloc _)) (fun y hy => by cases hy; exact ⟨rfl, rfl, by show _ ≤ gq; omega, by show gq < _; simp; omega, fun e => by have := (unhide hbk gq e).2; omega⟩) hcq (unhide hln) (by simp; omega) ?_; intro v4 w4 o4 g4; have G4 := (((unhide HG).drew.trans g3).alloc (.cells #[.int .i64 z, .slice (some ⟨gq, 0, none⟩) T.length cq] 45)).grown g4 (fun b hb => (unhide hbk b hb).1)))
            have hv4 : Hid (VRow w4 W.heap.size v4 (accV x.c x.b p k ++ votesC T (L.take (j + 1)))) := by
              show VRow _ _ _ _; rw [unhide hsv, ← List.append_assoc]; exact o4
            have G4 := hide G4
            clear HG HW o4 g4 o3 g3 i3 hv hg hbk HC
            go_wp2
            go_roundw
            case rel => exact ⟨v4, j + 1, by omega, rfl, by go_num, hv4, G4⟩
            case measure => simp [intOf]; omega
          · have hle : (L.length : Int) ≤ (j : Int) := by omega
            have hvn : Hid (VRow wr W.heap.size vi (accV x.c x.b p (k + 1))) := by
              show VRow _ _ _ _
              have := unhide hv
              rw [List.take_of_length_le (by omega)] at this
              rw [unhide hst]; exact this
            clear hv
            go_wp2
            go_roundw
            case rel => exact ⟨vi, k + 1, by omega, rfl, by go_num, hvn, hg⟩
            case measure => simp [intOf]; omega
      · have hle : (3 : Int) ≤ (k : Int) := by omega
        have hvn : Hid (VRow wr w.heap.size vo (cvotes x)) := by
          show VRow _ _ _ _
          have := unhide hv
          rw [show k = 3 by omega, ← unhide hf] at this
          exact this.lower (by omega)
        have GE := hide ((unhide GB).trans (unhide hg))
        clear hv hg
        go_wp2
        go_ret
        exact ⟨vo, rfl, unhide hvn, unhide GE⟩
theorem cvotes_parts (x : Ct) : cvotes x = [] ∨ (certB x = true ∧ ∀ v ∈ cvotes x, v.c.length ≤ 16) ∧ (cvotes x).length ≤ 12 := by
  cases h : certB x with
  | false => left; unfold cvotes; rw [if_neg (by rw [h]; decide)]
  | true =>
    right
    have hc : x.c.length ≤ 16 := by
      simp only [certB, okB, Bool.and_eq_true, decide_eq_true_eq] at h
      exact h.1.1
    have hall : x.b.all byB = true := by simp only [certB, Bool.and_eq_true, decide_eq_true_eq] at h; exact h.2.2.2
    refine ⟨⟨rfl, fun v hv => ?_⟩, ?_⟩
    · unfold cvotes votesC at hv
      rw [if_pos h] at hv
      simp only [List.mem_append, List.mem_map] at hv
      rcases hv with (⟨n, _, rfl⟩ | ⟨n, _, rfl⟩) | ⟨n, _, rfl⟩
      · show (x.c.take _).length ≤ 16; rw [List.length_take]; omega
      · show (x.c.take _).length ≤ 16; rw [List.length_take]; omega
      · exact hc
    · rw [accV_all h]
      exact accV_len x.c x.b _ (fun y hy => (byB_len (List.all_eq_true.1 hall y hy)).2) 3
theorem cvotes_len (x : Ct) : (cvotes x).length ≤ 12 := by
  rcases cvotes_parts x with h | ⟨_, h⟩
  · rw [h]; simp
  · exact h
theorem cvotes_short (x : Ct) : Short (cvotes x) := by
  rcases cvotes_parts x with h | ⟨⟨_, h⟩, _⟩
  · rw [h]; intro y hy; cases hy
  · intro y hy; have := h y hy; omega
theorem sumC_bound : ∀ (l : List Vt) (m : Nat), (∀ v ∈ l, v.c.length ≤ m) → sumC l ≤ l.length * m := by
  intro l m
  induction l with
  | nil => intro _; simp [sumC]
  | cons y r ih =>
    intro h
    have h1 := h y (List.mem_cons_self ..)
    have h2 := ih (fun v hv => h v (List.mem_cons_of_mem _ hv))
    have e : sumC (y :: r) = y.c.length + sumC r := by simp [sumC]
    rw [e, List.length_cons, Nat.succ_mul]; omega
theorem cvotes_cnt (x : Ct) : cntV (cvotes x) ≤ 4194305 := by
  rcases cvotes_parts x with h | ⟨⟨_, h⟩, h2⟩
  · rw [h]; simp [cntV, sumC]
  · have := sumC_bound _ 16 h
    unfold cntV; omega
end Go.Proofs.Ytjbnohepbmejkaa
