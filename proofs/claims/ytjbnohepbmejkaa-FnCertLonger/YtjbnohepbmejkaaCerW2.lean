/-
  Texts together: CerV, CerW.
-/
import Derived.Test.YtjbnohepbmejkaaCerK
import Derived.Test.YtjbnohepbmejkaaVCopy
namespace Go.Proofs.Ytjbnohepbmejkaa
set_option linter.unusedVariables false
open Go.RowKit
attribute [local simp] far_const

/-- A vote of each for one chain. -/
def votesC (c : List It) (l : List Int) : List Vt := l.map (fun n => ⟨n, c⟩)
theorem votesC_take (c : List It) (l : List Int) {k : Nat} (hk : k < l.length) : votesC c (l.take (k + 1)) = votesC c (l.take k) ++ [⟨l[k], c⟩] := by
  unfold votesC; rw [List.take_succ_eq_append_getElem hk, List.map_append]; rfl

set_option maxHeartbeats 1000000 in
theorem ballotVotes_any (a : Option Addr) (cap : Nat) (c : List It) (b : Option Addr) (capb : Nat) (l : List Int) (w : World) (hc : Its w a c) (hl : Ints w b l) (hn : c.length ≤ 1048576) (hnl : l.length ≤ 1048576) :
    Calls Try.prog 68 #[.agg #[.slice a c.length cap, .slice b l.length capb]] w fun r w' => ∃ v hs, r = .returned v ∧ VPart w' w.heap.size v hs l.length (votesC c l) ∧ Grew w w' := by
  have hmk := make_votes l.length hnl
  go_enter Try.func68, Try.ntmps68
  go_wp2_with fail
  clear hmk
  have P0 : Hid (VPart ((w.alloc (.cells #[.slice a c.length cap, .slice b l.length capb] 80)).alloc (zerosV l.length)) (w.heap.size + 1) (.slice (some ⟨w.heap.size + 1, 0, none⟩) l.length l.length) [] l.length []) := by
    have := VPart.made (w.alloc (.cells #[.slice a c.length cap, .slice b l.length capb] 80)) l.length hnl
    simp only [World.size_alloc] at this
    exact this
  have G0 : Hid (Grew w ((w.alloc (.cells #[.slice a c.length cap, .slice b l.length capb] 80)).alloc (zerosV l.length))) := hide (((Grew.refl _).alloc _).alloc _)
  have p0 : ((w.alloc (.cells #[.slice a c.length cap, .slice b l.length capb] 80)).alloc (zerosV l.length)).cell? ⟨w.heap.size, 0, none⟩ = some (.slice a c.length cap) :=
    ((Grew.refl _).alloc _).keep (by simp [go_sem])
  go_loopw [13] (fun i wr => ∃ (k : Nat) (hs : List Nat), k ≤ l.length ∧ i = .int .i64 k ∧ Hid (VPart wr (w.heap.size + 1) (.slice (some ⟨w.heap.size + 1, 0, none⟩) l.length l.length) hs l.length (votesC c (l.take k))) ∧ wr.cell? ⟨w.heap.size, 0, none⟩ = some (.slice a c.length cap) ∧ Hid (Grew w wr)) (fun i _ => l.length - (intOf i).toNat)
  case atStart => exact ⟨0, [], Nat.zero_le _, rfl, P0, p0, G0⟩
  case round =>
    clear P0 p0 G0
    obtain ⟨k, hh, hk, rfl, hp, p0, hg⟩ := hrel
    by_cases hlt : k < l.length
    · obtain ⟨b1, off, rfl, hat⟩ := hl.at hlt
      have c0 := (unhide hg).keep hat
      have hsz := (unhide hg).size
      clear hat
      go_wp2_with fail
      refine (copyVote_any ⟨l[k], c⟩ _ _ ⟨_, _, rfl, hc.grew (unhide hg)⟩ hn).mono ?_
      rintro r w1 ⟨q, rfl, hq1, hq2, qi, qo, g1⟩
      have hp1 := hide ((unhide hp).grew g1)
      have hlk : (votesC c (l.take k)).length = k := by unfold votesC; simp; omega
      obtain ⟨⟨v0, d0⟩, z0⟩ := (unhide hp1).cells (j := k * 2) (by omega)
      obtain ⟨⟨v1, d1⟩, z1⟩ := (unhide hp1).cells (j := k * 2 + 1) (by omega)
      have hlow := fun h hm => ((unhide hp).low h hm).2
      have hg0 : w.heap.size + 1 < wr.heap.size := by obtain ⟨g, c, e, _, _, h⟩ := (unhide hp).shape; simp at e; omega
      have hput := hide ((unhide hp1).put (by omega) ⟨l[k], c⟩ q c.length (by omega) hq2 (fun hm => by have := hlow q hm; omega) (by omega) qi qo (Nat.le_refl _))
      rw [hlk, ← votesC_take c l hlt] at hput
      have p1 := g1.keep p0
      have p2 : ((w1.setCell ⟨w.heap.size + 1, k * 2, none⟩ (.int .i64 l[k])).setCell ⟨w.heap.size + 1, k * 2 + 1, none⟩ (.slice (some ⟨q, 0, none⟩) c.length c.length)).cell? ⟨w.heap.size, 0, none⟩ = some (.slice a c.length cap) := by
        rw [World.cell?_of_block (w := w1) (by rw [Below.heap_setCell _ _ _ _ (by show w.heap.size ≠ w.heap.size + 1; omega), Below.heap_setCell _ _ _ _ (by show w.heap.size ≠ w.heap.size + 1; omega)])]; exact p1
      have G1 := hide ((((unhide hg).trans g1).setCell (p := ⟨w.heap.size + 1, k * 2, none⟩) (by dsimp only; omega) (.int .i64 l[k])).setCell (p := ⟨w.heap.size + 1, k * 2 + 1, none⟩) (by dsimp only; omega) (.slice (some ⟨q, 0, none⟩) c.length c.length))
      clear hp hlow hlk
      go_wp2
      go_roundw
      case rel => exact ⟨k + 1, hh ++ [q], by omega, by go_num, hput, p2, G1⟩
      case measure => simp [intOf]; omega
    · have hkl : k = l.length := by omega
      have hp' : Hid (VPart wr w.heap.size (.slice (some ⟨w.heap.size + 1, 0, none⟩) l.length l.length) hh l.length (votesC c l)) := by
        have := unhide hp
        rw [hkl, List.take_length] at this
        exact this.lower (by omega)
      have hle : (l.length : Int) ≤ (k : Int) := by omega
      clear hkl hp
      go_wp2
      go_ret
      exact ⟨_, hh, rfl, unhide hp', unhide hg⟩

set_option linter.unusedVariables false
open Go.RowKit
attribute [local simp] far_const

theorem ascB_len : ∀ (l : List Int) (p : Int), 0 ≤ p → p ≤ 4 → ascB p l = true → (l.length : Int) ≤ 4 - p := by
  intro l
  induction l with
  | nil => intro p h0 h4 _; simp; omega
  | cons x r ih =>
    intro p h0 h4 h
    simp only [ascB, inB, Bool.and_eq_true, decide_eq_true_eq] at h
    obtain ⟨⟨h1, h2, h3⟩, h5⟩ := h
    have := ih x (by omega) h3 h5
    simp only [List.length_cons, Int.natCast_add]
    omega
theorem byB_len {l : List Int} (h : byB l = true) : 3 ≤ l.length ∧ l.length ≤ 4 := by
  unfold byB at h
  simp only [Bool.and_eq_true, decide_eq_true_eq] at h
  have := ascB_len l 0 (Int.le_refl _) (by omega) h.1
  omega
theorem votesC_len (c : List It) (l : List Int) : (votesC c l).length = l.length := by unfold votesC; simp

theorem VAns.parts {w : World} {base : Nat} {v : Value} {hs : List Nat} {l : List Vt} (h : VAns w base v hs l) : ∃ cs, w.ownsRow base 45 2 v l.length cs ∧ (∀ i (h : i < l.length) (h' : i < hs.length), cs[i * 2]? = some (.int .i64 l[i].n) ∧ ∃ cap, cs[i * 2 + 1]? = some (.slice (some ⟨hs[i], 0, none⟩) l[i].c.length cap) ∧ l[i].c.length ≤ cap) ∧ hs.length = l.length ∧ hs.Nodup ∧ (∀ h ∈ hs, v.ownBlock ≠ some h) ∧ (∀ h ∈ hs, base ≤ h ∧ h < w.heap.size) ∧ (∀ i (h : i < l.length) (h' : i < hs.length), Its w (some ⟨hs[i], 0, none⟩) l[i].c ∧ Own w hs[i] l[i].c.length) := by
  rcases h with ⟨rfl, rfl, rfl⟩ | h
  · exact ⟨[], ⟨rfl, .inl ⟨rfl, rfl⟩⟩, (fun i h => absurd h (Nat.not_lt_zero _)), rfl, List.nodup_nil, (fun h hh => by cases hh), (fun h hh => by cases hh), (fun i h => absurd h (Nat.not_lt_zero _))⟩
  · obtain ⟨nz, ⟨cs, row, hc⟩, len, le, apart, off, low, its⟩ := h
    exact ⟨cs, row, hc, len, apart, off, low, its⟩
theorem VAns.block {w : World} {base : Nat} {v : Value} {hs : List Nat} {l : List Vt} (h : VAns w base v hs l) : ∀ k, v.ownBlock = some k → base ≤ k ∧ k < w.heap.size := by
  obtain ⟨cs, row, _⟩ := h.parts; exact row.lt
theorem VAns.lowest {w : World} {base : Nat} {v : Value} {hs : List Nat} {l : List Vt} (h : VAns w base v hs l) : ∀ k ∈ hs, base ≤ k ∧ k < w.heap.size := by
  obtain ⟨cs, _, _, _, _, _, h, _⟩ := h.parts; exact h
theorem add0 (g j : Nat) : (⟨g, 0, none⟩ : Addr).add j = ⟨g, j, none⟩ := by unfold Addr.add; split <;> simp_all
theorem certB_three {x : Ct} (h : certB x = true) : 3 ≤ x.c.length := by
  simp only [certB, Bool.and_eq_true] at h
  exact rowB_len h.2.1

theorem VAns.growN {w : World} {base base2 : Nat} {v : Value} {hs ks : List Nat} {l m : List Vt} {g2 cap2 : Nat} (h1 : VAns w base v hs l) (h2 : VOwn w base2 (.slice (some ⟨g2, 0, none⟩) m.length cap2) ks m) (hb : base ≤ base2) (sep : ∀ k ∈ ks, k ∉ hs ∧ v.ownBlock ≠ some k) :
    ∃ cs news, w.ownsRow base 45 2 v l.length cs ∧ news.length = m.length * 2 ∧ (∀ j u, news[j]? = some u → w.cell? ((⟨g2, 0, none⟩ : Addr).add j) = some u) ∧ (∀ u ∈ news, u.oneCell' = true) ∧
      ∀ v' w', w'.ownsRow base 45 2 v' (l.length + m.length) (cs ++ news) → v' ≠ .slice none 0 0 → w.grownBy w' v.ownBlock → (v'.ownBlock = v.ownBlock ∨ v'.ownBlock = some w.heap.size) → VOwn w' base v' (hs ++ ks) (l ++ m) := by
  obtain ⟨cs, row, hc, len, apart, off, low, its⟩ := h1.parts
  obtain ⟨nz2, ⟨ns, row2, hc2⟩, len2, le2, apart2, off2, low2, its2⟩ := h2
  have hcl : cs.length = l.length * 2 := row.1
  have hnl : ns.length = m.length * 2 := row2.1
  refine ⟨cs, ns, row, hnl, fun j u hj => ?_, fun u hu => ?_, fun v' w' r nz g at' => ?_⟩
  · have hjl : j < ns.length := by
      rcases Nat.lt_or_ge j ns.length with h | h
      · exact h
      · rw [List.getElem?_eq_none h] at hj; cases hj
    rw [add0, row2.cellAt j (by omega)]; exact hj
  · obtain ⟨j, hj, rfl⟩ := List.getElem_of_mem hu
    have hi : j / 2 < m.length := by omega
    obtain ⟨e0, c, e1, _⟩ := hc2 (j / 2) hi (by omega)
    rcases Nat.mod_two_eq_zero_or_one j with e | e
    · have : j / 2 * 2 = j := by omega
      rw [this, List.getElem?_eq_getElem hj] at e0
      rw [Option.some.inj e0]; rfl
    · have : j / 2 * 2 + 1 = j := by omega
      rw [this, List.getElem?_eq_getElem hj] at e1
      rw [Option.some.inj e1]; rfl
  · have hnew : ∀ b, b < w.heap.size → v.ownBlock ≠ some b → v'.ownBlock ≠ some b ∧ w'.heap[b]? = w.heap[b]? := fun b hb hne => by
      refine ⟨fun e => ?_, g.block b hb (fun e => hne e.symm)⟩
      rcases at' with h4 | h4
      · exact hne (h4.symm.trans e)
      · rw [h4] at e; have := Option.some.inj e; omega
    have all1 : ∀ k ∈ hs, v.ownBlock ≠ some k ∧ k < w.heap.size := fun k hk => ⟨off k hk, (low k hk).2⟩
    have all2 : ∀ k ∈ ks, v.ownBlock ≠ some k ∧ k < w.heap.size := fun k hk => ⟨(sep k hk).2, (low2 k hk).2⟩
    refine ⟨nz, ⟨_, (by rw [List.length_append]; exact r), fun i hi1 hi2 => ?_⟩, by simp [len, len2], Nat.le_refl _, ?_, fun h hh => ?_, fun h hh => ?_, fun i hi1 hi2 => ?_⟩
    · simp only [List.length_append] at hi1 hi2
      by_cases e : i < l.length
      · have h1 := hc i e (by omega)
        rw [List.getElem?_append_left (by omega), List.getElem?_append_left (by omega), List.getElem_append_left e, List.getElem_append_left (by omega)]
        exact h1
      · have h1 := hc2 (i - l.length) (by omega) (by omega)
        rw [List.getElem?_append_right (by omega), List.getElem?_append_right (by omega), List.getElem_append_right (by omega), List.getElem_append_right (by omega), hcl,
          show i * 2 - l.length * 2 = (i - l.length) * 2 by omega, show i * 2 + 1 - l.length * 2 = (i - l.length) * 2 + 1 by omega]
        simp only [len]
        exact h1
    · rw [List.nodup_append]
      exact ⟨apart, apart2, fun a ha b hb e => (sep b hb).1 (e ▸ ha)⟩
    · rcases List.mem_append.1 hh with hh | hh
      · exact (hnew h (all1 h hh).2 (all1 h hh).1).1
      · exact (hnew h (all2 h hh).2 (all2 h hh).1).1
    · have hz := g.size
      rcases List.mem_append.1 hh with hh | hh
      · exact ⟨(low h hh).1, Nat.lt_of_lt_of_le (low h hh).2 hz⟩
      · exact ⟨Nat.le_trans hb (low2 h hh).1, Nat.lt_of_lt_of_le (low2 h hh).2 hz⟩
    · simp only [List.length_append] at hi1 hi2
      by_cases e : i < l.length
      · have h1 := its i e (by omega)
        have hm : hs[i] ∈ hs := List.getElem_mem (by omega)
        have hn := (hnew hs[i] (all1 _ hm).2 (all1 _ hm).1).2
        rw [List.getElem_append_left (by omega), List.getElem_append_left e]
        exact ⟨h1.1.block hn, h1.2.block hn⟩
      · have h1 := its2 (i - l.length) (by omega) (by omega)
        have hm : ks[i - l.length]'(by omega) ∈ ks := List.getElem_mem (by omega)
        have hn := (hnew _ (all2 _ hm).2 (all2 _ hm).1).2
        rw [List.getElem_append_right (by omega), List.getElem_append_right (by omega)]
        simp only [len]
        exact ⟨h1.1.block hn, h1.2.block hn⟩
/-- 'append' of a row of votes of the call's own. -/
theorem wpList_vapp {ops : Array Oper} {rest : List Oper} {o : Oper} {a : Act} {Q : Exit → Act → World → Prop} {w : World} (hgd : o.guard = none) (s x : Operand)
    (ho : o.op = .call { callee := .builtin .append, args := #[s, x], argTypes := #[35, 35] })
    (base : Nat) (v : Value) (hs : List Nat) (l : List Vt) (hse : a.eval s = v) (hown : VAns w base v hs l)
    (base2 g2 cap2 : Nat) (ks : List Nat) (m : List Vt) (hx : a.eval x = .slice (some ⟨g2, 0, none⟩) m.length cap2) (h2 : VOwn w base2 (.slice (some ⟨g2, 0, none⟩) m.length cap2) ks m)
    (hb : base ≤ base2) (hm : 0 < m.length) (sep : ∀ k ∈ ks, k ∉ hs ∧ v.ownBlock ≠ some k) (hn : l.length + m.length ≤ 1048577) (hbase : base ≤ w.heap.size)
    (h : ∀ v' w', VOwn w' base v' (hs ++ ks) (l ++ m) → w.grownBy w' v.ownBlock → wpList Try.prog ops Q rest (a.put o.dst v') w') : wpList Try.prog ops Q (o :: rest) a w := by
  obtain ⟨i, hi0, hz0, hz1, hz2⟩ := info_parts vote_info
  obtain ⟨cs, news, row, hnl, hnews, hone, hgrow⟩ := hown.growN h2 hb sep
  refine wpList_append_own_at w hgd s x 35 ho base 45 i _ 2 32 Try.underlying35 hi0 hz0 hz1 hz2 rfl (by omega) v l.length cs hse row ⟨g2, 0, none⟩ m.length cap2 news hx hnl hnews hone (by unfold maxLen; omega) (by omega) hbase ?_
  intro v' w' h1 h2 h3 h4
  exact h v' w' (hgrow v' w' h1 (fun e => by have := (h3.1 e).2; omega) h2 h4) h2

/-- What CertVotes answers. -/
def cvotes (x : Ct) : List Vt := if certB x = true then (votesC (x.c.take (x.c.length - 2)) (x.b.getD 0 []) ++ votesC (x.c.take (x.c.length - 1)) (x.b.getD 1 [])) ++ votesC x.c (x.b.getD 2 []) else []
def preV (A B C : List Vt) : Nat → List Vt
  | 0 => []
  | 1 => A
  | 2 => A ++ B
  | _ => (A ++ B) ++ C
theorem ballotVotes_n (a : Option Addr) (cap : Nat) (c : List It) (n : Nat) (hcn : c.length = n) (b : Option Addr) (capb : Nat) (l : List Int) (w : World) (hc : Its w a c) (hl : Ints w b l) (hn : c.length ≤ 1048576) (hnl : l.length ≤ 1048576) :
    Calls Try.prog 68 #[.agg #[.slice a n cap, .slice b l.length capb]] w fun r w' => ∃ g ccap hs, r = .returned (.slice (some ⟨g, 0, none⟩) l.length ccap) ∧ VOwn w' w.heap.size (.slice (some ⟨g, 0, none⟩) l.length ccap) hs (votesC c l) ∧ Grew w w' := by
  subst hcn
  refine (ballotVotes_any a cap c b capb l w hc hl hn hnl).mono ?_
  rintro r w1 ⟨v, hs, rfl, hp, g1⟩
  obtain ⟨g, cc, rfl, _, _, _⟩ := hp.shape
  exact ⟨g, cc, hs, rfl, by unfold VOwn; rw [votesC_len]; exact hp, g1⟩

set_option maxRecDepth 20000 in
set_option maxHeartbeats 4000000 in
theorem implCertVotes (x : Ct) (v : Value) (w : World) (hv : CtV w v x) (hc : x.c.length ≤ 1048576) (hn : x.b.length ≤ 1048576) (hs : ShortI x.b) :
    Calls Try.prog 22 #[v] w fun r w' => ∃ u ks, r = .returned u ∧ VAns w' w.heap.size u ks (cvotes x) ∧ Grew w w' := by
  have hX := fun W => hide (fun (g : Grew w W) => implCertOk x v W (hv.grew g) hc hn hs)
  obtain ⟨a, cap, b, capb, rfl, hcap, hl, hb⟩ := hv
  cases h : certB x with
  | false =>
    have hf : Hid (cvotes x = []) := by show cvotes x = []; unfold cvotes; rw [if_neg (by rw [h]; decide)]
    rw [h] at hX
    clear hl hb
    go_enter Try.func22, Try.ntmps22
    go_wp2_with fail
    refine (unhide (hX _) ((Grew.refl _).alloc _)).mono ?_
    rintro r w1 ⟨rfl, g1⟩
    go_wp2
    go_ret
    exact ⟨.slice none 0 0, [], rfl, .inl ⟨rfl, hf.out, rfl⟩, ((Grew.refl _).alloc _).trans g1⟩
  | true =>
    have h3 : x.c.length ≥ 3 := certB_three h
    have h3b : x.b.length = 3 := by simp only [certB, Bool.and_eq_true, decide_eq_true_eq] at h; exact h.2.2.1
    have hall : x.b.all byB = true := by simp only [certB, Bool.and_eq_true, decide_eq_true_eq] at h; exact h.2.2.2
    obtain ⟨l0, l1, l2, hbe⟩ := three_of h3b
    obtain ⟨b0, off, s0, k0, rfl, d0, j0⟩ := hb.at (i := 0) (by omega)
    obtain ⟨b1, o1, s1, k1, ex1, d1, j1⟩ := hb.at (i := 1) (by omega)
    obtain ⟨b2, o2, s2, k2, ex2, d2, j2⟩ := hb.at (i := 2) (by omega)
    simp only [Option.some.injEq, Addr.mk.injEq, and_true] at ex1 ex2
    obtain ⟨rfl, rfl⟩ := ex1
    obtain ⟨rfl, rfl⟩ := ex2
    have q0 : x.b[0] = l0 := by simp [hbe]
    have q1 : x.b[1] = l1 := by simp [hbe]
    have q2 : x.b[2] = l2 := by simp [hbe]
    rw [q0] at d0 j0
    rw [q1] at d1 j1
    rw [q2] at d2 j2
    have y0 := byB_len (List.all_eq_true.1 hall l0 (by rw [hbe]; simp))
    have y1 := byB_len (List.all_eq_true.1 hall l1 (by rw [hbe]; simp))
    have y2 := byB_len (List.all_eq_true.1 hall l2 (by rw [hbe]; simp))
    rw [Nat.add_zero] at d0
    obtain ⟨m, hm⟩ : ∃ m, x.c.length = m + 3 := ⟨x.c.length - 3, by omega⟩
    have hf : Hid (cvotes x = (votesC (x.c.take (m + 1)) l0 ++ votesC (x.c.take (m + 2)) l1) ++ votesC x.c l2) := by
      show cvotes x = _; unfold cvotes; rw [if_pos h, hm, hbe]; rfl
    rw [h] at hX
    have X0 := hide (fun W (g : Grew w W) => ballotVotes_n a cap (x.c.take (m + 1)) (m + 1) (by simp; omega) s0 k0 l0 W ((hl.grew g).take _) (j0.grew g) (by simp; omega) (by omega))
    have X1 := hide (fun W (g : Grew w W) => ballotVotes_n a cap (x.c.take (m + 2)) (m + 2) (by simp; omega) s1 k1 l1 W ((hl.grew g).take _) (j1.grew g) (by simp; omega) (by omega))
    have X2 := hide (fun W (g : Grew w W) => ballotVotes_n a cap x.c (m + 3) hm s2 k2 l2 W (hl.grew g) (j2.grew g) hc (by omega))
    have e0 := votesC_len (x.c.take (m + 1)) l0
    have e1 := votesC_len (x.c.take (m + 2)) l1
    have e2 := votesC_len x.c l2
    obtain ⟨A, hA⟩ : ∃ A, votesC (x.c.take (m + 1)) l0 = A := ⟨_, rfl⟩
    obtain ⟨B, hB⟩ : ∃ B, votesC (x.c.take (m + 2)) l1 = B := ⟨_, rfl⟩
    obtain ⟨C, hC⟩ : ∃ C, votesC x.c l2 = C := ⟨_, rfl⟩
    rw [hA] at X0 hf e0
    rw [hB] at X1 hf e1
    rw [hC] at X2 hf e2
    have E := hide (And.intro e0 (And.intro e1 e2))
    have Y := hide (And.intro y0 (And.intro y1 y2))
    rw [hm] at hX hcap hc ⊢
    rw [h3b] at hX ⊢
    have hZ := fun W => hide (fun (g : Grew w W) => ballotsOf_any a m cap b0 off capb s0 s1 s2 l0.length l1.length l2.length k0 k1 k2 W hcap hc (g.keep d0) (g.keep d1) (g.keep d2))
    clear hl hb d0 d1 d2 j0 j1 j2 q0 q1 q2 hbe hs h3 hm h3b hall e0 e1 e2 y0 y1 y2 hA hB hC
    have i0 : ∀ W : World, (Instr.index 82 (.agg #[.slice a (m + 1) cap, .slice s0 l0.length k0, .slice a (m + 2) cap, .slice s1 l1.length k1, .slice a (m + 3) cap, .slice s2 l2.length k2]) (.int .i64 0)).run Try.prog W = .ok (.agg #[.slice a (m + 1) cap, .slice s0 l0.length k0]) W := fun _ => by kernel_rfl
    have i1 : ∀ W : World, (Instr.index 82 (.agg #[.slice a (m + 1) cap, .slice s0 l0.length k0, .slice a (m + 2) cap, .slice s1 l1.length k1, .slice a (m + 3) cap, .slice s2 l2.length k2]) (.int .i64 1)).run Try.prog W = .ok (.agg #[.slice a (m + 2) cap, .slice s1 l1.length k1]) W := fun _ => by kernel_rfl
    have i2 : ∀ W : World, (Instr.index 82 (.agg #[.slice a (m + 1) cap, .slice s0 l0.length k0, .slice a (m + 2) cap, .slice s1 l1.length k1, .slice a (m + 3) cap, .slice s2 l2.length k2]) (.int .i64 2)).run Try.prog W = .ok (.agg #[.slice a (m + 3) cap, .slice s2 l2.length k2]) W := fun _ => by kernel_rfl
    go_enter Try.func22, Try.ntmps22
    go_wp2_with fail
    refine (unhide (hX _) ((Grew.refl _).alloc _)).mono ?_
    rintro r w1 ⟨rfl, g1⟩
    have p0 := g1.keep (p := ⟨w.heap.size, 0, none⟩) (v := .slice a (m + 3) cap) (by simp [go_sem])
    have p1 := g1.keep (p := ⟨w.heap.size, 1, none⟩) (v := .slice (some ⟨b0, off, none⟩) 3 capb) (by simp [go_sem])
    have G1 := hide (((Grew.refl w).alloc _).trans g1)
    clear g1
    go_wp2_with fail
    refine (unhide (hZ _) (unhide G1)).mono ?_
    rintro r w2 ⟨rfl, g2⟩
    have G2 := hide ((unhide G1).trans g2)
    clear g2 G1 hZ hX
    go_wp2_with fail
    go_loopw [3, 11] (fun sv i wr => ∃ (k : Nat) (v : Value) (hs : List Nat), k ≤ 3 ∧ i = .int .i64 k ∧ v = sv ∧ Hid (VAns wr w.heap.size v hs (preV A B C k)) ∧ Hid (Grew w wr)) (fun _ i _ => 3 - (intOf i).toNat)
    case atStart => exact ⟨0, .slice none 0 0, [], by omega, rfl, rfl, hide (.inl ⟨rfl, rfl, rfl⟩), G2⟩
    case round =>
      clear p0 p1 G2
      obtain ⟨k, v, hh, hk, rfl, rfl, hp, gg⟩ := hrel
      match k, hk with
      | 0, _ =>
        have hlow := hide (unhide hp).lowest
        have hblk := hide (unhide hp).block
        have hsz := hide (unhide gg).size
        go_wp2_with fail
        refine (unhide X0 _ ((unhide gg).alloc _)).mono ?_
        rintro r w3 ⟨g3, cc3, ks, rfl, o3, gr3⟩
        have O3 := hide o3
        have G3 := hide (((unhide gg).alloc _).trans gr3)
        have P3 := hide ((unhide hp).grew (((Grew.refl _).alloc _).trans gr3))
        have SP : Hid (∀ q ∈ ks, q ∉ hh ∧ v.ownBlock ≠ some q) := hide (fun q hq => by
          have h1 := (o3.low q hq).1
          simp only [World.size_alloc] at h1
          exact ⟨fun hm => by have := (unhide hlow q hm).2; omega, fun e => by have := (unhide hblk q e).2; omega⟩)
        have SB : Hid (w.heap.size ≤ w3.heap.size) := hide (unhide G3).size
        have hbb := hide (fun q e => (unhide hblk q e).1)
        clear o3 gr3 hp gg hlow hblk
        go_wp2_with (first | (at_builtin; refine wpList_vapp rfl _ _ rfl w.heap.size v hh (preV A B C 0) rfl (unhide P3) _ g3 cc3 ks A (by rw [(unhide E).1]; rfl) (by rw [(unhide E).1]; exact unhide O3) (by have := unhide hsz; simp; omega) (by have := unhide E; have := unhide Y; omega) (unhide SP) (by have := unhide E; have := unhide Y; simp only [preV, List.length_nil]; omega) (unhide SB) ?_))
        intro v' w4 o4 g4
        have G4 := hide ((unhide G3).grown g4 (unhide hbb))
        have P4 : Hid (VAns w4 w.heap.size v' (hh ++ ks) (preV A B C 1)) := .inr (by have := o4; rw [show preV A B C 0 ++ A = A from rfl] at this; exact this)
        clear o4 g4 O3 P3 SP SB hbb G3 hsz
        go_wp2
        go_roundw
        case rel => exact ⟨1, v', hh ++ ks, by omega, by go_num, rfl, P4, G4⟩
        case measure => simp [intOf]
      | 1, _ =>
        have hlow := hide (unhide hp).lowest
        have hblk := hide (unhide hp).block
        have hsz := hide (unhide gg).size
        go_wp2_with fail
        refine (unhide X1 _ ((unhide gg).alloc _)).mono ?_
        rintro r w3 ⟨g3, cc3, ks, rfl, o3, gr3⟩
        have O3 := hide o3
        have G3 := hide (((unhide gg).alloc _).trans gr3)
        have P3 := hide ((unhide hp).grew (((Grew.refl _).alloc _).trans gr3))
        have SP : Hid (∀ q ∈ ks, q ∉ hh ∧ v.ownBlock ≠ some q) := hide (fun q hq => by
          have h1 := (o3.low q hq).1
          simp only [World.size_alloc] at h1
          exact ⟨fun hm => by have := (unhide hlow q hm).2; omega, fun e => by have := (unhide hblk q e).2; omega⟩)
        have SB : Hid (w.heap.size ≤ w3.heap.size) := hide (unhide G3).size
        have hbb := hide (fun q e => (unhide hblk q e).1)
        clear o3 gr3 hp gg hlow hblk
        go_wp2_with (first | (at_builtin; refine wpList_vapp rfl _ _ rfl w.heap.size v hh (preV A B C 1) rfl (unhide P3) _ g3 cc3 ks B (by rw [(unhide E).2.1]; rfl) (by rw [(unhide E).2.1]; exact unhide O3) (by have := unhide hsz; simp; omega) (by have := unhide E; have := unhide Y; omega) (unhide SP) (by have := unhide E; have := unhide Y; simp only [preV]; omega) (unhide SB) ?_))
        intro v' w4 o4 g4
        have G4 := hide ((unhide G3).grown g4 (unhide hbb))
        have P4 : Hid (VAns w4 w.heap.size v' (hh ++ ks) (preV A B C 2)) := .inr o4
        clear o4 g4 O3 P3 SP SB hbb G3 hsz
        go_wp2
        go_roundw
        case rel => exact ⟨2, v', hh ++ ks, by omega, by go_num, rfl, P4, G4⟩
        case measure => simp [intOf]
      | 2, _ =>
        have hlow := hide (unhide hp).lowest
        have hblk := hide (unhide hp).block
        have hsz := hide (unhide gg).size
        go_wp2_with fail
        refine (unhide X2 _ ((unhide gg).alloc _)).mono ?_
        rintro r w3 ⟨g3, cc3, ks, rfl, o3, gr3⟩
        have O3 := hide o3
        have G3 := hide (((unhide gg).alloc _).trans gr3)
        have P3 := hide ((unhide hp).grew (((Grew.refl _).alloc _).trans gr3))
        have SP : Hid (∀ q ∈ ks, q ∉ hh ∧ v.ownBlock ≠ some q) := hide (fun q hq => by
          have h1 := (o3.low q hq).1
          simp only [World.size_alloc] at h1
          exact ⟨fun hm => by have := (unhide hlow q hm).2; omega, fun e => by have := (unhide hblk q e).2; omega⟩)
        have SB : Hid (w.heap.size ≤ w3.heap.size) := hide (unhide G3).size
        have hbb := hide (fun q e => (unhide hblk q e).1)
        clear o3 gr3 hp gg hlow hblk
        go_wp2_with (first | (at_builtin; refine wpList_vapp rfl _ _ rfl w.heap.size v hh (preV A B C 2) rfl (unhide P3) _ g3 cc3 ks C (by rw [(unhide E).2.2]; rfl) (by rw [(unhide E).2.2]; exact unhide O3) (by have := unhide hsz; simp; omega) (by have := unhide E; have := unhide Y; omega) (unhide SP) (by have := unhide E; have := unhide Y; simp only [preV, List.length_append]; omega) (unhide SB) ?_))
        intro v' w4 o4 g4
        have G4 := hide ((unhide G3).grown g4 (unhide hbb))
        have P4 : Hid (VAns w4 w.heap.size v' (hh ++ ks) (preV A B C 3)) := .inr o4
        clear o4 g4 O3 P3 SP SB hbb G3 hsz
        go_wp2
        go_roundw
        case rel => exact ⟨3, v', hh ++ ks, by omega, by go_num, rfl, P4, G4⟩
        case measure => simp [intOf]
      | 3, _ =>
        go_wp2
        go_ret
        exact ⟨v, hh, rfl, by rw [hf.out]; exact unhide hp, unhide gg⟩
end Go.Proofs.Ytjbnohepbmejkaa
