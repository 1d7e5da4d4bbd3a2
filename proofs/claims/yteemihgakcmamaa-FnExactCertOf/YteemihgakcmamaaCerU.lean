/-
  What CertOf answers: its bounds, its forms, and marked.
-/
import Derived.Test.YteemihgakcmamaaCerT
namespace Go.Proofs.Yteemihgakcmamaa
set_option linter.unusedVariables false
open Go.RowKit
attribute [local simp] far_const

theorem sumI_bound : ∀ (l : List (List Int)) (m : Nat), (∀ x ∈ l, x.length ≤ m) → sumI l ≤ l.length * m := by
  intro l m
  induction l with
  | nil => intro _; simp [sumI]
  | cons y r ih =>
    intro h
    have h1 := h y (List.mem_cons_self ..)
    have h2 := ih (fun v hv => h v (List.mem_cons_of_mem _ hv))
    have e : sumI (y :: r) = y.length + sumI r := by simp [sumI]
    rw [e, List.length_cons, Nat.succ_mul]; omega
theorem certL_bound {l : List Vt} (hs : Short l) : (certL l).1.c.length ≤ 1048576 ∧ (certL l).1.b.length ≤ 3 ∧ (∀ x ∈ (certL l).1.b, x.length ≤ 4) ∧ sumI (certL l).1.b ≤ 12 := by
  have key : (certL l).1.c.length ≤ 1048576 ∧ (certL l).1.b.length ≤ 3 ∧ (∀ x ∈ (certL l).1.b, x.length ≤ 4) := by
    unfold certL
    split
    · have := hs.firsts _ (mostF_firsts l)
      refine ⟨?_, by simp [certOf], fun x hx => ?_⟩
      · show (List.take _ _).length ≤ _; rw [List.length_take]; omega
      · simp only [certOf, List.mem_cons, List.not_mem_nil, or_false] at hx
        rcases hx with rfl | rfl | rfl <;> exact forL_le _ _
    · exact ⟨by simp, by simp, fun x hx => by cases hx⟩
  refine ⟨key.1, key.2.1, key.2.2, ?_⟩
  have := sumI_bound _ 4 key.2.2
  have := key.2.1
  omega
theorem implCertOf_v {v : Value} {l : List Vt} (w : World) (h : VtsV w v l) (hs : Short l) (hn : l.length ≤ 1048576) :
    Calls Try.prog 28 #[v] w fun r w' => ∃ u v, r = .returned (.tuple #[.agg #[u, v], .bool (certL l).2]) ∧ CAns w' w.heap.size u v (certL l).1 ∧ Grew w w' := by
  obtain ⟨a, cap, rfl, h1, hv⟩ := h
  exact implCertOf a cap l w hv h1 hs hn
/-- .. its blocks named. -/
def CAnsB (w : World) (base : Nat) (bs : List Nat) (u v : Value) (x : Ct) : Prop := (u = .slice none 0 0 ∧ v = .slice none 0 0 ∧ x = ⟨[], []⟩ ∧ bs = []) ∨ ∃ q hs, bs = q :: v.ownBlock.toList ++ hs ∧ u = .slice (some ⟨q, 0, none⟩) x.c.length x.c.length ∧ base ≤ q ∧ q < w.heap.size ∧ Its w (some ⟨q, 0, none⟩) x.c ∧ Own w q x.c.length ∧ PRow w (q + 1) v hs x.b.length x.b
theorem CAns.blocks {w : World} {base : Nat} {u v : Value} {x : Ct} (h : CAns w base u v x) : ∃ bs, CAnsB w base bs u v x ∧ (∀ b ∈ bs, base ≤ b ∧ b < w.heap.size) := by
  rcases h with ⟨h1, h2, h3⟩ | ⟨q, hs, h1, h2, h3, h4, h5, h6⟩
  · exact ⟨[], .inl ⟨h1, h2, h3, rfl⟩, fun b hb => by cases hb⟩
  · refine ⟨q :: v.ownBlock.toList ++ hs, .inr ⟨q, hs, rfl, h1, h2, h3, h4, h5, h6⟩, fun b hb => ?_⟩
    simp only [List.cons_append, List.mem_cons, List.mem_append, Option.mem_toList] at hb
    rcases hb with e | e | e
    · rw [e]; exact ⟨h2, h3⟩
    · obtain ⟨g, cp, rfl, _, h7, h8⟩ := h6.shape
      have e' : g = b := Option.some.inj e
      rw [← e']; exact ⟨by omega, h8⟩
    · have := h6.low b e; exact ⟨by omega, this.2⟩
theorem CAnsB.ans {w : World} {base : Nat} {bs : List Nat} {u v : Value} {x : Ct} (h : CAnsB w base bs u v x) : CAns w base u v x := by
  rcases h with ⟨h1, h2, h3, _⟩ | ⟨q, hs, _, h1, h2, h3, h4, h5, h6⟩
  · exact .inl ⟨h1, h2, h3⟩
  · exact .inr ⟨q, hs, h1, h2, h3, h4, h5, h6⟩
theorem CAnsB.kept {w w' : World} {base : Nat} {bs : List Nat} {u v : Value} {x : Ct} (h : CAnsB w base bs u v x) (hz : w.heap.size ≤ w'.heap.size) (e : ∀ g ∈ bs, w'.heap[g]? = w.heap[g]?) : CAnsB w' base bs u v x := by
  rcases h with h | ⟨q, hs, h0, h1, h2, h3, h4, h5, h6⟩
  · exact .inl h
  · subst h0
    have eq := e q (by simp)
    obtain ⟨nz, ⟨vs, row, hc⟩, len, le, apart, off, low⟩ := h6
    refine .inr ⟨q, hs, rfl, h1, h2, Nat.lt_of_lt_of_le h3 hz, h4.block eq, h5.block eq, nz, ⟨vs, ownsRow_block row (fun g hg => e g (by simp [hg])), fun i hi hi2 => ?_⟩, len, le, apart, off, fun b hb => ⟨(low b hb).1, Nat.lt_of_lt_of_le (low b hb).2 hz⟩⟩
    obtain ⟨cp, k1, k2⟩ := hc i hi hi2
    exact ⟨cp, k1, k2.kept (fun g _ _ hg => e g (by
      have e1 : hs[i] = g := Option.some.inj hg
      have : g ∈ hs := e1 ▸ List.getElem_mem hi2
      simp [this]))⟩
theorem CAnsB.grew {w w' : World} {base : Nat} {bs : List Nat} {u v : Value} {x : Ct} (h : CAnsB w base bs u v x) (hb : ∀ b ∈ bs, b < w.heap.size) (g : Grew w w') : CAnsB w' base bs u v x := h.kept g.size fun b hm => g.below.block b (hb b hm)
theorem markCert_b {u v : Value} {x : Ct} {base : Nat} {bs : List Nat} (k : Int) (w : World) (h : CAnsB w base bs u v x) (hc : x.c.length ≤ 1048576) (hn : x.b.length + sumI x.b ≤ 1048576) (hk0 : 0 ≤ k) (hk : k ≤ 1000000) :
    Calls Try.prog 22 #[.agg #[u, v], .int .i64 k] w fun r w' => r = .returned (.int .i64 (k + 4 * x.c.length + sumI x.b)) ∧ CtV w' (.agg #[u, v]) (marksCt k x) ∧ (∀ b, b < w.heap.size → b ∉ bs → w'.heap[b]? = w.heap[b]?) ∧ w.heap.size ≤ w'.heap.size ∧ (∀ w0, Grew w0 w → (∀ b ∈ bs, w0.heap.size ≤ b) → Grew w0 w') := by
  rcases h with ⟨rfl, rfl, rfl, rfl⟩ | ⟨q, hs, rfl, rfl, h1, h2, hi, ho, hp⟩
  · refine (markCert_nil k w hk0 hk).mono ?_
    rintro r w' ⟨rfl, g⟩
    exact ⟨by simp [sumI], ⟨none, 0, none, 0, rfl, Nat.le_refl _, .inl rfl, .inl rfl⟩, fun b hb _ => g.below.block b hb, g.size, fun w0 g0 _ => g0.trans g⟩
  · have hlo := hp.low
    refine (markCert_m x q (q + 1) x.c.length v hs k w ho hp (by omega) h2 hc hn hk0 hk).mono ?_
    rintro r w' ⟨rfl, i1, p1, hw⟩
    refine ⟨rfl, ?_, fun b hb hm => ?_, by have := hw.size; rw [World.size_alloc] at this; omega, fun w0 g0 hb => hw.from (g0.alloc _) (fun b hm => ?_)⟩
    · obtain ⟨g, cp, rfl, hcp, _, _⟩ := p1.shape
      have hii : IntsS w' (some ⟨g, 0, none⟩) (marksS (k + 4 * x.c.length) x.b) := p1.ints
      refine ⟨some ⟨q, 0, none⟩, x.c.length, some ⟨g, 0, none⟩, cp, ?_, ?_, i1, hii⟩
      · show Value.agg _ = _; simp only [marksCt, marks_len, marksS_len]
      · show (marks k x.c.length).length ≤ _; rw [marks_len]; exact Nat.le_refl _
    · rw [hw.keep b (fun hx => hm (by
        rcases List.mem_cons.1 hx with e | e
        · rw [e]; simp
        · simp [e]))]
      exact ((Grew.refl w).alloc _).below.block b hb
    · apply hb
      rcases List.mem_cons.1 hm with e | e
      · rw [e]; simp
      · simp [e]
theorem CtAt.kept {w w' : World} {b : Nat} {u v : Value} (h : CtAt w b u v) (e : w'.heap[b]? = w.heap[b]?) : CtAt w' b u v := ⟨by rw [World.cell?_of_block (w := w) e]; exact h.1, by rw [World.cell?_of_block (w := w) e]; exact h.2⟩
theorem CtAt.lt {w : World} {b : Nat} {u v : Value} (h : CtAt w b u v) : b < w.heap.size := World.block_lt_of_cell? _ _ h.1
theorem CAns.open {w : World} {base : Nat} {u v : Value} {x : Ct} (h : CAns w base u v x) : ∃ a n c b m d, u = .slice a n c ∧ v = .slice b m d := by
  obtain ⟨a, cap, b, capb, e, _⟩ := h.ctV
  simp at e
  exact ⟨_, _, _, _, _, _, e.1, e.2⟩
end Go.Proofs.Yteemihgakcmamaa
