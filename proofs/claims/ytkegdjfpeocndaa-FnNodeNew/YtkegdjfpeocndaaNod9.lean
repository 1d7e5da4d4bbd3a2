/-
  A keeper's parts: mayVote, full, add, vote.
-/
import Derived.Test.YtkegdjfpeocndaaNod7
import Derived.Deep.RegionLaw
namespace Go.Proofs.Ytkegdjfpeocndaa
set_option linter.unusedVariables false
open Go.RowKit
attribute [local simp] far_const

set_option maxHeartbeats 1000000 in
theorem mayVote_any (W : World) (base k : Nat) (x : Nd) (sv : Value) (hh : List Nat) (h : KpO W base k x sv hh) :
    Calls Try.prog 170 #[.pointer (some ⟨k, 0, none⟩)] W fun r w' => r = .returned (.bool (decide (x.vo < x.ep))) ∧ Grew W w' := by
  have c2 := h.kp.c2
  have c3 := h.kp.c3
  clear h
  go_enter Try.func170, Try.ntmps170
  go_wp2_with fail
  go_region
  go_wp2
  go_ret
  exact ⟨rfl, (Grew.refl _).drew⟩

theorem KpO.sliced {W : World} {base k : Nat} {x : Nd} {sv : Value} {hh : List Nat} (h : KpO W base k x sv hh) : ∃ a c, sv = .slice a x.s.length c ∧ x.s.length ≤ c ∧ Vts W a x.s := by
  obtain ⟨a, c, e, hc, hv⟩ := h.own.vtsV
  exact ⟨a, c, e, hc, hv⟩

set_option maxHeartbeats 1000000 in
theorem full_any (W : World) (base k : Nat) (x : Nd) (sv : Value) (hh : List Nat) (h : KpO W base k x sv hh) :
    Calls Try.prog 174 #[.pointer (some ⟨k, 0, none⟩)] W fun r w' => r = .returned (.bool (decide ((80 : Int) ≤ x.s.length))) ∧ w' = W := by
  obtain ⟨a, c, rfl, _, _⟩ := h.sliced
  have c0 := h.kp.c0
  clear h
  go_enter Try.func174, Try.ntmps174
  go_wp2
  go_ret
  exact ⟨rfl, rfl⟩

theorem VAns.sl {w : World} {base : Nat} {v : Value} {hs : List Nat} {l : List Vt} (h : VAns w base v hs l) : ∃ a c, v = .slice a l.length c := by
  obtain ⟨a, c, e, _⟩ := h.vtsV; exact ⟨a, c, e⟩
theorem add_box {W : World} {base k : Nat} {x : Nd} {sv : Value} {hh : List Nat} (h : KpO W base k x sv hh) {w5 : World} {u : Value} {hs : List Nat} {l : List Vt} (hA : VAns w5 W.heap.size u hs l) (g : Grew W w5) :
    KpO (w5.setCell ⟨k, 0, none⟩ u) base k { x with s := l } u hs ∧ Newly W hh sv hs u ∧ Ran k W (w5.setCell ⟨k, 0, none⟩ u) := by
  have hk := h.kp.lt
  have hlow : ∀ n, n < W.heap.size → n ∉ hs ∧ u.ownBlock ≠ some n := by
    intro n hn
    rcases hA with ⟨rfl, _, rfl⟩ | h
    · exact ⟨by simp, fun e => by cases e⟩
    · exact ⟨fun hm => by have := (h.low n hm).1; omega, fun e => by have := (h.block n e).1; omega⟩
  obtain ⟨h1, h2⟩ := hlow k hk
  exact ⟨⟨(h.kp.grew g).setS u, (hA.lower (Nat.le_trans h.low (Nat.le_of_lt hk))).set h1 h2, h1, h2, h.low⟩, fun B hB _ _ => hlow B hB, ((Ran.refl k W).grew g).setCell (.inl rfl) u⟩

set_option maxHeartbeats 2000000 in
theorem seenAdd_any (W : World) (base k : Nat) (x : Nd) (sv : Value) (hh : List Nat) (h : KpO W base k x sv hh) (hs : Short x.s) (hn : x.s.length ≤ 1048576) (y : Vt) (v : Value) (hv : VtV W v y) (hy : y.c.length ≤ 1048576) :
    Calls Try.prog 175 #[.pointer (some ⟨k, 0, none⟩), v] W fun r w' => ∃ sv' hh', r = .returned (.tuple #[]) ∧ KpO w' base k { x with s := (addV x.s y).1 } sv' hh' ∧ Newly W hh sv hh' sv' ∧ Ran k W w' := by
  obtain ⟨ya, yc, rfl, hyl⟩ := hv
  obtain ⟨a, c, rfl, hac, hva⟩ := h.sliced
  have H := hide h
  have HY := hide hyl
  have HVA := hide hva
  have S0 := hide ((Grew.refl W).alloc (.cells #[.int .i64 y.n, .slice ya y.c.length yc] 45))
  have c0 := (h.kp.grew (unhide S0)).c0
  have z0 := (h.kp.grew (unhide S0)).z 0
  clear h hyl hva
  go_enter Try.func175, Try.ntmps175
  go_wp2_with fail
  go_region_law ((go_simp; go_at_call 178; refine (implVotesAdd a c x.s y _ _ ((unhide HVA).grew (unhide S0).drew) hs hn ⟨ya, yc, rfl, (unhide HY).grew (unhide S0).drew⟩ hy).mono ?_; rintro r w5 ⟨u, hs5, rfl, o5, g5⟩; obtain ⟨ua, uc, rfl⟩ := o5.sl; have c0 := g5.keep c0; have z0 : w5.frozen? ⟨k, 0, none⟩ = false := (((unhide H).kp.grew (unhide S0)).grew ((Grew.refl _).drew.trans g5)).z 0))
  all_goals
    have GB := hide (add_box (unhide H) (o5.lower (show W.heap.size ≤ (W.alloc (.cells #[.int .i64 y.n, .slice ya y.c.length yc] 45)).drew.heap.size by simp)) ((unhide S0).drew.trans g5))
    clear o5 g5 c0 z0
    go_wp2
    first | go_end0 | go_returns
    exact ⟨_, _, rfl, (unhide GB).1, (unhide GB).2.1, (unhide GB).2.2⟩

/-- Nothing is told. -/
def TellN : Tell := fun _ _ b q m c _ _ => b = 0 ∧ q = none ∧ m = 0 ∧ c = 0
theorem TellN.keeps : TellN.Keeps := fun _ _ _ _ _ _ _ _ _ h _ _ => h
/-- A vote is told, its chain in a row of its own. -/
def TellV (y : Vt) : Tell := fun N w b q m c hh sv => b = y.n ∧ m = y.c.length ∧ c = y.c.length ∧ ∃ g, q = some ⟨g, 0, none⟩ ∧ N ≤ g ∧ g < w.heap.size ∧ g ∉ hh ∧ sv.ownBlock ≠ some g ∧ Its w (some ⟨g, 0, none⟩) y.c ∧ Own w g y.c.length
theorem TellV.keeps (y : Vt) : (TellV y).Keeps := by
  rintro N w w' b q m c hh sv ⟨h1, h2, h3, g, h4, h5, h6, h7, h8, h9, h10⟩ hz e
  exact ⟨h1, h2, h3, g, h4, h5, Nat.lt_of_lt_of_le h6 hz, h7, h8, h9.block (e g h5 h6), h10.block (e g h5 h6)⟩
/-- What a node votes for. -/
def voteT (x : Nd) (c : List It) : Bool := vokB ⟨x.id, c⟩ && !decide ((80 : Int) ≤ x.s.length)
def voteX (x : Nd) (c : List It) : Nd := if voteT x c = true then { x with vo := x.ep, s := (addV x.s ⟨x.id, c⟩).1 } else x
def tellC (x : Nd) (c : List It) : Tell := if voteT x c = true then TellV ⟨x.id, c⟩ else TellN
theorem tellC_keeps (x : Nd) (c : List It) : (tellC x c).Keeps := by
  unfold tellC; split
  · exact TellV.keeps _
  · exact TellN.keeps

set_option maxHeartbeats 4000000 in
theorem vote_no (W : World) (base k : Nat) (x : Nd) (sv : Value) (hh : List Nat) (h : KpO W base k x sv hh) (c : List It) (a : Option Addr) (cap : Nat) (hc : Its W a c) (hcn : c.length ≤ 1048576) (hT : voteT x c = false) :
    Calls Try.prog 172 #[.pointer (some ⟨k, 0, none⟩), .slice a c.length cap] W fun r w' => r = .returned (.tuple #[.agg #[.int .i64 0, .slice none 0 0], .bool false]) ∧ Grew W w' := by
  have H := hide h
  have HC := hide hc
  have S0 := hide ((Grew.refl W).alloc (.cells #[.int .i64 0, .slice none 0 0] 45))
  have S1 := hide ((unhide S0).alloc (.cells #[.int .i64 x.id, .slice a c.length cap] 45))
  have c1 := (h.kp.grew (unhide S0)).c1
  have HT := hide hT
  clear h hc hT
  cases hv : vokB ⟨x.id, c⟩ with
  | false =>
    clear HT
    go_enter Try.func172, Try.ntmps172
    go_wp2_with fail
    refine (implVoteOk ⟨x.id, c⟩ _ _ ⟨a, cap, rfl, (unhide HC).grew (unhide S1)⟩ hcn).mono ?_
    rw [hv]
    rintro r w1 ⟨rfl, g1⟩
    have r0 := g1.keep (p := ⟨W.heap.size, 0, none⟩) (v := .int .i64 0) (by simp [go_sem])
    have r1 := g1.keep (p := ⟨W.heap.size, 1, none⟩) (v := .slice none 0 0) (by simp [go_sem])
    have z : ∀ i, w1.frozen? ⟨W.heap.size, i, none⟩ = false := fun i => by
      rw [World.frozen?_of_block (a := ⟨W.heap.size, i, none⟩) (g1.below.block W.heap.size (by simp only [World.size_alloc]; omega))]
      simp [go_sem]
    have z0 := z 0
    have z1 := z 1
    have G1 := hide ((unhide S1).trans g1)
    clear z g1
    go_wp2
    obtain ⟨k0, k1⟩ := res2 r0 r1 (.int .i64 0) (.slice none 0 0)
    refine bodyPost_ret (by simp [results, Try.results172, go_sem, k0, k1]; try rfl) rfl ?_
    exact ⟨rfl, ((unhide G1).setCell (p := ⟨W.heap.size, 0, none⟩) (Nat.le_refl _) _).setCell (p := ⟨W.heap.size, 1, none⟩) (Nat.le_refl _) _⟩
  | true =>
    have hf : decide ((80 : Int) ≤ x.s.length) = true := by
      have := unhide HT
      unfold voteT at this
      rw [hv, Bool.true_and] at this
      simpa using this
    clear HT
    go_enter Try.func172, Try.ntmps172
    go_wp2_with fail
    refine (implVoteOk ⟨x.id, c⟩ _ _ ⟨a, cap, rfl, (unhide HC).grew (unhide S1)⟩ hcn).mono ?_
    rw [hv]
    rintro r w1 ⟨rfl, g1⟩
    have r0 := g1.keep (p := ⟨W.heap.size, 0, none⟩) (v := .int .i64 0) (by simp [go_sem])
    have r1 := g1.keep (p := ⟨W.heap.size, 1, none⟩) (v := .slice none 0 0) (by simp [go_sem])
    have z : ∀ i, w1.frozen? ⟨W.heap.size, i, none⟩ = false := fun i => by
      rw [World.frozen?_of_block (a := ⟨W.heap.size, i, none⟩) (g1.below.block W.heap.size (by simp only [World.size_alloc]; omega))]
      simp [go_sem]
    have z0 := z 0
    have z1 := z 1
    have G1 := hide ((unhide S1).trans g1)
    have c1 := g1.keep (((unhide H).kp.grew (unhide S1)).c1)
    clear z g1
    go_wp2_with fail
    refine (full_any _ base k x sv hh ((unhide H).grew (unhide G1))).mono ?_
    rw [hf]
    rintro r w2 ⟨rfl, rfl⟩
    go_wp2
    obtain ⟨k0, k1⟩ := res2 r0 r1 (.int .i64 0) (.slice none 0 0)
    refine bodyPost_ret (by simp [results, Try.results172, go_sem, k0, k1]; try rfl) rfl ?_
    exact ⟨rfl, ((unhide G1).setCell (p := ⟨W.heap.size, 0, none⟩) (Nat.le_refl _) _).setCell (p := ⟨W.heap.size, 1, none⟩) (Nat.le_refl _) _⟩

theorem vote_end {W w3 w5 w6 : World} {base k q : Nat} {x x2 : Nd} {sv sv' : Value} {hh hh' : List Nat} {c : List It} (h : KpO W base k x sv hh) (h5 : KpO w5 base k x2 sv' hh') (f5 : Newly w3 hh sv hh' sv') (rt : Ran k W w5) (g6 : Grew w5 w6) (hz3 : W.heap.size + 2 ≤ w3.heap.size) (hz5 : W.heap.size + 2 ≤ w5.heap.size)
    (hq1 : w5.heap.size ≤ q) (hq2 : q < w6.heap.size) (qi : Its w6 (some ⟨q, 0, none⟩) c) (qo : Own w6 q c.length) (u0 u1 : Value) :
    KpO ((w6.setCell ⟨W.heap.size, 0, none⟩ u0).setCell ⟨W.heap.size, 1, none⟩ u1) base k x2 sv' hh' ∧ TellV ⟨x.id, c⟩ W.heap.size ((w6.setCell ⟨W.heap.size, 0, none⟩ u0).setCell ⟨W.heap.size, 1, none⟩ u1) x.id (some ⟨q, 0, none⟩) c.length c.length hh' sv' ∧ Newly W hh sv hh' sv' ∧ Ran k W ((w6.setCell ⟨W.heap.size, 0, none⟩ u0).setCell ⟨W.heap.size, 1, none⟩ u1) := by
  have hk := h.kp.lt
  have ht := h.own.top
  have hB : W.heap.size ∉ hh' ∧ sv'.ownBlock ≠ some W.heap.size := f5 _ (by omega) (fun hm => Nat.lt_irrefl _ (ht _ (.inl hm))) (fun hm => Nat.lt_irrefl _ (ht _ (.inr hm)))
  have hkB : W.heap.size ≠ k := by omega
  have h6 := h5.grew g6
  have hq : q ≠ W.heap.size := by omega
  have off : ∀ g, g ≠ W.heap.size → ((w6.setCell ⟨W.heap.size, 0, none⟩ u0).setCell ⟨W.heap.size, 1, none⟩ u1).heap[g]? = w6.heap[g]? := fun g hg => by
    rw [Below.heap_setCell _ _ _ _ (by show g ≠ _; exact hg), Below.heap_setCell _ _ _ _ (by show g ≠ _; exact hg)]
  have t5 := h5.own.top
  refine ⟨(h6.setB hkB hB.1 hB.2).setB hkB hB.1 hB.2, ⟨rfl, rfl, rfl, q, rfl, by omega, by simpa [World.setCell] using hq2, fun hm => ?_, fun hm => ?_, qi.block (off q hq), qo.block (off q hq)⟩, fun B hB' h1 h2 => f5 B (by omega) h1 h2, ?_⟩
  · have := t5 _ (.inl hm); omega
  · have := t5 _ (.inr hm); omega
  · exact ((rt.grew g6).setCell (.inr (Nat.le_refl _)) _).setCell (.inr (Nat.le_refl _)) _
set_option maxHeartbeats 8000000 in
theorem vote_yes (W : World) (base k : Nat) (x : Nd) (sv : Value) (hh : List Nat) (h : KpO W base k x sv hh) (hs : Short x.s) (hn : x.s.length ≤ 1048576) (c : List It) (a : Option Addr) (cap : Nat) (hc : Its W a c) (hcn : c.length ≤ 1048576) (hcp : c.length ≤ cap) (hak : ∀ p, a = some p → p.block ≠ k) (hT : voteT x c = true) :
    Calls Try.prog 172 #[.pointer (some ⟨k, 0, none⟩), .slice a c.length cap] W fun r w' => ∃ q sv' hh', r = .returned (.tuple #[.agg #[.int .i64 x.id, .slice q c.length c.length], .bool true]) ∧ KpO w' base k { x with vo := x.ep, s := (addV x.s ⟨x.id, c⟩).1 } sv' hh' ∧ TellV ⟨x.id, c⟩ W.heap.size w' x.id q c.length c.length hh' sv' ∧ Newly W hh sv hh' sv' ∧ Ran k W w' := by
  have H := hide h
  have HC := hide hc
  have hk := h.kp.lt
  have S0 := hide ((Grew.refl W).alloc (.cells #[.int .i64 0, .slice none 0 0] 45))
  have S1 := hide ((unhide S0).alloc (.cells #[.int .i64 x.id, .slice a c.length cap] 45))
  have c1 := (h.kp.grew (unhide S0)).c1
  have HT := hide hT
  clear h hc hT
  obtain ⟨hv, hf⟩ : vokB ⟨x.id, c⟩ = true ∧ decide ((80 : Int) ≤ x.s.length) = false := by
    have := unhide HT
    unfold voteT at this
    simpa using this
  clear HT
  go_enter Try.func172, Try.ntmps172
  go_wp2_with fail
  refine (implVoteOk ⟨x.id, c⟩ _ _ ⟨a, cap, rfl, (unhide HC).grew (unhide S1)⟩ hcn).mono ?_
  rw [hv]
  rintro r w1 ⟨rfl, g1⟩
  have r0 := g1.keep (p := ⟨W.heap.size, 0, none⟩) (v := .int .i64 0) (by simp [go_sem])
  have r1 := g1.keep (p := ⟨W.heap.size, 1, none⟩) (v := .slice none 0 0) (by simp [go_sem])
  have b0 := g1.keep (p := ⟨W.heap.size + 1, 0, none⟩) (v := .int .i64 x.id) (by simp [go_sem])
  have b1 := g1.keep (p := ⟨W.heap.size + 1, 1, none⟩) (v := .slice a c.length cap) (by simp [go_sem])
  have z : ∀ i, w1.frozen? ⟨W.heap.size, i, none⟩ = false := fun i => by
    rw [World.frozen?_of_block (a := ⟨W.heap.size, i, none⟩) (g1.below.block W.heap.size (by simp only [World.size_alloc]; omega))]
    simp [go_sem]
  have G1 := hide ((unhide S1).trans g1)
  have H1 := hide ((unhide H).grew (unhide G1))
  have c2 := (unhide H1).kp.c2
  have c3 := (unhide H1).kp.c3
  have y3 := (unhide H1).kp.z 3
  have R := hide (And.intro (And.intro r0 r1) (And.intro b0 b1))
  have Z := hide z
  have hz1 : W.heap.size + 2 ≤ w1.heap.size := by have := g1.size; simpa using this
  clear z g1 r0 r1 b0 b1 c1
  go_wp2_with fail
  refine (full_any _ base k x sv hh (unhide H1)).mono ?_
  rw [hf]
  rintro r w2 ⟨rfl, rfl⟩
  have H2 := hide ((unhide H1).setO x.ep)
  obtain ⟨w3, hw3⟩ : ∃ w3, w3 = w2.setCell ⟨k, 3, none⟩ (.int .i64 x.ep) := ⟨_, rfl⟩
  have R3 : Ran k W w3 := by rw [hw3]; exact ((Ran.refl k W).grew (unhide G1)).setCell (.inl rfl) _
  have Rw : Ran k w2 w3 := by rw [hw3]; exact (Ran.refl k w2).setCell (.inl rfl) _
  have b0 := Rw.cell (p := ⟨W.heap.size + 1, 0, none⟩) (by show W.heap.size + 1 ≠ k; omega) (unhide R).2.1
  have b1 := Rw.cell (p := ⟨W.heap.size + 1, 1, none⟩) (by show W.heap.size + 1 ≠ k; omega) (unhide R).2.2
  rw [← hw3] at H2
  have HC3 := hide (Ran.its ((unhide HC).grew (unhide G1)) Rw hak)
  have hz3 := Rw.size
  have RR3 := hide R3
  have RRw := hide Rw
  have HW := hide hw3
  clear hw3 R3 Rw
  go_wp2_with fail
  rw [← unhide HW]
  clear HW
  go_region_law ((go_simp; go_at_call 175; refine (seenAdd_any w3.drew base k { x with vo := x.ep } sv hh ((unhide H2).grew (Grew.refl _).drew) hs hn ⟨x.id, c⟩ _ ⟨a, cap, rfl, (unhide HC3).grew (Grew.refl _).drew⟩ hcn).mono ?_; rintro r w5 ⟨sv', hh', rfl, k5, f5, r5⟩))
  all_goals
    have hkW : W.heap.size + 1 ≠ k := by omega
    have hkW0 : W.heap.size ≠ k := by omega
    have R25 := ((unhide RRw).grew (Grew.refl _).drew).trans r5
    have b0 := R25.cell (p := ⟨W.heap.size + 1, 0, none⟩) hkW (unhide R).2.1
    have b1 := R25.cell (p := ⟨W.heap.size + 1, 1, none⟩) hkW (unhide R).2.2
    have r0 := R25.cell (p := ⟨W.heap.size, 0, none⟩) hkW0 (unhide R).1.1
    have r1 := R25.cell (p := ⟨W.heap.size, 1, none⟩) hkW0 (unhide R).1.2
    have y0 := R25.fz (p := ⟨W.heap.size, 0, none⟩) (v := false) hkW0 (unhide R).1.1 (unhide Z 0)
    have y1 := R25.fz (p := ⟨W.heap.size, 1, none⟩) (v := false) hkW0 (unhide R).1.2 (unhide Z 1)
    have HC5 := hide (Ran.its ((unhide HC).grew (unhide G1)) R25 hak)
    have RT := hide (((Ran.refl k W).grew (unhide G1)).trans R25)
    have hz5 := R25.size
    have K5 := hide k5
    have F5 := hide f5
    clear k5 f5 r5 R25
    go_wp2_with fail
    refine (copyVote_any ⟨x.id, c⟩ _ _ ⟨a, cap, rfl, unhide HC5⟩ hcn).mono ?_
    rintro r w6 ⟨q, rfl, hq1, hq2, qi, qo, g6⟩
    have r0 := g6.keep r0
    have r1 := g6.keep r1
    have z0 : w6.frozen? ⟨W.heap.size, 0, none⟩ = false := by
      rw [World.frozen?_of_block (a := ⟨W.heap.size, 0, none⟩) (g6.below.block W.heap.size (by omega))]; exact y0
    have z1 : w6.frozen? ⟨W.heap.size, 1, none⟩ = false := by
      rw [World.frozen?_of_block (a := ⟨W.heap.size, 1, none⟩) (g6.below.block W.heap.size (by omega))]; exact y1
    have GB := hide (vote_end (unhide H) (unhide K5) (unhide F5) (unhide RT) g6 (by show W.heap.size + 2 ≤ w3.heap.size; omega) (by omega) hq1 hq2 qi qo (.int .i64 x.id) (.slice (some ⟨q, 0, none⟩) c.length c.length))
    clear g6 y0 y1 qi qo b0 b1
    go_wp2
    obtain ⟨k0, k1⟩ := res2 r0 r1 (.int .i64 x.id) (.slice (some ⟨q, 0, none⟩) c.length c.length)
    refine bodyPost_ret (by simp [results, Try.results172, go_sem, k0, k1]; try rfl) rfl ?_
    exact ⟨_, _, _, rfl, unhide GB⟩
end Go.Proofs.Ytkegdjfpeocndaa
