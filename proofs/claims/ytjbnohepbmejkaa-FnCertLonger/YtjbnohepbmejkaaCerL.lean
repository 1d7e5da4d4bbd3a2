/-
  Certs held against each other by the laws; what a cert of votes shows.
-/
import Derived.Test.YtjbnohepbmejkaaCerOf
import Derived.Test.YtjbnohepbmejkaaCerF
import Derived.Test.YtjbnohepbmejkaaSame
namespace Go.Proofs.Ytjbnohepbmejkaa
set_option linter.unusedVariables false
open Go.RowKit
attribute [local simp] far_const

set_option maxHeartbeats 2000000 in
theorem lwCert_same (x : Ct) (v u : Value) (w : World) (hv : CtV w v x) (hu : CtV w u x) (hc : x.c.length ≤ 1048576) (hn : x.b.length ≤ 1048576) (hs : ShortI x.b) :
    Calls Try.prog 19 #[v, u] w fun r w' => r = .returned (.bool true) ∧ Grew w w' := by
  obtain ⟨a, cap, b, capb, rfl, _, hl, hb⟩ := hv
  obtain ⟨a2, cap2, b2, capb2, rfl, _, hl2, hb2⟩ := hu
  have HX : Hid (∀ W, Grew w W → Calls Try.prog 28 #[.slice a x.c.length cap, .slice a2 x.c.length cap2] W fun r w' => r = .returned (.bool true) ∧ Grew W w') := hide (fun W g => by
    have := lwSame_any a a2 cap cap2 x.c x.c W (hl.grew g) (hl2.grew g) hc hc
    rw [(sameB_iff _ _).2 rfl] at this
    exact this)
  have HB := hide hb
  have HB2 := hide hb2
  have HS := hide hs
  clear hl hl2 hb hb2 hs
  go_enter Try.func19, Try.ntmps19
  go_wp2_with fail
  refine (unhide HX _ (((Grew.refl _).alloc _).alloc _)).mono ?_
  rintro r w1 ⟨rfl, g1⟩
  have p0 := g1.keep (p := ⟨w.heap.size, 1, none⟩) (v := .slice b x.b.length capb) (by simp [go_sem])
  have q0 := g1.keep (p := ⟨w.heap.size + 1, 1, none⟩) (v := .slice b2 x.b.length capb2) (by simp [go_sem])
  have G1 := hide ((((Grew.refl w).alloc _).alloc _).trans g1)
  clear g1 HX
  have hne : ((x.b.length : Int) != (x.b.length : Int)) = false := by simp
  go_wp2_with fail
  go_loopw [5] (fun i wr => ∃ k : Nat, k ≤ x.b.length ∧ i = .int .i64 k ∧ Hid (Grew w1 wr)) (fun i _ => x.b.length - (intOf i).toNat)
  case atStart => exact ⟨0, Nat.zero_le _, rfl, hide (Grew.refl _)⟩
  case round =>
    obtain ⟨k, hk, rfl, hg⟩ := hrel
    have p1 := (unhide hg).keep p0
    have q1 := (unhide hg).keep q0
    by_cases hlt : k < x.b.length
    · obtain ⟨b1, o1, a1, cap1, rfl, c1, i1⟩ := (((unhide HB).grew (unhide G1)).grew (unhide hg)).at hlt
      obtain ⟨b3, o3, a3, cap3, rfl, d1, i3⟩ := (((unhide HB2).grew (unhide G1)).grew (unhide hg)).at hlt
      have e1 := Grew.gcell c1
      have f1 := Grew.gcell d1
      have e2 := Grew.gcell p1
      have f2 := Grew.gcell q1
      have s1 := (unhide HS) x.b[k] (List.getElem_mem hlt)
      have hX : ∀ n os, Hid (Calls Try.prog 65 #[.slice a1 x.b[k].length cap1, .slice a3 x.b[k].length cap3] (far wr n os) fun r w' => r = .returned (.bool true) ∧ Grew (far wr n os) w') := fun n os => by
        have := lwInts_any a1 a3 cap1 cap3 x.b[k] x.b[k] (far wr n os) (i1.grew ⟨_, _, rfl⟩) (i3.grew ⟨_, _, rfl⟩) s1 s1
        rw [show decide (x.b[k] = x.b[k]) = true by simp] at this
        exact this
      clear i1 i3
      go_wp2_with fail
      refine quietly (by kernel_rfl) (by kernel_rfl) ?_
      repeat (go_big_quiet_step (first | (go_at_call 65; exact Calls.far (unhide (hX _ _)))))
      refine wpQuiet_nil ?_
      intro _ hw'
      obtain ⟨⟨nq, osq⟩, hw''⟩ := hw'
      subst hw''
      go_wp2
      go_roundw
      case rel => exact ⟨k + 1, by omega, by go_num, hide ((unhide hg).trans ⟨_, _, rfl⟩)⟩
      case measure => simp [intOf]; omega
    · have hle : (x.b.length : Int) ≤ (k : Int) := by omega
      go_wp2
      go_ret
      exact ⟨rfl, (unhide G1).trans (unhide hg)⟩

/-- Who is for a chain, ascending. -/
theorem forN_asc (l : List Vt) (c : List It) : ascB 0 (forN l c) = true := by
  unfold forN
  simp only [List.filter_cons, List.filter_nil]
  cases hasB l ⟨1, c⟩ <;> cases hasB l ⟨2, c⟩ <;> cases hasB l ⟨3, c⟩ <;> cases hasB l ⟨4, c⟩ <;> decide
theorem forL_by {l : List Vt} {c : List It} (h : 3 ≤ (forL l c).length) : byB (forL l c) = true := by
  unfold byB
  rw [decide_eq_true h, Bool.and_true]
  unfold forL
  split
  · exact forN_asc l c
  · rfl
theorem ends_row {c : List It} (h : okB c = true) (h3 : 3 ≤ c.length) (he : endsB c = true) : rowB c = true := by
  obtain ⟨m, hm⟩ : ∃ m, c.length = m + 3 := ⟨c.length - 3, by omega⟩
  have h1 := endsB_at (c := c) (m := m) (by omega)
  rw [List.take_of_length_le (by omega), he] at h1
  have a1 := okB_asc h (k := m) (by omega)
  have a2 := okB_asc h (k := m + 1) (by omega)
  have w1 : wrap64 ((c[m]'(by omega)).e + 1) = (c[m]'(by omega)).e + 1 := by unfold wrap64; omega
  have w2 : wrap64 ((c[m + 1]'(by omega)).e + 1) = (c[m + 1]'(by omega)).e + 1 := by unfold wrap64; omega
  rw [w1, w2] at h1
  unfold rowB
  rw [dif_pos h3]
  simp only [show c.length - 3 = m by omega, show c.length - 2 = m + 1 by omega, show c.length - 1 = m + 2 by omega]
  exact h1.symm
/-- What the votes make is a cert, and shows as much as is final. -/
theorem certL_cert {l : List Vt} (hv : votesB l = true) (h : 0 < (mostF (allS l)).2) : certB (certL l).1 = true ∧ (certL l).1.c.length = (mostF (allS l)).2 + 1 := by
  obtain ⟨hm, he, h2, h3⟩ := most_parts h
  rw [certL_yes hv h]
  obtain ⟨m, hmm⟩ : ∃ m, (mostF (allS l)).1 = m := ⟨_, rfl⟩
  rw [hmm] at hm he h2 h3 ⊢
  have hok := okB_take (all_ok hv hm) (finN m + 1)
  have hlen : (m.take (finN m + 1)).length = finN m + 1 := by rw [List.length_take]; omega
  have hrow := ends_row hok (by omega) (finN_is (by omega)).2
  have hby := certOf_by hv hm h2 h3
  refine ⟨?_, by rw [he]; exact hlen⟩
  show certB (certOf l m) = true
  unfold certB
  rw [show (certOf l m).c = m.take (finN m + 1) from rfl, hok, hrow]
  have hb3 : (certOf l m).b.length = 3 := rfl
  rw [decide_eq_true hb3]
  simp only [Bool.true_and]
  rw [List.all_eq_true]
  intro y hy
  have := hby y hy
  simp only [certOf, List.mem_cons, List.not_mem_nil, or_false] at hy
  rcases hy with rfl | rfl | rfl <;> exact forL_by this.1
theorem finC_final {l : List Vt} (hv : votesB l = true) : (finC (certL l).1).length = (finalL l).length := by
  rw [finalL_len hv]
  rcases Nat.eq_zero_or_pos (mostF (allS l)).2 with h | h
  · rw [h, certL_no (by omega)]; rfl
  · obtain ⟨h1, h2⟩ := certL_cert hv h
    unfold finC
    rw [if_pos h1, List.length_take]
    omega
theorem certL_told {l : List Vt} (hv : votesB l = true) : (certL l).2 = decide (0 < (finalL l).length) := by
  rw [finalL_len hv]
  rcases Nat.eq_zero_or_pos (mostF (allS l)).2 with h | h
  · rw [certL_no (by omega), h]; rfl
  · rw [certL_yes hv h, decide_eq_true h]
theorem implCertFinal_l {l : List Vt} (v : Value) (w : World) (hv : CtV w v (certL l).1) (hs : Short l) :
    Calls Try.prog 24 #[v] w fun r w' => ∃ u cap, r = .returned (.slice u (finC (certL l).1).length cap) ∧ Grew w w' := by
  obtain ⟨h1, h2, h3, _⟩ := certL_bound hs
  refine (implCertFinal _ v w hv h1 (by omega) (fun y hy => by have := h3 y hy; omega)).mono ?_
  rintro r w1 ⟨u, cap, rfl, _, _, g⟩
  exact ⟨u, cap, rfl, g⟩
end Go.Proofs.Ytjbnohepbmejkaa
