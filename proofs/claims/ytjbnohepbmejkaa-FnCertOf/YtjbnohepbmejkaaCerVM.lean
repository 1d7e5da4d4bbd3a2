/-
  What a cert's votes say: who is for each of its last three.
-/
import Derived.Test.YtjbnohepbmejkaaCerX
import Derived.Test.YtjbnohepbmejkaaSame
namespace Go.Proofs.Ytjbnohepbmejkaa
set_option linter.unusedVariables false
open Go.RowKit

theorem byB_cases {b : List Int} (h : byB b = true) : b = [1, 2, 3] ∨ b = [1, 2, 4] ∨ b = [1, 3, 4] ∨ b = [2, 3, 4] ∨ b = [1, 2, 3, 4] := by
  obtain ⟨h3, h4⟩ := byB_len h
  unfold byB at h
  rw [Bool.and_eq_true] at h
  have ha := h.1
  match b, h3, h4 with
  | [x, y, z], _, _ =>
    simp only [ascB, inB, Bool.and_eq_true, decide_eq_true_eq, Bool.and_true] at ha
    obtain ⟨⟨a1, a2, a3⟩, ⟨b1, b2, b3⟩, c1, c2, c3⟩ := ha
    have hx : x = 1 ∨ x = 2 := by omega
    rcases hx with rfl | rfl
    · have hy : y = 2 ∨ y = 3 := by omega
      rcases hy with rfl | rfl
      · have hz : z = 3 ∨ z = 4 := by omega
        rcases hz with rfl | rfl <;> simp
      · have hz : z = 4 := by omega
        subst hz; simp
    · have hy : y = 3 := by omega
      have hz : z = 4 := by omega
      subst hy hz; simp
  | [x, y, z, u], _, _ =>
    simp only [ascB, inB, Bool.and_eq_true, decide_eq_true_eq, Bool.and_true] at ha
    obtain ⟨⟨a1, a2, a3⟩, ⟨b1, b2, b3⟩, ⟨c1, c2, c3⟩, d1, d2, d3⟩ := ha
    have hx : x = 1 := by omega
    have hy : y = 2 := by omega
    have hz : z = 3 := by omega
    have hu : u = 4 := by omega
    subst hx hy hz hu; simp
theorem byB_nodup {b : List Int} (h : byB b = true) : b.Nodup ∧ ∀ n ∈ b, 1 ≤ n ∧ n ≤ 4 := by
  rcases byB_cases h with rfl | rfl | rfl | rfl | rfl <;> decide
theorem forN_is {l : List Vt} {c : List It} {b : List Int} (hb : byB b = true) (h : ∀ n, (⟨n, c⟩ : Vt) ∈ l ↔ n ∈ b) : forN l c = b := by
  unfold forN
  have e : (fun n => hasB l ⟨n, c⟩) = (fun n : Int => decide (n ∈ b)) := by
    funext n
    rw [Bool.eq_iff_iff, hasB_iff, decide_eq_true_eq]
    exact h n
  rw [e]
  rcases byB_cases hb with rfl | rfl | rfl | rfl | rfl <;> decide
theorem mem_votesC {c d : List It} {l : List Int} {n : Int} : (⟨n, d⟩ : Vt) ∈ votesC c l ↔ d = c ∧ n ∈ l := by
  unfold votesC
  rw [List.mem_map]
  constructor
  · rintro ⟨k, hk, e⟩
    simp only [Vt.mk.injEq] at e
    exact ⟨e.2.symm, e.1 ▸ hk⟩
  · rintro ⟨rfl, h⟩
    exact ⟨n, h, rfl⟩
theorem votesC_nodup {c : List It} {l : List Int} (h : l.Nodup) : (votesC c l).Nodup := by
  unfold votesC
  exact List.Pairwise.map _ (fun a b hne e => hne (by have := congrArg Vt.n e; exact this)) h
theorem cert_three {x : Ct} (h : certB x = true) : ∃ m l0 l1 l2, x.c.length = m + 3 ∧ x.b = [l0, l1, l2] ∧ byB l0 = true ∧ byB l1 = true ∧ byB l2 = true ∧ okB x.c = true ∧
    cvotes x = (votesC (x.c.take (m + 1)) l0 ++ votesC (x.c.take (m + 2)) l1) ++ votesC x.c l2 := by
  have h3 := certB_three h
  have hf : cvotes x = (votesC (x.c.take (x.c.length - 2)) (x.b.getD 0 []) ++ votesC (x.c.take (x.c.length - 1)) (x.b.getD 1 [])) ++ votesC x.c (x.b.getD 2 []) := by unfold cvotes; rw [if_pos h]
  simp only [certB, Bool.and_eq_true, decide_eq_true_eq] at h
  obtain ⟨l0, l1, l2, hb⟩ := three_of h.2.2.1
  obtain ⟨m, hm⟩ : ∃ m, x.c.length = m + 3 := ⟨x.c.length - 3, by omega⟩
  have hall := h.2.2.2
  rw [hb] at hall hf
  simp only [List.all_cons, List.all_nil, Bool.and_true, Bool.and_eq_true] at hall
  refine ⟨m, l0, l1, l2, hm, hb, hall.1, hall.2.1, hall.2.2, h.1, ?_⟩
  rw [hf, hm]; rfl
theorem cvotes_ok {x : Ct} (h : certB x = true) : votesB (cvotes x) = true := by
  obtain ⟨m, l0, l1, l2, hm, hb, h0, h1, h2, hok, hf⟩ := cert_three h
  have L1 : (x.c.take (m + 1)).length = m + 1 := by rw [List.length_take]; omega
  have L2 : (x.c.take (m + 2)).length = m + 2 := by rw [List.length_take]; omega
  obtain ⟨n0, r0⟩ := byB_nodup h0
  obtain ⟨n1, r1⟩ := byB_nodup h1
  obtain ⟨n2, r2⟩ := byB_nodup h2
  rw [hf, votesB_iff]
  have vk : ∀ (c : List It) (l : List Int), okB c = true → 0 < c.length → (∀ n ∈ l, 1 ≤ n ∧ n ≤ 4) → ∀ v ∈ votesC c l, vokB v = true := fun c l hc hl hr v hv => by
    obtain ⟨n, d⟩ := v
    obtain ⟨rfl, hn⟩ := mem_votesC.1 hv
    have := hr n hn
    simp only [vokB, inB, hc, decide_eq_true this.1, decide_eq_true this.2, decide_eq_true hl, Bool.and_self]
  refine ⟨fun v hv => ?_, ?_⟩
  · rcases List.mem_append.1 hv with hv | hv
    · rcases List.mem_append.1 hv with hv | hv
      · exact vk _ _ (okB_take hok _) (by omega) r0 v hv
      · exact vk _ _ (okB_take hok _) (by omega) r1 v hv
    · exact vk _ _ hok (by omega) r2 v hv
  · rw [List.nodup_append, List.nodup_append]
    refine ⟨⟨votesC_nodup n0, votesC_nodup n1, fun a ha b hb e => ?_⟩, votesC_nodup n2, fun a ha b hb e => ?_⟩
    · subst e
      obtain ⟨n, d⟩ := a
      have e1 := (mem_votesC.1 ha).1
      have e2 := (mem_votesC.1 hb).1
      have := congrArg List.length (e1.symm.trans e2)
      omega
    · subst e
      obtain ⟨n, d⟩ := a
      have e2 := (mem_votesC.1 hb).1
      rcases List.mem_append.1 ha with ha | ha
      · have := congrArg List.length ((mem_votesC.1 ha).1.symm.trans e2); omega
      · have := congrArg List.length ((mem_votesC.1 ha).1.symm.trans e2); omega
theorem cvotes_for {x : Ct} (h : certB x = true) : ∀ k (hk : k < x.b.length), forL (cvotes x) (x.c.take (x.c.length - 2 + k)) = x.b[k] := by
  have hv := cvotes_ok h
  obtain ⟨m, l0, l1, l2, hm, hb, h0, h1, h2, hok, hf⟩ := cert_three h
  have L1 : (x.c.take (m + 1)).length = m + 1 := by rw [List.length_take]; omega
  have L2 : (x.c.take (m + 2)).length = m + 2 := by rw [List.length_take]; omega
  have key : ∀ (d : List It) (n : Int), (⟨n, d⟩ : Vt) ∈ cvotes x ↔ (d = x.c.take (m + 1) ∧ n ∈ l0) ∨ (d = x.c.take (m + 2) ∧ n ∈ l1) ∨ (d = x.c ∧ n ∈ l2) := fun d n => by
    rw [hf, List.mem_append, List.mem_append, mem_votesC, mem_votesC, mem_votesC, or_assoc]
  have ne01 : x.c.take (m + 1) ≠ x.c.take (m + 2) := fun e => by have := congrArg List.length e; omega
  have ne02 : x.c.take (m + 1) ≠ x.c := fun e => by have := congrArg List.length e; omega
  have ne12 : x.c.take (m + 2) ≠ x.c := fun e => by have := congrArg List.length e; omega
  intro k hk
  unfold forL
  rw [if_pos hv]
  have hk3 : k < 3 := by rw [hb] at hk; simpa using hk
  simp only [hb]
  match k, hk3 with
  | 0, _ =>
    rw [show x.c.length - 2 + 0 = m + 1 by omega]
    refine forN_is h0 (fun n => ?_)
    rw [key]
    constructor
    · rintro (⟨_, h⟩ | ⟨h, _⟩ | ⟨h, _⟩)
      · exact h
      · exact absurd h ne01
      · exact absurd h ne02
    · intro h; exact .inl ⟨rfl, h⟩
  | 1, _ =>
    rw [show x.c.length - 2 + 1 = m + 2 by omega]
    refine forN_is h1 (fun n => ?_)
    rw [key]
    constructor
    · rintro (⟨h, _⟩ | ⟨_, h⟩ | ⟨h, _⟩)
      · exact absurd h.symm ne01
      · exact h
      · exact absurd h ne12
    · intro h; exact .inr (.inl ⟨rfl, h⟩)
  | 2, _ =>
    rw [show x.c.length - 2 + 2 = x.c.length by omega, List.take_length]
    refine forN_is h2 (fun n => ?_)
    rw [key]
    constructor
    · rintro (⟨h, _⟩ | ⟨h, _⟩ | ⟨_, h⟩)
      · exact absurd h.symm ne02
      · exact absurd h.symm ne12
      · exact h
    · intro h; exact .inr (.inr ⟨rfl, h⟩)
theorem cvotes_count {x : Ct} (h : certB x = true) {l0 l1 l2 : List Int} (hb : x.b = [l0, l1, l2]) : (cvotes x).length = l0.length + l1.length + l2.length := by
  obtain ⟨m, k0, k1, k2, hm, hb', _, _, _, _, hf⟩ := cert_three h
  rw [hb] at hb'
  simp only [List.cons.injEq, and_true] at hb'
  obtain ⟨rfl, rfl, rfl⟩ := hb'
  rw [hf, List.length_append, List.length_append, votesC_len, votesC_len, votesC_len]
end Go.Proofs.Ytjbnohepbmejkaa
