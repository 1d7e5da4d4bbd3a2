/-
  What is sure among votes that are ok: each once, its beginnings too; the first of the longest; how much is final. No Go text here.
-/
import Derived.Test.YtjbnohepbmejkaaTFormsA
import Derived.Test.YtjbnohepbmejkaaTSpecB
namespace Go.Proofs.Ytjbnohepbmejkaa
set_option linter.unusedVariables false

theorem allL_yes {l : List Vt} (h : votesB l = true) : allL l = allS l := by simp [allL, h]
theorem allL_no {l : List Vt} (h : votesB l = false) : allL l = [] := by simp [allL, h]
theorem allL_len (l : List Vt) : (allL l).length ≤ l.length + 1 := by
  cases h : votesB l with
  | true => rw [allL_yes h]; exact allS_len l
  | false => rw [allL_no h]; simp
theorem allL_short {l : List Vt} (hs : Short l) : ∀ d ∈ allL l, d.length ≤ 1048576 := by
  cases h : votesB l with
  | true => rw [allL_yes h]; exact allS_short hs
  | false => rw [allL_no h]; intro d hd; cases hd
theorem all_ok {l : List Vt} (hv : votesB l = true) {c : List It} (hc : c ∈ allS l) : okB c = true := by
  rcases (allS_mem.1 hc).1 with rfl | ⟨x, hx, rfl⟩
  · rfl
  · exact (vok_parts (((votesB_iff l).1 hv).1 x hx)).2.2.1
theorem all_sure {l : List Vt} (hv : votesB l = true) {c : List It} (hc : c ∈ allS l) : sureL l c = true := by
  simp only [sureL, hv, all_ok hv hc, (allS_mem.1 hc).2, Bool.and_self]
theorem cnt_pos {l : List Vt} {c : List It} (h : 0 < cnt l c) : ∃ x ∈ l, x.c = c := by
  by_cases hx : ∃ x, x ∈ l ∧ x.c = c
  · obtain ⟨x, h1, h2⟩ := hx; exact ⟨x, h1, h2⟩
  · have : cnt l c = 0 := (cnt_zero l c).2 (fun x hm e => hx ⟨x, hm, e⟩)
    omega
theorem sureF_at {f : List It → Nat} {c : List It} (h : sureF f c = true) {k : Nat} (hk : 0 < k) (hc : k ≤ c.length) : 3 ≤ f (c.take k) := by
  unfold sureF at h
  rw [List.all_eq_true] at h
  have := of_decide_eq_true (h (k - 1) (by simp; omega))
  rwa [show k - 1 + 1 = k by omega] at this
theorem all_take {l : List Vt} {c : List It} (hc : c ∈ allS l) (k : Nat) : c.take k ∈ allS l := by
  have hs := (allS_mem.1 hc).2
  refine allS_mem.2 ⟨?_, sure_pre hs k⟩
  by_cases h0 : c.take k = []
  · exact .inl h0
  · have hk : 0 < k := by rcases Nat.eq_zero_or_pos k with h | h; · exact absurd (by rw [h]; rfl) h0
                          · exact h
    by_cases hl : k ≤ c.length
    · have := sureF_at hs hk hl
      exact .inr (cnt_pos (by omega))
    · rw [List.take_of_length_le (by omega)] at h0 ⊢
      exact (allS_mem.1 hc).1.imp id id
theorem sure_all {l : List Vt} {c : List It} (h : sureL l c = true) : c ∈ allS l := by
  simp only [sureL, Bool.and_eq_true] at h
  refine allS_mem.2 ⟨?_, h.2.2⟩
  by_cases h0 : c.length = 0
  · exact .inl (List.eq_nil_of_length_eq_zero h0)
  · have := sureF_at h.2.2 (k := c.length) (by omega) (Nat.le_refl _)
    rw [List.take_length] at this
    exact .inr (cnt_pos (by omega))
theorem among_iff (cs : List (List It)) (c : List It) : amongB cs c = true ↔ c ∈ cs := any_same cs c
theorem among_all {l : List Vt} (hv : votesB l = true) (c : List It) : amongB (allS l) c = sureL l c := by
  cases h : sureL l c with
  | true => exact (among_iff _ _).2 (sure_all h)
  | false =>
    cases h2 : amongB (allS l) c with
    | false => rfl
    | true => rw [all_sure hv ((among_iff _ _).1 h2)] at h; cases h
theorem firstsL_nodup (l : List Vt) : (firstsL l).Nodup := by
  obtain ⟨n, hn⟩ : ∃ n, l.length = n := ⟨_, rfl⟩
  induction n generalizing l with
  | zero => have := List.eq_nil_of_length_eq_zero hn; subst this; simp [firstsL]
  | succ n ih =>
    rcases List.eq_nil_or_concat l with rfl | ⟨m, x, rfl⟩
    · simp at hn
    rw [List.concat_eq_append] at hn ⊢
    have h1 := ih m (by simp at hn; exact hn)
    rw [firstsL_snoc]
    split
    · exact h1
    · rename_i h2
      rw [List.nodup_append]
      refine ⟨h1, by simp, fun a ha b hb e => ?_⟩
      simp only [List.mem_singleton] at hb
      subst hb
      subst e
      exact h2 ((any_same _ _).2 ha)
theorem allS_nodup (l : List Vt) : (allS l).Nodup := (firstsL_nodup l).filter _
theorem nodup_take {cs : List (List It)} (h : cs.Nodup) {k : Nat} (hk : k < cs.length) : amongB (cs.take k) cs[k] = false := by
  cases h2 : amongB (cs.take k) cs[k] with
  | false => rfl
  | true =>
    have hm := (among_iff _ _).1 h2
    have e : cs = cs.take k ++ cs[k] :: cs.drop (k + 1) := by rw [← List.drop_eq_getElem_cons hk, List.take_append_drop]
    rw [e, List.nodup_append] at h
    exact absurd rfl (h.2.2 _ hm _ (List.mem_cons_self ..))
theorem allS_perm_len {l m : List Vt} (h : l.Perm m) : (allS l).length = (allS m).length := by
  have h1 := List.Nodup.length_le_of_subset (allS_nodup l) (fun c hc => all_perm h c hc)
  have h2 := List.Nodup.length_le_of_subset (allS_nodup m) (fun c hc => all_perm h.symm c hc)
  omega
theorem longest_first0 (cs : List (List It)) : ∀ k (h : k < cs.length), cs[k].length = (longest cs).length → (∃ j, ∃ h2 : j < cs.length, j ≤ k ∧ cs[j] = longest cs) ∨ longest cs = [] := by
  obtain ⟨n, hn⟩ : ∃ n, cs.length = n := ⟨_, rfl⟩
  induction n generalizing cs with
  | zero => have := List.eq_nil_of_length_eq_zero hn; subst this; intro k h; exact absurd h (Nat.not_lt_zero _)
  | succ n ih =>
    rcases List.eq_nil_or_concat cs with rfl | ⟨m, x, rfl⟩
    · simp at hn
    rw [List.concat_eq_append] at hn ⊢
    have hm : m.length = n := by simp at hn; exact hn
    intro k h he
    have hls := longest_snoc m x
    by_cases hc : (longest m).length < x.length
    · rw [if_pos hc] at hls
      rw [hls] at he ⊢
      by_cases hk : k < m.length
      · rw [List.getElem_append_left hk] at he
        have := longest_ge m _ (List.getElem_mem hk)
        omega
      · have hk' : k = m.length := by simp at h; omega
        exact .inl ⟨k, h, Nat.le_refl _, by subst hk'; simp⟩
    · rw [if_neg hc] at hls
      rw [hls] at he ⊢
      by_cases hk : k < m.length
      · rw [List.getElem_append_left hk] at he
        rcases ih m hm k hk he with ⟨j, h2, h3, h4⟩ | h4
        · exact .inl ⟨j, by simp; omega, h3, by rw [List.getElem_append_left h2]; exact h4⟩
        · exact .inr h4
      · rcases longest_mem m with h4 | h4
        · exact .inr h4
        · obtain ⟨j, h2, h3⟩ := List.mem_iff_getElem.1 h4
          exact .inl ⟨j, by simp; omega, by omega, by rw [List.getElem_append_left h2]; exact h3⟩
theorem longest_first {cs : List (List It)} {k : Nat} (h : k < cs.length) (he : cs[k].length = (longest cs).length) (hno : amongB (cs.take k) (longest cs) = false) : cs[k] = longest cs := by
  rcases longest_first0 cs k h he with ⟨j, h2, h3, h4⟩ | h4
  · by_cases e : j = k
    · subst e; exact h4
    · have : longest cs ∈ cs.take k := List.mem_iff_getElem.2 ⟨j, by simp; omega, by rw [List.getElem_take]; exact h4⟩
      rw [(among_iff _ _).2 this] at hno
      cases hno
  · rw [h4] at he ⊢
    exact List.eq_nil_of_length_eq_zero (by rw [he]; rfl)
theorem finN_ge {c : List It} {j : Nat} (hj : j < c.length) (h : endsB (c.take (j + 1)) = true) : j ≤ finN c := by
  obtain ⟨m, hm⟩ : ∃ m, m = c.length - j := ⟨_, rfl⟩
  induction m generalizing j with
  | zero => omega
  | succ m ih =>
    by_cases hx : ∃ i, j < i ∧ i < c.length ∧ endsB (c.take (i + 1)) = true
    · obtain ⟨i, h1, h2, h3⟩ := hx
      by_cases e : m = c.length - i
      · have := ih h2 h3 e; omega
      · -- take the last such place
        have : ∀ d i, c.length - i ≤ d → j < i → i < c.length → endsB (c.take (i + 1)) = true → j ≤ finN c := by
          intro d
          induction d with
          | zero => intro i a1 a2 a3 _; omega
          | succ d ihd =>
            intro i a1 a2 a3 a4
            by_cases hy : ∃ i', i < i' ∧ i' < c.length ∧ endsB (c.take (i' + 1)) = true
            · obtain ⟨i', b1, b2, b3⟩ := hy
              exact ihd i' (by omega) (by omega) b2 b3
            · have := finN_at a3 a4 (fun i' b1 b2 => by
                cases hz : endsB (c.take (i' + 1)) with
                | false => rfl
                | true => exact absurd ⟨i', b1, b2, hz⟩ hy)
              omega
        exact this (c.length - i) i (Nat.le_refl _) h1 h2 h3
    · have := finN_at hj h (fun i h1 h2 => by
        cases hz : endsB (c.take (i + 1)) with
        | false => rfl
        | true => exact absurd ⟨i, h1, h2, hz⟩ hx)
      omega
theorem finN_is {c : List It} (h : 0 < finN c) : finN c < c.length ∧ endsB (c.take (finN c + 1)) = true := by
  unfold finN at h ⊢
  cases hf : (List.range c.length).reverse.find? (fun j => endsB (c.take (j + 1))) with
  | none => rw [hf] at h; simp at h
  | some j =>
    rw [Option.getD_some]
    have h1 := List.mem_of_find?_eq_some hf
    have h2 := List.find?_some hf
    simp at h1
    exact ⟨h1, h2⟩
theorem finN_two {c : List It} (h : 0 < finN c) : 2 ≤ finN c := by
  have := (finN_is h).2
  by_cases h2 : 2 ≤ finN c
  · exact h2
  · rw [endsB_short (by omega)] at this; cases this
theorem final_ge {l : List Vt} (hv : votesB l = true) {c : List It} (hc : c ∈ allS l) {j : Nat} (hj : j < c.length) (h : endsB (c.take (j + 1)) = true) : j ≤ (finalL l).length := by
  rw [finalL_len hv]
  exact Nat.le_trans (finN_ge hj h) (mostF_ge _ _ hc)
theorem final_is {l : List Vt} (hv : votesB l = true) (h : 0 < (finalL l).length) : ∃ m ∈ allS l, finN m = (finalL l).length ∧ finalL l = m.take (finN m) ∧ 2 ≤ finN m ∧ finN m < m.length ∧ endsB (m.take (finN m + 1)) = true := by
  have hl := finalL_len hv
  rcases mostF_is (allS l) with e | ⟨h1, h2⟩
  · omega
  · have h3 : 0 < finN (mostF (allS l)).1 := by omega
    refine ⟨(mostF (allS l)).1, h1, by omega, ?_, finN_two h3, (finN_is h3).1, (finN_is h3).2⟩
    rw [← h2]
    simp [finalL, hv]
end Go.Proofs.Ytjbnohepbmejkaa
