/-
  Texts together: TForms, TKeep, TMath.
-/
import Derived.Test.YtjbnohepbmejkaaTreeT
import Derived.Test.YtjbnohepbmejkaaTreeS
import Derived.Test.YtjbnohepbmejkaaVForms
import Derived.Test.YtjbnohepbmejkaaVote3
namespace Go.Proofs.Ytjbnohepbmejkaa
set_option linter.unusedVariables false
open Go.RowKit

theorem implTreeFinal_v {v : Value} {l : List Vt} (w : World) (h : VtsV w v l) (hs : Short l) (hn : l.length ≤ 1048576) :
    Calls Try.prog 21 #[v] w fun r w' => ∃ v, r = .returned v ∧ AnsI w' w.heap.size v (finalL l) ∧ Grew w w' := by
  obtain ⟨a, cap, rfl, h1, hv⟩ := h
  exact implTreeFinal a cap l w hv hs hn

set_option linter.unusedVariables false
open Go.RowKit

theorem Its.lt {w : World} {a : Option Addr} {l : List It} (h : Its w a l) (hp : 0 < l.length) : ∀ x, a = some x → x.block < w.heap.size := by
  intro x hx
  obtain ⟨b, off, ha, hat⟩ := h.at hp
  rw [ha] at hx
  cases hx
  exact World.block_lt_of_cell? w _ hat.1
theorem WroteS.its {bs : List Nat} {w w' : World} {a : Option Addr} {l : List It} (h : WroteS bs w w') (i : Its w a l) (hne : 0 < l.length → ∀ x, a = some x → x.block ∉ bs) : Its w' a l := by
  rcases i with i | ⟨b, off, ha, hh⟩
  · exact .inl i
  · by_cases hl : 0 < l.length
    · exact Its.block' (.inr ⟨b, off, ha, hh⟩) (fun x hx => h.keep _ (hne hl x hx))
    · exact .inl (List.eq_nil_of_length_eq_zero (by omega))
/-- Where an answer of items lies: nowhere, or in a block of its own. -/
def OwnX (w : World) (base : Nat) (x : Option Addr) (n : Nat) : Prop := n = 0 ∧ x = none ∨ ∃ g, x = some ⟨g, 0, none⟩ ∧ base ≤ g ∧ Own w g n
theorem OwnX.grew {w w' : World} {base : Nat} {x : Option Addr} {n : Nat} (h : OwnX w base x n) (g : Grew w w') : OwnX w' base x n := by
  rcases h with h | ⟨b, h1, h2, h3⟩
  · exact .inl h
  · exact .inr ⟨b, h1, h2, h3.grew g⟩
theorem OwnX.low {w : World} {base : Nat} {x : Option Addr} {n : Nat} (h : OwnX w base x n) : ∀ y, x = some y → base ≤ y.block := by
  intro y hy
  rcases h with ⟨_, h⟩ | ⟨b, h1, h2, h3⟩
  · rw [h] at hy; cases hy
  · rw [h1] at hy; cases hy; exact h2
theorem OwnX.wrote {bs : List Nat} {w w' : World} {base : Nat} {x : Option Addr} {n : Nat} (h : OwnX w base x n) (hw : WroteS bs w w') (hne : ∀ b ∈ bs, b < base) : OwnX w' base x n := by
  rcases h with h | ⟨b, h1, h2, h3⟩
  · exact .inl h
  · exact .inr ⟨b, h1, h2, h3.block (hw.keep _ (fun hm => by have := hne b hm; omega))⟩
theorem OwnX.plain {w : World} {base : Nat} {x : Option Addr} {n : Nat} (h : OwnX w base x n) : n = 0 ∧ x = none ∨ ∃ g, x = some ⟨g, 0, none⟩ ∧ Own w g n := by
  rcases h with h | ⟨b, h1, h2, h3⟩
  · exact .inl h
  · exact .inr ⟨b, h1, h3⟩
theorem AnsI.form {w : World} {base : Nat} {v : Value} {l : List It} (h : AnsI w base v l) : ∃ x cap, v = .slice x l.length cap ∧ Its w x l ∧ OwnX w base x l.length := by
  rcases h with ⟨rfl, rfl⟩ | ⟨g, rfl, hb, hi, ho⟩
  · exact ⟨none, 0, rfl, .inl rfl, .inl ⟨rfl, rfl⟩⟩
  · exact ⟨_, _, rfl, hi, .inr ⟨g, rfl, hb, ho⟩⟩
theorem cntV_le_of {l : List Vt} (h : totV l ≤ 1048576) : cntV l ≤ 4194305 := by have := cntV_tot l; omega
theorem tipL_short {l : List Vt} (h : Short l) : (tipL l).length ≤ 1048576 := by
  unfold tipL; split
  · exact h.firsts _ (longest_firsts l)
  · simp
theorem finalL_short {l : List Vt} (h : Short l) : (finalL l).length ≤ 1048576 := by
  unfold finalL; split
  · have := h.firsts _ (mostF_firsts l); simp; omega
  · simp
theorem VOwn.room {w : World} {base g cap : Nat} {hs : List Nat} {l : List Vt} (h : VOwn w base (.slice (some ⟨g, 0, none⟩) l.length cap) hs l) : ∀ b off, (some ⟨g, 0, none⟩ : Option Addr) = some ⟨b, off, none⟩ → ∀ i, i < l.length → ∀ u n cp, w.cell? ⟨b, off + i * 2 + 1, none⟩ = some (.slice u n cp) → n ≤ cp := by
  intro b off e i hi u n cp hc
  simp only [Option.some.injEq, Addr.mk.injEq, and_true] at e
  obtain ⟨rfl, rfl⟩ := e
  rw [Nat.zero_add] at hc
  exact h.cap hi hc

set_option linter.unusedVariables false

theorem cnt_perm {l m : List Vt} (h : l.Perm m) (d : List It) : cnt l d = cnt m d := by
  unfold cnt; exact (h.filter _).length_eq
theorem cnt_sub {l m : List Vt} (h : l.Sublist m) (d : List It) : cnt l d ≤ cnt m d := by
  unfold cnt; exact (h.filter _).length_le
theorem sure_mono {l m : List Vt} (h : ∀ d, cnt l d ≤ cnt m d) {c : List It} (hs : sureF (cnt l) c = true) : sureF (cnt m) c = true := by
  unfold sureF at hs ⊢
  rw [List.all_eq_true] at hs ⊢
  intro i hi
  have := of_decide_eq_true (hs i hi)
  exact decide_eq_true (Nat.le_trans this (h _))
theorem sure_pre {f : List It → Nat} {c : List It} (h : sureF f c = true) (k : Nat) : sureF f (c.take k) = true := by
  unfold sureF at h ⊢
  rw [List.all_eq_true] at h ⊢
  intro i hi
  simp only [List.mem_range, List.length_take] at hi
  have := h i (by simp; omega)
  rwa [List.take_take, Nat.min_eq_left (by omega)]
theorem goB_takeK (c : List It) : ∀ (last : Int) (k : Nat), goB last c = true → goB last (c.take k) = true := by
  induction c with
  | nil => intro last k h; simp [goB]
  | cons x r ih =>
    intro last k h
    cases k with
    | zero => simp [goB]
    | succ k =>
      simp only [goB, Bool.and_eq_true, List.take_succ_cons] at h ⊢
      exact ⟨h.1, ih _ k h.2⟩
theorem ok_take {c : List It} (h : okB c = true) (k : Nat) : okB (c.take k) = true := by
  simp only [okB, Bool.and_eq_true, decide_eq_true_eq] at h ⊢
  exact ⟨by simp; omega, goB_takeK c 0 k h.2⟩
theorem allS_mem {l : List Vt} {c : List It} : c ∈ allS l ↔ (c = [] ∨ ∃ x ∈ l, x.c = c) ∧ sureF (cnt l) c = true := by
  unfold allS; rw [List.mem_filter, firstsL_mem]
theorem nil_all (l : List Vt) : [] ∈ allS l := allS_mem.2 ⟨.inl rfl, rfl⟩
theorem allS_mono {l m : List Vt} (hs : ∀ x ∈ l, x ∈ m) (h : ∀ d, cnt l d ≤ cnt m d) {c : List It} (hc : c ∈ allS l) : c ∈ allS m := by
  obtain ⟨h1, h2⟩ := allS_mem.1 hc
  refine allS_mem.2 ⟨?_, sure_mono h h2⟩
  rcases h1 with h1 | ⟨x, hx, e⟩
  · exact .inl h1
  · exact .inr ⟨x, hs x hx, e⟩
theorem longest_ge (cs : List (List It)) : ∀ c ∈ cs, c.length ≤ (longest cs).length := by
  obtain ⟨n, hn⟩ : ∃ n, cs.length = n := ⟨_, rfl⟩
  induction n generalizing cs with
  | zero => have := List.eq_nil_of_length_eq_zero hn; subst this; intro c hc; cases hc
  | succ n ih =>
    rcases List.eq_nil_or_concat cs with rfl | ⟨m, x, rfl⟩
    · simp at hn
    rw [List.concat_eq_append] at hn ⊢
    have h1 := ih m (by simp at hn; exact hn)
    rw [longest_snoc]
    intro c hc
    rcases List.mem_append.1 hc with hc | hc
    · have := h1 c hc
      split <;> omega
    · simp only [List.mem_singleton] at hc
      subst hc
      split <;> omega
theorem longest_sub {cs ds : List (List It)} (h : ∀ c ∈ cs, c ∈ ds) : (longest cs).length ≤ (longest ds).length := by
  rcases longest_mem cs with e | e
  · rw [e]; simp
  · exact longest_ge ds _ (h _ e)
theorem longest_all {l : List Vt} : longest (allS l) ∈ allS l := by
  rcases longest_mem (allS l) with e | e
  · rw [e]; exact nil_all l
  · exact e
theorem mostF_ge (cs : List (List It)) : ∀ c ∈ cs, finN c ≤ (mostF cs).2 := by
  obtain ⟨n, hn⟩ : ∃ n, cs.length = n := ⟨_, rfl⟩
  induction n generalizing cs with
  | zero => have := List.eq_nil_of_length_eq_zero hn; subst this; intro c hc; cases hc
  | succ n ih =>
    rcases List.eq_nil_or_concat cs with rfl | ⟨m, x, rfl⟩
    · simp at hn
    rw [List.concat_eq_append] at hn ⊢
    have h1 := ih m (by simp at hn; exact hn)
    rw [mostF_snoc]
    intro c hc
    rcases List.mem_append.1 hc with hc | hc
    · have := h1 c hc
      split
      · simp only; omega
      · exact this
    · simp only [List.mem_singleton] at hc
      subst hc
      split
      · exact Nat.le_refl _
      · omega
theorem mostF_is (cs : List (List It)) : (mostF cs).2 = 0 ∨ ((mostF cs).1 ∈ cs ∧ (mostF cs).2 = finN (mostF cs).1) := by
  obtain ⟨n, hn⟩ : ∃ n, cs.length = n := ⟨_, rfl⟩
  induction n generalizing cs with
  | zero => have := List.eq_nil_of_length_eq_zero hn; subst this; exact .inl rfl
  | succ n ih =>
    rcases List.eq_nil_or_concat cs with rfl | ⟨m, x, rfl⟩
    · simp at hn
    rw [List.concat_eq_append] at hn ⊢
    rw [mostF_snoc]
    split
    · exact .inr ⟨by simp, rfl⟩
    · rcases ih m (by simp at hn; exact hn) with h | ⟨h1, h2⟩
      · exact .inl h
      · exact .inr ⟨List.mem_append.2 (.inl h1), h2⟩
theorem mostF_sub {cs ds : List (List It)} (h : ∀ c ∈ cs, c ∈ ds) : (mostF cs).2 ≤ (mostF ds).2 := by
  rcases mostF_is cs with e | ⟨h1, h2⟩
  · omega
  · rw [h2]; exact mostF_ge ds _ (h _ h1)
theorem longL_of {l : List Vt} (h : votesB l = true) : longL l = ((longest (allS l)).length : Nat) := by simp [longL, h]
theorem tipL_of {l : List Vt} (h : votesB l = true) : tipL l = longest (allS l) := by simp [tipL, h]
theorem finalL_len {l : List Vt} (h : votesB l = true) : (finalL l).length = (mostF (allS l)).2 := by
  have := (mostF_mem (allS l)).1
  simp [finalL, h]; omega
theorem take_votes {l : List Vt} (h : votesB l = true) (k : Nat) : votesB (l.take k) = true := votesB_sub h (List.take_sublist k l)
theorem back_votes {l : List Vt} (h : votesB l = true) : votesB l.reverse = true := by rw [votesB_perm (List.reverse_perm l)]; exact h
theorem all_sub {l m : List Vt} (h : l.Sublist m) : ∀ c ∈ allS l, c ∈ allS m := fun _ hc => allS_mono (fun _ hx => h.subset hx) (cnt_sub h) hc
theorem all_perm {l m : List Vt} (h : l.Perm m) : ∀ c ∈ allS l, c ∈ allS m := fun _ hc => allS_mono (fun _ hx => h.subset hx) (fun d => Nat.le_of_eq (cnt_perm h d)) hc
theorem long_less {l : List Vt} (h : votesB l = true) (k : Nat) : longL (l.take k) ≤ longL l := by
  rw [longL_of h, longL_of (take_votes h k)]
  have := longest_sub (all_sub (List.take_sublist k l))
  omega
theorem long_back {l : List Vt} (h : votesB l = true) : longL l.reverse = longL l := by
  rw [longL_of h, longL_of (back_votes h)]
  have h1 := longest_sub (all_perm (List.reverse_perm l))
  have h2 := longest_sub (all_perm (List.reverse_perm l).symm)
  omega
theorem final_less {l : List Vt} (h : votesB l = true) (k : Nat) : (finalL (l.take k)).length ≤ (finalL l).length := by
  rw [finalL_len h, finalL_len (take_votes h k)]
  exact mostF_sub (all_sub (List.take_sublist k l))
theorem final_back {l : List Vt} (h : votesB l = true) : (finalL l.reverse).length = (finalL l).length := by
  rw [finalL_len h, finalL_len (back_votes h)]
  have h1 := mostF_sub (all_perm (List.reverse_perm l))
  have h2 := mostF_sub (all_perm (List.reverse_perm l).symm)
  omega
theorem final_none : finalL [] = [] := by decide
end Go.Proofs.Ytjbnohepbmejkaa
