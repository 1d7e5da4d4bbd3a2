/-
  Texts of chains, plainly: two chains that can be written are one just if their texts are, and one begins the other just if its text does.
-/
import Derived.Test.YtjbnohepbmejkaaText12
import Derived.Test.YtjbnohepbmejkaaSame
namespace Go.Proofs.Ytjbnohepbmejkaa
set_option linter.unusedVariables false
open Go.RowKit

def lineL (x : It) : List UInt8 := decL x.e.toNat ++ [58] ++ (decL x.f.toNat ++ decL x.t.toNat ++ decL x.s.toNat) ++ [10]
def textL : List It → List UInt8
  | [] => []
  | x :: r => lineL x ++ textL r
theorem lineB_data (x : It) : (lineB x).data.toList = lineL x := by
  unfold lineB lineL decB; simp [ByteArray.data_append]
theorem textB_data (l : List It) : (textB l).data.toList = textL l := by
  unfold textB
  have : ∀ (l : List It) (t : ByteArray), (l.foldl (fun t x => t ++ lineB x) t).data.toList = t.data.toList ++ textL l := by
    intro l
    induction l with
    | nil => intro t; simp [textL]
    | cons x r ih => intro t; rw [List.foldl_cons, ih]; simp [textL, ByteArray.data_append, lineB_data]
  simpa using this l ⟨#[]⟩
theorem fig_inj {a b : Nat} (ha : a < 200) (hb : b < 200) (h : UInt8.ofNat a = UInt8.ofNat b) : a = b := by
  have := congrArg UInt8.toNat h
  simp at this
  omega
theorem decL_one {n : Nat} (h : n < 10) : decL n = [UInt8.ofNat (48 + n)] := by unfold decL; rw [if_pos h]
theorem decL_two {n : Nat} (h : ¬ n < 10) : decL n = [UInt8.ofNat (48 + n / 10), UInt8.ofNat (48 + n % 10)] := by unfold decL; rw [if_neg h]
theorem line_inj {x y : It} (hx : low x) (hy : low y) {r s : List UInt8} (h : lineL x ++ r = lineL y ++ s) : x = y ∧ r = s := by
  obtain ⟨⟨a0, a1⟩, ⟨b0, b1⟩, ⟨c0, c1⟩, d0, d1⟩ := hx
  obtain ⟨⟨e0, e1⟩, ⟨f0, f1⟩, ⟨g0, g1⟩, k0, k1⟩ := hy
  unfold lineL at h
  rw [decL_one (show x.f.toNat < 10 by omega), decL_one (show x.t.toNat < 10 by omega), decL_one (show x.s.toNat < 10 by omega), decL_one (show y.f.toNat < 10 by omega), decL_one (show y.t.toNat < 10 by omega), decL_one (show y.s.toNat < 10 by omega)] at h
  have sep : ∀ n, n < 10 → UInt8.ofNat (48 + n) ≠ 58 := fun n hn e => by
    have := fig_inj (a := 48 + n) (b := 58) (by omega) (by omega) e
    omega
  by_cases hxe : x.e.toNat < 10
  · by_cases hye : y.e.toNat < 10
    · rw [decL_one hxe, decL_one hye] at h
      simp only [List.cons_append, List.nil_append, List.cons.injEq, true_and] at h
      obtain ⟨h1, h2, h3, h4, h5⟩ := h
      have q1 := fig_inj (by omega) (by omega) h1
      have q2 := fig_inj (by omega) (by omega) h2
      have q3 := fig_inj (by omega) (by omega) h3
      have q4 := fig_inj (by omega) (by omega) h4
      refine ⟨?_, h5⟩
      cases x; cases y
      simp only [It.mk.injEq] at *
      omega
    · rw [decL_one hxe, decL_two hye] at h
      simp only [List.cons_append, List.nil_append, List.cons.injEq] at h
      exact absurd h.2.1.symm (sep _ (by omega))
  · by_cases hye : y.e.toNat < 10
    · rw [decL_two hxe, decL_one hye] at h
      simp only [List.cons_append, List.nil_append, List.cons.injEq] at h
      exact absurd h.2.1 (sep _ (by omega))
    · rw [decL_two hxe, decL_two hye] at h
      simp only [List.cons_append, List.nil_append, List.cons.injEq, true_and] at h
      obtain ⟨h0, h1, h2, h3, h4, h5⟩ := h
      have q0 := fig_inj (by omega) (by omega) h0
      have q1 := fig_inj (by omega) (by omega) h1
      have q2 := fig_inj (by omega) (by omega) h2
      have q3 := fig_inj (by omega) (by omega) h3
      have q4 := fig_inj (by omega) (by omega) h4
      refine ⟨?_, h5⟩
      cases x; cases y
      simp only [It.mk.injEq] at *
      omega
theorem lineL_ne (x : It) (r : List UInt8) : lineL x ++ r ≠ [] := by unfold lineL; simp
theorem text_pre : ∀ (a b : List It), (∀ i (h : i < a.length), low a[i]) → (∀ i (h : i < b.length), low b[i]) → ∀ u, textL b = textL a ++ u → ∃ r, b = a ++ r ∧ u = textL r
  | [], b, _, _, u, h => ⟨b, rfl, by simpa [textL] using h.symm⟩
  | x :: r, [], _, _, u, h => by
    simp only [textL, List.append_assoc] at h
    exact absurd h.symm (lineL_ne x _)
  | x :: r, y :: s, ha, hb, u, h => by
    simp only [textL, List.append_assoc] at h
    obtain ⟨rfl, h2⟩ := line_inj (show low y from hb 0 (Nat.zero_lt_succ _)) (show low x from ha 0 (Nat.zero_lt_succ _)) h
    obtain ⟨t, h3, h4⟩ := text_pre r s (fun i hi => show low r[i] from ha (i + 1) (Nat.succ_lt_succ hi)) (fun i hi => show low s[i] from hb (i + 1) (Nat.succ_lt_succ hi)) u h2
    exact ⟨t, by rw [h3]; rfl, h4⟩
theorem textL_app (a b : List It) : textL (a ++ b) = textL a ++ textL b := by
  induction a with
  | nil => rfl
  | cons x r ih => simp [textL, ih]
theorem textB_same {a b : List It} (ha : okB a = true) (hb : okB b = true) : ((textB a).toList == (textB b).toList) = sameB a b := by
  rw [ByteArray.toList_eq, ByteArray.toList_eq, textB_data, textB_data, Bool.eq_iff_iff, beq_iff_eq, sameB_iff]
  constructor
  · intro h
    obtain ⟨r, hr, hu⟩ := text_pre a b (low_of a ha) (low_of b hb) [] (by simpa using h.symm)
    cases r with
    | nil => simpa using hr.symm
    | cons y s => exact absurd hu.symm (by simp only [textL]; exact lineL_ne y _)
  · rintro rfl; rfl
theorem size_list (t : ByteArray) : t.size = t.data.toList.length := rfl
theorem textB_in {a b : List It} (ha : okB a = true) (hb : okB b = true) : inC a b = true ↔ (textB a).size ≤ (textB b).size ∧ (textB b).extract 0 (textB a).size = textB a := by
  rw [inC_iff]
  constructor
  · rintro ⟨_, _, r, rfl⟩
    have e : (textB (a ++ r)).data.toList = (textB a).data.toList ++ textL r := by rw [textB_data, textB_data, textL_app]
    have hs : (textB a).size ≤ (textB (a ++ r)).size := by rw [size_list, size_list, e, List.length_append]; omega
    refine ⟨hs, ?_⟩
    apply ByteArray.ext
    apply Array.toList_inj.1
    rw [ByteArray.data_extract, Array.toList_extract, e, size_list]
    simp
  · rintro ⟨h1, h2⟩
    refine ⟨ha, hb, ?_⟩
    have h3 : (textB b).data.toList.take (textB a).size = (textB a).data.toList := by
      have := congrArg (fun t : ByteArray => t.data.toList) h2
      simpa [ByteArray.data_extract, Array.toList_extract] using this
    rw [textB_data, textB_data] at h3
    obtain ⟨r, hr, _⟩ := text_pre a b (low_of a ha) (low_of b hb) ((textL b).drop (textB a).size) (by rw [← h3, List.take_append_drop])
    exact ⟨r, hr⟩
theorem textB_not {a b : List It} (ha : okB a = true) (hb : okB b = true) (h : inC a b = false) (hs : (textB a).size ≤ (textB b).size) : (((textB b).extract 0 (textB a).size).toList == (textB a).toList) = false := by
  apply Bool.eq_false_iff.2
  intro e
  rw [ByteArray.toList_eq, ByteArray.toList_eq, beq_iff_eq] at e
  rw [(textB_in ha hb).2 ⟨hs, by apply ByteArray.ext; exact Array.toList_inj.1 e⟩] at h
  cases h
theorem textB_yes {a b : List It} (ha : okB a = true) (hb : okB b = true) (h : inC a b = true) : (textB a).size ≤ (textB b).size ∧ (((textB b).extract 0 (textB a).size).toList == (textB a).toList) = true := by
  obtain ⟨h1, h2⟩ := (textB_in ha hb).1 h
  exact ⟨h1, by rw [h2]; simp⟩
end Go.Proofs.Ytjbnohepbmejkaa
