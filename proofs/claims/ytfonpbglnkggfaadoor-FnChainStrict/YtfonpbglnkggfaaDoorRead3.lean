/-
  Reading a line: the item that it tells.
-/
import Derived.Test.YtfonpbglnkggfaaDoorRead2
import Derived.Test.YtfonpbglnkggfaaDoorText3
namespace Go.Proofs.YtfonpbglnkggfaaDoor
set_option linter.unusedVariables false
open Go.RowKit
attribute [local simp] far_const

set_option maxHeartbeats 1000000 in
theorem trim_yes (a : List UInt8) (w : World) (hs : a.length ≤ 1048576) : Calls Tryd.prog 44 #[.string (bt (a ++ [10])), .string ⟨#[10]⟩] w fun r w' => r = .returned (.string (bt a)) ∧ w' = w := by
  obtain ⟨T, hT⟩ : ∃ T, T = bt (a ++ [10]) := ⟨_, rfl⟩
  have hsz : T.size = a.length + 1 := by rw [hT]; simp [ByteArray.size]
  have e1 : (T.extract a.length (a.length + 1)).toList = [10] := by
    rw [hT, ByteArray.toList_eq, ByteArray.data_extract]; simp [List.extract]
  have e2 : T.extract 0 a.length = bt a := by
    rw [hT]; apply ByteArray.ext; apply Array.toList_inj.1; rw [ByteArray.data_extract, Array.toList_extract]; simp [List.extract]
  rw [← hT]
  have E := hide e2
  clear hT e2
  go_enter Tryd.func44, Tryd.ntmps44
  go_wp2
  go_ret
  exact ⟨by rw [← unhide E]; rfl, rfl⟩
set_option maxHeartbeats 1000000 in
theorem trim_no (a : List UInt8) (b : UInt8) (w : World) (hs : a.length ≤ 1048576) (hb : b ≠ 10) : Calls Tryd.prog 44 #[.string (bt (a ++ [b])), .string ⟨#[10]⟩] w fun r w' => r = .returned (.string (bt (a ++ [b]))) ∧ w' = w := by
  obtain ⟨T, hT⟩ : ∃ T, T = bt (a ++ [b]) := ⟨_, rfl⟩
  have hsz : T.size = a.length + 1 := by rw [hT]; simp [ByteArray.size]
  have e1 : ((T.extract a.length (a.length + 1)).toList == [10]) = false := by
    rw [hT, ByteArray.toList_eq, ByteArray.data_extract]; simp [List.extract, hb]
  rw [← hT]
  clear hT
  go_enter Tryd.func44, Tryd.ntmps44
  go_wp2
  go_ret
  exact ⟨rfl, rfl⟩
theorem trim_nil (w : World) : Calls Tryd.prog 44 #[.string (bt []), .string ⟨#[10]⟩] w fun r w' => r = .returned (.string (bt [])) ∧ w' = w := by
  go_enter Tryd.func44, Tryd.ntmps44
  go_wp2
  go_ret
  exact ⟨rfl, rfl⟩
theorem trim_any (l : List UInt8) (w : World) (hs : l.length ≤ 1048576) : Calls Tryd.prog 36 #[.string (bt l), .string ⟨#[10]⟩] w fun r w' => ∃ t, r = .returned (.string (bt t)) ∧ t.length ≤ l.length ∧ (∀ a, l = a ++ [10] → t = a) ∧ w' = w := by
  have h : Calls Tryd.prog 44 #[.string (bt l), .string ⟨#[10]⟩] w fun r w' => ∃ t, r = .returned (.string (bt t)) ∧ t.length ≤ l.length ∧ (∀ a, l = a ++ [10] → t = a) ∧ w' = w := by
    rcases List.eq_nil_or_concat l with rfl | ⟨a, b, hab⟩
    · refine (trim_nil w).mono ?_
      rintro r w' ⟨rfl, rfl⟩
      exact ⟨[], rfl, Nat.le_refl _, fun a h => by simp at h, rfl⟩
    · rw [List.concat_eq_append] at hab
      subst hab
      have ha : a.length ≤ 1048576 := by simp at hs; omega
      by_cases hb : b = 10
      · subst hb
        refine (trim_yes a w ha).mono ?_
        rintro r w' ⟨rfl, rfl⟩
        exact ⟨a, rfl, by simp, fun c h => by simpa using h, rfl⟩
      · refine (trim_no a b w ha hb).mono ?_
        rintro r w' ⟨rfl, rfl⟩
        exact ⟨a ++ [b], rfl, Nat.le_refl _, fun c h => absurd (by simpa using (List.append_inj_right' h rfl)) hb, rfl⟩
  go_enter Tryd.func36, Tryd.ntmps36
  go_wp2_with fail
  refine h.mono ?_
  rintro r w' ⟨t, rfl, h1, h2, rfl⟩
  go_wp2
  go_ret
  exact ⟨t, rfl, h1, h2, rfl⟩

set_option maxHeartbeats 1000000 in
theorem cut_yes (a r : List UInt8) (w : World) (hs : (a ++ 58 :: r).length ≤ 1048576) (h : (58 : UInt8) ∉ a) : Calls Tryd.prog 43 #[.string (bt (a ++ 58 :: r)), .string ⟨#[58]⟩] w fun e w' => e = .returned (.tuple #[.string (bt a), .string (bt r), .bool true]) ∧ Grew w w' := by
  have hi : Lib.indexByte (bt (a ++ 58 :: r)).data.toList 58 = a.length := by simpa using idx_some a r 58 h
  obtain ⟨T, hT⟩ : ∃ T, T = bt (a ++ 58 :: r) := ⟨_, rfl⟩
  have hsz : T.size = a.length + 1 + r.length := by rw [hT]; simp [ByteArray.size]; omega
  have e1 : T.extract 0 a.length = bt a := by
    rw [hT]; apply ByteArray.ext; apply Array.toList_inj.1; rw [ByteArray.data_extract, Array.toList_extract]; simp [List.extract]
  have e2 : T.extract (a.length + 1) T.size = bt r := by
    rw [hsz, hT]; apply ByteArray.ext; apply Array.toList_inj.1
    rw [ByteArray.data_extract, Array.toList_extract]
    simp [List.extract]
  rw [← hT] at hi ⊢
  have hlen : a.length + 1 ≤ T.size := by omega
  have hsm : T.size ≤ 1048576 := by rw [hsz]; simp at hs; omega
  have E := hide (And.intro e1 e2)
  clear hT e1 e2 hsz
  go_enter Tryd.func43, Tryd.ntmps43
  go_wp2_with fail
  refine (index_any T 58 _ hsm).mono ?_
  rintro r' w' ⟨rfl, rfl⟩
  rw [hi]
  clear hi
  go_wp2_with fail
  refine quietly (by kernel_rfl) (by kernel_rfl) ?_
  repeat (go_big_quiet_step (first | fail))
  refine wpQuiet_nil ?_
  intro _ hw'
  obtain ⟨⟨nq, osq⟩, hw''⟩ := hw'
  subst hw''
  go_wp2
  go_ret3
  exact ⟨by rw [← (unhide E).1, ← (unhide E).2]; rfl, ⟨_, _, rfl⟩⟩
set_option maxHeartbeats 1000000 in
theorem cut_no (l : List UInt8) (w : World) (hs : l.length ≤ 1048576) (h : (58 : UInt8) ∉ l) : Calls Tryd.prog 43 #[.string (bt l), .string ⟨#[58]⟩] w fun e w' => e = .returned (.tuple #[.string (bt l), .string ⟨#[]⟩, .bool false]) ∧ Grew w w' := by
  have hi : Lib.indexByte (bt l).data.toList 58 = -1 := by simpa using idx_none l 58 h
  go_enter Tryd.func43, Tryd.ntmps43
  go_wp2_with fail
  refine (index_any (bt l) 58 _ (by simpa [ByteArray.size] using hs)).mono ?_
  rintro r w' ⟨rfl, rfl⟩
  rw [hi]
  go_wp2
  go_ret3
  exact ⟨rfl, Grew.refl _⟩
theorem cut_any (l : List UInt8) (w : World) (hs : l.length ≤ 1048576) : Calls Tryd.prog 35 #[.string (bt l), .string ⟨#[58]⟩] w fun e w' => ∃ p q ok, e = .returned (.tuple #[.string (bt p), .string (bt q), .bool ok]) ∧ p.length ≤ l.length ∧ q.length ≤ l.length ∧ (∀ a r, l = a ++ 58 :: r → (58 : UInt8) ∉ a → p = a ∧ q = r) ∧ Grew w w' := by
  have h : Calls Tryd.prog 43 #[.string (bt l), .string ⟨#[58]⟩] w fun e w' => ∃ p q ok, e = .returned (.tuple #[.string (bt p), .string (bt q), .bool ok]) ∧ p.length ≤ l.length ∧ q.length ≤ l.length ∧ (∀ a r, l = a ++ 58 :: r → (58 : UInt8) ∉ a → p = a ∧ q = r) ∧ Grew w w' := by
    rcases idx_cases l 58 with h | ⟨a, r, rfl, ha⟩
    · refine (cut_no l w hs h).mono ?_
      rintro e w' ⟨rfl, g⟩
      exact ⟨l, [], false, rfl, Nat.le_refl _, Nat.zero_le _, fun a r he _ => absurd (by rw [he]; simp) h, g⟩
    · refine (cut_yes a r w hs ha).mono ?_
      rintro e w' ⟨rfl, g⟩
      refine ⟨a, r, true, rfl, by simp, by simp; omega, fun a' r' he ha' => ?_, g⟩
      have h1 := idx_some a r 58 ha
      rw [he, idx_some a' r' 58 ha'] at h1
      have hl : a'.length = a.length := by omega
      have := List.append_inj he hl.symm
      exact ⟨this.1, by simpa using this.2⟩
  go_enter Tryd.func35, Tryd.ntmps35
  go_wp2_with fail
  refine h.mono ?_
  rintro r w' ⟨p, q, ok, rfl, h1, h2, h3, g⟩
  go_wp2
  go_ret3
  exact ⟨p, q, ok, rfl, h1, h2, h3, g⟩

set_option maxHeartbeats 1000000 in
theorem itemOfLine_any (l : List UInt8) (w : World) (hs : l.length ≤ 1048576) : Calls Tryd.prog 28 #[.string (bt l)] w fun r w' => ∃ x : It, r = .returned (.agg #[.int .i64 x.e, .int .i64 x.f, .int .i64 x.t, .int .i64 x.s]) ∧ (∀ y, low y → l = lineL y → x = y) ∧ Grew w w' := by
  go_enter Tryd.func28, Tryd.ntmps28
  go_wp2_with fail
  refine (trim_any l _ hs).mono ?_
  rintro r w1 ⟨t, rfl, ht, ht2, rfl⟩
  go_wp2_with fail
  refine (cut_any t _ (by omega)).mono ?_
  rintro r w2 ⟨p, q, ok, rfl, hp, hq, hpq, g2⟩
  go_wp2_with fail
  refine (numberOf_any p _ (by omega)).mono ?_
  rintro r w3 ⟨n, rfl, hn, rfl⟩
  go_wp2_with fail
  refine (payOf_any q _).mono ?_
  rintro r w4 ⟨f, u, s, rfl, hfus, g4⟩
  have c0 := (g2.trans g4).keep (p := ⟨w.heap.size, 0, none⟩) (v := .int .i64 0) (by simp [go_sem])
  have c1 := (g2.trans g4).keep (p := ⟨w.heap.size, 1, none⟩) (v := .int .i64 0) (by simp [go_sem])
  have c2 := (g2.trans g4).keep (p := ⟨w.heap.size, 2, none⟩) (v := .int .i64 0) (by simp [go_sem])
  have c3 := (g2.trans g4).keep (p := ⟨w.heap.size, 3, none⟩) (v := .int .i64 0) (by simp [go_sem])
  have z0 : w4.frozen? ⟨w.heap.size, 0, none⟩ = false := by rw [(g2.trans g4).below.frozen (by simp)]; simp [go_sem]
  have z1 : w4.frozen? ⟨w.heap.size, 1, none⟩ = false := by rw [(g2.trans g4).below.frozen (by simp)]; simp [go_sem]
  have z2 : w4.frozen? ⟨w.heap.size, 2, none⟩ = false := by rw [(g2.trans g4).below.frozen (by simp)]; simp [go_sem]
  have z3 : w4.frozen? ⟨w.heap.size, 3, none⟩ = false := by rw [(g2.trans g4).below.frozen (by simp)]; simp [go_sem]
  have fin : ∀ y, low y → l = lineL y → (⟨n, f, u, s⟩ : It) = y := fun y hy hl => by
    obtain ⟨⟨a0, a1⟩, ⟨b0, b1⟩, ⟨d0, d1⟩, k0, k1⟩ := hy
    have e1 : t = decL y.e.toNat ++ 58 :: (decL y.f.toNat ++ decL y.t.toNat ++ decL y.s.toNat) := ht2 _ (by rw [hl]; simp [lineL])
    have hno : (58 : UInt8) ∉ decL y.e.toNat := by
      unfold decL
      have key : ∀ j, j < 10 → (58 : UInt8) ≠ UInt8.ofNat (48 + j) := fun j hj e => by
        have := congrArg UInt8.toNat e
        simp at this
        omega
      split
      · rename_i h; simpa using key _ h
      · simp only [List.mem_cons, List.not_mem_nil, or_false, not_or]
        exact ⟨key _ (by omega), key _ (by omega)⟩
    obtain ⟨rfl, rfl⟩ := hpq _ _ e1 hno
    have q1 := hn y.e.toNat (by omega) rfl
    have q2 := hfus y.f.toNat y.t.toNat y.s.toNat (by omega) (by omega) (by omega) rfl
    cases y
    simp only [It.mk.injEq] at *
    omega
  have FIN := hide fin
  have G := hide (g2.trans g4)
  clear fin g2 g4 hn hfus hpq ht2
  go_wp2
  refine bodyPost_ret (by simp [results, Tryd.results28, go_sem, c0, c1, c2, c3]; try rfl) rfl ?_
  exact ⟨⟨n, f, u, s⟩, rfl, unhide FIN, (((((Grew.refl w).alloc _).trans (unhide G)).setCell (Nat.le_refl _) _).setCell (Nat.le_refl _) _).setCell (Nat.le_refl _) _ |>.setCell (Nat.le_refl _) _⟩
end Go.Proofs.YtfonpbglnkggfaaDoor
