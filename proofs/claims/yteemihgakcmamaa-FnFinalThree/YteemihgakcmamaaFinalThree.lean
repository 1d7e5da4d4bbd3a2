/-
  FnFinalThree returns true at every two rows of bytes and leaves its arguments as they were: what the statement says; no condition.
-/
import Derived.Test.YteemihgakcmamaaTDrawA
import Derived.Test.YteemihgakcmamaaTMath2
import Derived.Test.YteemihgakcmamaaSame
import Derived.Test.YteemihgakcmamaaOpen
import Derived.Lib.SmallJoins
import Derived.JoinedOf
import Derived.JoinedAt
import Derived.RowKit3
import Derived.Deep.RegionHeldLaw
import Derived.Deep.DeepFit
namespace Go.Proofs.Yteemihgakcmamaa.FnFinalThree
set_option linter.unusedVariables false
open Go.ChangeShapes Go.WideShapes Go.ChangeAt Go.RowKit Go.Joins
attribute [local simp] far_const

/-- The votes of three for each beginning of a chain of three. -/
def rowV (c : List It) : List Vt := [⟨2, c.take 1⟩, ⟨3, c.take 1⟩, ⟨4, c.take 1⟩, ⟨2, c.take 2⟩, ⟨3, c.take 2⟩, ⟨4, c.take 2⟩, ⟨2, c.take 3⟩, ⟨3, c.take 3⟩, ⟨4, c.take 3⟩]
def chA (s : Int) : List It := [⟨s, 1, 3, 1⟩, ⟨s + 1, 1, 3, 1⟩, ⟨s + 2, 1, 3, 1⟩]
def chB (s : Int) : List It := [⟨s, 1, 3, 1⟩, ⟨s + 1, 1, 3, 1⟩, ⟨s + 3, 1, 3, 1⟩]
theorem rowV_step (c : List It) {i j : Nat} (hi : i < 3) (hj : j < 3) : (rowV c).take (3 * i + j + 1) = (rowV c).take (3 * i + j) ++ [⟨(j : Int) + 2, c.take (i + 1)⟩] := by
  match i, hi, j, hj with
  | 0, _, 0, _ => rfl
  | 0, _, 1, _ => rfl
  | 0, _, 2, _ => rfl
  | 1, _, 0, _ => rfl
  | 1, _, 1, _ => rfl
  | 1, _, 2, _ => rfl
  | 2, _, 0, _ => rfl
  | 2, _, 1, _ => rfl
  | 2, _, 2, _ => rfl
theorem three_all : ∀ k : Fin 20, sameB (finalL (rowV (chA ((k.val : Int) + 1)))) ((chA ((k.val : Int) + 1)).take 2) = true ∧ (finalL (rowV (chB ((k.val : Int) + 1)))).length = 0 ∧ (finalL ((rowV (chA ((k.val : Int) + 1))).drop 1)).length = 0 ∧ (finalL ((rowV (chA ((k.val : Int) + 1))).take 8)).length = 0 := by
  decide +kernel
theorem three_at {s : Int} (h1 : 1 ≤ s) (h2 : s ≤ 20) : finalL (rowV (chA s)) = (chA s).take 2 ∧ (finalL (rowV (chB s))).length = 0 ∧ (finalL ((rowV (chA s)).drop 1)).length = 0 ∧ (finalL ((rowV (chA s)).take 8)).length = 0 := by
  obtain ⟨k, rfl⟩ : ∃ k : Nat, s = (k : Int) + 1 := ⟨(s - 1).toNat, by omega⟩
  have := three_all ⟨k, by omega⟩
  exact ⟨(sameB_iff _ _).1 this.1, this.2⟩
/-- The cells of votes whose chains lie at one address. -/
def xsV (b : Nat) (l : List Vt) : List Value := l.flatMap (fun y => [.int .i64 y.n, .slice (some ⟨b, 0, none⟩) y.c.length 3])
theorem xsV_snoc (b : Nat) (l : List Vt) (y : Vt) : xsV b (l ++ [y]) = xsV b l ++ [.int .i64 y.n, .slice (some ⟨b, 0, none⟩) y.c.length 3] := by unfold xsV; rw [List.flatMap_append]; simp
theorem xsV_at (b : Nat) : ∀ (l : List Vt) (i : Nat) (h : i < l.length), (xsV b l)[i * 2]? = some (.int .i64 l[i].n) ∧ (xsV b l)[i * 2 + 1]? = some (.slice (some ⟨b, 0, none⟩) l[i].c.length 3)
  | [], i, h => absurd h (Nat.not_lt_zero _)
  | y :: r, 0, h => by simp [xsV]
  | y :: r, i + 1, h => by
    have := xsV_at b r i (by simpa using h)
    have e : xsV b (y :: r) = .int .i64 y.n :: .slice (some ⟨b, 0, none⟩) y.c.length 3 :: xsV b r := by simp [xsV]
    rw [e, show (i + 1) * 2 = i * 2 + 1 + 1 by omega, show (i * 2 + 1 + 1 + 1) = (i * 2 + 1) + 1 + 1 by omega]
    simpa using this
/-- A row of the call's own with just these cells. -/
def NRow (w : World) (base : Nat) (v : Value) (n : Nat) (xs : List Value) : Prop := v ≠ .slice none 0 0 ∧ w.ownsRow base 60 2 v n xs
theorem NRow.kept {w w' : World} {base : Nat} {v : Value} {n : Nat} {xs : List Value} (h : NRow w base v n xs) (e : ∀ g, v.ownBlock = some g → w'.heap[g]? = w.heap[g]?) : NRow w' base v n xs := ⟨h.1, ownsRow_block h.2 e⟩
theorem NRow.grew {w w' : World} {base : Nat} {v : Value} {n : Nat} {xs : List Value} (h : NRow w base v n xs) (g : Grew w w') : NRow w' base v n xs := h.kept (fun k hk => g.below.block k (h.2.lt k hk).2)
theorem NRow.shape {w : World} {base : Nat} {v : Value} {n : Nat} {xs : List Value} (h : NRow w base v n xs) : ∃ g cap, v = .slice (some ⟨g, 0, none⟩) n cap ∧ n ≤ cap ∧ base ≤ g ∧ g < w.heap.size := by
  rcases h.2.2 with ⟨hv, hn⟩ | ⟨g, cap, cur, hv, hb, hg, hnc, _⟩
  · exact absurd hv h.1
  · exact ⟨g, cap, hv, hnc, hb, (Array.getElem?_eq_some_iff.1 hg).1⟩
theorem NRow.vts {w : World} {base g cap cb n : Nat} {l : List Vt} (h : NRow w base (.slice (some ⟨g, 0, none⟩) n cap) n (xsV cb l)) (hn : n = l.length) (hi : ∀ y ∈ l, Its w (some ⟨cb, 0, none⟩) y.c) : Vts w (some ⟨g, 0, none⟩) l := by
  subst hn
  refine .inr ⟨g, 0, rfl, fun i hl => ?_⟩
  obtain ⟨h0, h1⟩ := xsV_at cb l i hl
  have row := h.2
  rw [Nat.zero_add]
  exact ⟨by rw [row.cellAt (i * 2) (by omega)]; exact h0, some ⟨cb, 0, none⟩, 3, by rw [row.cellAt (i * 2 + 1) (by omega)]; exact h1, hi _ (List.getElem_mem hl)⟩
theorem vts_drop1 {w : World} {b off : Nat} {l : List Vt} (h : Vts w (some ⟨b, off, none⟩) l) : Vts w (some ⟨b, off + 2, none⟩) (l.drop 1) := by
  by_cases h0 : l.drop 1 = []
  · exact .inl h0
  · refine .inr ⟨b, off + 2, rfl, fun i hi => ?_⟩
    have hil : i + 1 < l.length := by rw [List.length_drop] at hi; omega
    obtain ⟨b', o', e, hat⟩ := h.at hil
    simp only [Option.some.injEq, Addr.mk.injEq, and_true] at e
    obtain ⟨rfl, rfl⟩ := e
    rw [show off + (i + 1) * 2 = off + 2 + i * 2 by omega] at hat
    have e2 : (l.drop 1)[i] = l[i + 1] := by rw [List.getElem_drop]; congr 1; omega
    rw [e2]; exact hat
theorem vts_take' {w : World} {a : Option Addr} {l : List Vt} (h : Vts w a l) (k : Nat) : Vts w a (l.take k) := by
  rcases h with h | ⟨b, off, rfl, h⟩
  · subst h; exact .inl (by simp)
  · refine .inr ⟨b, off, rfl, fun i hi => ?_⟩
    rw [List.getElem_take]
    exact h i (by rw [List.length_take] at hi; omega)
theorem wpList_raw {ops : Array Oper} {rest : List Oper} {o : Oper} {a : Act} {Q : Exit → Act → World → Prop} {w : World} (hgd : o.guard = none) (s x : Operand)
    (ho : o.op = .call { callee := .builtin .append, args := #[s, x], argTypes := #[27, 27] })
    (base : Nat) (v : Value) (n : Nat) (xs : List Value) (hse : a.eval s = v) (hown : NRow w base v n xs)
    (ad : Addr) (c : Nat) (hx : a.eval x = .slice (some ad) 1 c) (z : Int) (u : Value) (hu : u.oneCell' = true) (hc : ∀ j q, ([.int .i64 z, u] : List Value)[j]? = some q → w.cell? (ad.add j) = some q)
    (hn : n + 1 ≤ 1048577) (hbase : base ≤ w.heap.size)
    (h : ∀ v' w', NRow w' base v' (n + 1) (xs ++ [.int .i64 z, u]) → w.grownBy w' v.ownBlock → (v'.ownBlock = v.ownBlock ∨ v'.ownBlock = some w.heap.size) → wpList Try.prog ops Q rest (a.put o.dst v') w') : wpList Try.prog ops Q (o :: rest) a w := by
  obtain ⟨i, hi0, hz0, hz1, hz2⟩ := info_parts vote_info
  refine wpList_append_own_at w hgd s x 27 ho base 60 i _ 2 32 Try.underlying27 hi0 hz0 hz1 hz2 rfl (by omega) v n xs hse hown.2 ad 1 c [.int .i64 z, u] hx rfl hc (fun q hq => by
    simp only [List.mem_cons, List.not_mem_nil, or_false] at hq
    rcases hq with rfl | rfl
    · rfl
    · exact hu) (by unfold maxLen; omega) (by omega) hbase ?_
  intro v' w' h1 h2 h3 h4
  exact h v' w' ⟨fun e => by have := (h3.1 e).2; omega, h1⟩ h2 h4
theorem its_three (w : World) (x y z : It) (t : TypeId) : Its (w.alloc (.cells #[.int .i64 x.e, .int .i64 x.f, .int .i64 x.t, .int .i64 x.s, .int .i64 y.e, .int .i64 y.f, .int .i64 y.t, .int .i64 y.s, .int .i64 z.e, .int .i64 z.f, .int .i64 z.t, .int .i64 z.s] t)) (some ⟨w.heap.size, 0, none⟩) [x, y, z] := by
  refine .inr ⟨_, _, rfl, fun i hi => ?_⟩
  match i, hi with
  | 0, _ => exact ⟨by simp [go_sem], by simp [go_sem], by simp [go_sem], by simp [go_sem]⟩
  | 1, _ => exact ⟨by simp [go_sem], by simp [go_sem], by simp [go_sem], by simp [go_sem]⟩
  | 2, _ => exact ⟨by simp [go_sem], by simp [go_sem], by simp [go_sem], by simp [go_sem]⟩
theorem cells_two' (w : World) (n : Int) (a : Option Addr) (len cap : Nat) (t : TypeId) (k : Nat) (hk : w.heap.size = k) : ∀ j u, ([.int .i64 n, .slice a len cap] : List Value)[j]? = some u → (w.alloc (.cells #[.int .i64 n, .slice a len cap] t)).cell? ((⟨k, 0, none⟩ : Addr).add j) = some u := by
  subst hk; exact cells_two w n a len cap t

theorem rowV_its {w : World} {a : Option Addr} {c : List It} (hi : Its w a c) : ∀ y ∈ rowV c, Its w a y.c := fun y hy => by
  simp only [rowV, List.mem_cons, List.not_mem_nil, or_false] at hy
  rcases hy with rfl | rfl | rfl | rfl | rfl | rfl | rfl | rfl | rfl <;> exact hi.take _
theorem rowV_short {c : List It} (hc : c.length = 3) {l : List Vt} (hl : ∀ y ∈ l, y ∈ rowV c) : Short l := fun y hy => by
  have := hl y hy
  simp only [rowV, List.mem_cons, List.not_mem_nil, or_false] at this
  rcases this with rfl | rfl | rfl | rfl | rfl | rfl | rfl | rfl | rfl <;> (show (c.take _).length ≤ _; rw [List.length_take]; omega)
theorem final_at (w0 : World) (ad : Option Addr) (cp n m : Nat) (l : List Vt) (R : List It) (hl : l.length = n) (hR : finalL l = R) (hm : R.length = m) (hv : Vts w0 ad l) (hs : Short l) (hn : n ≤ 1048576) :
    Hid (∀ W, Grew w0 W → Calls Try.prog 58 #[.slice ad n cp] W fun r w' => ∃ x xc, r = .returned (.slice x m xc) ∧ Its w' x R ∧ Grew W w') := hide (fun W g => by
  subst hl
  subst hm
  have := implTreeFinal ad cp l W (hv.grew g) hs hn
  rw [hR] at this
  refine this.mono ?_
  rintro r w' ⟨v, rfl, hv, g'⟩
  obtain ⟨x, xc, rfl, hx, _⟩ := hv.form
  exact ⟨x, xc, rfl, hx, g'⟩)
set_option maxRecDepth 20000 in
set_option maxHeartbeats 16000000 in
theorem walk (a : Option Addr) (n cap : Nat) (a2 : Option Addr) (n2 cap2 : Nat) (w : World) (hb : Byt w a w.heap.size n) (hc : n ≤ cap) (hb2 : Byt w a2 w.heap.size n2) (hc2 : n2 ≤ cap2) :
    Calls Try.prog 14 #[.slice a n cap, .slice a2 n2 cap2] w fun e w' => e = .returned (.bool true) ∧ Grew w w' := by
  by_cases hn : n ≤ 1048576
  · have hn1 : decide ((1048576 : Int) < (n : Int)) = false := by simp; omega
    by_cases hn2 : n2 ≤ 1048576
    · have hn3 : decide ((1048576 : Int) < (n2 : Int)) = false := by simp; omega
      go_enter Try.func14, Try.ntmps14
      go_wp2_with fail
      refine (drawTreeFinal_any a n cap _ hb hc hn).mono ?_
      rintro e w1 ⟨v, l, base, rfl, vr, hll, hlow, g1⟩
      have HS : Hid (Short l) := hide (hlow.short (by omega))
      have hl1 : l.length ≤ 1048576 := by omega
      have VR := hide vr
      have hfs := finalL_short (hlow.short (by omega))
      obtain ⟨f, hf⟩ : ∃ f, finalL l = f := ⟨_, rfl⟩
      rw [hf] at hfs
      have HF := hide hf
      clear vr hlow hf
      go_wp2_with fail
      refine (implTreeFinal_v w1 (unhide VR).vtsV (unhide HS) hl1).mono ?_
      rw [unhide HF]
      rintro e w2 ⟨vf, rfl, hA, g2⟩
      obtain ⟨fa, fc, rfl, fi, _⟩ := hA.form
      have FI := hide fi
      clear hA fi
      go_wp2_with fail
      refine (specTreeFinal_r w2 ((unhide VR).grew g2) (unhide HS) hl1).mono ?_
      rw [unhide HF]
      rintro e w3 ⟨vs, rfl, hV, g3⟩
      obtain ⟨sa, sc, rfl, _, si⟩ := hV
      go_wp2_with fail
      refine (lwSame_any fa sa fc sc f f w3 ((unhide FI).grew g3) si hfs hfs).mono ?_
      rw [(sameB_iff f f).2 rfl]
      rintro e w4 ⟨rfl, g4⟩
      have G4 := hide (((g1.trans g2).trans g3).trans g4)
      clear g1 g2 g3 g4 si FI VR HS HF hl1 hll hfs
      obtain ⟨s, hs0⟩ : ∃ s : Int, Hid (s = (1 : Int) + (n2 : Int) % 20) := ⟨_, hide rfl⟩
      have hs1 : (1 : Int) + (n2 : Int) % 20 = s := hs0.out.symm
      have hs2 : (1 : Int) + (n2 : Int).tmod 20 = s := by rw [Int.tmod_eq_emod_of_nonneg (by omega)]; exact hs1
      have hs3 : 1 ≤ s := by omega
      have hs4 : s ≤ 20 := by omega
      obtain ⟨t1, t2, t3, t4⟩ := three_at hs3 hs4
      have T1 := hide t1
      have T2 := hide t2
      have T3 := hide t3
      have T4 := hide t4
      clear t1 t2 t3 t4
      have hCl : (chA s).length = 3 := rfl
      have hDl : (chB s).length = 3 := rfl
      obtain ⟨W0, hW0⟩ : ∃ W, W = ((w4.alloc (.cells #[.int .i64 1, .int .i64 3, .int .i64 1] 49)).alloc (.cells #[.int .i64 s, .int .i64 1, .int .i64 3, .int .i64 1, .int .i64 (s + 1), .int .i64 1, .int .i64 3, .int .i64 1, .int .i64 (s + 2), .int .i64 1, .int .i64 3, .int .i64 1] 51)).alloc (.cells #[.int .i64 s, .int .i64 1, .int .i64 3, .int .i64 1, .int .i64 (s + 1), .int .i64 1, .int .i64 3, .int .i64 1, .int .i64 (s + 3), .int .i64 1, .int .i64 3, .int .i64 1] 51) := ⟨_, rfl⟩
      have hz0 : W0.heap.size = w4.heap.size + 1 + 1 + 1 := by rw [hW0]; simp
      have IC : Hid (Its W0 (some ⟨w4.heap.size + 1, 0, none⟩) (chA s)) := by
        have := its_three (w4.alloc (.cells #[.int .i64 1, .int .i64 3, .int .i64 1] 49)) ⟨s, 1, 3, 1⟩ ⟨s + 1, 1, 3, 1⟩ ⟨s + 2, 1, 3, 1⟩ 51
        rw [hW0]
        rw [World.size_alloc] at this
        exact hide (this.grew ((Grew.refl _).alloc _))
      have ID : Hid (Its W0 (some ⟨w4.heap.size + 1 + 1, 0, none⟩) (chB s)) := by
        have := its_three ((w4.alloc (.cells #[.int .i64 1, .int .i64 3, .int .i64 1] 49)).alloc (.cells #[.int .i64 s, .int .i64 1, .int .i64 3, .int .i64 1, .int .i64 (s + 1), .int .i64 1, .int .i64 3, .int .i64 1, .int .i64 (s + 2), .int .i64 1, .int .i64 3, .int .i64 1] 51)) ⟨s, 1, 3, 1⟩ ⟨s + 1, 1, 3, 1⟩ ⟨s + 3, 1, 3, 1⟩ 51
        rw [hW0]
        rw [World.size_alloc, World.size_alloc] at this
        exact hide this
      have G0 : Hid (Grew w4 W0) := by rw [hW0]; exact hide ((((Grew.refl w4).alloc _).alloc _).alloc _)
      have RA : Hid (NRow ((W0.alloc (.cells #[] 60)).alloc (.cells #[] 60)) W0.heap.size (.slice (some ⟨w4.heap.size + 1 + 1 + 1, 0, none⟩) 0 0) 0 []) := hide (by
        have : NRow (W0.alloc (.cells #[] 60)) W0.heap.size (.slice (some ⟨W0.heap.size, 0, none⟩) 0 0) 0 [] := ⟨fun e => by simp at e, World.ownsRow_lit W0 #[] 0 (Nat.le_refl _) (by unfold maxLen; omega) rfl⟩
        rw [← hz0]
        exact this.grew ((Grew.refl _).alloc _))
      have RB : Hid (NRow ((W0.alloc (.cells #[] 60)).alloc (.cells #[] 60)) W0.heap.size (.slice (some ⟨w4.heap.size + 1 + 1 + 1 + 1, 0, none⟩) 0 0) 0 []) := hide (by
        have : NRow ((W0.alloc (.cells #[] 60)).alloc (.cells #[] 60)) W0.heap.size (.slice (some ⟨(W0.alloc (.cells #[] 60)).heap.size, 0, none⟩) 0 0) 0 [] := ⟨fun e => by simp at e, World.ownsRow_lit (W0.alloc (.cells #[] 60)) #[] 0 (by simp) (by unfold maxLen; omega) rfl⟩
        rw [World.size_alloc, hz0] at this
        rw [hz0]
        exact this)
      have GL : Hid (Grew W0 ((W0.alloc (.cells #[] 60)).alloc (.cells #[] 60))) := hide (((Grew.refl W0).alloc _).alloc _)
      obtain ⟨C, hC⟩ : ∃ C, chA s = C := ⟨_, rfl⟩
      obtain ⟨D, hD⟩ : ∃ D, chB s = D := ⟨_, rfl⟩
      rw [hC] at T1 T3 T4 IC hCl
      rw [hD] at T2 ID hDl
      have HCL := hide hCl
      have HDL := hide hDl
      have HW0 := hide hW0
      have HZ := hide hz0
      clear hC hD hCl hDl hW0 hs0
      go_wp2_with fail
      rw [← unhide HW0]
      clear HW0
      go_loopw [11, 12, 13] (fun va vb i wr => ∃ (k : Nat) (u v : Value), k ≤ 3 ∧ u = va ∧ v = vb ∧ i = .int .i64 ((k : Int) + 1) ∧ Hid (NRow wr W0.heap.size u (3 * k) (xsV (w4.heap.size + 1) ((rowV C).take (3 * k)))) ∧ Hid (NRow wr W0.heap.size v (3 * k) (xsV (w4.heap.size + 1 + 1) ((rowV D).take (3 * k)))) ∧ Hid (u.ownBlock ≠ v.ownBlock) ∧ Hid (Grew W0 wr)) (fun _ _ i _ => 4 - (intOf i).toNat)
      case atStart => exact ⟨0, _, _, by omega, rfl, rfl, by go_num, RA, RB, hide (fun e => absurd (Option.some.inj e) (by show ¬ (w4.heap.size + 1 + 1 + 1 = w4.heap.size + 1 + 1 + 1 + 1); omega)), GL⟩
      case round =>
        clear RA RB GL hz0
        obtain ⟨k, u, v, hk, rfl, rfl, rfl, RA, RB, hne, hg⟩ := hrel
        by_cases hk3 : k < 3
        · have hk1 : (k : Int) + 1 ≤ 3 := by omega
          have hk2 : k + 1 ≤ 3 := by omega
          obtain ⟨wo, hwo⟩ : ∃ wo, wo = wr := ⟨_, rfl⟩
          rw [← hwo] at RA RB hg ⊢
          clear hwo
          go_wp2_with fail
          go_loopw [11, 12, 14] (fun va vb i wr => ∃ (j : Nat) (u v : Value), j ≤ 3 ∧ u = va ∧ v = vb ∧ i = .int .i64 ((j : Int) + 2) ∧ Hid (NRow wr W0.heap.size u (3 * k + j) (xsV (w4.heap.size + 1) ((rowV C).take (3 * k + j)))) ∧ Hid (NRow wr W0.heap.size v (3 * k + j) (xsV (w4.heap.size + 1 + 1) ((rowV D).take (3 * k + j)))) ∧ Hid (u.ownBlock ≠ v.ownBlock) ∧ Hid (Grew W0 wr)) (fun _ _ i _ => 5 - (intOf i).toNat)
          case atStart => exact ⟨0, _, _, by omega, rfl, rfl, by go_num, RA, RB, hne, hg⟩
          case round =>
            clear RA RB hne hg
            obtain ⟨j, u, v, hj, rfl, rfl, rfl, RA, RB, hne, hg⟩ := hrel
            by_cases hj3 : j < 3
            · have hj1 : (j : Int) + 2 ≤ 4 := by omega
              have eA := hide (rowV_step C hk3 hj3)
              have eB := hide (rowV_step D hk3 hj3)
              have lC : Hid ((C.take (k + 1)).length = k + 1) := hide (by rw [List.length_take]; have := unhide HCL; omega)
              have lD : Hid ((D.take (k + 1)).length = k + 1) := hide (by rw [List.length_take]; have := unhide HDL; omega)
              have hzg := hide (unhide hg).size
              have lA := hide (unhide RA).2.lt
              have lB := hide (unhide RB).2.lt
              go_wp2_with (first | (at_builtin; refine wpList_raw rfl _ _ rfl W0.heap.size u (3 * k + j) _ rfl ((unhide RA).grew ((Grew.refl _).alloc _)) ⟨wr.heap.size, 0, none⟩ 1 rfl ((j : Int) + 2) (.slice (some ⟨w4.heap.size + 1, 0, none⟩) (k + 1) 3) rfl (cells_two _ _ _ _ _ _) (by omega) (by have := unhide hzg; simp; omega) ?_))
              intro u' wx ox gx hx
              have RB' := hide (((unhide RB).grew ((Grew.refl wr).alloc (.cells #[.int .i64 ((j : Int) + 2), .slice (some ⟨w4.heap.size + 1, 0, none⟩) (k + 1) 3] 60))).kept (w' := wx) (fun g hgg => gx.block g (by have := (unhide lB g hgg).2; simp; omega) (fun e => unhide hne (by rw [hgg, e]))))
              have hg' := hide (((unhide hg).alloc (.cells #[.int .i64 ((j : Int) + 2), .slice (some ⟨w4.heap.size + 1, 0, none⟩) (k + 1) 3] 60)).grown gx (fun g hgg => (unhide lA g hgg).1))
              have OX : Hid (NRow wx W0.heap.size u' (3 * k + j + 1) (xsV (w4.heap.size + 1) ((rowV C).take (3 * k + j + 1)))) := by
                show NRow _ _ _ _ _; rw [unhide eA, xsV_snoc]; simp only [unhide lC]; exact ox
              have hne' : Hid (u'.ownBlock ≠ v.ownBlock) := hide (fun e => by
                rcases hx with h | h
                · exact unhide hne (h.symm.trans e)
                · rw [h] at e
                  have := (unhide lB _ e.symm).2
                  first | omega | (simp only [World.size_alloc] at this; omega))
              have hzg' := hide (unhide hg').size
              have lA' := hide (unhide OX).2.lt
              have lB' := hide (unhide RB').2.lt
              clear ox gx hx RA RB hne hg
              go_wp2_with (first | (at_builtin; refine wpList_raw rfl _ _ rfl W0.heap.size v (3 * k + j) _ rfl ((unhide RB').grew ((Grew.refl _).alloc _)) ⟨wx.heap.size, 0, none⟩ 1 rfl ((j : Int) + 2) (.slice (some ⟨w4.heap.size + 1 + 1, 0, none⟩) (k + 1) 3) rfl (cells_two _ _ _ _ _ _) (by omega) (by have := unhide hzg'; simp; omega) ?_))
              intro v' wy oy gy hy
              have RA2 := hide (((unhide OX).grew ((Grew.refl wx).alloc (.cells #[.int .i64 ((j : Int) + 2), .slice (some ⟨w4.heap.size + 1 + 1, 0, none⟩) (k + 1) 3] 60))).kept (w' := wy) (fun g hgg => gy.block g (by have := (unhide lA' g hgg).2; simp; omega) (fun e => unhide hne' (by rw [hgg, e]))))
              have hg2 := hide (((unhide hg').alloc (.cells #[.int .i64 ((j : Int) + 2), .slice (some ⟨w4.heap.size + 1 + 1, 0, none⟩) (k + 1) 3] 60)).grown gy (fun g hgg => (unhide lB' g hgg).1))
              have RB2 : Hid (NRow wy W0.heap.size v' (3 * k + j + 1) (xsV (w4.heap.size + 1 + 1) ((rowV D).take (3 * k + j + 1)))) := by
                show NRow _ _ _ _ _; rw [unhide eB, xsV_snoc]; simp only [unhide lD]; exact oy
              have hne2 : Hid (u'.ownBlock ≠ v'.ownBlock) := hide (fun e => by
                rcases hy with h | h
                · exact unhide hne' (e.trans h)
                · rw [h] at e
                  have := (unhide lA' _ e).2
                  first | omega | (simp only [World.size_alloc] at this; omega))
              clear oy gy hy OX RB' hne' hg' lA lB lA' lB' hzg hzg' eA eB lC lD
              go_wp2
              go_roundw
              case rel => exact ⟨j + 1, u', v', by omega, rfl, rfl, by go_num, RA2, RB2, hne2, hg2⟩
              case measure => simp [intOf]; omega
            · have hj3e : j = 3 := by omega
              have hj1 : ¬ (j : Int) + 2 ≤ 4 := by omega
              have RA2 : Hid (NRow wr W0.heap.size u (3 * (k + 1)) (xsV (w4.heap.size + 1) ((rowV C).take (3 * (k + 1))))) := by
                rw [show 3 * (k + 1) = 3 * k + j by omega]; exact RA
              have RB2 : Hid (NRow wr W0.heap.size v (3 * (k + 1)) (xsV (w4.heap.size + 1 + 1) ((rowV D).take (3 * (k + 1))))) := by
                rw [show 3 * (k + 1) = 3 * k + j by omega]; exact RB
              clear RA RB hj3e
              go_wp2
              go_roundw
              case rel => exact ⟨k + 1, u, v, by omega, rfl, rfl, by go_num, RA2, RB2, hne, hg⟩
              case measure => simp [intOf]; omega
        · have hk3e : k = 3 := by omega
          have hk1 : ¬ (k : Int) + 1 ≤ 3 := by omega
          subst hk3e
          obtain ⟨ga, ca, rfl, hca, _, _⟩ := (unhide RA).shape
          obtain ⟨gb, cb, rfl, hcb, _, _⟩ := (unhide RB).shape
          have VA := hide ((unhide RA).vts (l := rowV C) rfl (rowV_its ((unhide IC).grew (unhide hg))))
          have VB := hide ((unhide RB).vts (l := rowV D) rfl (rowV_its ((unhide ID).grew (unhide hg))))
          have hC2 := hide (show (C.take 2).length = 2 by rw [List.length_take, unhide HCL]; rfl)
          have KA := final_at wr (some ⟨ga, 0, none⟩) ca 9 2 (rowV C) (C.take 2) rfl (unhide T1) (unhide hC2) (unhide VA) (rowV_short (unhide HCL) (fun _ h => h)) (by decide)
          have KB := final_at wr (some ⟨gb, 0, none⟩) cb 9 0 (rowV D) _ rfl rfl (unhide T2) (unhide VB) (rowV_short (unhide HDL) (fun _ h => h)) (by decide)
          have KC := final_at wr (some ⟨ga, 2, none⟩) (ca - 1) 8 0 ((rowV C).drop 1) _ rfl rfl (unhide T3) (vts_drop1 (unhide VA)) (rowV_short (unhide HCL) (fun _ h => List.mem_of_mem_drop h)) (by decide)
          have KE := final_at wr (some ⟨ga, 0, none⟩) ca 8 0 ((rowV C).take 8) _ rfl rfl (unhide T4) (vts_take' (unhide VA) 8) (rowV_short (unhide HCL) (fun _ h => List.mem_of_mem_take h)) (by decide)
          have IC2 := hide (((unhide IC).grew (unhide hg)).take 2)
          have hca9 : 9 ≤ ca := by omega
          have hca1 : ¬ ca = 1 := by omega
          have hca1' : ¬ ca < 1 := by omega
          clear RA RB VA VB hca hcb hne
          go_wp2_with fail
          go_region_held_law (fun _ => True) (exact trivial)
            (first
              | (go_at_call 35; refine (lwSame_n x5 _ c5 _ (C.take 2) (C.take 2) _ i5 ((unhide IC2).grew ((Grew.refl _).drew.trans g5)) 2 2 (unhide hC2) (unhide hC2) (by omega) (by omega)).mono ?_; rw [(sameB_iff _ _).2 rfl]; rintro r w6 ⟨rfl, g6⟩)
              | (go_at_call 58; refine (unhide KE _ (((((Grew.refl _).drew.trans g5).trans g6).trans g7).trans g8)).mono ?_; rintro r w9 ⟨x9, c9, rfl, _, g9⟩)
              | (go_at_call 58; refine (unhide KC _ ((((Grew.refl _).drew.trans g5).trans g6).trans g7)).mono ?_; rintro r w8 ⟨x8, c8, rfl, _, g8⟩)
              | (go_at_call 58; refine (unhide KB _ (((Grew.refl _).drew.trans g5).trans g6)).mono ?_; rintro r w7 ⟨x7, c7, rfl, _, g7⟩)
              | (go_at_call 58; refine (unhide KA _ (Grew.refl _).drew).mono ?_; rintro r w5 ⟨x5, c5, rfl, i5, g5⟩))
          have GE := hide ((((((Grew.refl wr).drew.trans g5).trans g6).trans g7).trans g8).trans g9)
          clear g5 g6 g7 g8 g9 i5
          go_wp2
          go_ret
          exact ⟨by first | rfl | simp, (unhide G4).trans ((unhide G0).trans ((unhide hg).trans (unhide GE)))⟩
    · have hn3 : decide ((1048576 : Int) < (n2 : Int)) = true := by simp; omega
      clear hn2
      go_enter Try.func14, Try.ntmps14
      go_wp2
      go_ret
      exact ⟨rfl, Grew.refl _⟩
  · have hn1 : decide ((1048576 : Int) < (n : Int)) = true := by simp; omega
    clear hn
    go_enter Try.func14, Try.ntmps14
    go_wp2
    go_ret
    exact ⟨rfl, Grew.refl _⟩

set_option maxRecDepth 100000 in
theorem lifted (os : Os) (started : os.Started) (H : Type) (enc : TypeId × Value → H) :
    ReturnsInHanded {} Try.checked os 14 .any (Rows.fnFinalThreeSpec.pre6 enc Try.prog Try.f14 Rows.fnFinalThreeRow.domain false) (Rows.fnFinalThreeSpec.post enc Try.prog Try.f14 false true false false) := by
  refine returnsInHanded_of_change (C := Try.checked) own started (by kernel_rfl) Try.func14
    (ChangeSpec.witness6 (enc := enc) (C := Try.checked) false ⟨#[], #[.slice none 0 0, .slice none 0 0], []⟩ 8 (by kernel_rfl) (by kernel_rfl) (by kernel_rfl) (by kernel_rfl)) ?_
  intro W base args ds gs before hval0 hW hcnd _
  have hval : ∀ (j : Nat) t v, Try.f14.params[j]? = some t → args[j]? = some v → Value.okWide Try.prog W .any base t v := hval0
  have hW' := hW
  obtain ⟨p, q, hA0, hV, rfl, hfz, hnd⟩ := hW
  have hA : DataW.TrodAll enc Try.prog W 0 (fun _ => true) true Try.f14.params.toList args.toList ds p := hA0
  rw [Try.params14] at hA hval
  obtain ⟨v0, vs0, d0, ds0, p0, q0, hargs, rfl, rfl, h0, r0⟩ := trodAll_cons hA
  obtain ⟨v1, vs1, d1, ds1, p1, q1, rfl, rfl, rfl, h1, r1⟩ := trodAll_cons r0
  obtain ⟨rfl, rfl, rfl⟩ := trodAll_nil r1
  obtain rfl : args = #[v0, v1] := by cases args; simp_all
  obtain ⟨rfl, rfl⟩ := trodVars_none hV
  have k0 := h0
  have lt0 : ∀ x ∈ p0, x.block < W.heap.size := by obtain ⟨m, hm⟩ := k0; exact DataW.trod_lt m _ _ _ hm
  obtain ⟨a0, len0, cap0, rfl⟩ := okWide_slice Try.underlying44 (hval 0 44 v0 rfl rfl)
  obtain ⟨fuel0, hf0⟩ := h0
  obtain ⟨hb0, hc0⟩ := open_bytes hf0
  have k1 := h1
  have lt1 : ∀ x ∈ p1, x.block < W.heap.size := by obtain ⟨m, hm⟩ := k1; exact DataW.trod_lt m _ _ _ hm
  obtain ⟨a1, len1, cap1, rfl⟩ := okWide_slice Try.underlying44 (hval 1 44 v1 rfl rfl)
  obtain ⟨fuel1, hf1⟩ := h1
  obtain ⟨hb1, hc1⟩ := open_bytes hf1
  clear hA0 hval0
  refine (walk a0 len0 cap0 a1 len1 cap1 W hb0 hc0 hb1 hc1).mono fun e W' ⟨he, bel⟩ => ?_
  subst he
  exact ⟨_, rfl, _, _, _, [], _, [], hW', trodAll_mk1 (shut_bool Try.underlying4 _), (trodAll_cons_mk (Below.trod laidOut (by kernel_rfl) (of_decide_eq_true (by kernel_rfl)) k0 bel.below lt0) (trodAll_cons_mk (Below.trod laidOut (by kernel_rfl) (of_decide_eq_true (by kernel_rfl)) k1 bel.below lt1) trodAll_mk0)), rfl, bel.below.frame _, fun h => by cases h⟩

theorem over : Rows.fnFinalThreeRow.holds Try.pinned (OpenSpec.ofChange Rows.fnFinalThreeSpec) :=
  OpenClaim.holds_of_wide 14 Try.f14 rfl rfl rfl rfl rfl rfl rfl ⟨rfl, rfl, rfl, rfl, rfl⟩ rfl rfl rfl rfl rfl (by kernel_rfl) Try.func14 (by kernel_rfl)
    (of_decide_eq_true (by kernel_rfl)) (by unfold Func.isWrapper; first | (rw [if_pos (by decide +kernel)]; kernel_rfl) | (rw [if_neg (by decide +kernel)]; exact ⟨rfl, rfl⟩))
    (fun os started H enc _ => lifted os started H enc)
end Go.Proofs.Yteemihgakcmamaa.FnFinalThree
namespace Go.Proofs.Yteemihgakcmamaa
theorem fnFinalThree_holds : Rows.FnFinalThreeSaid := FnFinalThree.over
#print axioms fnFinalThree_holds
end Go.Proofs.Yteemihgakcmamaa
