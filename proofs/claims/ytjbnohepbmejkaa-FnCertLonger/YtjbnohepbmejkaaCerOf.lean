/-
  Texts together: CerR, CerO, CerS2.
-/
import Derived.Test.YtjbnohepbmejkaaCerB
import Derived.Test.YtjbnohepbmejkaaCerW2
import Derived.Test.YtjbnohepbmejkaaTFormsA
import Derived.Test.YtjbnohepbmejkaaTSpecB
import Derived.Test.YtjbnohepbmejkaaTMath2
import Derived.Test.YtjbnohepbmejkaaTreeT
import Derived.Deep.RegionLaw
namespace Go.Proofs.Ytjbnohepbmejkaa
set_option linter.unusedVariables false
open Go.RowKit
attribute [local simp] far_const

/-- Nothing at all, or a row of rows of numbers of the call's own. -/
def RAns (w : World) (base : Nat) (v : Value) (hs : List Nat) (ls : List (List Int)) : Prop := (v = .slice none 0 0 ∧ ls = [] ∧ hs = []) ∨ PRow w base v hs ls.length ls
theorem RAns.kept {w w' : World} {base : Nat} {v : Value} {hs : List Nat} {l : List (List Int)} (h : RAns w base v hs l) (hz : w.heap.size ≤ w'.heap.size) (e : ∀ g, base ≤ g → g < w.heap.size → w'.heap[g]? = w.heap[g]?) : RAns w' base v hs l := by
  rcases h with h | h
  · exact .inl h
  · exact .inr (h.kept hz e)
theorem RAns.grew {w w' : World} {base : Nat} {v : Value} {hs : List Nat} {l : List (List Int)} (h : RAns w base v hs l) (g : Grew w w') : RAns w' base v hs l := h.kept g.size fun b _ hb => g.below.block b hb
theorem RAns.parts {w : World} {base : Nat} {v : Value} {hs : List Nat} {l : List (List Int)} (h : RAns w base v hs l) : ∃ vs, w.ownsRow base 29 1 v l.length vs ∧ (∀ i (h : i < l.length) (h' : i < hs.length), ∃ cap, vs[i]? = some (.slice (some ⟨hs[i], 0, none⟩) l[i].length cap) ∧ OwnN w base (.slice (some ⟨hs[i], 0, none⟩) l[i].length cap) l[i]) ∧ hs.length = l.length ∧ hs.Nodup ∧ (∀ h ∈ hs, v.ownBlock ≠ some h) ∧ (∀ h ∈ hs, base ≤ h ∧ h < w.heap.size) := by
  rcases h with ⟨rfl, rfl, rfl⟩ | h
  · exact ⟨[], ⟨rfl, .inl ⟨rfl, rfl⟩⟩, (fun i h => absurd h (Nat.not_lt_zero _)), rfl, List.nodup_nil, (fun h hh => by cases hh), (fun h hh => by cases hh)⟩
  · obtain ⟨nz, ⟨vs, row, hc⟩, len, le, apart, off, low⟩ := h
    exact ⟨vs, row, hc, len, apart, off, low⟩
theorem RAns.block {w : World} {base : Nat} {v : Value} {hs : List Nat} {l : List (List Int)} (h : RAns w base v hs l) : ∀ k, v.ownBlock = some k → base ≤ k ∧ k < w.heap.size := by
  obtain ⟨cs, row, _⟩ := h.parts; exact row.lt
theorem RAns.low {w : World} {base : Nat} {v : Value} {hs : List Nat} {l : List (List Int)} (h : RAns w base v hs l) : ∀ k ∈ hs, base ≤ k ∧ k < w.heap.size := by
  obtain ⟨cs, _, _, _, _, _, h⟩ := h.parts; exact h
theorem RAns.grow {w : World} {base : Nat} {v : Value} {hs : List Nat} {l : List (List Int)} (h : RAns w base v hs l) (x : List Int) (q c : Nat) (hq : base ≤ q) (hql : q < w.heap.size) (hqn : q ∉ hs) (hqg : v.ownBlock ≠ some q) (ho : OwnN w base (.slice (some ⟨q, 0, none⟩) x.length c) x) :
    ∃ vs, w.ownsRow base 29 1 v l.length vs ∧ ∀ v' w', w'.ownsRow base 29 1 v' (l.length + 1) (vs ++ [.slice (some ⟨q, 0, none⟩) x.length c]) → v' ≠ .slice none 0 0 → w.grownBy w' v.ownBlock → (v'.ownBlock = v.ownBlock ∨ v'.ownBlock = some w.heap.size) → RAns w' base v' (hs ++ [q]) (l ++ [x]) := by
  obtain ⟨vs, row, hc, len, apart, off, low⟩ := h.parts
  have hvl : vs.length = l.length := by have := row.1; omega
  refine ⟨vs, row, fun v' w' r nz g at' => .inr ?_⟩
  have hnew : ∀ b, b < w.heap.size → v.ownBlock ≠ some b → v'.ownBlock ≠ some b ∧ w'.heap[b]? = w.heap[b]? := fun b hb hne => by
    refine ⟨fun e => ?_, g.block b hb (fun e => hne e.symm)⟩
    rcases at' with h4 | h4
    · exact hne (h4.symm.trans e)
    · rw [h4] at e; have := Option.some.inj e; omega
  refine ⟨nz, ⟨_, (by rw [List.length_append]; exact r), fun i hi1 hi2 => ?_⟩, by simp [len], Nat.le_refl _, ?_, fun h hh => ?_, fun h hh => ?_⟩
  · simp only [List.length_append, List.length_singleton] at hi1 hi2
    by_cases e : i < l.length
    · obtain ⟨cp, h1, h2⟩ := hc i e (by omega)
      have hm : hs[i] ∈ hs := List.getElem_mem (by omega)
      have hn := (hnew hs[i] (low _ hm).2 (off _ hm)).2
      refine ⟨cp, ?_, ?_⟩
      · rw [List.getElem?_append_left (by omega), List.getElem_append_left e, List.getElem_append_left (by omega)]; exact h1
      · simp only [List.getElem_append_left e, List.getElem_append_left (show i < hs.length by omega)]
        exact h2.kept (fun b _ _ hb => by simp [Value.ownBlock] at hb; rw [← hb]; exact hn)
    · have e' : i = l.length := by omega
      subst e'
      refine ⟨c, ?_, ?_⟩
      · rw [List.getElem?_append_right (by omega), List.getElem_append_right (by omega), List.getElem_append_right (by omega)]
        simp [len, hvl]
      · simp only [List.getElem_append_right (Nat.le_refl _), Nat.sub_self, List.getElem_cons_zero]
        have e1 : (hs ++ [q])[l.length]'(by simp [len]) = q := by rw [List.getElem_append_right (by omega)]; simp [len]
        rw [e1]
        exact ho.kept (fun b _ _ hb => by simp [Value.ownBlock] at hb; rw [← hb]; exact (hnew q hql hqg).2)
  · rw [List.nodup_append]
    exact ⟨apart, by simp, fun a ha b hb e => hqn (by simp at hb; rw [← hb, ← e]; exact ha)⟩
  · rcases List.mem_append.1 hh with hh | hh
    · exact (hnew h (low h hh).2 (off h hh)).1
    · simp at hh; rw [hh]; exact (hnew q hql hqg).1
  · have hz := g.size
    rcases List.mem_append.1 hh with hh | hh
    · exact ⟨(low h hh).1, Nat.lt_of_lt_of_le (low h hh).2 hz⟩
    · simp at hh; rw [hh]; exact ⟨hq, Nat.lt_of_lt_of_le hql hz⟩
/-- 'append' of one row of numbers inside a region that draws its order. -/
theorem step_prow {ops : Array Oper} {o : Oper} {a : Act} {w : World} {K : Act → World → Prop} {Q : Exit → Act → World → Prop} {E : Prop} (hgd : o.guard = none) (s x : Operand)
    (ho : o.op = .call { callee := .builtin .append, args := #[s, x], argTypes := #[24, 24] })
    (base : Nat) (v : Value) (hs : List Nat) (l : List (List Int)) (hse : a.eval s = v) (hown : RAns w base v hs l)
    (ad : Addr) (c : Nat) (hx : a.eval x = .slice (some ad) 1 c) (y : List Int) (q cq : Nat) (hc : ∀ j u, ([.slice (some ⟨q, 0, none⟩) y.length cq] : List Value)[j]? = some u → w.cell? (ad.add j) = some u)
    (hq : base ≤ q) (hql : q < w.heap.size) (hqn : q ∉ hs) (hqg : v.ownBlock ≠ some q) (hoo : OwnN w base (.slice (some ⟨q, 0, none⟩) y.length cq) y) (hn : l.length + 1 ≤ 1048577) (hbase : base ≤ w.heap.size)
    (h : ∀ g cap w', RAns w' base (.slice (some ⟨g, 0, none⟩) (l ++ [y]).length cap) (hs ++ [q]) (l ++ [y]) → w.grownBy w' v.ownBlock → K (a.put o.dst (.slice (some ⟨g, 0, none⟩) (l.length + 1) cap)) w') :
    if Region.wanted o (yielded ops a.tmps) = true then Oper.wp Try.prog o a w K Q else E := by
  obtain ⟨i, hi0, hz0, hz1, hz2⟩ := info_parts ints_info
  obtain ⟨vs, row, hgrow⟩ := hown.grow y q cq hq hql hqn hqg hoo
  refine step_append_lies w hgd s x 24 ho base 29 i _ 1 24 Try.underlying24 hi0 hz0 hz1 hz2 rfl (by omega) v l.length vs hse row ad 1 c [.slice (some ⟨q, 0, none⟩) y.length cq] hx rfl hc (by simp [Value.oneCell']) (by omega) (by unfold maxLen; omega) (by omega) hbase _ rfl ?_
  intro g cap w' h1 h2 h3 h4
  refine h g cap w' ?_ h2
  have := hgrow _ w' h1 (fun e => by simp at e) h2 (by
    rcases h3 with h3 | h3
    · exact .inl h3.symm
    · exact .inr (by rw [h3]; rfl))
  simpa using this
theorem cell_row (w : World) (u : Value) (t : TypeId) : ∀ j x, ([u] : List Value)[j]? = some x → (w.alloc (.cells #[u] t)).cell? ((⟨w.heap.size, 0, none⟩ : Addr).add j) = some x := by
  intro j x hj
  match j with
  | 0 => simp at hj; subst hj; simp [Addr.add, go_sem]
  | j + 1 => simp at hj

/-- The cert of a sure chain. -/
def certOf (l : List Vt) (m : List It) : Ct := ⟨m.take (finN m + 1), [forL l (m.take (finN m - 1)), forL l (m.take (finN m)), forL l (m.take (finN m + 1))]⟩
/-- What CertOf answers. -/
def certL (l : List Vt) : Ct × Bool := if votesB l = true ∧ 0 < (mostF (allS l)).2 then (certOf l (mostF (allS l)).1, true) else (⟨[], []⟩, false)
theorem forL_cnt {l : List Vt} (h : votesB l = true) (c : List It) : (forL l c).length = cnt l c := by
  unfold forL
  rw [if_pos h]
  exact forN_count l.length l c rfl h
theorem forL_le (l : List Vt) (c : List It) : (forL l c).length ≤ 4 := by
  unfold forL; split
  · exact forN_len l c
  · simp
theorem most_parts {l : List Vt} (h : 0 < (mostF (allS l)).2) : (mostF (allS l)).1 ∈ allS l ∧ (mostF (allS l)).2 = finN (mostF (allS l)).1 ∧ 2 ≤ finN (mostF (allS l)).1 ∧ finN (mostF (allS l)).1 < (mostF (allS l)).1.length := by
  rcases mostF_is (allS l) with h0 | ⟨h1, h2⟩
  · omega
  · have h3 : 0 < finN (mostF (allS l)).1 := by omega
    exact ⟨h1, h2, finN_two h3, (finN_is h3).1⟩
theorem certOf_by {l : List Vt} (hv : votesB l = true) {m : List It} (hm : m ∈ allS l) (h2 : 2 ≤ finN m) (h3 : finN m < m.length) : ∀ x ∈ (certOf l m).b, 3 ≤ x.length ∧ x.length ≤ 4 := by
  have hs := (allS_mem.1 hm).2
  have key : ∀ k, 0 < k → k ≤ m.length → 3 ≤ (forL l (m.take k)).length ∧ (forL l (m.take k)).length ≤ 4 := fun k h1 h2 => ⟨by rw [forL_cnt hv]; exact sureF_at hs h1 h2, forL_le _ _⟩
  intro x hx
  simp only [certOf, List.mem_cons, List.not_mem_nil, or_false] at hx
  rcases hx with rfl | rfl | rfl
  · exact key _ (by omega) (by omega)
  · exact key _ (by omega) (by omega)
  · exact key _ (by omega) (by omega)

set_option linter.unusedVariables false
open Go.RowKit
attribute [local simp] far_const

/-- The two cells of a cert in a box that can be written. -/
def Box2 (w : World) (b : Nat) (u v : Value) : Prop := CtAt w b u v ∧ w.frozen? ⟨b, 0, none⟩ = false ∧ w.frozen? ⟨b, 1, none⟩ = false
theorem Box2.box (w : World) (u v : Value) (t : TypeId) : Box2 (w.alloc (.cells #[u, v] t)) w.heap.size u v := ⟨CtAt.box w u v t, by simp [go_sem], by simp [go_sem]⟩
theorem Box2.grew {w w' : World} {b : Nat} {u v : Value} (h : Box2 w b u v) (g : Grew w w') : Box2 w' b u v := ⟨h.1.grew g, g.frozen h.1.1 h.2.1, g.frozen h.1.2 h.2.2⟩
theorem Box2.grown {w w' : World} {b : Nat} {u v : Value} {row : Option Nat} (h : Box2 w b u v) (g : w.grownBy w' row) (hne : row ≠ some b) : Box2 w' b u v := by
  have hlt : b < w.heap.size := World.block_lt_of_cell? _ _ h.1.1
  have e := g.block b hlt (fun e => hne e.symm)
  exact ⟨⟨by rw [World.cell?_of_block (w := w) e]; exact h.1.1, by rw [World.cell?_of_block (w := w) e]; exact h.1.2⟩, by rw [World.frozen?_of_block (w := w) e]; exact h.2.1, by rw [World.frozen?_of_block (w := w) e]; exact h.2.2⟩
theorem Box2.set1 {w : World} {b : Nat} {u v : Value} (h : Box2 w b u v) (x : Value) : Box2 (w.setCell ⟨b, 1, none⟩ x) b u x := by
  obtain ⟨⟨h0, h1⟩, h2, h3⟩ := h
  refine ⟨⟨?_, ?_⟩, ?_, ?_⟩ <;> simp [go_sem, h0, h1, h2, h3]
theorem Box2.lt {w : World} {b : Nat} {u v : Value} (h : Box2 w b u v) : b < w.heap.size := World.block_lt_of_cell? _ _ h.1.1
theorem implVotesFor_q {v : Value} {l : List Vt} (b : Option Addr) (cb n : Nat) (c : List It) (hcn : c.length = n) (f : List Int) (hf : forL l c = f) (hne : 0 < f.length) (w : World) (h : VtsV w v l) (hs : Short l) (hn : l.length ≤ 1048576) (hc : Its w b c) (hnc : n ≤ 1048576) :
    Calls Try.prog 64 #[v, .slice b n cb] w fun r w' => ∃ q cq, r = .returned (.slice (some ⟨q, 0, none⟩) f.length cq) ∧ OwnN w' w.heap.size (.slice (some ⟨q, 0, none⟩) f.length cq) f ∧ (w.heap.size ≤ q ∧ q < w'.heap.size) ∧ Grew w w' := by
  subst hcn hf
  refine (implVotesFor_v b cb c w h hs hn hc hnc).mono ?_
  rintro r w1 ⟨u, rfl, hu, g⟩
  rcases hu with ⟨_, h0⟩ | hu
  · rw [h0] at hne; exact absurd hne (Nat.lt_irrefl _)
  · obtain ⟨q, cq, rfl, _, h1, h2, _, _⟩ := hu.shape
    exact ⟨q, cq, rfl, hu, ⟨h1, h2⟩, g⟩
theorem certL_no {l : List Vt} (h : ¬ (votesB l = true ∧ 0 < (mostF (allS l)).2)) : certL l = (⟨[], []⟩, false) := by unfold certL; rw [if_neg h]
theorem certL_yes {l : List Vt} (hv : votesB l = true) (h : 0 < (mostF (allS l)).2) : certL l = (certOf l (mostF (allS l)).1, true) := by unfold certL; rw [if_pos ⟨hv, h⟩]
def preR (x y z : List Int) : Nat → List (List Int)
  | 0 => []
  | 1 => [x]
  | 2 => [x, y]
  | _ => [x, y, z]

set_option maxRecDepth 20000 in
set_option maxHeartbeats 8000000 in
theorem implCertOf (a : Option Addr) (cap : Nat) (l : List Vt) (w : World) (hl : Vts w a l) (hcap : l.length ≤ cap) (hs : Short l) (hn : l.length ≤ 1048576) :
    Calls Try.prog 18 #[.slice a l.length cap] w fun r w' => ∃ u v, r = .returned (.tuple #[.agg #[u, v], .bool (certL l).2]) ∧ CAns w' w.heap.size u v (certL l).1 ∧ Grew w w' := by
  have hT := fun W => hide (fun (g : Grew w W) => treeOf_any a cap l W (hl.grew g) hs hn)
  unfold ptr at hT
  have HL := hide hl
  have HS := hide hs
  clear hl hs
  go_enter Try.func18, Try.ntmps18
  go_wp2_with fail
  refine (unhide (hT _) ((Grew.refl _).alloc _)).mono ?_
  clear hT
  rintro r w1 ⟨(⟨hv, tb, base, rfl, ⟨M, pos, kv, kd, cv, hF, hM⟩, hb1, hb2⟩ | ⟨hv, rfl⟩), g1⟩
  · obtain ⟨r, hr⟩ := firstsL_head l
    have R0 := hide ((Box2.box w (.slice none 0 0) (.slice none 0 0) 26).grew g1)
    have G1 := hide (((Grew.refl w).alloc _).trans g1)
    have hX := mostFinal_any hF hr (by have := firstsL_len l; omega) (unhide HS).firsts
    unfold ptr at hX
    rw [show (firstsL l).filter (sureF (cnt l)) = allS l from rfl] at hX
    have HF := hide hF
    have HMM := hide ((unhide HF).mem _ (mostF_firsts l))
    have HSH := hide ((unhide HS).firsts _ (mostF_firsts l))
    have HP := hide (most_parts (l := l))
    have HY := hide (certL_yes hv)
    have HN := hide (certL_no (l := l))
    have HB := hide (fun m (h : m ∈ allS l) => certOf_by hv h)
    obtain ⟨m, hm⟩ : ∃ m, (mostF (allS l)).1 = m := ⟨_, rfl⟩
    obtain ⟨s, hsz⟩ : ∃ s, (mostF (allS l)).2 = s := ⟨_, rfl⟩
    rw [hm, hsz] at hX HP
    rw [hm] at HMM HSH
    rw [hm, hsz] at HY
    rw [hsz] at HN
    have hX := hide hX
    clear hF hM hb1 hb2 hr g1 hm hsz
    go_wp2_with fail
    refine (unhide hX).mono ?_
    clear hX
    rintro rr w2 ⟨rfl, g2⟩
    have R0 := hide ((unhide R0).grew g2)
    have G2 := hide ((unhide G1).trans g2)
    have HF := hide ((unhide HF).grew g2)
    clear g2 G1
    by_cases hs0 : s = 0
    · have he : Hid (certL l = (⟨[], []⟩, false)) := unhide HN (by omega)
      subst hs0
      obtain ⟨⟨r0, r1⟩, z0, z1⟩ := unhide R0
      clear HP HY HN HB
      go_wp2
      refine bodyPost_ret (by simp [results, Try.results18, go_sem, r0, r1]; try rfl) rfl ?_
      refine ⟨_, _, by rw [he.out], .inl ⟨rfl, rfl, by rw [he.out]⟩, ?_⟩
      exact ((unhide G2).setCell (p := ⟨w.heap.size, 0, none⟩) (Nat.le_refl _) _).setCell (p := ⟨w.heap.size, 1, none⟩) (Nat.le_refl _) _
    · obtain ⟨hma, hse, hs2, hsl⟩ := unhide HP (by omega)
      rw [← hse] at hs2 hsl
      have he : Hid (certL l = (certOf l m, true)) := unhide HY (by omega)
      obtain ⟨p, rfl⟩ : ∃ p, s = p + 2 := ⟨s - 2, by omega⟩
      have hby := unhide HB m hma (by omega) (by omega)
      have hml := HSH.out
      have hD : Hid ((m.take (p + 3)).length = p + 3) := by show (m.take (p + 3)).length = p + 3; rw [List.length_take]; omega
      have hct : Hid (certOf l m = ⟨m.take (p + 3), [forL l (m.take (p + 1)), forL l (m.take (p + 2)), forL l (m.take (p + 3))]⟩) := by
        show certOf l m = _; unfold certOf; rw [← hse]; rfl
      obtain ⟨f0, hf0⟩ : ∃ f, forL l (m.take (p + 1)) = f := ⟨_, rfl⟩
      obtain ⟨f1, hf1⟩ : ∃ f, forL l (m.take (p + 2)) = f := ⟨_, rfl⟩
      obtain ⟨f2, hf2⟩ : ∃ f, forL l (m.take (p + 3)) = f := ⟨_, rfl⟩
      rw [unhide hct] at hby
      rw [hf0, hf1, hf2] at hct hby
      have y0 := hby f0 (by simp)
      have y1 := hby f1 (by simp)
      have y2 := hby f2 (by simp)
      have hY := beginning_any (unhide HF) _ (unhide HMM) (unhide HSH) (p + 3) (by omega)
      unfold ptr at hY
      have hpb : p + 3 ≤ 1048576 := by omega
      have hin : ((p + 3 : Nat) : Int) = (p : Int) + 2 + 1 := by omega
      rw [hin] at hY
      have hY := hide hY
      have K0 : Hid (∀ W, Grew w W → ∀ g, Its W (some ⟨g, 0, none⟩) (m.take (p + 3)) → Calls Try.prog 64 #[.slice a l.length cap, .slice (some ⟨g, 0, none⟩) (p + 1) (p + 3)] W fun r w' => ∃ q cq, r = .returned (.slice (some ⟨q, 0, none⟩) f0.length cq) ∧ OwnN w' W.heap.size (.slice (some ⟨q, 0, none⟩) f0.length cq) f0 ∧ (W.heap.size ≤ q ∧ q < w'.heap.size) ∧ Grew W w') :=
        hide (fun W gr g hi => implVotesFor_q _ _ _ (m.take (p + 1)) (by rw [List.length_take]; omega) f0 hf0 (by omega) W ⟨a, cap, rfl, hcap, (unhide HL).grew gr⟩ (unhide HS) hn (by have := hi.take (p + 1); rwa [List.take_take, Nat.min_eq_left (by omega)] at this) (by omega))
      have K1 : Hid (∀ W, Grew w W → ∀ g, Its W (some ⟨g, 0, none⟩) (m.take (p + 3)) → Calls Try.prog 64 #[.slice a l.length cap, .slice (some ⟨g, 0, none⟩) (p + 2) (p + 3)] W fun r w' => ∃ q cq, r = .returned (.slice (some ⟨q, 0, none⟩) f1.length cq) ∧ OwnN w' W.heap.size (.slice (some ⟨q, 0, none⟩) f1.length cq) f1 ∧ (W.heap.size ≤ q ∧ q < w'.heap.size) ∧ Grew W w') :=
        hide (fun W gr g hi => implVotesFor_q _ _ _ (m.take (p + 2)) (by rw [List.length_take]; omega) f1 hf1 (by omega) W ⟨a, cap, rfl, hcap, (unhide HL).grew gr⟩ (unhide HS) hn (by have := hi.take (p + 2); rwa [List.take_take, Nat.min_eq_left (by omega)] at this) (by omega))
      have K2 : Hid (∀ W, Grew w W → ∀ g, Its W (some ⟨g, 0, none⟩) (m.take (p + 3)) → Calls Try.prog 64 #[.slice a l.length cap, .slice (some ⟨g, 0, none⟩) (p + 3) (p + 3)] W fun r w' => ∃ q cq, r = .returned (.slice (some ⟨q, 0, none⟩) f2.length cq) ∧ OwnN w' W.heap.size (.slice (some ⟨q, 0, none⟩) f2.length cq) f2 ∧ (W.heap.size ≤ q ∧ q < w'.heap.size) ∧ Grew W w') :=
        hide (fun W gr g hi => implVotesFor_q _ _ _ (m.take (p + 3)) (unhide hD) f2 hf2 (by omega) W ⟨a, cap, rfl, hcap, (unhide HL).grew gr⟩ (unhide HS) hn hi hpb)
      clear HP HY HN HB hma hse hs2 hsl hby hf0 hf1 hf2 HMM hml hin
      obtain ⟨D, hDD⟩ : ∃ D, m.take (p + 3) = D := ⟨_, rfl⟩
      rw [hDD] at hD hct hY K0 K1 K2
      clear hDD HSH
      go_wp2_with fail
      refine (unhide hY).mono ?_
      clear hY
      rintro rr w3 ⟨vd, rfl, hfr, g3⟩
      obtain ⟨g, rfl, hg2, hig, hog⟩ := hfr
      have hgl := hog.lt
      rw [unhide hD]
      have HI := hide hig
      have HO : Hid (Own w3 g (p + 3)) := by have := hog; rw [unhide hD] at this; exact this
      have R0' := hide (unhide R0)
      have R0 := hide ((unhide R0).grew g3)
      have G3 := hide ((unhide G2).trans g3)
      have hgg := hide (And.intro (Nat.le_trans (unhide G2).size hg2) hgl)
      have R0lt : Hid (w.heap.size < g) := hide (Nat.lt_of_lt_of_le (unhide R0').lt hg2)
      clear hig hog hg2 hgl g3 G2 HF
      have X4 := hide (Box2.box w3 (.slice (some ⟨g, 0, none⟩) (p + 3) (p + 3)) (.slice none 0 0) 26)
      obtain ⟨⟨x0, x1⟩, _⟩ := unhide X4
      go_wp2_with fail
      refine (lastChains_any (some ⟨g, 0, none⟩) p (p + 3) _ (Nat.le_refl _) hpb).mono ?_
      rintro rr w4 ⟨rfl, g4⟩
      have X4 := hide ((unhide X4).grew g4)
      have G4 : Hid (Grew w3 w4) := hide (((Grew.refl w3).alloc _).trans g4)
      clear x0 x1 g4
      have i0 : ∀ W : World, (Instr.index 99 (.agg #[.slice (some ⟨g, 0, none⟩) (p + 1) (p + 3), .slice (some ⟨g, 0, none⟩) (p + 2) (p + 3), .slice (some ⟨g, 0, none⟩) (p + 3) (p + 3)]) (.int .i64 0)).run Try.prog W = .ok (.slice (some ⟨g, 0, none⟩) (p + 1) (p + 3)) W := fun _ => by kernel_rfl
      have i1 : ∀ W : World, (Instr.index 99 (.agg #[.slice (some ⟨g, 0, none⟩) (p + 1) (p + 3), .slice (some ⟨g, 0, none⟩) (p + 2) (p + 3), .slice (some ⟨g, 0, none⟩) (p + 3) (p + 3)]) (.int .i64 1)).run Try.prog W = .ok (.slice (some ⟨g, 0, none⟩) (p + 2) (p + 3)) W := fun _ => by kernel_rfl
      have i2 : ∀ W : World, (Instr.index 99 (.agg #[.slice (some ⟨g, 0, none⟩) (p + 1) (p + 3), .slice (some ⟨g, 0, none⟩) (p + 2) (p + 3), .slice (some ⟨g, 0, none⟩) (p + 3) (p + 3)]) (.int .i64 2)).run Try.prog W = .ok (.slice (some ⟨g, 0, none⟩) (p + 3) (p + 3)) W := fun _ => by kernel_rfl
      go_wp2_with fail
      go_loopw [10, 35] (fun ch i wr => ∃ (k : Nat) (bv : Value) (hr : List Nat), k ≤ 3 ∧ i = .int .i64 k ∧ Hid (RAns wr (w3.heap.size + 1) bv hr (preR f0 f1 f2 k)) ∧ Hid (Box2 wr w3.heap.size (.slice (some ⟨g, 0, none⟩) (p + 3) (p + 3)) bv) ∧ Hid (Grew w3 wr)) (fun _ i _ => 3 - (intOf i).toNat)
      case atStart => exact ⟨0, .slice none 0 0, [], by omega, rfl, hide (.inl ⟨rfl, rfl, rfl⟩), X4, G4⟩
      case round =>
        clear X4 G4
        obtain ⟨k, bv, hr, hk, rfl, hp, X, gg⟩ := hrel
        match k, hk with
        | 0, _ =>
          obtain ⟨⟨x0, x1⟩, z0, z1⟩ := unhide X
          have hlow := hide (unhide hp).low
          have hblk := hide (unhide hp).block
          have hsz := hide (unhide gg).size
          have GW := hide ((unhide G3).trans (unhide gg))
          have HIW := hide ((unhide HI).grew (unhide gg))
          have hxl := hide (unhide X).lt
          go_wp2_with fail
          go_region_law (first
            | (go_simp; go_at_call 64; refine (unhide K0 _ (unhide GW).drew g ((unhide HIW).grew (Grew.refl _).drew)).mono ?_; rintro r w5 ⟨q, cq, rfl, o5, hq, g5⟩; have X5 := (unhide X).grew ((Grew.refl _).drew.trans g5); have hq1 : wr.heap.size ≤ q := hq.1; have hq2 := hq.2; obtain ⟨⟨y0, y1⟩, u0, u1⟩ := X5; have y1o := fun o => cellOld o y1)
            | ((with_reducible refine at_ite ?_); refine step_prow rfl _ _ rfl (w3.heap.size + 1) bv hr (preR f0 f1 f2 0) rfl ((unhide hp).grew (((Grew.refl _).drew.trans g5).alloc _)) ⟨w5.heap.size, 0, none⟩ 1 rfl f0 q cq (cell_row _ _ _) (by have := unhide hxl; omega) (by simp; omega) (fun hm => by have := (unhide hlow q hm).2; omega) (fun e => by have := (unhide hblk q e).2; omega) ((o5.grew ((Grew.refl _).alloc _)).low (show w3.heap.size + 1 ≤ wr.drew.heap.size from unhide hxl)) (by simp [preR]) (by have := unhide hxl; simp; omega) ?_; intro gn cn w6 o6 g6; have X6 := (((unhide X).grew ((Grew.refl _).drew.trans g5)).grew ((Grew.refl _).alloc (.cells #[.slice (some ⟨q, 0, none⟩) f0.length cq] 29))).grown g6 (fun e => by have := (unhide hblk _ e).1; omega); obtain ⟨⟨v0, v1⟩, t0, t1⟩ := X6))
          all_goals
            have R7 : Hid (RAns (w6.setCell ⟨w3.heap.size, 1, none⟩ (.slice (some ⟨gn, 0, none⟩) 1 cn)) (w3.heap.size + 1) (.slice (some ⟨gn, 0, none⟩) 1 cn) (hr ++ [q]) (preR f0 f1 f2 1)) :=
              hide (RAns.kept (w := w6) (show RAns w6 (w3.heap.size + 1) (.slice (some ⟨gn, 0, none⟩) 1 cn) (hr ++ [q]) (preR f0 f1 f2 1) from o6) (by simp [World.setCell]) (fun b hb _ => Below.heap_setCell _ _ _ _ (by show b ≠ w3.heap.size; omega)))
            have X7 : Hid (Box2 (w6.setCell ⟨w3.heap.size, 1, none⟩ (.slice (some ⟨gn, 0, none⟩) 1 cn)) w3.heap.size (.slice (some ⟨g, 0, none⟩) (p + 3) (p + 3)) (.slice (some ⟨gn, 0, none⟩) 1 cn)) := hide (Box2.set1 ⟨⟨v0, v1⟩, t0, t1⟩ _)
            have G7 : Hid (Grew w3 (w6.setCell ⟨w3.heap.size, 1, none⟩ (.slice (some ⟨gn, 0, none⟩) 1 cn))) := hide (((((unhide gg).drew.trans g5).alloc (.cells #[.slice (some ⟨q, 0, none⟩) f0.length cq] 29)).grown g6 (fun b hb => by have := (unhide hblk b hb).1; omega)).setCell (p := ⟨w3.heap.size, 1, none⟩) (Nat.le_refl _) _)
            clear o6 g6 g5 o5 hp X gg hlow hblk hsz GW HIW v0 v1 t0 t1 y0 y1 u0 u1 y1o x0 x1 z0 z1 hxl
            go_wp2
            go_roundw
            case rel => exact ⟨1, _, hr ++ [q], by omega, by go_num, R7, X7, G7⟩
            case measure => simp [intOf]
        | 1, _ =>
          obtain ⟨⟨x0, x1⟩, z0, z1⟩ := unhide X
          have hlow := hide (unhide hp).low
          have hblk := hide (unhide hp).block
          have hsz := hide (unhide gg).size
          have GW := hide ((unhide G3).trans (unhide gg))
          have HIW := hide ((unhide HI).grew (unhide gg))
          have hxl := hide (unhide X).lt
          go_wp2_with fail
          go_region_law (first
            | (go_simp; go_at_call 64; refine (unhide K1 _ (unhide GW).drew g ((unhide HIW).grew (Grew.refl _).drew)).mono ?_; rintro r w5 ⟨q, cq, rfl, o5, hq, g5⟩; have X5 := (unhide X).grew ((Grew.refl _).drew.trans g5); have hq1 : wr.heap.size ≤ q := hq.1; have hq2 := hq.2; obtain ⟨⟨y0, y1⟩, u0, u1⟩ := X5; have y1o := fun o => cellOld o y1)
            | ((with_reducible refine at_ite ?_); refine step_prow rfl _ _ rfl (w3.heap.size + 1) bv hr (preR f0 f1 f2 1) rfl ((unhide hp).grew (((Grew.refl _).drew.trans g5).alloc _)) ⟨w5.heap.size, 0, none⟩ 1 rfl f1 q cq (cell_row _ _ _) (by have := unhide hxl; omega) (by simp; omega) (fun hm => by have := (unhide hlow q hm).2; omega) (fun e => by have := (unhide hblk q e).2; omega) ((o5.grew ((Grew.refl _).alloc _)).low (show w3.heap.size + 1 ≤ wr.drew.heap.size from unhide hxl)) (by simp [preR]) (by have := unhide hxl; simp; omega) ?_; intro gn cn w6 o6 g6; have X6 := (((unhide X).grew ((Grew.refl _).drew.trans g5)).grew ((Grew.refl _).alloc (.cells #[.slice (some ⟨q, 0, none⟩) f1.length cq] 29))).grown g6 (fun e => by have := (unhide hblk _ e).1; omega); obtain ⟨⟨v0, v1⟩, t0, t1⟩ := X6))
          all_goals
            have R7 : Hid (RAns (w6.setCell ⟨w3.heap.size, 1, none⟩ (.slice (some ⟨gn, 0, none⟩) 2 cn)) (w3.heap.size + 1) (.slice (some ⟨gn, 0, none⟩) 2 cn) (hr ++ [q]) (preR f0 f1 f2 2)) :=
              hide (RAns.kept (w := w6) (show RAns w6 (w3.heap.size + 1) (.slice (some ⟨gn, 0, none⟩) 2 cn) (hr ++ [q]) (preR f0 f1 f2 2) from o6) (by simp [World.setCell]) (fun b hb _ => Below.heap_setCell _ _ _ _ (by show b ≠ w3.heap.size; omega)))
            have X7 : Hid (Box2 (w6.setCell ⟨w3.heap.size, 1, none⟩ (.slice (some ⟨gn, 0, none⟩) 2 cn)) w3.heap.size (.slice (some ⟨g, 0, none⟩) (p + 3) (p + 3)) (.slice (some ⟨gn, 0, none⟩) 2 cn)) := hide (Box2.set1 ⟨⟨v0, v1⟩, t0, t1⟩ _)
            have G7 : Hid (Grew w3 (w6.setCell ⟨w3.heap.size, 1, none⟩ (.slice (some ⟨gn, 0, none⟩) 2 cn))) := hide (((((unhide gg).drew.trans g5).alloc (.cells #[.slice (some ⟨q, 0, none⟩) f1.length cq] 29)).grown g6 (fun b hb => by have := (unhide hblk b hb).1; omega)).setCell (p := ⟨w3.heap.size, 1, none⟩) (Nat.le_refl _) _)
            clear o6 g6 g5 o5 hp X gg hlow hblk hsz GW HIW v0 v1 t0 t1 y0 y1 u0 u1 y1o x0 x1 z0 z1 hxl
            go_wp2
            go_roundw
            case rel => exact ⟨2, _, hr ++ [q], by omega, by go_num, R7, X7, G7⟩
            case measure => simp [intOf]
        | 2, _ =>
          obtain ⟨⟨x0, x1⟩, z0, z1⟩ := unhide X
          have hlow := hide (unhide hp).low
          have hblk := hide (unhide hp).block
          have hsz := hide (unhide gg).size
          have GW := hide ((unhide G3).trans (unhide gg))
          have HIW := hide ((unhide HI).grew (unhide gg))
          have hxl := hide (unhide X).lt
          go_wp2_with fail
          go_region_law (first
            | (go_simp; go_at_call 64; refine (unhide K2 _ (unhide GW).drew g ((unhide HIW).grew (Grew.refl _).drew)).mono ?_; rintro r w5 ⟨q, cq, rfl, o5, hq, g5⟩; have X5 := (unhide X).grew ((Grew.refl _).drew.trans g5); have hq1 : wr.heap.size ≤ q := hq.1; have hq2 := hq.2; obtain ⟨⟨y0, y1⟩, u0, u1⟩ := X5; have y1o := fun o => cellOld o y1)
            | ((with_reducible refine at_ite ?_); refine step_prow rfl _ _ rfl (w3.heap.size + 1) bv hr (preR f0 f1 f2 2) rfl ((unhide hp).grew (((Grew.refl _).drew.trans g5).alloc _)) ⟨w5.heap.size, 0, none⟩ 1 rfl f2 q cq (cell_row _ _ _) (by have := unhide hxl; omega) (by simp; omega) (fun hm => by have := (unhide hlow q hm).2; omega) (fun e => by have := (unhide hblk q e).2; omega) ((o5.grew ((Grew.refl _).alloc _)).low (show w3.heap.size + 1 ≤ wr.drew.heap.size from unhide hxl)) (by simp [preR]) (by have := unhide hxl; simp; omega) ?_; intro gn cn w6 o6 g6; have X6 := (((unhide X).grew ((Grew.refl _).drew.trans g5)).grew ((Grew.refl _).alloc (.cells #[.slice (some ⟨q, 0, none⟩) f2.length cq] 29))).grown g6 (fun e => by have := (unhide hblk _ e).1; omega); obtain ⟨⟨v0, v1⟩, t0, t1⟩ := X6))
          all_goals
            have R7 : Hid (RAns (w6.setCell ⟨w3.heap.size, 1, none⟩ (.slice (some ⟨gn, 0, none⟩) 3 cn)) (w3.heap.size + 1) (.slice (some ⟨gn, 0, none⟩) 3 cn) (hr ++ [q]) (preR f0 f1 f2 3)) :=
              hide (RAns.kept (w := w6) (show RAns w6 (w3.heap.size + 1) (.slice (some ⟨gn, 0, none⟩) 3 cn) (hr ++ [q]) (preR f0 f1 f2 3) from o6) (by simp [World.setCell]) (fun b hb _ => Below.heap_setCell _ _ _ _ (by show b ≠ w3.heap.size; omega)))
            have X7 : Hid (Box2 (w6.setCell ⟨w3.heap.size, 1, none⟩ (.slice (some ⟨gn, 0, none⟩) 3 cn)) w3.heap.size (.slice (some ⟨g, 0, none⟩) (p + 3) (p + 3)) (.slice (some ⟨gn, 0, none⟩) 3 cn)) := hide (Box2.set1 ⟨⟨v0, v1⟩, t0, t1⟩ _)
            have G7 : Hid (Grew w3 (w6.setCell ⟨w3.heap.size, 1, none⟩ (.slice (some ⟨gn, 0, none⟩) 3 cn))) := hide (((((unhide gg).drew.trans g5).alloc (.cells #[.slice (some ⟨q, 0, none⟩) f2.length cq] 29)).grown g6 (fun b hb => by have := (unhide hblk b hb).1; omega)).setCell (p := ⟨w3.heap.size, 1, none⟩) (Nat.le_refl _) _)
            clear o6 g6 g5 o5 hp X gg hlow hblk hsz GW HIW v0 v1 t0 t1 y0 y1 u0 u1 y1o x0 x1 z0 z1 hxl
            go_wp2
            go_roundw
            case rel => exact ⟨3, _, hr ++ [q], by omega, by go_num, R7, X7, G7⟩
            case measure => simp [intOf]
        | 3, _ =>
          have hP0 : PRow wr (w3.heap.size + 1) bv hr (preR f0 f1 f2 3).length (preR f0 f1 f2 3) := (unhide hp).resolve_left (fun h => by have := h.2.1; simp [preR] at this)
          obtain ⟨gb, cb, rfl, _, _, _⟩ := hP0.shape
          have hP : Hid (PRow wr (w3.heap.size + 1) (.slice (some ⟨gb, 0, none⟩) 3 cb) hr 3 [f0, f1, f2]) := hide hP0
          have XX : Hid (Box2 wr w3.heap.size (.slice (some ⟨g, 0, none⟩) (p + 3) (p + 3)) (.slice (some ⟨gb, 0, none⟩) 3 cb)) := X
          clear hP0 hp X
          obtain ⟨⟨x0, x1⟩, _⟩ := unhide XX
          obtain ⟨⟨r0, r1⟩, z0, z1⟩ := (unhide R0).grew (unhide gg)
          have GE := hide ((unhide G3).trans (unhide gg))
          have hAns : Hid (∀ W : World, wr.heap.size ≤ W.heap.size → (∀ b, w.heap.size < b → W.heap[b]? = wr.heap[b]?) → CAns W w.heap.size (.slice (some ⟨g, 0, none⟩) (p + 3) (p + 3)) (.slice (some ⟨gb, 0, none⟩) 3 cb) ⟨D, [f0, f1, f2]⟩) := hide (fun W hz he => by
            have hl1 := (unhide hgg).1
            have hl2 := (unhide hgg).2
            have hl3 := (unhide R0lt)
            have hsz := (unhide gg).size
            refine .inr ⟨g, hr, ?_, hl1, by omega, ?_, ?_, ?_⟩
            · show _ = Value.slice _ D.length D.length; rw [unhide hD]
            · exact ((unhide HI).grew (unhide gg)).block (he g (by omega))
            · show Own W g D.length; rw [unhide hD]; exact ((unhide HO).grew (unhide gg)).block (he g (by omega))
            · exact ((unhide hP).lower (by omega)).kept hz (fun b hb hb2 => he b (by omega)))
          clear hP XX R0 gg
          clear K0 K1 K2 i0 i1 i2 hY hX
          go_wp2
          refine bodyPost_ret (by simp [results, Try.results18, go_sem, r0, r1]; try rfl) rfl ?_
          refine ⟨_, _, by rw [he.out], ?_, ?_⟩
          · rw [he.out]; show CAns _ _ _ _ (certOf l m); rw [hct.out]; exact unhide hAns _ (by simp [World.setCell]) (fun b hb => by rw [Below.heap_setCell _ _ _ _ (by show b ≠ w.heap.size; omega), Below.heap_setCell _ _ _ _ (by show b ≠ w.heap.size; omega)])
          · exact ((unhide GE).setCell (p := ⟨w.heap.size, 0, none⟩) (Nat.le_refl _) _).setCell (p := ⟨w.heap.size, 1, none⟩) (Nat.le_refl _) _
  · have he : Hid (certL l = (⟨[], []⟩, false)) := certL_no (by rw [hv]; simp)
    obtain ⟨⟨r0, r1⟩, z0, z1⟩ := (Box2.box w (.slice none 0 0) (.slice none 0 0) 26).grew g1
    have G1 := hide (((Grew.refl w).alloc _).trans g1)
    clear hv g1
    go_wp2
    refine bodyPost_ret (by simp [results, Try.results18, go_sem, r0, r1]; try rfl) rfl ?_
    refine ⟨_, _, by rw [he.out], .inl ⟨rfl, rfl, by rw [he.out]⟩, ?_⟩
    exact ((unhide G1).setCell (p := ⟨w.heap.size, 0, none⟩) (Nat.le_refl _) _).setCell (p := ⟨w.heap.size, 1, none⟩) (Nat.le_refl _) _

set_option linter.unusedVariables false
open Go.RowKit
attribute [local simp] far_const

theorem most_first (cs : List (List It)) : ∀ k (h : k < cs.length), finN cs[k] = (mostF cs).2 → 0 < (mostF cs).2 → (∀ j (h2 : j < cs.length), j < k → finN cs[j] ≠ (mostF cs).2) → cs[k] = (mostF cs).1 := by
  obtain ⟨n, hn⟩ : ∃ n, cs.length = n := ⟨_, rfl⟩
  induction n generalizing cs with
  | zero => intro k h; omega
  | succ n ih =>
    rcases List.eq_nil_or_concat cs with rfl | ⟨ds, c, rfl⟩
    · simp at hn
    rw [List.concat_eq_append] at hn ⊢
    intro k h he h0 hno
    have hdl : ds.length = n := by simp at hn; exact hn
    rw [mostF_snoc] at he h0 hno ⊢
    simp only [List.length_append, List.length_singleton] at h
    by_cases hk : k < ds.length
    · rw [List.getElem_append_left hk] at he ⊢
      by_cases hm : (mostF ds).2 < finN c
      · rw [if_pos hm] at he
        have := mostF_ge ds _ (List.getElem_mem hk)
        simp only at he; omega
      · rw [if_neg hm] at he h0 hno ⊢
        refine ih ds hdl k hk he h0 (fun j hj hjk => ?_)
        have := hno j (by simp; omega) hjk
        rwa [List.getElem_append_left hj] at this
    · have hke : k = ds.length := by omega
      subst hke
      rw [List.getElem_append_right (Nat.le_refl _)] at he ⊢
      simp only [Nat.sub_self, List.getElem_cons_zero] at he ⊢
      by_cases hm : (mostF ds).2 < finN c
      · rw [if_pos hm]
      · rw [if_neg hm] at he h0 hno ⊢
        rcases mostF_is ds with h1 | ⟨h1, h2⟩
        · omega
        · obtain ⟨j, hj, e⟩ := List.getElem_of_mem h1
          exact absurd (by rw [List.getElem_append_left hj, e, h2]) (hno j (by simp; omega) hj)
theorem most_some (cs : List (List It)) (h : 0 < (mostF cs).2) : ∃ j, ∃ h : j < cs.length, finN cs[j] = (mostF cs).2 := by
  rcases mostF_is cs with h1 | ⟨h1, h2⟩
  · omega
  · obtain ⟨j, hj, e⟩ := List.getElem_of_mem h1
    exact ⟨j, hj, by rw [e, h2]⟩

/-- What CertOf answers by the specification: nothing at all, or a cert of its own; the chain may have room. -/
def CSpec (w : World) (base : Nat) (u v : Value) (x : Ct) : Prop := (u = .slice none 0 0 ∧ v = .slice none 0 0 ∧ x = ⟨[], []⟩) ∨ ∃ q cq hs, u = .slice (some ⟨q, 0, none⟩) x.c.length cq ∧ x.c.length ≤ cq ∧ base ≤ q ∧ q < w.heap.size ∧ Its w (some ⟨q, 0, none⟩) x.c ∧ PRow w (q + 1) v hs x.b.length x.b
theorem CSpec.ctV {w : World} {base : Nat} {u v : Value} {x : Ct} (h : CSpec w base u v x) : CtV w (.agg #[u, v]) x := by
  rcases h with ⟨rfl, rfl, rfl⟩ | ⟨q, cq, hs, rfl, hc, _, _, hi, hp⟩
  · exact ⟨none, 0, none, 0, rfl, Nat.le_refl _, .inl rfl, .inl rfl⟩
  · obtain ⟨g, cp, rfl, _, _, _⟩ := hp.shape
    exact ⟨_, _, _, _, rfl, hc, hi, hp.ints⟩
theorem CSpec.kept {w w' : World} {base : Nat} {u v : Value} {x : Ct} (h : CSpec w base u v x) (hz : w.heap.size ≤ w'.heap.size) (e : ∀ g, base ≤ g → g < w.heap.size → w'.heap[g]? = w.heap[g]?) : CSpec w' base u v x := by
  rcases h with h | ⟨q, cq, hs, h1, h0, h2, h3, h4, h6⟩
  · exact .inl h
  · exact .inr ⟨q, cq, hs, h1, h0, h2, Nat.lt_of_lt_of_le h3 hz, h4.block (e q h2 h3), h6.kept hz (fun g hb hg => e g (by omega) hg)⟩
theorem CSpec.grew {w w' : World} {base : Nat} {u v : Value} {x : Ct} (h : CSpec w base u v x) (g : Grew w w') : CSpec w' base u v x := h.kept g.size fun b _ hb => g.below.block b hb
theorem CSpec.low {w : World} {base base' : Nat} {u v : Value} {x : Ct} (h : CSpec w base u v x) (hb : base' ≤ base) : CSpec w base' u v x := by
  rcases h with h | ⟨q, cq, hs, h1, h0, h2, h3, h4, h6⟩
  · exact .inl h
  · exact .inr ⟨q, cq, hs, h1, h0, Nat.le_trans hb h2, h3, h4, h6⟩
theorem CSpec.open {w : World} {base : Nat} {u v : Value} {x : Ct} (h : CSpec w base u v x) : ∃ a n c b m d, u = .slice a n c ∧ v = .slice b m d := by
  obtain ⟨a, cap, b, capb, e, _⟩ := h.ctV
  simp at e
  exact ⟨_, _, _, _, _, _, e.1, e.2⟩

set_option maxRecDepth 20000 in
set_option maxHeartbeats 8000000 in
theorem l13Of_any (a : Option Addr) (cap : Nat) (l : List Vt) (b : Option Addr) (cb : Nat) (c : List It) (n : Nat) (hcn : c.length = n) (w : World) (hl : Vts w a l) (hcap : l.length ≤ cap) (hs : Short l) (hn : l.length ≤ 1048576) (hc : Its w b c) (hcb : n ≤ cb) (hnc : n ≤ 1048576) (hv : votesB l = true) (hm : c ∈ allS l) (h0 : 0 < finN c) :
    Calls Try.prog 59 #[.slice a l.length cap, .slice b n cb] w fun r w' => ∃ u v, r = .returned (.tuple #[.agg #[u, v], .bool true]) ∧ CSpec w' w.heap.size u v (certOf l c) ∧ Grew w w' := by
  have hfl : finN c < n := by have := (finN_is h0).1; omega
  have hf2 := finN_two h0
  have hby := certOf_by hv hm hf2 (by omega)
  have hX := fun W => hide (fun (g : Grew w W) => l11FinalIn_any b cb n c hcn W (hc.grew g) hnc)
  obtain ⟨p, hp⟩ : ∃ p, finN c = p + 2 := ⟨finN c - 2, by omega⟩
  have hct : Hid (certOf l c = ⟨c.take (p + 3), [forL l (c.take (p + 1)), forL l (c.take (p + 2)), forL l (c.take (p + 3))]⟩) := by
    show certOf l c = _; unfold certOf; rw [hp]; rfl
  rw [unhide hct] at hby
  obtain ⟨D, hD⟩ : ∃ D, c.take (p + 3) = D := ⟨_, rfl⟩
  have hDl : D.length = p + 3 := by rw [← hD, List.length_take]; omega
  obtain ⟨f0, hf0⟩ : ∃ f, forL l (c.take (p + 1)) = f := ⟨_, rfl⟩
  obtain ⟨f1, hf1⟩ : ∃ f, forL l (c.take (p + 2)) = f := ⟨_, rfl⟩
  obtain ⟨f2, hf2'⟩ : ∃ f, forL l D = f := ⟨_, rfl⟩
  rw [hD] at hct hby
  rw [hf0, hf1, hf2'] at hct hby
  obtain ⟨N, hN⟩ : ∃ N, finN c = N := ⟨_, rfl⟩
  rw [hN] at hX hfl hp
  have y0 := hby f0 (by simp)
  have y1 := hby f1 (by simp)
  have y2 := hby f2 (by simp)
  have hK : Hid (∀ k j, k < 3 → j = p + 1 + k → ∃ f, preR f0 f1 f2 (k + 1) = preR f0 f1 f2 k ++ [f] ∧ forL l (c.take j) = f ∧ (preR f0 f1 f2 k).length ≤ 2) := hide (fun k j hk hj => by
    subst hj
    match k, hk with
    | 0, _ => exact ⟨f0, rfl, hf0, by simp [preR]⟩
    | 1, _ => exact ⟨f1, rfl, hf1, by simp [preR]⟩
    | 2, _ => exact ⟨f2, rfl, by rw [show p + 1 + 2 = p + 3 by omega, hD]; exact hf2', by simp [preR]⟩)
  have hV : Hid (∀ W, Grew w W → ∀ j f, j ≤ n → forL l (c.take j) = f → Calls Try.prog 108 #[.slice a l.length cap, .slice b j cb] W fun r w' => ∃ q cq, r = .returned (.slice (some ⟨q, 0, none⟩) f.length cq) ∧ OwnN w' W.heap.size (.slice (some ⟨q, 0, none⟩) f.length cq) f ∧ (W.heap.size ≤ q ∧ q < w'.heap.size) ∧ Grew W w') := hide (fun W g j f hj hf => by
    have hjl : (c.take j).length = j := by rw [List.length_take]; omega
    have := specVotesFor_v (v := .slice a l.length cap) (l := l) b cb (c.take j) W ⟨a, cap, rfl, hcap, hl.grew g⟩ hs hn ((hc.grew g).take j) (by omega)
    rw [hjl] at this
    refine this.mono ?_
    rintro r w1 ⟨u, rfl, hu, g1⟩
    rw [hf] at hu
    obtain ⟨q, cq, rfl, _, h1, h2, _, _⟩ := hu.shape
    exact ⟨q, cq, rfl, hu, ⟨h1, h2⟩, g1⟩)
  have hC := fun W => hide (fun (g : Grew w W) => l1Copy_own b cb D (p + 3) hDl W (by rw [← hD]; exact (hc.grew g).take _) (by omega))
  have hND := hide hDl
  clear hby hD hf0 hf1 hf2' hN hm hv hs hl hc hcn hDl h0 hf2
  subst hp
  have hw1 : ((p + 3 : Nat) : Int) = (p : Int) + 2 + 1 := by omega
  have hle3 : (p : Int) + 2 + 1 ≤ (cb : Int) := by omega
  have hle3' : p + 3 ≤ cb := by omega
  go_enter Try.func59, Try.ntmps59
  go_wp2_with fail
  refine (unhide (hX _) ((Grew.refl _).alloc _)).mono ?_
  clear hX
  rintro r w1 ⟨rfl, g1⟩
  have R0 := hide ((Box2.box w (.slice none 0 0) (.slice none 0 0) 26).grew g1)
  have G1 := hide (((Grew.refl w).alloc _).trans g1)
  clear g1
  have hC := hide (unhide (hC w1) (unhide G1))
  have htn : ((p : Int) + 2 + 1).toNat = p + 3 := by omega
  go_wp2_with fail
  refine (unhide hC).mono ?_
  clear hC
  rintro r w2 ⟨vd, rfl, od, g2⟩
  obtain ⟨g, cg, rfl, hcg, hg1, hgl, hig⟩ := od.shape
  rw [unhide hND] at hcg ⊢
  have HI := hide hig
  have R0' := hide (unhide R0).lt
  have R0 := hide ((unhide R0).grew g2)
  have G2 := hide ((unhide G1).trans g2)
  have hgg := hide (And.intro (And.intro (unhide G1).size hg1) (And.intro hgl hcg))
  clear hig od hg1 hgl hcg g2 G1
  have X2 := hide (Box2.box w2 (.slice (some ⟨g, 0, none⟩) (p + 3) cg) (.slice none 0 0) 26)
  have G3 : Hid (Grew w2 (w2.alloc (.cells #[.slice (some ⟨g, 0, none⟩) (p + 3) cg, .slice none 0 0] 26))) := hide ((Grew.refl _).alloc _)
  go_wp2_with fail
  go_loopw [8] (fun i wr => ∃ (k j : Nat) (bv : Value) (hr : List Nat), k ≤ 3 ∧ Hid (j = p + 1 + k) ∧ i = .int .i64 j ∧ Hid (RAns wr (w2.heap.size + 1) bv hr (preR f0 f1 f2 k)) ∧ Hid (Box2 wr w2.heap.size (.slice (some ⟨g, 0, none⟩) (p + 3) cg) bv) ∧ Hid (Grew w2 wr)) (fun i _ => p + 4 - (intOf i).toNat)
  case atStart => exact ⟨0, p + 1, .slice none 0 0, [], by omega, hide rfl, by go_num, hide (.inl ⟨rfl, rfl, rfl⟩), X2, G3⟩
  case round =>
    clear X2 G3
    obtain ⟨k, j, bv, hr, hk, hj, rfl, hp, X, gg⟩ := hrel
    have hje := hj.out
    by_cases hk3 : k < 3
    · have hjn : (j : Int) ≤ (p : Int) + 2 + 1 := by omega
      have hjc : j ≤ cb := by omega
      have hjc' : (j : Int) ≤ (cb : Int) := by omega
      have hjn2 : j ≤ n := by omega
      obtain ⟨f, hstep, hff, hlen⟩ := unhide hK k j hk3 hje
      have HST := hide hstep
      obtain ⟨⟨x0, x1⟩, z0, z1⟩ := unhide X
      have hlow := hide (unhide hp).low
      have hblk := hide (unhide hp).block
      have hsz := hide (unhide gg).size
      have GW := hide ((unhide G2).trans (unhide gg))
      have hxl := hide (unhide X).lt
      have KV := fun W => hide (fun (g : Grew w W) => unhide hV W g j f hjn2 hff)
      clear hje hstep hff
      go_wp2_with fail
      go_region_law (first
        | (go_simp; go_at_call 108; refine (unhide (KV _) (unhide GW).drew).mono ?_; rintro r w5 ⟨q, cq, rfl, o5, hq, g5⟩; have X5 := (unhide X).grew ((Grew.refl _).drew.trans g5); have hq1 : wr.heap.size ≤ q := hq.1; have hq2 := hq.2; obtain ⟨⟨y0, y1⟩, u0, u1⟩ := X5; have y1o := fun o => cellOld o y1)
        | ((with_reducible refine at_ite ?_); refine step_prow rfl _ _ rfl (w2.heap.size + 1) bv hr (preR f0 f1 f2 k) rfl ((unhide hp).grew (((Grew.refl _).drew.trans g5).alloc _)) ⟨w5.heap.size, 0, none⟩ 1 rfl f q cq (cell_row _ _ _) (by have := unhide hxl; omega) (by simp; omega) (fun hm => by have := (unhide hlow q hm).2; omega) (fun e => by have := (unhide hblk q e).2; omega) ((o5.grew ((Grew.refl _).alloc _)).low (show w2.heap.size + 1 ≤ wr.drew.heap.size from unhide hxl)) (by omega) (by have := unhide hxl; simp; omega) ?_; intro gn cn w6 o6 g6; have X6 := (((unhide X).grew ((Grew.refl _).drew.trans g5)).grew ((Grew.refl _).alloc (.cells #[.slice (some ⟨q, 0, none⟩) f.length cq] 29))).grown g6 (fun e => by have := (unhide hblk _ e).1; omega); obtain ⟨⟨v0, v1⟩, t0, t1⟩ := X6))
      all_goals
        have R7 : Hid (∀ u, RAns (w6.setCell ⟨w2.heap.size, 1, none⟩ u) (w2.heap.size + 1) (.slice (some ⟨gn, 0, none⟩) ((preR f0 f1 f2 k).length + 1) cn) (hr ++ [q]) (preR f0 f1 f2 (k + 1))) :=
          hide (fun u => RAns.kept (w := w6) (by rw [HST.out]; rw [List.length_append] at o6; exact o6) (by simp [World.setCell]) (fun b hb _ => Below.heap_setCell _ _ _ _ (by show b ≠ w2.heap.size; omega)))
        have X7 : Hid (Box2 (w6.setCell ⟨w2.heap.size, 1, none⟩ (.slice (some ⟨gn, 0, none⟩) ((preR f0 f1 f2 k).length + 1) cn)) w2.heap.size (.slice (some ⟨g, 0, none⟩) (p + 3) cg) (.slice (some ⟨gn, 0, none⟩) ((preR f0 f1 f2 k).length + 1) cn)) := hide (Box2.set1 ⟨⟨v0, v1⟩, t0, t1⟩ _)
        have G7 : Hid (Grew w2 (w6.setCell ⟨w2.heap.size, 1, none⟩ (.slice (some ⟨gn, 0, none⟩) ((preR f0 f1 f2 k).length + 1) cn))) := hide (((((unhide gg).drew.trans g5).alloc (.cells #[.slice (some ⟨q, 0, none⟩) f.length cq] 29)).grown g6 (fun b hb => by have := (unhide hblk b hb).1; omega)).setCell (p := ⟨w2.heap.size, 1, none⟩) (Nat.le_refl _) _)
        have hj2 : Hid (j + 1 = p + 1 + (k + 1)) := hide (by have := hj.out; omega)
        clear o6 g6 g5 o5 hp X gg hlow hblk hsz GW KV v0 v1 t0 t1 y0 y1 u0 u1 y1o x0 x1 z0 z1 hxl
        go_wp2
        go_roundw
        case rel => exact ⟨k + 1, j + 1, _, hr ++ [q], by omega, hj2, by go_num, unhide R7 _, X7, G7⟩
        case measure => simp [intOf]; omega
    · have hk3e : k = 3 := by omega
      have hjn : ¬ (j : Int) ≤ (p : Int) + 2 + 1 := by omega
      subst hk3e
      have hP0 : PRow wr (w2.heap.size + 1) bv hr (preR f0 f1 f2 3).length (preR f0 f1 f2 3) := (unhide hp).resolve_left (fun h => by have := h.2.1; simp [preR] at this)
      obtain ⟨gb, cbb, rfl, _, _, _⟩ := hP0.shape
      have hP : Hid (PRow wr (w2.heap.size + 1) (.slice (some ⟨gb, 0, none⟩) 3 cbb) hr 3 [f0, f1, f2]) := hide hP0
      have XX : Hid (Box2 wr w2.heap.size (.slice (some ⟨g, 0, none⟩) (p + 3) cg) (.slice (some ⟨gb, 0, none⟩) 3 cbb)) := X
      clear hP0 hp X
      obtain ⟨⟨x0, x1⟩, _⟩ := unhide XX
      obtain ⟨⟨r0, r1⟩, z0, z1⟩ := (unhide R0).grew (unhide gg)
      have GE := hide ((unhide G2).trans (unhide gg))
      have hAns : Hid (∀ W : World, wr.heap.size ≤ W.heap.size → (∀ b, w.heap.size < b → W.heap[b]? = wr.heap[b]?) → CSpec W w.heap.size (.slice (some ⟨g, 0, none⟩) (p + 3) cg) (.slice (some ⟨gb, 0, none⟩) 3 cbb) ⟨D, [f0, f1, f2]⟩) := hide (fun W hz he => by
        have hl1 := (unhide hgg).1.1
        have hl2 := (unhide hgg).1.2
        have hl3 := (unhide hgg).2.1
        have hl4 := (unhide R0')
        have hsz := (unhide gg).size
        refine .inr ⟨g, cg, hr, ?_, ?_, by omega, by omega, ?_, ?_⟩
        · show _ = Value.slice _ D.length _; rw [unhide hND]
        · show D.length ≤ _; rw [unhide hND]; exact (unhide hgg).2.2
        · exact ((unhide HI).grew (unhide gg)).block (he g (by omega))
        · exact ((unhide hP).lower (by omega)).kept hz (fun b hb hb2 => he b (by omega)))
      clear hP XX R0 gg
      clear hK hV
      go_wp2
      refine bodyPost_ret (by simp [results, Try.results59, go_sem, r0, r1]; try rfl) rfl ?_
      refine ⟨_, _, rfl, ?_, ?_⟩
      · rw [hct.out]; exact unhide hAns _ (by simp [World.setCell]) (fun b hb => by rw [Below.heap_setCell _ _ _ _ (by show b ≠ w.heap.size; omega), Below.heap_setCell _ _ _ _ (by show b ≠ w.heap.size; omega)])
      · exact ((unhide GE).setCell (p := ⟨w.heap.size, 0, none⟩) (Nat.le_refl _) _).setCell (p := ⟨w.heap.size, 1, none⟩) (Nat.le_refl _) _

set_option linter.unusedVariables false
open Go.RowKit
attribute [local simp] far_const

set_option maxRecDepth 20000 in
set_option maxHeartbeats 8000000 in
theorem specCertOf (a : Option Addr) (cap : Nat) (l : List Vt) (w : World) (hl : Vts w a l) (hcap : l.length ≤ cap) (hroom : Room w a l) (hs : Short l) (hn : l.length ≤ 1048576) :
    Calls Try.prog 17 #[.slice a l.length cap] w fun r w' => ∃ u v, r = .returned (.tuple #[.agg #[u, v], .bool (certL l).2]) ∧ CSpec w' w.heap.size u v (certL l).1 ∧ Grew w w' := by
  have hX := fun W => hide (fun (g : Grew w W) => specVotesOk a cap l W (hl.grew g) hcap hs hn)
  have HL := hide hl
  have HR := hide hroom
  have HS := hide hs
  clear hl hroom hs
  cases hv : votesB l with
  | false =>
    have he : Hid (certL l = (⟨[], []⟩, false)) := certL_no (by rw [hv]; simp)
    rw [hv] at hX
    clear hv
    go_enter Try.func17, Try.ntmps17
    go_wp2_with fail
    refine (unhide (hX _) ((Grew.refl _).alloc _)).mono ?_
    clear hX
    rintro r w1 ⟨rfl, g1⟩
    obtain ⟨⟨r0, r1⟩, z0, z1⟩ := (Box2.box w (.slice none 0 0) (.slice none 0 0) 26).grew g1
    have G1 := hide (((Grew.refl w).alloc _).trans g1)
    clear g1
    go_wp2
    refine bodyPost_ret (by simp [results, Try.results17, go_sem, r0, r1]; try rfl) rfl ?_
    refine ⟨_, _, by rw [he.out], .inl ⟨rfl, rfl, by rw [he.out]⟩, ?_⟩
    exact ((unhide G1).setCell (p := ⟨w.heap.size, 0, none⟩) (Nat.le_refl _) _).setCell (p := ⟨w.heap.size, 1, none⟩) (Nat.le_refl _) _
  | true =>
    have HY := hide (certL_yes hv)
    have HN := hide (certL_no (l := l))
    rw [hv] at hX
    have hA := fun W => hide (fun (g : Grew w W) => l11All_any a cap l W ((unhide HL).grew g) ((unhide HR).grew (unhide HL) g) (unhide HS) hn)
    rw [allK_all] at hA
    have hF := fun W => hide (fun (g : Grew w W) => l11Final_any a cap l W ((unhide HL).grew g) ((unhide HR).grew (unhide HL) g) (unhide HS) hn)
    have hO : Hid (∀ W, Grew w W → ∀ (b : Option Addr) (cb : Nat) (c : List It), c ∈ allS l → Its W b c → c.length ≤ cb → c.length ≤ 1048576 → 0 < finN c → Calls Try.prog 59 #[.slice a l.length cap, .slice b c.length cb] W fun r w' => ∃ u v, r = .returned (.tuple #[.agg #[u, v], .bool true]) ∧ CSpec w' W.heap.size u v (certOf l c) ∧ Grew W w') :=
      hide (fun W g b cb c hm hi h1 h2 h3 => l13Of_any a cap l b cb c _ rfl W ((unhide HL).grew g) hcap (unhide HS) hn hi h1 h2 hv hm h3)
    have HM : Hid ((mostC (allS l)).length = (mostF (allS l)).2) := hide (mostC_len _)
    have hlen := allS_len l
    have HSh := hide (allS_short (unhide HS))
    have HFI := hide (most_first (allS l))
    have HSO := hide (most_some (allS l))
    obtain ⟨cs, hcs⟩ : ∃ cs, allS l = cs := ⟨_, rfl⟩
    rw [hcs] at hA hF hO HM hlen HSh HFI HSO HY HN
    obtain ⟨s, hsz⟩ : ∃ s, (mostF cs).2 = s := ⟨_, rfl⟩
    rw [hsz] at HM HFI HSO HY HN
    have hsb : s ≤ 1048576 := by
      rcases Nat.eq_zero_or_pos s with h | h
      · omega
      · obtain ⟨j, hj, e⟩ := unhide HSO h
        have := finN_lt cs[j]
        have := unhide HSh _ (List.getElem_mem hj)
        omega
    clear hv hcs hsz
    go_enter Try.func17, Try.ntmps17
    go_wp2_with fail
    refine (unhide (hX _) ((Grew.refl _).alloc _)).mono ?_
    clear hX
    rintro r w1 ⟨rfl, g1⟩
    have R0 := hide ((Box2.box w (.slice none 0 0) (.slice none 0 0) 26).grew g1)
    have G1 := hide (((Grew.refl w).alloc _).trans g1)
    clear g1
    go_wp2_with fail
    refine (unhide (hA _) (unhide G1)).mono ?_
    clear hA
    rintro rr w2 ⟨v, rfl, ov, g2⟩
    obtain ⟨va, vcap, rfl, hvc, hx⟩ := ov.chsV
    have HX := hide hx
    have R0 := hide ((unhide R0).grew g2)
    have G2 := hide ((unhide G1).trans g2)
    clear hx ov g2 G1
    go_wp2_with fail
    refine (unhide (hF _) (unhide G2)).mono ?_
    clear hF
    rintro rr w3 ⟨vf, rfl, hvf, g3⟩
    obtain ⟨fa, fc, rfl, hfc, hfi⟩ := hvf
    rw [unhide HM]
    have R0 := hide ((unhide R0).grew g3)
    have G3 := hide ((unhide G2).trans g3)
    have S3 := hide (show Grew w2 w3 from g3)
    clear g3 hfi hfc
    go_wp2_with fail
    go_loopw [6] (fun i wr => ∃ k : Nat, k ≤ cs.length ∧ i = .int .i64 k ∧ Hid (∀ j (h : j < cs.length), j < k → finN cs[j] = s → s = 0) ∧ Hid (Grew w3 wr)) (fun i _ => cs.length - (intOf i).toNat)
    case atStart => exact ⟨0, Nat.zero_le _, rfl, hide (fun j _ h => absurd h (Nat.not_lt_zero _)), hide (Grew.refl _)⟩
    case round =>
      obtain ⟨k, hk, rfl, hno, gg⟩ := hrel
      by_cases hlt : k < cs.length
      · obtain ⟨b1, o1, ai, ci, rfl, c1, hci, hi⟩ := HX.out k hlt
        have e1 := (unhide gg).keep ((unhide S3).keep c1)
        have hs1 := HSh.out _ (List.getElem_mem hlt)
        have HCM := hide (List.getElem_mem hlt)
        have HI := hide ((hi.grew (unhide S3)).grew (unhide gg))
        have HF1 := hide (fun h1 h2 h3 => unhide HFI k hlt h1 h2 h3)
        have HNX : Hid (finN cs[k] ≠ s ∨ s = 0 → ∀ j (h : j < cs.length), j < k + 1 → finN cs[j] = s → s = 0) := hide (fun h j hj hjk he => by
          by_cases e : j = k
          · subst e; rcases h with h | h
            · exact absurd he h
            · exact h
          · exact unhide hno j hj (by omega) he)
        obtain ⟨d, hd⟩ : ∃ d, cs[k] = d := ⟨_, rfl⟩
        rw [hd] at e1 hs1 hci HCM HI HF1 HNX
        have hFd := hide (l11FinalIn_any ai ci d.length d rfl wr (unhide HI) hs1)
        obtain ⟨N, hN⟩ : ∃ N, finN d = N := ⟨_, rfl⟩
        have HNN := hide hN
        rw [hN] at hFd HF1 HNX
        clear c1 hi hd hN
        go_wp2_with fail
        refine hFd.out.mono ?_
        clear hFd
        rintro rr w4 ⟨rfl, g4⟩
        have f1 := g4.keep e1
        have gg4 := hide ((unhide gg).trans g4)
        have HI := hide ((unhide HI).grew g4)
        clear g4 gg e1
        by_cases hNs : N = s
        · subst hNs
          by_cases hN0 : 0 < N
          · have hd0 : decide ((0 : Int) < (N : Int)) = true := by simp; omega
            have hd0' : decide (0 < N) = true := by simp; omega
            have hdm : d = (mostF cs).1 := unhide HF1 rfl hN0 (fun j hj hjk he => by have := unhide hno j hj hjk he; omega)
            have he : Hid (certL l = (certOf l d, true)) := by
              show certL l = _; rw [hdm]; exact unhide HY hN0
            have hC := hide (unhide hO w4 ((unhide G3).trans (unhide gg4)) ai ci d (unhide HCM) (unhide HI) hci hs1 (by rw [unhide HNN]; exact hN0))
            have R0 := hide ((unhide R0).grew (unhide gg4))
            clear hdm HF1 HNX HCM hno HY HN HFI HSO
            go_wp2_with fail
            refine (unhide hC).mono ?_
            clear hC
            rintro rr w5 ⟨u, v, rfl, hans, g5⟩
            obtain ⟨ua, un, uc, vb, vn, vc, rfl, rfl⟩ := hans.open
            obtain ⟨⟨r0, r1⟩, z0, z1⟩ := (unhide R0).grew g5
            have hzz := (unhide R0).lt
            have HAN : Hid (∀ W : World, w5.heap.size ≤ W.heap.size → (∀ b, w.heap.size < b → W.heap[b]? = w5.heap[b]?) → CSpec W w.heap.size (.slice ua un uc) (.slice vb vn vc) (certOf l d)) := hide (fun W hz he => (hans.kept hz (fun b hb _ => he b (by omega))).low (by omega))
            have GE := hide (((unhide G3).trans (unhide gg4)).trans g5)
            clear hans g5 gg4 hO R0 hzz
            go_wp2
            refine bodyPost_ret (by simp [results, Try.results17, go_sem, r0, r1]; try rfl) rfl ?_
            refine ⟨_, _, by rw [he.out], ?_, ?_⟩
            · rw [he.out]; exact unhide HAN _ (by simp [World.setCell]) (fun b hb => by rw [Below.heap_setCell _ _ _ _ (by show b ≠ w.heap.size; omega), Below.heap_setCell _ _ _ _ (by show b ≠ w.heap.size; omega)])
            · exact ((unhide GE).setCell (p := ⟨w.heap.size, 0, none⟩) (Nat.le_refl _) _).setCell (p := ⟨w.heap.size, 1, none⟩) (Nat.le_refl _) _
          · have hn2 := hide (unhide HNX (.inr (by omega)))
            have hd0 : decide ((0 : Int) < (N : Int)) = false := by simp; omega
            have hd0' : decide (0 < N) = false := by simp; omega
            clear HNX HF1 hno
            go_wp2
            go_roundw
            case rel => exact ⟨k + 1, by omega, by go_num, hn2, gg4⟩
            case measure => simp [intOf]; omega
        · have hn2 := hide (unhide HNX (.inl hNs))
          have hne : ((N : Int) == (s : Int)) = false := by simp; omega
          have hne' : decide ((N : Int) = (s : Int)) = false := by simp; omega
          have hne2 : ¬ (N : Int) = (s : Int) := by omega
          clear HNX HF1 hno
          go_wp2
          go_roundw
          case rel => exact ⟨k + 1, by omega, by go_num, hn2, gg4⟩
          case measure => simp [intOf]; omega
      · have hle : (cs.length : Int) ≤ (k : Int) := by omega
        have hs0 : s = 0 := by
          rcases Nat.eq_zero_or_pos s with h | h
          · exact h
          · obtain ⟨j, hj, e⟩ := unhide HSO h
            exact unhide hno j hj (by omega) e
        have he : Hid (certL l = (⟨[], []⟩, false)) := unhide HN (by omega)
        have GE := hide ((unhide G3).trans (unhide gg))
        obtain ⟨⟨r0, r1⟩, z0, z1⟩ := (unhide R0).grew (unhide gg)
        clear hno gg hO HY HN HFI HSO hs0 R0
        go_wp2
        refine bodyPost_ret (by simp [results, Try.results17, go_sem, r0, r1]; try rfl) rfl ?_
        refine ⟨_, _, by rw [he.out], .inl ⟨rfl, rfl, by rw [he.out]⟩, ?_⟩
        exact ((unhide GE).setCell (p := ⟨w.heap.size, 0, none⟩) (Nat.le_refl _) _).setCell (p := ⟨w.heap.size, 1, none⟩) (Nat.le_refl _) _

set_option linter.unusedVariables false
open Go.RowKit
attribute [local simp] far_const

theorem sumI_bound : ∀ (l : List (List Int)) (m : Nat), (∀ x ∈ l, x.length ≤ m) → sumI l ≤ l.length * m := by
  intro l m
  induction l with
  | nil => intro _; simp [sumI]
  | cons y r ih =>
    intro h
    have h1 := h y (List.mem_cons_self ..)
    have h2 := ih (fun v hv => h v (List.mem_cons_of_mem _ hv))
    have e : sumI (y :: r) = y.length + sumI r := by simp [sumI]
    rw [e, List.length_cons, Nat.succ_mul]; omega
theorem certL_bound {l : List Vt} (hs : Short l) : (certL l).1.c.length ≤ 1048576 ∧ (certL l).1.b.length ≤ 3 ∧ (∀ x ∈ (certL l).1.b, x.length ≤ 4) ∧ sumI (certL l).1.b ≤ 12 := by
  have key : (certL l).1.c.length ≤ 1048576 ∧ (certL l).1.b.length ≤ 3 ∧ (∀ x ∈ (certL l).1.b, x.length ≤ 4) := by
    unfold certL
    split
    · have := hs.firsts _ (mostF_firsts l)
      refine ⟨?_, by simp [certOf], fun x hx => ?_⟩
      · show (List.take _ _).length ≤ _; rw [List.length_take]; omega
      · simp only [certOf, List.mem_cons, List.not_mem_nil, or_false] at hx
        rcases hx with rfl | rfl | rfl <;> exact forL_le _ _
    · exact ⟨by simp, by simp, fun x hx => by cases hx⟩
  refine ⟨key.1, key.2.1, key.2.2, ?_⟩
  have := sumI_bound _ 4 key.2.2
  have := key.2.1
  omega
theorem implCertOf_v {v : Value} {l : List Vt} (w : World) (h : VtsV w v l) (hs : Short l) (hn : l.length ≤ 1048576) :
    Calls Try.prog 18 #[v] w fun r w' => ∃ u v, r = .returned (.tuple #[.agg #[u, v], .bool (certL l).2]) ∧ CAns w' w.heap.size u v (certL l).1 ∧ Grew w w' := by
  obtain ⟨a, cap, rfl, h1, hv⟩ := h
  exact implCertOf a cap l w hv h1 hs hn
/-- .. its blocks named. -/
def CAnsB (w : World) (base : Nat) (bs : List Nat) (u v : Value) (x : Ct) : Prop := (u = .slice none 0 0 ∧ v = .slice none 0 0 ∧ x = ⟨[], []⟩ ∧ bs = []) ∨ ∃ q hs, bs = q :: v.ownBlock.toList ++ hs ∧ u = .slice (some ⟨q, 0, none⟩) x.c.length x.c.length ∧ base ≤ q ∧ q < w.heap.size ∧ Its w (some ⟨q, 0, none⟩) x.c ∧ Own w q x.c.length ∧ PRow w (q + 1) v hs x.b.length x.b
theorem CAns.blocks {w : World} {base : Nat} {u v : Value} {x : Ct} (h : CAns w base u v x) : ∃ bs, CAnsB w base bs u v x ∧ (∀ b ∈ bs, base ≤ b ∧ b < w.heap.size) := by
  rcases h with ⟨h1, h2, h3⟩ | ⟨q, hs, h1, h2, h3, h4, h5, h6⟩
  · exact ⟨[], .inl ⟨h1, h2, h3, rfl⟩, fun b hb => by cases hb⟩
  · refine ⟨q :: v.ownBlock.toList ++ hs, .inr ⟨q, hs, rfl, h1, h2, h3, h4, h5, h6⟩, fun b hb => ?_⟩
    simp only [List.cons_append, List.mem_cons, List.mem_append, Option.mem_toList] at hb
    rcases hb with e | e | e
    · rw [e]; exact ⟨h2, h3⟩
    · obtain ⟨g, cp, rfl, _, h7, h8⟩ := h6.shape
      have e' : g = b := Option.some.inj e
      rw [← e']; exact ⟨by omega, h8⟩
    · have := h6.low b e; exact ⟨by omega, this.2⟩
theorem CAnsB.ans {w : World} {base : Nat} {bs : List Nat} {u v : Value} {x : Ct} (h : CAnsB w base bs u v x) : CAns w base u v x := by
  rcases h with ⟨h1, h2, h3, _⟩ | ⟨q, hs, _, h1, h2, h3, h4, h5, h6⟩
  · exact .inl ⟨h1, h2, h3⟩
  · exact .inr ⟨q, hs, h1, h2, h3, h4, h5, h6⟩
theorem CAnsB.kept {w w' : World} {base : Nat} {bs : List Nat} {u v : Value} {x : Ct} (h : CAnsB w base bs u v x) (hz : w.heap.size ≤ w'.heap.size) (e : ∀ g ∈ bs, w'.heap[g]? = w.heap[g]?) : CAnsB w' base bs u v x := by
  rcases h with h | ⟨q, hs, h0, h1, h2, h3, h4, h5, h6⟩
  · exact .inl h
  · subst h0
    have eq := e q (by simp)
    obtain ⟨nz, ⟨vs, row, hc⟩, len, le, apart, off, low⟩ := h6
    refine .inr ⟨q, hs, rfl, h1, h2, Nat.lt_of_lt_of_le h3 hz, h4.block eq, h5.block eq, nz, ⟨vs, ownsRow_block row (fun g hg => e g (by simp [hg])), fun i hi hi2 => ?_⟩, len, le, apart, off, fun b hb => ⟨(low b hb).1, Nat.lt_of_lt_of_le (low b hb).2 hz⟩⟩
    obtain ⟨cp, k1, k2⟩ := hc i hi hi2
    exact ⟨cp, k1, k2.kept (fun g _ _ hg => e g (by
      have e1 : hs[i] = g := Option.some.inj hg
      have : g ∈ hs := e1 ▸ List.getElem_mem hi2
      simp [this]))⟩
theorem CAnsB.grew {w w' : World} {base : Nat} {bs : List Nat} {u v : Value} {x : Ct} (h : CAnsB w base bs u v x) (hb : ∀ b ∈ bs, b < w.heap.size) (g : Grew w w') : CAnsB w' base bs u v x := h.kept g.size fun b hm => g.below.block b (hb b hm)
theorem CtAt.kept {w w' : World} {b : Nat} {u v : Value} (h : CtAt w b u v) (e : w'.heap[b]? = w.heap[b]?) : CtAt w' b u v := ⟨by rw [World.cell?_of_block (w := w) e]; exact h.1, by rw [World.cell?_of_block (w := w) e]; exact h.2⟩
theorem CtAt.lt {w : World} {b : Nat} {u v : Value} (h : CtAt w b u v) : b < w.heap.size := World.block_lt_of_cell? _ _ h.1
theorem CAns.open {w : World} {base : Nat} {u v : Value} {x : Ct} (h : CAns w base u v x) : ∃ a n c b m d, u = .slice a n c ∧ v = .slice b m d := by
  obtain ⟨a, cap, b, capb, e, _⟩ := h.ctV
  simp at e
  exact ⟨_, _, _, _, _, _, e.1, e.2⟩
end Go.Proofs.Ytjbnohepbmejkaa
