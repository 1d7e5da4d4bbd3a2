/-
  Texts together: TSpec2, TSpec4.
-/
import Derived.Test.YtjbnohepbmejkaaTreeS
import Derived.Test.YtjbnohepbmejkaaVSpec3
namespace Go.Proofs.Ytjbnohepbmejkaa
set_option linter.unusedVariables false
open Go.RowKit
attribute [local simp] far_const

theorem chs_info : (Try.prog.info? 23).map (fun i => (i.zero, i.size, i.bytes)) = some (some (.slice none 0 0), 1, 24) := by kernel_rfl
/-- A chain as a value, away from the block that is named. -/
def ChAt (w : World) (base : Nat) (far : Option Nat) (u : Value) (c : List It) : Prop := ∃ a cap, u = .slice a c.length cap ∧ c.length ≤ cap ∧ Its w a c ∧ ∀ x, a = some x → base ≤ x.block ∧ x.block < w.heap.size ∧ far ≠ some x.block
theorem ChAt.grew {w w' : World} {base : Nat} {f : Option Nat} {u : Value} {c : List It} (h : ChAt w base f u c) (g : Grew w w') : ChAt w' base f u c := by
  obtain ⟨a, cap, h1, h2, h3, h4⟩ := h
  exact ⟨a, cap, h1, h2, h3.grew g, fun x hx => ⟨(h4 x hx).1, Nat.lt_of_lt_of_le (h4 x hx).2.1 g.size, (h4 x hx).2.2⟩⟩
/-- A row of chains that the call owns. -/
def OwnC (w : World) (base : Nat) (v : Value) (cs : List (List It)) : Prop :=
  v ≠ .slice none 0 0 ∧ ∃ vs : List Value, w.ownsRow base 23 1 v cs.length vs ∧ ∀ i (h : i < cs.length), ∃ u, vs[i]? = some u ∧ ChAt w base v.ownBlock u cs[i]
theorem OwnC.grew {w w' : World} {base : Nat} {v : Value} {cs : List (List It)} (h : OwnC w base v cs) (g : Grew w w') : OwnC w' base v cs := by
  obtain ⟨hz, vs, hr, hc⟩ := h
  exact ⟨hz, vs, ownsRow_block hr (fun b hb => g.below.block b (hr.lt b hb).2), fun i hi => by obtain ⟨u, hu, hat⟩ := hc i hi; exact ⟨u, hu, hat.grew g⟩⟩
theorem OwnC.at {w : World} {base : Nat} {v : Value} {cs : List (List It)} (h : OwnC w base v cs) : ∃ g cap, v = .slice (some ⟨g, 0, none⟩) cs.length cap ∧ cs.length ≤ cap ∧ base ≤ g ∧ g < w.heap.size ∧ ∀ i (hi : i < cs.length), ∃ u, w.cell? ⟨g, i, none⟩ = some u ∧ ChAt w base (some g) u cs[i] := by
  obtain ⟨hz, vs, hr, hc⟩ := h
  rcases hr.2 with ⟨h1, _⟩ | ⟨g, cap, cur, hv, hb, hg, hn, _⟩
  · exact absurd h1 hz
  · refine ⟨g, cap, hv, hn, hb, (Array.getElem?_eq_some_iff.1 hg).1, fun i hi => ?_⟩
    obtain ⟨u, hu, hat⟩ := hc i hi
    have := hr.cells (g := g) (by rw [hv]; rfl) i u hu
    have hadd : (⟨g, 0, none⟩ : Addr).add i = ⟨g, i, none⟩ := by unfold Addr.add; split <;> simp_all
    rw [hadd] at this
    rw [hv] at hat
    exact ⟨u, this, hat⟩

/-- 'append' of one chain. -/
theorem wpList_chs {ops : Array Oper} {rest : List Oper} {o : Oper} {a : Act} {Q : Exit → Act → World → Prop} {w : World} (hgd : o.guard = none) (s x : Operand)
    (ho : o.op = .call { callee := .builtin .append, args := #[s, x], argTypes := #[88, 88] })
    (base : Nat) (v : Value) (cs : List (List It)) (hs : a.eval s = v) (hown : OwnC w base v cs)
    (ad : Addr) (cp : Nat) (u : Value) (c : List It) (hx : a.eval x = .slice (some ad) 1 cp) (hm : w.cell? ad = some u) (hu : ChAt w base v.ownBlock u c) (hn : cs.length ≤ 1073741824) (hbase : base ≤ w.heap.size)
    (h : ∀ v' w', Hid (OwnC w' base v' (cs ++ [c])) → w.grownBy w' v.ownBlock → wpList Try.prog ops Q rest (a.put o.dst v') w') : wpList Try.prog ops Q (o :: rest) a w := by
  obtain ⟨i, hi, hz0, hz1, hz2⟩ := info_parts chs_info
  obtain ⟨hz, vs, hr, hc⟩ := hown
  obtain ⟨ua, ucap, rfl, hul, hui, hub⟩ := hu
  have hvl : vs.length = cs.length := by have := hr.1; omega
  obtain ⟨v', w', hrun, h2, h3, g, hg, hsep⟩ := run_append_sep (P := Try.prog) w base 88 o.type 23 i _ 1 24 Try.underlying88 hi hz0 hz1 hz2 rfl (by omega) v cs.length vs hr ad 1 cp (by omega) [.slice ua c.length ucap] rfl
    (fun j u hj => by
      rcases j with _ | j
      · simp only [List.getElem?_cons_zero, Option.some.injEq] at hj
        subst hj
        have : ad.add 0 = ad := by unfold Addr.add; split <;> simp_all
        rw [this]; exact hm
      · simp at hj) (fun u hu => by simp only [List.mem_singleton] at hu; subst hu; rfl) (by unfold maxLen; omega) (by omega) hbase
  have keep : ∀ {y : Value} {d : List It}, ChAt w base v.ownBlock y d → ChAt w' base v'.ownBlock y d := fun {y d} hy => by
    obtain ⟨a, cap, e1, e2, e3, e4⟩ := hy
    refine ⟨a, cap, e1, e2, ?_, fun z hz => ?_⟩
    · rcases e3 with h0 | ⟨b, off, ha, hh⟩
      · exact .inl h0
      · obtain ⟨_, hlt, hne⟩ := e4 _ ha
        refine .inr ⟨b, off, ha, fun i hi => ?_⟩
        obtain ⟨c0, c1, c2, c3⟩ := hh i hi
        exact ⟨h3.cell c0 (fun e => hne e.symm), h3.cell c1 (fun e => hne e.symm), h3.cell c2 (fun e => hne e.symm), h3.cell c3 (fun e => hne e.symm)⟩
    · obtain ⟨h5, h6, h7⟩ := e4 z hz
      refine ⟨h5, Nat.lt_of_lt_of_le h6 h3.size, fun e => ?_⟩
      rw [hg] at e
      cases e
      rcases hsep with hs | hs
      · exact h7 hs
      · omega
  refine wpList_plain hgd fun _ hK => ?_
  unfold Oper.wp execOp
  simp only [ho, resolve, invoke, builtin, Sem.run_bind, Sem.run_pure, Result.andThen_ok, List.map_toArray, List.map_cons, List.map_nil, hs, hx, hrun]
  refine hK _ _ (h v' w' (hide ⟨fun e => (by rw [e] at hg; cases hg), vs ++ [.slice ua c.length ucap], by rw [List.length_append]; exact h2, fun i hi => ?_⟩) h3)
  by_cases hi2 : i < cs.length
  · obtain ⟨y, hy, hat⟩ := hc i hi2
    refine ⟨y, by rw [List.getElem?_append_left (by omega)]; exact hy, ?_⟩
    rw [List.getElem_append_left hi2]
    exact keep hat
  · have hie : i = cs.length := by simp at hi; omega
    subst hie
    refine ⟨.slice ua c.length ucap, by rw [← hvl]; simp, ?_⟩
    rw [List.getElem_append_right (Nat.le_refl _)]
    simp only [Nat.sub_self, List.getElem_cons_zero]
    exact keep ⟨ua, ucap, rfl, hul, hui, hub⟩
theorem ownC_start (w : World) : OwnC ((w.alloc (.cells #[] 33)).alloc (.cells #[.slice (some ⟨w.heap.size, 0, none⟩) 0 0] 23)) w.heap.size (.slice (some ⟨w.heap.size + 1, 0, none⟩) 1 1) [[]] := by
  obtain ⟨A, hA⟩ : ∃ A, A = w.alloc (.cells #[] 33) := ⟨_, rfl⟩
  rw [← hA]
  have sA : A.heap.size = w.heap.size + 1 := by rw [hA]; simp
  refine ⟨by simp, [.slice (some ⟨w.heap.size, 0, none⟩) 0 0], ⟨rfl, .inr ⟨w.heap.size + 1, 1, #[.slice (some ⟨w.heap.size, 0, none⟩) 0 0], rfl, by omega, by rw [← sA]; exact heap_alloc_new A _, Nat.le_refl _, by unfold maxLen; omega, rfl, rfl⟩⟩, fun i hi => ?_⟩
  obtain rfl : i = 0 := by simpa using hi
  refine ⟨_, rfl, some ⟨w.heap.size, 0, none⟩, 0, rfl, Nat.le_refl _, .inl rfl, fun x hx => ?_⟩
  cases hx
  refine ⟨Nat.le_refl _, by simp [sA]; omega, ?_⟩
  simp [Value.ownBlock]

/-- The sure chains of the first votes. -/
def allK (l : List Vt) (k : Nat) : List (List It) := (firstsL (l.take k)).filter (sureF (cnt l))
theorem sureF_nil (vt : List It → Nat) : sureF vt [] = true := rfl
theorem allK_zero (l : List Vt) : allK l 0 = [[]] := by unfold allK; rw [List.take_zero]; rfl
theorem any_same (cs : List (List It)) (c : List It) : cs.any (fun d => sameB d c) = true ↔ c ∈ cs := by
  rw [List.any_eq_true]
  constructor
  · rintro ⟨d, hd, e⟩; rw [sameB_iff] at e; exact e ▸ hd
  · intro h; exact ⟨c, h, (sameB_iff _ _).2 rfl⟩
theorem allK_known {l : List Vt} {k : Nat} (hk : k < l.length) (h : (allK l k).any (fun d => sameB d l[k].c) = true) : allK l (k + 1) = allK l k := by
  rw [any_same] at h
  unfold allK at h ⊢
  rw [List.take_succ_eq_append_getElem hk, firstsL_snoc, if_pos ((any_same _ _).2 (List.mem_filter.1 h).1)]
theorem allK_poor {l : List Vt} {k : Nat} (hk : k < l.length) (h : sureF (cnt l) l[k].c = false) : allK l (k + 1) = allK l k := by
  unfold allK
  rw [List.take_succ_eq_append_getElem hk, firstsL_snoc]
  split
  · rfl
  · rw [List.filter_append]; simp [h]
theorem allK_new {l : List Vt} {k : Nat} (hk : k < l.length) (h : (allK l k).any (fun d => sameB d l[k].c) = false) (hs : sureF (cnt l) l[k].c = true) : allK l (k + 1) = allK l k ++ [l[k].c] := by
  unfold allK at h ⊢
  rw [List.take_succ_eq_append_getElem hk, firstsL_snoc, if_neg]
  · rw [List.filter_append]; simp [hs]
  · intro e
    rw [any_same] at e
    have : l[k].c ∈ (firstsL (l.take k)).filter (sureF (cnt l)) := List.mem_filter.2 ⟨e, hs⟩
    rw [← any_same, h] at this
    cases this
theorem allK_len (l : List Vt) (k : Nat) : (allK l k).length ≤ l.length + 1 := by
  have h1 := List.length_filter_le (sureF (cnt l)) (firstsL (l.take k))
  have h2 := firstsL_len (l.take k)
  unfold allK
  simp at h2
  omega
theorem allK_short {l : List Vt} (h : Short l) (k : Nat) : ∀ c ∈ allK l k, c.length ≤ 1048576 := by
  intro c hc
  have := (List.mem_filter.1 hc).1
  rcases (firstsL_mem _ c).1 this with rfl | ⟨x, hx, rfl⟩
  · simp
  · exact h x (List.mem_of_mem_take hx)


set_option linter.unusedVariables false
open Go.RowKit
attribute [local simp] far_const

/-- Each chain of a row of votes has room: it may be cut up to its own length. -/
def Room (w : World) (a : Option Addr) (l : List Vt) : Prop := ∀ b off, a = some ⟨b, off, none⟩ → ∀ i, i < l.length → ∀ u n cp, w.cell? ⟨b, off + i * 2 + 1, none⟩ = some (.slice u n cp) → n ≤ cp
theorem Room.grew {w w' : World} {a : Option Addr} {l : List Vt} (h : Room w a l) (hl : Vts w a l) (g : Grew w w') : Room w' a l := by
  intro b off ha i hi u n cp hc
  obtain ⟨b2, o2, e, _, a2, cap2, c2, _⟩ := hl.at hi
  rw [ha] at e
  simp only [Option.some.injEq, Addr.mk.injEq, and_true] at e
  obtain ⟨rfl, rfl⟩ := e
  have := g.keep c2
  rw [hc] at this
  rw [← this] at c2
  exact h _ _ ha i hi _ _ _ c2

set_option maxRecDepth 20000 in
set_option maxHeartbeats 4000000 in
theorem l11All_any (a : Option Addr) (cap : Nat) (l : List Vt) (w : World) (hl : Vts w a l) (hroom : Room w a l) (hs : Short l) (hn : l.length ≤ 1048576) :
    Calls Try.prog 56 #[.slice a l.length cap] w fun r w' => ∃ v, r = .returned v ∧ OwnC w' w.heap.size v (allK l l.length) ∧ Grew w w' := by
  have h0 := hide (ownC_start w)
  have gS : Grew w ((w.alloc (.cells #[] 33)).alloc (.cells #[.slice (some ⟨w.heap.size, 0, none⟩) 0 0] 23)) := ((Grew.refl w).alloc _).alloc _
  go_enter Try.func56, Try.ntmps56
  go_wp2_with fail
  obtain ⟨W, hW⟩ : ∃ W, Hid (W = (w.alloc (.cells #[] 33)).alloc (.cells #[.slice (some ⟨w.heap.size, 0, none⟩) 0 0] 23)) := ⟨_, hide rfl⟩
  rw [← hW.out] at h0 gS ⊢
  go_loopw [3, 4] (fun o i wr => ∃ k : Nat, k ≤ l.length ∧ i = .int .i64 k ∧ Hid (OwnC wr w.heap.size o (allK l k)) ∧ Grew w wr) (fun _ i _ => l.length - (intOf i).toNat)
  case atStart => exact ⟨0, Nat.zero_le _, rfl, by rw [allK_zero]; exact h0, gS⟩
  case round =>
    obtain ⟨k, hk, rfl, hO, hg⟩ := hrel
    by_cases hlt : k < l.length
    · obtain ⟨g, ocap, rfl, hcapo, hbg, hgl, hcell⟩ := (unhide hO).at
      have HC := hide hcell
      have hlen := allK_len l k
      have HSh := hide (allK_short hs k)
      obtain ⟨cs, hcs⟩ : ∃ cs, Hid (cs = allK l k) := ⟨_, hide rfl⟩
      rw [← hcs.out] at hO HC hlen HSh hcapo ⊢
      clear hcell
      obtain ⟨b1, off, rfl, hat⟩ := hl.at hlt
      obtain ⟨c0, a1, cap1, c1, hi⟩ := hat.grew hg
      have hrm : l[k].c.length ≤ cap1 := by
        obtain ⟨_, a2, cap2, c2, _⟩ := hat
        have := hg.keep c2
        rw [c1] at this
        simp only [Option.some.injEq, Value.slice.injEq, true_and] at this
        obtain ⟨rfl, rfl⟩ := this
        exact hroom b1 off rfl k hlt _ _ _ c2
      have hs1 := hs.at hlt
      clear hat
      obtain ⟨wo, rfl⟩ : ∃ wo, wo = wr := ⟨wr, rfl⟩
      go_wp2_with fail
      go_loopw [5, 6] (fun kn q wq => ∃ j : Nat, ∃ t : Bool, j ≤ cs.length ∧ q = .int .i64 j ∧ kn = .bool t ∧ Hid (t = (cs.take j).any (fun d => sameB d l[k].c)) ∧ Grew wo wq) (fun _ q _ => cs.length - (intOf q).toNat)
      case atStart => exact ⟨0, false, Nat.zero_le _, rfl, rfl, hide rfl, Grew.refl _⟩
      case round =>
        obtain ⟨j, t, hj, rfl, rfl, ht, hgq⟩ := hrel
        by_cases hjl : j < cs.length
        · obtain ⟨u, hu, ua, ucap, rfl, hul, hui, _⟩ := HC.out j hjl
          have hcs1 := HSh.out _ (List.getElem_mem hjl)
          have e0 := Grew.gcell (hgq.keep hu)
          have e1 := Grew.gcell (hgq.keep c1)
          have hiq := hi.grew hgq
          have huq := hui.grew hgq
          have hLS : ∀ W, Grew wr W → Hid (Calls Try.prog 106 #[.slice ua cs[j].length ucap, .slice a1 l[k].c.length cap1] W fun r w' => r = .returned (.bool (sameB cs[j] l[k].c)) ∧ Grew W w') := fun W g => hide (l3Same_any ua a1 ucap cap1 cs[j] l[k].c W (huq.grew g) (hiq.grew g) hcs1 hs1)
          have hst : (cs.take (j + 1)).any (fun d => sameB d l[k].c) = ((cs.take j).any (fun d => sameB d l[k].c) || sameB cs[j] l[k].c) := by
            rw [List.take_succ_eq_append_getElem hjl, List.any_append]; simp
          rw [← ht.out] at hst
          have HST := hide hst
          clear hst hu hui huq hiq
          cases t with
          | true =>
            go_wp2_with fail
            refine quietly (by kernel_rfl) (by kernel_rfl) ?_
            repeat (go_big_quiet_step (first | (go_at_call 106; exact Calls.far (hLS _ ⟨_, _, rfl⟩).out)))
            refine wpQuiet_nil ?_
            intro _ hw'
            obtain ⟨⟨nq, osq⟩, hw''⟩ := hw'
            subst hw''
            have g2 : Grew wr (far wr nq osq) := ⟨_, _, rfl⟩
            go_wp2
            go_roundw
            case rel => exact ⟨j + 1, true, by omega, by go_num, rfl, hide (by rw [HST.out]; rfl), hgq.trans g2⟩
            case measure => simp [intOf]; omega
          | false =>
            obtain ⟨sb, hsb⟩ : ∃ sb, Hid (sb = sameB cs[j] l[k].c) := ⟨_, hide rfl⟩
            rw [← hsb.out] at hLS HST
            go_wp2_with fail
            refine quietly (by kernel_rfl) (by kernel_rfl) ?_
            repeat (go_big_quiet_step (first | (go_at_call 106; exact Calls.far (hLS _ ⟨_, _, rfl⟩).out)))
            refine wpQuiet_nil ?_
            intro _ hw'
            obtain ⟨⟨nq, osq⟩, hw''⟩ := hw'
            subst hw''
            have g2 : Grew wr (far wr nq osq) := ⟨_, _, rfl⟩
            go_wp2
            go_roundw
            case rel => exact ⟨j + 1, sb, by omega, by go_num, rfl, hide (by rw [HST.out]; rfl), hgq.trans g2⟩
            case measure => simp [intOf]; omega
        · have hkl : j = cs.length := by omega
          have hle : (cs.length : Int) ≤ (j : Int) := by omega
          have hd : decide ((j : Int) < (cs.length : Int)) = false := by simp; omega
          rw [hkl, List.take_length] at ht
          clear hkl
          have hgj := hg.trans hgq
          have d1 := hgq.keep c1
          cases t with
          | true =>
            have HN : Hid (allK l (k + 1) = cs) := hide (by rw [hcs.out]; exact allK_known hlt (by rw [← hcs.out]; exact ht.out.symm))
            have HO : Hid (OwnC wr w.heap.size (.slice (some ⟨g, 0, none⟩) cs.length ocap) (allK l (k + 1))) := by rw [HN.out]; exact hide ((unhide hO).grew hgq)
            go_wp2
            go_roundw
            case rel => exact ⟨k + 1, by omega, by go_num, HO, hgj⟩
            case measure => simp [intOf]; omega
          | false =>
            have hX := hide (l11Sure_any (some ⟨b1, off, none⟩) cap l a1 cap1 l[k].c.length l[k].c rfl wr (hl.grew hgj) hs hn (hi.grew hgq) hrm hs1)
            cases hsu : sureF (cnt l) l[k].c with
            | false =>
              rw [hsu] at hX
              have HN : Hid (allK l (k + 1) = cs) := hide (by rw [hcs.out]; exact allK_poor hlt hsu)
              clear hsu
              go_wp2_with fail
              refine hX.out.mono ?_
              clear hX
              rintro r w3 ⟨rfl, g3⟩
              have HO : Hid (OwnC w3 w.heap.size (.slice (some ⟨g, 0, none⟩) cs.length ocap) (allK l (k + 1))) := by rw [HN.out]; exact hide ((unhide hO).grew (hgq.trans g3))
              go_wp2
              go_roundw
              case rel => exact ⟨k + 1, by omega, by go_num, HO, hgj.trans g3⟩
              case measure => simp [intOf]; omega
            | true =>
              rw [hsu] at hX
              have HN : Hid (allK l (k + 1) = cs ++ [l[k].c]) := hide (by rw [hcs.out]; exact allK_new hlt (by rw [← hcs.out]; exact ht.out.symm) hsu)
              clear hsu
              go_wp2_with fail
              refine hX.out.mono ?_
              clear hX
              rintro r w3 ⟨rfl, g3⟩
              have d13 := g3.keep d1
              have hY := hide (l1Copy_own a1 cap1 l[k].c l[k].c.length rfl w3 (hi.grew (hgq.trans g3)) hs1)
              go_wp2_with fail
              refine hY.out.mono ?_
              clear hY
              rintro r w4 ⟨u, rfl, ou, g4⟩
              obtain ⟨gq, ucap, rfl, huc, hub, hul, hui⟩ : ∃ gq ucap, u = .slice (some ⟨gq, 0, none⟩) l[k].c.length ucap ∧ l[k].c.length ≤ ucap ∧ w3.heap.size ≤ gq ∧ gq < w4.heap.size ∧ Its w4 (some ⟨gq, 0, none⟩) l[k].c := by
                obtain ⟨gq, ucap, e1, e2, e3, e4, e5⟩ := ou.shape
                first | exact ⟨gq, ucap, e1, e2, e3, e4, e5.1⟩ | exact ⟨gq, ucap, e1, e2, e3, e4, e5⟩
              have hg4 := (hgj.trans g3).trans g4
              have gB : Grew w4 (w4.alloc (.cells #[.slice (some ⟨gq, 0, none⟩) l[k].c.length ucap] 23)) := (Grew.refl _).alloc _
              have O4 := hide ((unhide hO).grew (((hgq.trans g3).trans g4).trans gB))
              have hcell : Hid ((w4.alloc (.cells #[.slice (some ⟨gq, 0, none⟩) l[k].c.length ucap] 23)).cell? ⟨w4.heap.size, 0, none⟩ = some (.slice (some ⟨gq, 0, none⟩) l[k].c.length ucap)) := by
                show World.cell? _ _ = _
                have h0 : (w4.alloc (.cells #[.slice (some ⟨gq, 0, none⟩) l[k].c.length ucap] 23)).heap[w4.heap.size]? = some (.cells #[.slice (some ⟨gq, 0, none⟩) l[k].c.length ucap] 23 (0, 0)) := heap_alloc_new w4 _
                unfold World.cell?; simp only; rw [h0]; rfl
              have hCA : Hid (ChAt (w4.alloc (.cells #[.slice (some ⟨gq, 0, none⟩) l[k].c.length ucap] 23)) w.heap.size (Value.slice (some ⟨g, 0, none⟩) cs.length ocap).ownBlock (.slice (some ⟨gq, 0, none⟩) l[k].c.length ucap) l[k].c) := hide ⟨_, _, rfl, huc, hui.grew gB, fun y hy => by
                cases hy
                refine ⟨(show w.heap.size ≤ gq by have := hgj.size; have := g3.size; omega), Nat.lt_of_lt_of_le hul gB.size, fun e => ?_⟩
                have : g = gq := Option.some.inj e
                have h1 := hgq.size
                have h2 := g3.size
                omega⟩
              have hbs : Hid (w.heap.size ≤ (w4.alloc (.cells #[.slice (some ⟨gq, 0, none⟩) l[k].c.length ucap] 23)).heap.size) := hide (hg4.trans gB).size
              clear ou hui
              go_wp2_with (first | (at_builtin; refine wpList_chs rfl _ _ rfl w.heap.size (.slice (some ⟨g, 0, none⟩) cs.length ocap) cs rfl (unhide O4) ⟨w4.heap.size, 0, none⟩ 1 (.slice (some ⟨gq, 0, none⟩) l[k].c.length ucap) l[k].c rfl hcell.out hCA.out (by omega) hbs.out ?_))
              intro v' w5 O5 g5
              have HO : Hid (OwnC w5 w.heap.size v' (allK l (k + 1))) := by rw [HN.out]; exact O5
              have G5 : Grew w w5 := (hg4.trans gB).grown g5 (fun b hb => by have e : g = b := Option.some.inj hb; omega)
              go_wp2
              go_roundw
              case rel => exact ⟨k + 1, by omega, by go_num, HO, G5⟩
              case measure => simp [intOf]; omega
    · have hkl : k = l.length := by omega
      have hle : (l.length : Int) ≤ (k : Int) := by omega
      have hd : decide ((k : Int) < (l.length : Int)) = false := by simp; omega
      rw [hkl] at hO
      clear hkl
      go_wp2
      go_ret
      exact ⟨_, rfl, unhide hO, hg⟩
end Go.Proofs.Ytjbnohepbmejkaa
