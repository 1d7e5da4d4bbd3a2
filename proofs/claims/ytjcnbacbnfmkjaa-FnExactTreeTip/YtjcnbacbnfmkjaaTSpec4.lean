/-
  What the specification's l11All answers, of votes whose chains have room.
-/
import Derived.Test.YtjcnbacbnfmkjaaTSpec2
namespace Go.Proofs.Ytjcnbacbnfmkjaa
set_option linter.unusedVariables false
open Go.RowKit
attribute [local simp] far_const

/-- Each chain of a row of votes has room: it may be cut up to its own length. -/
def Room (w : World) (a : Option Addr) (l : List Vt) : Prop := ∀ b off, a = some ⟨b, off, none⟩ → ∀ i, i < l.length → ∀ u n cp, w.cell? ⟨b, off + i * 2 + 1, none⟩ = some (.slice u n cp) → n ≤ cp
theorem Room.grew {w w' : World} {a : Option Addr} {l : List Vt} (h : Room w a l) (hl : Vts w a l) (g : Grew w w') : Room w' a l := by
  intro b off ha i hi u n cp hc
  obtain ⟨b2, o2, e, _, a2, cap2, c2, _⟩ := hl.at hi
  rw [ha] at e
  simp only [Option.some.injEq, Addr.mk.injEq, and_true] at e
  obtain ⟨rfl, rfl⟩ := e
  have := g.keep c2
  rw [hc] at this
  rw [← this] at c2
  exact h _ _ ha i hi _ _ _ c2

set_option maxRecDepth 20000 in
set_option maxHeartbeats 4000000 in
theorem l11All_any (a : Option Addr) (cap : Nat) (l : List Vt) (w : World) (hl : Vts w a l) (hroom : Room w a l) (hs : Short l) (hn : l.length ≤ 1048576) :
    Calls Try.prog 54 #[.slice a l.length cap] w fun r w' => ∃ v, r = .returned v ∧ OwnC w' w.heap.size v (allK l l.length) ∧ Grew w w' := by
  have h0 := hide (ownC_start w)
  have gS : Grew w ((w.alloc (.cells #[] 77)).alloc (.cells #[.slice (some ⟨w.heap.size, 0, none⟩) 0 0] 24)) := ((Grew.refl w).alloc _).alloc _
  go_enter Try.func54, Try.ntmps54
  go_wp2_with fail
  obtain ⟨W, hW⟩ : ∃ W, Hid (W = (w.alloc (.cells #[] 77)).alloc (.cells #[.slice (some ⟨w.heap.size, 0, none⟩) 0 0] 24)) := ⟨_, hide rfl⟩
  rw [← hW.out] at h0 gS ⊢
  go_loopw [3, 4] (fun o i wr => ∃ k : Nat, k ≤ l.length ∧ i = .int .i64 k ∧ Hid (OwnC wr w.heap.size o (allK l k)) ∧ Grew w wr) (fun _ i _ => l.length - (intOf i).toNat)
  case atStart => exact ⟨0, Nat.zero_le _, rfl, by rw [allK_zero]; exact h0, gS⟩
  case round =>
    obtain ⟨k, hk, rfl, hO, hg⟩ := hrel
    by_cases hlt : k < l.length
    · obtain ⟨g, ocap, rfl, hcapo, hbg, hgl, hcell⟩ := (unhide hO).at
      have HC := hide hcell
      have hlen := allK_len l k
      have HSh := hide (allK_short hs k)
      obtain ⟨cs, hcs⟩ : ∃ cs, Hid (cs = allK l k) := ⟨_, hide rfl⟩
      rw [← hcs.out] at hO HC hlen HSh hcapo ⊢
      clear hcell
      obtain ⟨b1, off, rfl, hat⟩ := hl.at hlt
      obtain ⟨c0, a1, cap1, c1, hi⟩ := hat.grew hg
      have hrm : l[k].c.length ≤ cap1 := by
        obtain ⟨_, a2, cap2, c2, _⟩ := hat
        have := hg.keep c2
        rw [c1] at this
        simp only [Option.some.injEq, Value.slice.injEq, true_and] at this
        obtain ⟨rfl, rfl⟩ := this
        exact hroom b1 off rfl k hlt _ _ _ c2
      have hs1 := hs.at hlt
      clear hat
      obtain ⟨wo, rfl⟩ : ∃ wo, wo = wr := ⟨wr, rfl⟩
      go_wp2_with fail
      go_loopw [5, 6] (fun kn q wq => ∃ j : Nat, ∃ t : Bool, j ≤ cs.length ∧ q = .int .i64 j ∧ kn = .bool t ∧ Hid (t = (cs.take j).any (fun d => sameB d l[k].c)) ∧ Grew wo wq) (fun _ q _ => cs.length - (intOf q).toNat)
      case atStart => exact ⟨0, false, Nat.zero_le _, rfl, rfl, hide rfl, Grew.refl _⟩
      case round =>
        obtain ⟨j, t, hj, rfl, rfl, ht, hgq⟩ := hrel
        by_cases hjl : j < cs.length
        · obtain ⟨u, hu, ua, ucap, rfl, hul, hui, _⟩ := HC.out j hjl
          have hcs1 := HSh.out _ (List.getElem_mem hjl)
          have e0 := Grew.gcell (hgq.keep hu)
          have e1 := Grew.gcell (hgq.keep c1)
          have hiq := hi.grew hgq
          have huq := hui.grew hgq
          have hLS : ∀ W, Grew wr W → Hid (Calls Try.prog 78 #[.slice ua cs[j].length ucap, .slice a1 l[k].c.length cap1] W fun r w' => r = .returned (.bool (sameB cs[j] l[k].c)) ∧ Grew W w') := fun W g => hide (l3Same_any ua a1 ucap cap1 cs[j] l[k].c W (huq.grew g) (hiq.grew g) hcs1 hs1)
          have hst : (cs.take (j + 1)).any (fun d => sameB d l[k].c) = ((cs.take j).any (fun d => sameB d l[k].c) || sameB cs[j] l[k].c) := by
            rw [List.take_succ_eq_append_getElem hjl, List.any_append]; simp
          rw [← ht.out] at hst
          have HST := hide hst
          clear hst hu hui huq hiq
          cases t with
          | true =>
            go_wp2_with fail
            refine quietly (by kernel_rfl) (by kernel_rfl) ?_
            repeat (go_big_quiet_step (first | (go_at_call 78; exact Calls.far (hLS _ ⟨_, _, rfl⟩).out)))
            refine wpQuiet_nil ?_
            intro _ hw'
            obtain ⟨⟨nq, osq⟩, hw''⟩ := hw'
            subst hw''
            have g2 : Grew wr (far wr nq osq) := ⟨_, _, rfl⟩
            go_wp2
            go_roundw
            case rel => exact ⟨j + 1, true, by omega, by go_num, rfl, hide (by rw [HST.out]; rfl), hgq.trans g2⟩
            case measure => simp [intOf]; omega
          | false =>
            obtain ⟨sb, hsb⟩ : ∃ sb, Hid (sb = sameB cs[j] l[k].c) := ⟨_, hide rfl⟩
            rw [← hsb.out] at hLS HST
            go_wp2_with fail
            refine quietly (by kernel_rfl) (by kernel_rfl) ?_
            repeat (go_big_quiet_step (first | (go_at_call 78; exact Calls.far (hLS _ ⟨_, _, rfl⟩).out)))
            refine wpQuiet_nil ?_
            intro _ hw'
            obtain ⟨⟨nq, osq⟩, hw''⟩ := hw'
            subst hw''
            have g2 : Grew wr (far wr nq osq) := ⟨_, _, rfl⟩
            go_wp2
            go_roundw
            case rel => exact ⟨j + 1, sb, by omega, by go_num, rfl, hide (by rw [HST.out]; rfl), hgq.trans g2⟩
            case measure => simp [intOf]; omega
        · have hkl : j = cs.length := by omega
          have hle : (cs.length : Int) ≤ (j : Int) := by omega
          have hd : decide ((j : Int) < (cs.length : Int)) = false := by simp; omega
          rw [hkl, List.take_length] at ht
          clear hkl
          have hgj := hg.trans hgq
          have d1 := hgq.keep c1
          cases t with
          | true =>
            have HN : Hid (allK l (k + 1) = cs) := hide (by rw [hcs.out]; exact allK_known hlt (by rw [← hcs.out]; exact ht.out.symm))
            have HO : Hid (OwnC wr w.heap.size (.slice (some ⟨g, 0, none⟩) cs.length ocap) (allK l (k + 1))) := by rw [HN.out]; exact hide ((unhide hO).grew hgq)
            go_wp2
            go_roundw
            case rel => exact ⟨k + 1, by omega, by go_num, HO, hgj⟩
            case measure => simp [intOf]; omega
          | false =>
            have hX := hide (l11Sure_any (some ⟨b1, off, none⟩) cap l a1 cap1 l[k].c.length l[k].c rfl wr (hl.grew hgj) hs hn (hi.grew hgq) hrm hs1)
            cases hsu : sureF (cnt l) l[k].c with
            | false =>
              rw [hsu] at hX
              have HN : Hid (allK l (k + 1) = cs) := hide (by rw [hcs.out]; exact allK_poor hlt hsu)
              clear hsu
              go_wp2_with fail
              refine hX.out.mono ?_
              clear hX
              rintro r w3 ⟨rfl, g3⟩
              have HO : Hid (OwnC w3 w.heap.size (.slice (some ⟨g, 0, none⟩) cs.length ocap) (allK l (k + 1))) := by rw [HN.out]; exact hide ((unhide hO).grew (hgq.trans g3))
              go_wp2
              go_roundw
              case rel => exact ⟨k + 1, by omega, by go_num, HO, hgj.trans g3⟩
              case measure => simp [intOf]; omega
            | true =>
              rw [hsu] at hX
              have HN : Hid (allK l (k + 1) = cs ++ [l[k].c]) := hide (by rw [hcs.out]; exact allK_new hlt (by rw [← hcs.out]; exact ht.out.symm) hsu)
              clear hsu
              go_wp2_with fail
              refine hX.out.mono ?_
              clear hX
              rintro r w3 ⟨rfl, g3⟩
              have d13 := g3.keep d1
              have hY := hide (l1Copy_own a1 cap1 l[k].c l[k].c.length rfl w3 (hi.grew (hgq.trans g3)) hs1)
              go_wp2_with fail
              refine hY.out.mono ?_
              clear hY
              rintro r w4 ⟨u, rfl, ou, g4⟩
              obtain ⟨gq, ucap, rfl, huc, hub, hul, hui⟩ : ∃ gq ucap, u = .slice (some ⟨gq, 0, none⟩) l[k].c.length ucap ∧ l[k].c.length ≤ ucap ∧ w3.heap.size ≤ gq ∧ gq < w4.heap.size ∧ Its w4 (some ⟨gq, 0, none⟩) l[k].c := by
                obtain ⟨gq, ucap, e1, e2, e3, e4, e5⟩ := ou.shape
                first | exact ⟨gq, ucap, e1, e2, e3, e4, e5.1⟩ | exact ⟨gq, ucap, e1, e2, e3, e4, e5⟩
              have hg4 := (hgj.trans g3).trans g4
              have gB : Grew w4 (w4.alloc (.cells #[.slice (some ⟨gq, 0, none⟩) l[k].c.length ucap] 24)) := (Grew.refl _).alloc _
              have O4 := hide ((unhide hO).grew (((hgq.trans g3).trans g4).trans gB))
              have hcell : Hid ((w4.alloc (.cells #[.slice (some ⟨gq, 0, none⟩) l[k].c.length ucap] 24)).cell? ⟨w4.heap.size, 0, none⟩ = some (.slice (some ⟨gq, 0, none⟩) l[k].c.length ucap)) := by
                show World.cell? _ _ = _
                have h0 : (w4.alloc (.cells #[.slice (some ⟨gq, 0, none⟩) l[k].c.length ucap] 24)).heap[w4.heap.size]? = some (.cells #[.slice (some ⟨gq, 0, none⟩) l[k].c.length ucap] 24 (0, 0)) := heap_alloc_new w4 _
                unfold World.cell?; simp only; rw [h0]; rfl
              have hCA : Hid (ChAt (w4.alloc (.cells #[.slice (some ⟨gq, 0, none⟩) l[k].c.length ucap] 24)) w.heap.size (Value.slice (some ⟨g, 0, none⟩) cs.length ocap).ownBlock (.slice (some ⟨gq, 0, none⟩) l[k].c.length ucap) l[k].c) := hide ⟨_, _, rfl, huc, hui.grew gB, fun y hy => by
                cases hy
                refine ⟨(show w.heap.size ≤ gq by have := hgj.size; have := g3.size; omega), Nat.lt_of_lt_of_le hul gB.size, fun e => ?_⟩
                have : g = gq := Option.some.inj e
                have h1 := hgq.size
                have h2 := g3.size
                omega⟩
              have hbs : Hid (w.heap.size ≤ (w4.alloc (.cells #[.slice (some ⟨gq, 0, none⟩) l[k].c.length ucap] 24)).heap.size) := hide (hg4.trans gB).size
              clear ou hui
              go_wp2_with (first | (at_builtin; refine wpList_chs rfl _ _ rfl w.heap.size (.slice (some ⟨g, 0, none⟩) cs.length ocap) cs rfl (unhide O4) ⟨w4.heap.size, 0, none⟩ 1 (.slice (some ⟨gq, 0, none⟩) l[k].c.length ucap) l[k].c rfl hcell.out hCA.out (by omega) hbs.out ?_))
              intro v' w5 O5 g5
              have HO : Hid (OwnC w5 w.heap.size v' (allK l (k + 1))) := by rw [HN.out]; exact O5
              have G5 : Grew w w5 := (hg4.trans gB).grown g5 (fun b hb => by have e : g = b := Option.some.inj hb; omega)
              go_wp2
              go_roundw
              case rel => exact ⟨k + 1, by omega, by go_num, HO, G5⟩
              case measure => simp [intOf]; omega
    · have hkl : k = l.length := by omega
      have hle : (l.length : Int) ≤ (k : Int) := by omega
      have hd : decide ((k : Int) < (l.length : Int)) = false := by simp; omega
      rw [hkl] at hO
      clear hkl
      go_wp2
      go_ret
      exact ⟨_, rfl, unhide hO, hg⟩
end Go.Proofs.Ytjcnbacbnfmkjaa
