/-
  Votes that are drawn: of whatever content, a row that the call may append to.
-/
import Derived.Test.YteemihgakcmamaaVDraw1
import Derived.Test.YteemihgakcmamaaAppR
namespace Go.Proofs.Yteemihgakcmamaa
set_option linter.unusedVariables false
open Go.RowKit
attribute [local simp] far_const

theorem addL_len (l : List Vt) (x : Vt) : (addL l x).length ≤ l.length + 1 := by
  unfold addL; split
  · exact Nat.le_succ _
  · simp
theorem OwnL.its {w : World} {base g n cap : Nat} {l : List It} (h : OwnL w base (.slice (some ⟨g, 0, none⟩) n cap) l) : Its w (some ⟨g, 0, none⟩) l := by
  obtain ⟨_, _, hv, _, _, _, hi⟩ := h.shape
  simp only [Value.slice.injEq, Option.some.injEq, Addr.mk.injEq, and_true] at hv
  obtain ⟨rfl, _, _⟩ := hv
  exact hi
def Low (m : Nat) (l : List Vt) : Prop := ∀ x ∈ l, x.c.length ≤ m
theorem Low.short {m : Nat} {l : List Vt} (h : Low m l) (hm : m ≤ 1048576) : Short l := fun x hx => Nat.le_trans (h x hx) hm
theorem Low.add {m : Nat} {l : List Vt} {x : Vt} (h : Low m l) (hx : x.c.length ≤ m) : Low m (addL l x) := by
  unfold addL; split
  · exact h
  · intro y hy
    rcases List.mem_append.1 hy with hy | hy
    · exact h y hy
    · simp at hy; rw [hy]; exact hx
theorem Low.snoc {m : Nat} {l : List Vt} {x : Vt} (h : Low m l) (hx : x.c.length ≤ m) : Low m (l ++ [x]) := by
  intro y hy
  rcases List.mem_append.1 hy with hy | hy
  · exact h y hy
  · simp at hy; rw [hy]; exact hx
theorem Low.at {m : Nat} {l : List Vt} (h : Low m l) {i : Nat} (hi : i < l.length) : l[i].c.length ≤ m := h _ (List.getElem_mem hi)
theorem Ran.grown' {R : Nat} {w a b : World} {row : Option Nat} (h : Ran R w a) (g : a.grownBy b row) (hr : ∀ k, row = some k → w.heap.size ≤ k) : Ran R w b := h.grown g hr
theorem VRow.grown {w w' : World} {base : Nat} {v : Value} {l : List Vt} {row : Option Nat} (h : VRow w base v l) (g : w.grownBy w' row) (hr : ∀ k, row = some k → w.heap.size ≤ k) : VRow w' base v l :=
  h.kept g.size fun b _ hb => g.block b hb (fun e => by have := hr b e.symm; omega)

set_option maxRecDepth 20000 in
set_option maxHeartbeats 16000000 in
theorem l71Votes_any (R N : Nat) (w : World) (hr : Rd w R N) (hN : N + 700 ≤ 1048576) :
    Calls Try.prog 137 #[.pointer (some ⟨R, 0, none⟩)] w fun r w' => ∃ v l, r = .returned v ∧ VRow w' w.heap.size v l ∧ l.length ≤ 192 ∧ Low 16 l ∧ Rd w' R (N + 700) ∧ Ran R w w' := by
  have hlt := hr.lt
  go_enter Try.func137, Try.ntmps137
  have o0 : VRow (w.alloc (.cells #[] 60)) w.heap.size (.slice (some ⟨w.heap.size, 0, none⟩) 0 0) [] := VRow.empty (Nat.le_refl _)
  have HO := hide o0
  clear o0
  go_wp2_with fail
  refine (l71Chain_any R N _ (hr.grew ((Grew.refl _).alloc _)) (by omega)).mono ?_
  rintro r w1 ⟨vc, cc, rfl, oc, hcc, r1, g1⟩
  have HO := hide ((unhide HO).ran g1 hlt)
  have hoc : Hid ((Value.slice (some ⟨w.heap.size, 0, none⟩) 0 0).ownBlock ≠ vc.ownBlock) := fun e => by
    have := (oc.block w.heap.size (by rw [← e]; rfl)).1
    rw [World.size_alloc] at this; omega
  have OC := hide (oc.low (base' := w.heap.size) (by simp))
  have G1 := ((Ran.refl R w).grew ((Grew.refl _).alloc (.cells #[] 60))).trans g1
  clear g1 oc
  go_wp2_with fail
  refine (pick_any R _ 3 _ r1 (by omega) (by omega)).mono ?_
  rintro r w2 ⟨x, rfl, x0, x1, x2, r2, g2⟩
  have x3 := x1 (by omega)
  clear x1 x2
  have HO := hide ((unhide HO).ran g2 hlt)
  have OC := hide ((unhide OC).ran g2 hlt)
  have G2 := G1.trans g2
  clear g2 G1 r1
  obtain ⟨k0, rfl⟩ := Int.eq_ofNat_of_zero_le x0
  have e0 : Hid ((1 : Int) + k0 = ((k0 + 1 : Nat) : Int)) := by show (1 : Int) + k0 = ((k0 + 1 : Nat) : Int); omega
  go_wp2_with fail
  go_loopw [3, 4, 5] (fun out c n wr => ∃ (vo : Value) (lo : List Vt) (vc : Value) (cc : List It) (k : Nat), out = vo ∧ c = vc ∧ n = .int .i64 k ∧ k ≤ 3 ∧ lo.length ≤ 64 * (3 - k) ∧ Low 16 lo ∧ VRow wr w.heap.size vo lo ∧ OwnL wr w.heap.size vc cc ∧ cc.length ≤ 16 ∧ vo.ownBlock ≠ vc.ownBlock ∧ Rd wr R (N + 700 - 200 * k) ∧ Ran R w wr) (fun _ _ n _ => (intOf n).toNat)
  case atStart => exact ⟨_, [], _, cc, k0 + 1, rfl, rfl, by rw [e0.out], by omega, by simp, (fun x hx => by cases hx), unhide HO, unhide OC, by omega, unhide hoc, r2.more (by omega), G2⟩
  case round =>
    clear HO OC hoc
    obtain ⟨vo, lo, vc, cc, k, rfl, rfl, rfl, hk, hlo, hlw, hvo, hvc, hcc, hne, hrd, hran⟩ := hrel
    obtain ⟨gc, capc, rfl, hcap, hgc1, hgc2, hitc⟩ := hvc.shape
    have HLW := hide hlw
    have HVO := hide hvo
    have HVC := hide hvc
    have HNE := hide hne
    have HIT := hide hitc
    clear hlw hvo hvc hne hitc
    by_cases hk0 : 0 < k
    · go_wp2_with fail
      go_loopw [3, 6] (fun out i wr => ∃ (vo : Value) (lo : List Vt) (j : Nat), out = vo ∧ i = .int .i64 ((j : Int) + 1) ∧ j ≤ cc.length ∧ lo.length ≤ 64 * (3 - k) + 4 * j ∧ Low 16 lo ∧ VRow wr w.heap.size vo lo ∧ OwnL wr w.heap.size (.slice (some ⟨gc, 0, none⟩) cc.length capc) cc ∧ vo.ownBlock ≠ some gc ∧ Rd wr R (N + 700 - 200 * k + 4 * j) ∧ Ran R w wr) (fun _ i _ => cc.length + 1 - (intOf i).toNat)
      case atStart => exact ⟨_, lo, 0, rfl, rfl, Nat.zero_le _, by omega, unhide HLW, unhide HVO, unhide HVC, unhide HNE, hrd, hran⟩
      case round =>
        clear HLW HVO HVC HNE HIT hlo hrd hran
        obtain ⟨vo, lo, j, rfl, rfl, hj, hlo, hlw, hvo, hvc, hne, hrd, hran⟩ := hrel
        have HLW := hide hlw
        have HVO := hide hvo
        have HVC := hide hvc
        have HNE := hide hne
        clear hlw hvo hvc hne
        by_cases hjl : j < cc.length
        · have hjl' : (j : Int) + 1 ≤ (cc.length : Int) := by omega
          go_wp2_with fail
          go_loopw [3, 7] (fun out y wr => ∃ (vo : Value) (lo : List Vt) (q : Nat), out = vo ∧ y = .int .i64 ((q : Int) + 1) ∧ q ≤ 4 ∧ lo.length ≤ 64 * (3 - k) + 4 * j + q ∧ Low 16 lo ∧ VRow wr w.heap.size vo lo ∧ OwnL wr w.heap.size (.slice (some ⟨gc, 0, none⟩) cc.length capc) cc ∧ vo.ownBlock ≠ some gc ∧ Rd wr R (N + 700 - 200 * k + 4 * j + q) ∧ Ran R w wr) (fun _ y _ => 5 - (intOf y).toNat)
          case atStart => exact ⟨_, lo, 0, rfl, rfl, Nat.zero_le _, by omega, unhide HLW, unhide HVO, unhide HVC, unhide HNE, hrd, hran⟩
          case round =>
            clear HLW HVO HVC HNE hlo hrd hran
            obtain ⟨vo, lo, q, rfl, rfl, hq, hlo, hlw, hvo, hvc, hne, hrd, hran⟩ := hrel
            have HLW := hide hlw
            have HVO := hide hvo
            have HVC := hide hvc
            have HNE := hide hne
            clear hlw hvo hvc hne
            by_cases hq4 : q < 4
            · have hq4' : (q : Int) + 1 ≤ 4 := by omega
              go_wp2_with fail
              refine (pick_any R _ 9 _ hrd (by omega) (by omega)).mono ?_
              rintro r w3 ⟨z, rfl, z0, z1, z2, r3, g3⟩
              clear z1 z2
              have HVO := hide ((unhide HVO).ran g3 hlt)
              have HVC := hide ((unhide HVC).ran g3 hlt)
              have G3 := hran.trans g3
              clear g3 hrd hran
              by_cases hz : 0 < z
              · have hj1 : j + 1 ≤ capc := by omega
                obtain ⟨_, _, hveq, _, _, _, hits⟩ := (unhide HVC).shape
                simp only [Value.slice.injEq, Option.some.injEq, Addr.mk.injEq, and_true, true_and] at hveq
                obtain ⟨rfl, rfl⟩ := hveq
                have HI := hide hits
                have hbl := hide (unhide HVO).block
                clear hits
                go_wp2_with fail
                refine (l3Add_any w.heap.size _ lo ⟨(q : Int) + 1, cc.take (j + 1)⟩ _ _ (unhide HVO) ((unhide HLW).short (by omega)) (by omega) ⟨some ⟨gc, 0, none⟩, capc, by rw [List.length_take, Nat.min_eq_left (by omega)], (unhide HI).take (j + 1)⟩ (by rw [List.length_take]; omega)).mono ?_
                rintro r w4 ⟨v4, rfl, o4, g4, hat⟩
                have hgz : gc < w3.heap.size := ((unhide HVC).block gc rfl).2
                have O4 := hide o4
                have C4 := hide ((unhide HVC).grown g4 (fun i k hi hk => by cases hi; intro e; have e' : gc = k := e; exact unhide HNE (by rw [hk, e'])))
                have R4 := r3.grown g4 (fun k hk => by have := (unhide hbl k hk).1; omega)
                have G4 := G3.grown g4 (fun k hk => (unhide hbl k hk).1)
                have N4 : Hid (v4.ownBlock ≠ some gc) := fun e => by
                  rcases hat with h | ⟨k, h, hk⟩
                  · exact unhide HNE (h.symm.trans e)
                  · rw [h] at e; have := Option.some.inj e; omega
                have hal := addL_len lo ⟨(q : Int) + 1, cc.take (j + 1)⟩
                have LW4 := hide ((unhide HLW).add (x := ⟨(q : Int) + 1, cc.take (j + 1)⟩) (by rw [List.length_take]; omega))
                clear o4 g4 hat
                go_wp2
                go_roundw
                case rel => exact ⟨_, _, q + 1, rfl, by go_num, by omega, by omega, unhide LW4, unhide O4, unhide C4, unhide N4, R4.more (by omega), G4⟩
                case measure => simp [intOf]; omega
              · have hz' : decide (0 < z) = false := by simpa using hz
                go_wp2
                go_roundw
                case rel => exact ⟨_, lo, q + 1, rfl, by go_num, by omega, by omega, unhide HLW, unhide HVO, unhide HVC, unhide HNE, r3.more (by omega), G3⟩
                case measure => simp [intOf]; omega
            · have hq5 : q = 4 := by omega
              subst hq5
              go_wp2
              go_roundw
              case rel => exact ⟨_, lo, j + 1, rfl, by go_num, by omega, by omega, unhide HLW, unhide HVO, unhide HVC, unhide HNE, hrd.more (by omega), hran⟩
              case measure => simp [intOf]; omega
        · have hjl' : ¬ (j : Int) + 1 ≤ (cc.length : Int) := by omega
          have hj2 : j = cc.length := by omega
          have HLO := HLW
          go_wp2_with fail
          refine (l71Two_any R _ _ hrd (by omega)).mono ?_
          rintro r w3 ⟨va, la, vb, lb, rfl, _, OB0, _, hlb, r3, g3⟩
          have hbz := (unhide HVO).block
          have hbo : _ ≠ vb.ownBlock := fun e => by
            obtain ⟨gb, cb, rfl, _, h1, _, _⟩ := OB0.shape
            have := (hbz gb e).2
            omega
          have hz3 : w.heap.size ≤ wr.heap.size := hran.size
          have OB := OB0.low hz3
          have HO := hide ((unhide HVO).ran g3 hlt)
          have OC := hide ((unhide HVC).ran g3 hlt)
          have hoc := HNE
          have G3 := hran.trans g3
          have H3 := hide hbz
          clear HVO HVC HNE HLW g3 hrd hran OB0 hbz
          by_cases hc0 : 0 < cc.length
          · have hc0' : (0 : Int) < (cc.length : Int) := by omega
            go_wp2_with fail
            refine (pick_any R _ 2 _ r3 (by omega) (by omega)).mono ?_
            rintro r w4 ⟨z, rfl, z0, z1, z2, r4, g4⟩
            have z3 := z1 (by omega)
            clear z1 z2
            have OB := OB.ran g4 hlt
            have HO := hide ((unhide HO).ran g4 hlt)
            have OC := hide ((unhide OC).ran g4 hlt)
            have RB := r4
            have GB := G3.trans g4
            clear g4 r3 G3 r4
            by_cases hz : z = 0
            · subst hz
              clear OB hbo hlb
              obtain ⟨⟨ee, c0⟩, _⟩ := (unhide OC).cells (j := (cc.length - 1) * 4) (by omega)
              have C0 := hide c0
              have hgR : gc ≠ R := by omega
              have hcz := hide ((unhide OC).block gc rfl)
              have hvz := hide (unhide HO).block
              have hgz : gc < w4.heap.size := (unhide hcz).2
              have hRz : R < w4.heap.size := RB.lt
              have RBD := hide (RB.grew (Grew.refl _).drew)
              clear RB
              have i1 : IntKind.i64.wrap ((cc.length : Int) - 1) = (cc.length : Int) - 1 := by rw [IntKind.wrap_i64]; omega
              have i2 : ¬ (cc.length : Int) - 1 < 0 := by omega
              have i3 : (0 : Int) ≤ (cc.length : Int) - 1 := by omega
              have i4 : (cc.length : Int) - 1 < (cc.length : Int) := by omega
              have i5 : ((cc.length : Int) - 1).toNat = cc.length - 1 := by omega
              have i6 : (1 : Int) ≤ (cc.length : Int) := by omega
              go_wp2_with fail
              go_region_held_law (fun w' => w'.cell? ⟨gc, (cc.length - 1) * 4, none⟩ = some (.int .i64 ee))
                (first | exact unhide C0 | exact g5.cell (p := ⟨gc, _, none⟩) hgR (unhide C0) | exact g6.keep (g5.cell (p := ⟨gc, _, none⟩) hgR (unhide C0)) | exact g7.cell (p := ⟨gc, _, none⟩) hgR (g6.keep (g5.cell (p := ⟨gc, _, none⟩) hgR (unhide C0))) | exact ((Grew.refl _).alloc _).keep (g7.cell (p := ⟨gc, _, none⟩) hgR (g6.keep (g5.cell (p := ⟨gc, _, none⟩) hgR (unhide C0)))) | exact g8.cell (((Grew.refl _).alloc _).keep (g7.cell (p := ⟨gc, _, none⟩) hgR (g6.keep (g5.cell (p := ⟨gc, _, none⟩) hgR (unhide C0))))) hn8)
                (first
                  | (go_at_call 117; refine (pick_any R _ cc.length _ (unhide RBD) (by omega) (by omega)).mono ?_; rintro r w5 ⟨y, rfl, y0, y1, y2, r5, g5⟩; have y3 := y1 (by omega); obtain ⟨kk, rfl⟩ := Int.eq_ofNat_of_zero_le y0; have hkc : kk ≤ capc := (by omega); have hz5 : w4.heap.size ≤ w5.heap.size := g5.size)
                  | (go_at_call 70; refine (l1Copy_own (some ⟨gc, 0, none⟩) capc (cc.take kk) kk (by rw [List.length_take]; omega) _ ((((unhide OC).grew (Grew.refl _).drew).ran g5 hlt).its.take kk) (by omega)).mono ?_; rintro r w6 ⟨v6, rfl, o6, g6⟩)
                  | (go_at_call 161; refine (l71Pay_any R _ _ (r5.grew g6) (by omega)).mono ?_; rintro r w7 ⟨f, t, s, rfl, r7, g7⟩; have hz7 := g7.size; have hz6 := g6.size; have o7 := o6.ran g7 (by omega); have hb6 := o7.block)
                  | (with_reducible refine at_ite ?_; refine step_items rfl _ _ rfl w5.heap.size v6 (cc.take kk) rfl (o7.grew ((Grew.refl _).alloc _)) ⟨w7.heap.size, 0, none⟩ 1 [⟨IntKind.i64.wrap (ee + 1), f, t, s⟩] 1 rfl rfl (its_one _ _ _) (by simp) (by simp; omega) (by simp; omega) ?_; intro v8 w8 o8 g8; have hn8 : some gc ≠ v6.ownBlock := (fun e => by have := (hb6 gc e.symm).1; omega)))
              simp only [List.getElem_toArray, List.getElem_cons_succ, List.getElem_cons_zero, List.setIfInBounds_toArray, List.set_cons_succ, List.set_cons_zero]
              have RR := ((((Ran.refl R w4).grew (Grew.refl _).drew).trans g5).grew g6 |>.trans g7).grew ((Grew.refl _).alloc (.cells #[.int .i64 (IntKind.i64.wrap (ee + 1)), .int .i64 f, .int .i64 t, .int .i64 s] 51)) |>.grown g8 (fun k hk => by have := (hb6 k hk).1; omega)
              have RB := (r7.grew ((Grew.refl _).alloc _)).grown g8 (fun k hk => by have := (hb6 k hk).1; omega)
              have HO := hide ((unhide HO).ran RR hlt)
              have OC := hide ((unhide OC).ran RR hlt)
              have GB := GB.trans RR
              have hbo : _ ≠ v8.ownBlock := fun e => by
                obtain ⟨gb, cb, rfl, _, h1, _, _⟩ := o8.shape
                have := (unhide hvz gb e).2
                omega
              have hlb : (cc.take kk ++ [(⟨IntKind.i64.wrap (ee + 1), f, t, s⟩ : It)]).length ≤ 16 := by rw [List.length_append, List.length_take, List.length_singleton]; omega
              have hz4 := GB.size
              have OB := o8.low (base' := w.heap.size) (by omega)
              obtain ⟨lb, hlbe⟩ : ∃ lb : List It, cc.take kk ++ [⟨IntKind.i64.wrap (ee + 1), f, t, s⟩] = lb := ⟨_, rfl⟩
              rw [hlbe] at OB hlb
              clear o6 o7 o8 g5 g6 g7 g8 hb6 hn8 RR hlbe r5 r7 i1 i2 i3 i4 i5 i6

              obtain ⟨gB, cB, rfl, _, _, _, itB⟩ := OB.shape
              go_wp2_with fail
              refine (specChainOk _ _ lb _ itB (by omega)).mono ?_
              rintro r wz ⟨rfl, gz⟩
              have OB := hide (OB.grew gz)
              have HO := hide ((unhide HO).grew gz)
              have OC := hide ((unhide OC).grew gz)
              have RB := RB.grew gz
              have GB := GB.grew gz
              clear gz itB
              cases hok : okB lb with
              | true =>
                go_wp2
                go_roundw
                case rel => exact ⟨_, lo, _, lb, k - 1, rfl, rfl, by go_num, by omega, by omega, unhide HLO, unhide HO, unhide OB, hlb, hbo, RB.more (by omega), GB⟩
                case measure => simp [intOf]; omega
              | false =>
                go_wp2
                go_roundw
                case rel => exact ⟨_, lo, _, cc, k - 1, rfl, rfl, by go_num, by omega, by omega, unhide HLO, unhide HO, unhide OC, hcc, unhide hoc, RB.more (by omega), GB⟩
                case measure => simp [intOf]; omega
            · have hz' : (z == 0) = false := by simpa using hz

              obtain ⟨gB, cB, rfl, _, _, _, itB⟩ := OB.shape
              go_wp2_with fail
              refine (specChainOk _ _ lb _ itB (by omega)).mono ?_
              rintro r wz ⟨rfl, gz⟩
              have OB := hide (OB.grew gz)
              have HO := hide ((unhide HO).grew gz)
              have OC := hide ((unhide OC).grew gz)
              have RB := RB.grew gz
              have GB := GB.grew gz
              clear gz itB
              cases hok : okB lb with
              | true =>
                go_wp2
                go_roundw
                case rel => exact ⟨_, lo, _, lb, k - 1, rfl, rfl, by go_num, by omega, by omega, unhide HLO, unhide HO, unhide OB, hlb, hbo, RB.more (by omega), GB⟩
                case measure => simp [intOf]; omega
              | false =>
                go_wp2
                go_roundw
                case rel => exact ⟨_, lo, _, cc, k - 1, rfl, rfl, by go_num, by omega, by omega, unhide HLO, unhide HO, unhide OC, hcc, unhide hoc, RB.more (by omega), GB⟩
                case measure => simp [intOf]; omega
          · have hc0' : decide (0 < cc.length) = false := by simpa using hc0
            have RB := r3
            have GB := G3
            clear r3 G3

            obtain ⟨gB, cB, rfl, _, _, _, itB⟩ := OB.shape
            go_wp2_with fail
            refine (specChainOk _ _ lb _ itB (by omega)).mono ?_
            rintro r wz ⟨rfl, gz⟩
            have OB := hide (OB.grew gz)
            have HO := hide ((unhide HO).grew gz)
            have OC := hide ((unhide OC).grew gz)
            have RB := RB.grew gz
            have GB := GB.grew gz
            clear gz itB
            cases hok : okB lb with
            | true =>
              go_wp2
              go_roundw
              case rel => exact ⟨_, lo, _, lb, k - 1, rfl, rfl, by go_num, by omega, by omega, unhide HLO, unhide HO, unhide OB, hlb, hbo, RB.more (by omega), GB⟩
              case measure => simp [intOf]; omega
            | false =>
              go_wp2
              go_roundw
              case rel => exact ⟨_, lo, _, cc, k - 1, rfl, rfl, by go_num, by omega, by omega, unhide HLO, unhide HO, unhide OC, hcc, unhide hoc, RB.more (by omega), GB⟩
              case measure => simp [intOf]; omega
    · have hk1 : k = 0 := by omega
      subst hk1
      go_wp2
      go_ret
      exact ⟨_, lo, rfl, unhide HVO, by omega, unhide HLW, hrd.more (by omega), hran⟩
end Go.Proofs.Yteemihgakcmamaa
