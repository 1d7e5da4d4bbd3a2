/-
  nodeDo of an ok node, by the contract of the deed: propose.
-/
import Derived.Test.YtkegdjfpeocndaaNod7
namespace Go.Proofs.Ytkegdjfpeocndaa
set_option linter.unusedVariables false
open Go.RowKit
attribute [local simp] far_const

set_option maxRecDepth 20000 in
set_option maxHeartbeats 16000000 in
/-- nodeDo of an ok node, by the contract of the deed. -/
theorem nodeDo1 (x x' : Nd) (told : Bool) (T : Tell) (e pf pt ps vb : Int) (va : Option Addr) (vn vc : Nat) (hT : T.Keeps)
    (HD : ∀ (W : World) (base k : Nat) (sv : Value) (hh : List Nat), KpO W base k x sv hh → Calls Try.prog 160 #[.pointer (some ⟨k, 0, none⟩), .agg #[.int .i64 e, .int .i64 pf, .int .i64 pt, .int .i64 ps, .int .i64 vb, .slice va vn vc]] W fun r w' => ∃ b q m c sv' hh', r = .returned (.tuple #[.agg #[.int .i64 b, .slice q m c], .bool told]) ∧ KpO w' base k x' sv' hh' ∧ T W.heap.size w' b q m c hh' sv' ∧ Newly W hh sv hh' sv' ∧ Ran k W w')
    (v : Value) (w : World) (h : NdV w v x) (hs : Short x.s) (hn : x.s.length ≤ 1048576) (hok : nodeB x = true) :
    Calls Try.prog 80 #[v, .int .i64 1, .agg #[.int .i64 e, .int .i64 pf, .int .i64 pt, .int .i64 ps, .int .i64 vb, .slice va vn vc]] w fun r w' => ∃ N b q m c sv' hh', r = .returned (.tuple #[.agg #[.int .i64 x'.id, .int .i64 x'.ep, .int .i64 x'.vo, sv'], .agg #[.int .i64 b, .slice q m c], .bool told]) ∧ VAns w' w.heap.size sv' hh' x'.s ∧ T N w' b q m c hh' sv' ∧ w.heap.size ≤ N ∧ Grew w w' := by
  obtain ⟨sv, rfl, a, cap, rfl, hcap, hv⟩ := h
  have HV := hide hv
  have hB := Boxes.begin w x.id x.ep x.vo (.slice a x.s.length cap) e pf pt ps vb va vn vc 52 122 52 45
  have hG : Grew w ((((w.alloc (.cells #[.int .i64 x.id, .int .i64 x.ep, .int .i64 x.vo, .slice a x.s.length cap] 52)).alloc (.cells #[.int .i64 e, .int .i64 pf, .int .i64 pt, .int .i64 ps, .int .i64 vb, .slice va vn vc] 122)).alloc (.cells #[.int .i64 0, .int .i64 0, .int .i64 0, .slice none 0 0] 52)).alloc (.cells #[.int .i64 0, .slice none 0 0] 45)) := ((((Grew.refl w).alloc _).alloc _).alloc _).alloc _
  obtain ⟨W1, hW1⟩ : ∃ W, W = ((((w.alloc (.cells #[.int .i64 x.id, .int .i64 x.ep, .int .i64 x.vo, .slice a x.s.length cap] 52)).alloc (.cells #[.int .i64 e, .int .i64 pf, .int .i64 pt, .int .i64 ps, .int .i64 vb, .slice va vn vc] 122)).alloc (.cells #[.int .i64 0, .int .i64 0, .int .i64 0, .slice none 0 0] 52)).alloc (.cells #[.int .i64 0, .slice none 0 0] 45)) := ⟨_, rfl⟩
  rw [← hW1] at hB hG
  have HB := hide hB
  have HG := hide hG
  have HW := hide hW1
  have hz : w.heap.size + 4 = W1.heap.size := by rw [hW1]; simp
  clear hv hB hG hW1
  go_enter Try.func80, Try.ntmps80
  go_wp2_with fail
  rw [← unhide HW]
  clear HW
  obtain ⟨p0, p1, p2, p3⟩ := (unhide HB).nd
  go_wp2_with fail
  refine (implNodeOk x _ _ ⟨_, rfl, a, cap, rfl, hcap, (unhide HV).grew (unhide HG)⟩ hs hn).mono ?_
  rw [hok]
  rintro r W2 ⟨rfl, g2⟩
  have S2 := hide g2
  clear g2 p0 p1 p2 p3
  have HB2 := hide ((unhide HB).grew (unhide S2))
  obtain ⟨p0, p1, p2, p3⟩ := (unhide HB2).nd
  go_wp2_with fail
  refine (keeperOf_any x _ W2 ⟨_, rfl, a, cap, rfl, hcap, (unhide HV).grew ((unhide HG).trans (unhide S2))⟩ hs hn).mono ?_
  rintro r W3 ⟨k, sv, hh, rfl, hk, g3⟩
  have hk2 : W2.heap.size ≤ k := hk.low
  have hk3 : k < W3.heap.size := hk.kp.lt
  have G23 := hide g3
  have HK := hide hk
  clear p0 p1 p2 p3 hk g3
  have B3 := hide ((unhide HB2).grew (unhide G23))
  have e0 := (unhide B3).er 0 (by simp)
  have e1 := (unhide B3).er 1 (by simp)
  have e2 := (unhide B3).er 2 (by simp)
  have e3 := (unhide B3).er 3 (by simp)
  have e4 := (unhide B3).er 4 (by simp)
  have e5 := (unhide B3).er 5 (by simp)
  have IQa := hide (And.intro e0 (And.intro e1 (And.intro e2 (And.intro e3 (And.intro e4 e5)))))
  clear e0 e1 e2 e3 e4 e5
  have IQ : Hid (W3.cell? ⟨w.heap.size + 1, 0, none⟩ = some (.int .i64 e) ∧ W3.cell? ⟨w.heap.size + 1, 1, none⟩ = some (.int .i64 pf) ∧ W3.cell? ⟨w.heap.size + 1, 2, none⟩ = some (.int .i64 pt) ∧ W3.cell? ⟨w.heap.size + 1, 3, none⟩ = some (.int .i64 ps) ∧ W3.cell? ⟨w.heap.size + 1, 4, none⟩ = some (.int .i64 vb) ∧ W3.cell? ⟨w.heap.size + 1, 5, none⟩ = some (.slice va vn vc)) := IQa
  clear IQa
  obtain ⟨e0, e1, e2, e3, e4, e5⟩ := unhide IQ
  obtain ⟨c0, c1, c2, c3, c4, c5⟩ := keep6 (unhide IQ) ((Grew.refl W3).alloc (.cells #[.int .i64 0, .slice none 0 0] 45)).drew
  go_wp2_with fail
  rename_i Q' K hK
  have post : ∀ (W6 : World) (B db N : Nat) (b : Int) (q : Option Addr) (m c : Nat) (sv' : Value) (hh' : List Nat), Behind W6 W2 B w.heap.size k N x.id x.ep x.vo (.slice a x.s.length cap) [.int .i64 e, .int .i64 pf, .int .i64 pt, .int .i64 ps, .int .i64 vb, .slice va vn vc] x' sv' hh' T b q m c → Exit.then K Q' .normal { tmps := #[.agg #[.int .i64 x.id, .int .i64 x.ep, .int .i64 x.vo, .slice a x.s.length cap], .int .i64 1, .agg #[.int .i64 e, .int .i64 pf, .int .i64 pt, .int .i64 ps, .int .i64 vb, .slice va vn vc], .pointer (some ⟨w.heap.size, 0, none⟩), undef, .pointer (some ⟨w.heap.size + 1, 0, none⟩), .pointer (some ⟨w.heap.size + 1 + 1, 0, none⟩), .pointer (some ⟨w.heap.size + 1 + 1 + 1, 0, none⟩), .bool false, .pointer (some ⟨k, 0, none⟩), .pointer (some ⟨B, 0, none⟩), .bool told, .agg #[.int .i64 x.id, .int .i64 x.ep, .int .i64 x.vo, .slice a x.s.length cap], .bool true, .bool false, undef, undef, .agg #[.int .i64 x.id, .int .i64 x.ep, .int .i64 x.vo, .slice a x.s.length cap], .pointer (some ⟨k, 0, none⟩), .tuple #[.agg #[.int .i64 b, .slice q m c], .bool told], .pointer (some ⟨k, 0, none⟩), .slice (some ⟨db, 0, none⟩) 3 3, .int .i64 1, .pointer (some ⟨db, 1, none⟩), .func (.func 160) #[.pointer (some ⟨k, 0, none⟩)] #[], .agg #[.int .i64 e, .int .i64 pf, .int .i64 pt, .int .i64 ps, .int .i64 vb, .slice va vn vc], .tuple #[.agg #[.int .i64 b, .slice q m c], .bool told], .agg #[.int .i64 b, .slice q m c], .bool told, undef, undef, undef, undef], defers := [] } W6 := by
    intro W6 B db N b q m c sv' hh' L
    obtain ⟨sa, sc, rfl⟩ : ∃ sa sc, sv' = .slice sa x'.s.length sc := by
      rcases L.kp.own with ⟨h1, h2, _⟩ | h
      · exact ⟨none, 0, by rw [h1, h2]; rfl⟩
      · obtain ⟨g, c, h, _⟩ := h.shape
        exact ⟨_, _, h⟩
    have LL := hide L
    have q0 := L.q0
    have q1 := L.q1
    clear L e0 e1 e2 e3 e4 e5 c0 c1 c2 c3 c4 c5
    have hBn : B ≠ w.heap.size + 1 + 1 := by have := (unhide LL).hB; have := (unhide S2).size; omega
    go_wp2_with fail
    go_region_law (first
      | ((go_simp; go_at_call 125; refine (node_any W6.drew W2.heap.size k x' _ hh' ((unhide LL).kp.grew (Grew.refl _).drew)).mono ?_; rintro r W7 ⟨rfl, g7d⟩; have g7 : Grew W6 W7 := (Grew.refl W6).drew.trans g7d; clear g7d; have q0 := g7.keep q0; have q1 := g7.keep q1; have B7 := hide ((unhide LL).bx.grew g7); have c0 := (unhide B7).c0; have c1 := (unhide B7).c1; have c2 := (unhide B7).c2; have c3 := (unhide B7).c3; have d0 := (unhide B7).d0; have d1 := (unhide B7).d1; have cz0 := (unhide B7).cz 0; have cz1 := (unhide B7).cz 1; have cz2 := (unhide B7).cz 2; have cz3 := (unhide B7).cz 3; have dz0 := (unhide B7).dz 0; have dz1 := (unhide B7).dz 1; have s0 := cset (cset (cset (cset (p := ⟨w.heap.size + 1 + 1, 0, none⟩) (u := .int .i64 x'.id) q0 hBn) (p := ⟨w.heap.size + 1 + 1, 1, none⟩) (u := .int .i64 x'.ep) hBn) (p := ⟨w.heap.size + 1 + 1, 2, none⟩) (u := .int .i64 x'.vo) hBn) (p := ⟨w.heap.size + 1 + 1, 3, none⟩) (u := .slice sa x'.s.length sc) hBn; have s1 := cset (cset (cset (cset (p := ⟨w.heap.size + 1 + 1, 0, none⟩) (u := .int .i64 x'.id) q1 hBn) (p := ⟨w.heap.size + 1 + 1, 1, none⟩) (u := .int .i64 x'.ep) hBn) (p := ⟨w.heap.size + 1 + 1, 2, none⟩) (u := .int .i64 x'.vo) hBn) (p := ⟨w.heap.size + 1 + 1, 3, none⟩) (u := .slice sa x'.s.length sc) hBn)))
    all_goals
      simp only [List.getElem_toArray, List.getElem_cons_succ, List.getElem_cons_zero]
      go_wp2
      obtain ⟨⟨k0, k1, k2, k3⟩, l0, l1⟩ := res42 (b := w.heap.size + 1 + 1) (d := w.heap.size + 1 + 1 + 1) (by omega) c0 c1 c2 c3 d0 d1 (.int .i64 x'.id) (.int .i64 x'.ep) (.int .i64 x'.vo) (.slice sa x'.s.length sc) (.int .i64 b) (.slice q m c) _ rfl
      refine bodyPost_ret (by simp [results, Try.results80, go_sem, k0, k1, k2, k3, l0, l1]; try rfl) rfl ?_
      exact behind_end hT (unhide LL) g7 ((unhide HG).trans (unhide S2)) (by have := (unhide S2).size; omega)
  go_region_law (first
      | ((go_simp; go_at_call 124; refine (deeds_any _ k).mono ?_; rintro r W4 ⟨db, rfl, df0, df1, df2, g4⟩; have gg4 : Grew W3 W4 := (by first | exact (Grew.refl W3).drew.trans g4 | exact ((Grew.refl W3).alloc _).drew.trans g4); obtain ⟨e0, e1, e2, e3, e4, e5⟩ := keep6 (unhide IQ) gg4; clear gg4; obtain ⟨f0, f1, f2, f3, f4, f5⟩ := keep6 (And.intro e0 (And.intro e1 (And.intro e2 (And.intro e3 (And.intro e4 e5))))) ((Grew.refl W4).alloc (.cells #[.int .i64 0, .slice none 0 0] 45)); have fd := ((Grew.refl W4).alloc (.cells #[.int .i64 0, .slice none 0 0] 45)).keep df1))
      | ((go_simp; go_at_call 160; (first | ((with_reducible refine (HD _ W2.heap.size k sv hh ((unhide HK).grew ((Grew.refl _).drew.trans g4))).mono ?_); rintro r W5 ⟨b, q, m, c, sv', hh', rfl, k5, t5, fr5, rr⟩; have g5 := rr.from ((unhide G23).trans ((Grew.refl _).drew.trans g4)) hk2; have LL := hide (Behind.late (W2 := W2) hT (unhide HB2) g5 k5 t5 (Nat.le_trans (unhide G23).size (g4.size)) 45); clear k5 t5 fr5 rr g5) | ((with_reducible refine (HD _ W2.heap.size k sv hh ((unhide HK).grew (((Grew.refl _).drew.trans g4).alloc _))).mono ?_); rintro r W5 ⟨b, q, m, c, sv', hh', rfl, k5, t5, fr5, rr⟩; have g5 := rr.from ((unhide G23).trans (((Grew.refl _).drew.trans g4).alloc _)) hk2; have hz4 : W3.heap.size ≤ W4.heap.size := g4.size; have hne4 : W4.heap.size ≠ k := (fun e => by omega); have q0 := rr.cell (p := ⟨W4.heap.size, 0, none⟩) (v := .int .i64 0) hne4 (by simp [go_sem]); have q1 := rr.cell (p := ⟨W4.heap.size, 1, none⟩) (v := .slice none 0 0) hne4 (by simp [go_sem]); have z0 := rr.fz (p := ⟨W4.heap.size, 0, none⟩) (u := .int .i64 0) (v := false) hne4 (by simp [go_sem]) (by simp [go_sem]); have z1 := rr.fz (p := ⟨W4.heap.size, 1, none⟩) (u := .slice none 0 0) (v := false) hne4 (by simp [go_sem]) (by simp [go_sem]); have LL := hide (Behind.early (W2 := W2) hT (unhide HB2) g5 k5 t5 (by have := (unhide G23).size; simp; omega) (by simp) (by have := (unhide G23).size; omega) hne4 (fr5 W4.heap.size (by simp) (fun hm => by have := (unhide HK).own.top _ (.inl hm); omega) (fun hm => by have := (unhide HK).own.top _ (.inr hm); omega)) q0 q1); clear k5 t5 fr5 rr g5) | ((with_reducible refine (HD _ W2.heap.size k sv hh ((unhide HK).grew (((Grew.refl _).alloc _).drew.trans g4))).mono ?_); rintro r W5 ⟨b, q, m, c, sv', hh', rfl, k5, t5, fr5, rr⟩; have g5 := rr.from ((unhide G23).trans (((Grew.refl _).alloc _).drew.trans g4)) hk2; have hz4 : W3.heap.size + 1 ≤ W4.heap.size := (by have := g4.size; simpa using this); have hne4 : W3.heap.size ≠ k := (fun e => by omega); have q4 := g4.keep (p := ⟨W3.heap.size, 0, none⟩) (v := .int .i64 0) (by simp [go_sem]); have q5 := g4.keep (p := ⟨W3.heap.size, 1, none⟩) (v := .slice none 0 0) (by simp [go_sem]); have y0 : W4.frozen? ⟨W3.heap.size, 0, none⟩ = false := (by rw [World.frozen?_of_block (a := ⟨W3.heap.size, 0, none⟩) (g4.below.block W3.heap.size (by simp))]; simp [go_sem]); have y1 : W4.frozen? ⟨W3.heap.size, 1, none⟩ = false := (by rw [World.frozen?_of_block (a := ⟨W3.heap.size, 1, none⟩) (g4.below.block W3.heap.size (by simp))]; simp [go_sem]); have q0 := rr.cell hne4 q4; have q1 := rr.cell hne4 q5; have z0 := rr.fz (p := ⟨W3.heap.size, 0, none⟩) (v := false) hne4 q4 y0; have z1 := rr.fz (p := ⟨W3.heap.size, 1, none⟩) (v := false) hne4 q5 y1; clear q4 q5 y0 y1; have LL := hide (Behind.early (W2 := W2) hT (unhide HB2) g5 k5 t5 (by have := (unhide G23).size; omega) (by omega) (unhide G23).size hne4 (fr5 W3.heap.size (by omega) (fun hm => by have := (unhide HK).own.top _ (.inl hm); omega) (fun hm => by have := (unhide HK).own.top _ (.inr hm); omega)) q0 q1); clear k5 t5 fr5 rr g5)))))
  all_goals
    simp only [List.getElem_toArray, List.getElem_cons_succ, List.getElem_cons_zero]
    exact post _ _ _ _ _ _ _ _ _ _ (unhide LL)
end Go.Proofs.Ytkegdjfpeocndaa
