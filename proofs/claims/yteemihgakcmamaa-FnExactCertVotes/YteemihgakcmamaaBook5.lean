/-
  What BookOf answers, in the program and in the specification.
-/
import Derived.Test.YteemihgakcmamaaBook4
namespace Go.Proofs.Yteemihgakcmamaa
set_option linter.unusedVariables false
open Go.RowKit
attribute [local simp] far_const

theorem goB_pays (l : List It) : ∀ last, goB last l = true → ∀ x ∈ l, payB x.f x.t x.s = true := by
  induction l with
  | nil => intro last _ x hx; cases hx
  | cons y r ih =>
    intro last h x hx
    simp only [goB, stepB, Bool.and_eq_true] at h
    rcases List.mem_cons.1 hx with rfl | hx
    · exact h.1.2
    · exact ih _ h.2 x hx
theorem okB_pay {l : List It} (h : okB l = true) (k : Nat) (hk : k < l.length) : payB l[k].f l[k].t l[k].s = true := by
  simp only [okB, Bool.and_eq_true] at h
  exact goB_pays l 0 h.2 _ (List.getElem_mem hk)
theorem payAll_take (l : List It) (k : Nat) (h : k < l.length) : payAll (l.take (k + 1)) = payL (payAll (l.take k)) l[k].f l[k].t l[k].s := by
  unfold payAll
  rw [List.take_succ_eq_append_getElem h, List.foldl_append]
  rfl
theorem payAll_ok (l : List It) (h : ∀ x ∈ l, payB x.f x.t x.s = true) : bokB (payAll l) = true := by
  have : ∀ (l : List It) (b : List Int), (∀ x ∈ l, payB x.f x.t x.s = true) → bokB b = true → bokB (l.foldl (fun b x => payL b x.f x.t x.s) b) = true := by
    intro l
    induction l with
    | nil => intro b _ hb; exact hb
    | cons y r ih => intro b hl hb; exact ih _ (fun x hx => hl x (List.mem_cons_of_mem _ hx)) (payL_ok hb (hl y (List.mem_cons_self ..)))
  exact this l _ h (bokB_of (by omega))
theorem okB_len {l : List It} (h : okB l = true) : l.length ≤ 16 := by
  simp only [okB, Bool.and_eq_true, decide_eq_true_eq] at h; exact h.1
theorem payAll_take_ok {l : List It} (h : okB l = true) (k : Nat) : bokB (payAll (l.take k)) = true :=
  payAll_ok _ fun x hx => by
    simp only [okB, Bool.and_eq_true] at h
    exact goB_pays l 0 h.2 x (List.mem_of_mem_take hx)
theorem bof_ok {l : List It} (h : okB l = true) : bokB (bof l) = true := by
  unfold bof
  rw [if_pos h]
  have := payAll_take_ok h l.length
  rwa [List.take_length] at this
theorem bof_three (l : List It) : bof l = [] ∨ bokB (bof l) = true := by
  by_cases h : okB l = true
  · exact .inr (bof_ok h)
  · exact .inl (by unfold bof; rw [if_neg h])

set_option maxHeartbeats 1000000 in
theorem implBookOf (a : Option Addr) (cap : Nat) (l : List It) (w : World) (hl : Its w a l) (hn : l.length ≤ 1048576) :
    Calls Try.prog 47 #[.slice a l.length cap] w fun r w' => ∃ v, r = .returned v ∧ AnsN w' w.heap.size v (bof l) ∧ Grew w w' := by
  have HL := hide hl
  cases hb : okB l with
  | false =>
    have E : Hid (bof l = []) := by show bof l = []; unfold bof; rw [hb]; simp
    clear hl
    go_enter Try.func47, Try.ntmps47
    go_wp2_with (go_at_call 53; refine (implChainOk _ _ l _ (unhide HL) hn).mono ?_; rw [hb]; rintro e w' ⟨rfl, g1⟩)
    go_ret
    exact ⟨_, rfl, .inl ⟨rfl, unhide E⟩, by assumption⟩
  | true =>
    have E : Hid (bof l = payAll l) := by show bof l = _; unfold bof; rw [hb]; simp
    have HB := hide hb
    clear hl
    go_enter Try.func47, Try.ntmps47
    go_wp2_with fail
    refine (implChainOk _ _ l _ (unhide HL) hn).mono ?_
    rw [hb]
    rintro e w1 ⟨rfl, g1⟩
    clear hb
    go_wp2_with fail
    refine (implBookNew _).mono ?_
    rintro e w2 ⟨v2, rfl, o2, g2⟩
    have O2 := hide (o2.low g1.size)
    have G2 := hide (g1.trans g2)
    clear o2 g2 g1
    go_wp2_with fail
    go_loopw [3, 12] (fun bv iv wr => ∃ k : Nat, k ≤ l.length ∧ iv = .int .i64 k ∧ Hid (OwnN wr w.heap.size bv (payAll (l.take k))) ∧ Hid (Grew w wr)) (fun _ iv _ => l.length - (intOf iv).toNat)
    case atStart => exact ⟨0, Nat.zero_le _, rfl, O2, G2⟩
    case round =>
      obtain ⟨k, hk, rfl, HO, HG⟩ := hrel
      by_cases hlt : k < l.length
      · obtain ⟨b, off, rfl, hat⟩ := ((unhide HL).grew (unhide HG)).at hlt
        obtain ⟨c0, c1, c2, c3⟩ := hat
        obtain ⟨x, y, z, hxyz, hx⟩ := bokB_three (payAll_take_ok (unhide HB) k)
        have HP := hide (okB_pay (unhide HB) k hlt)
        have HT := hide (payAll_take l k hlt)
        have HO' := unhide HO
        rw [hxyz] at HO'
        have HXYZ := hide hxyz
        obtain ⟨g, cp, rfl, hcap, hbg, hgs, hints, _⟩ := HO'.shape
        have HI := hide hints
        clear HO HO' hints hxyz O2 G2
        go_wp2_with fail
        refine (paymentOf_any _ _ _ _).mono ?_
        rintro e w3 ⟨rfl, rfl⟩
        go_wp2_with fail
        refine (clo_any _ cp wr.heap.size x y z _ _ _ _ ((unhide HI).grew ((Grew.refl _).alloc _)) (by omega) (unhide HP) (by simp [go_sem]) (by simp [go_sem]) (by simp [go_sem])).mono ?_
        rintro e w4 ⟨v, rfl, o4, g4⟩
        rw [← unhide HXYZ, ← unhide HT] at o4
        have O4 := hide (o4.low (base' := w.heap.size) (by have := (unhide HG).size; simp; omega))
        have G4 := hide ((unhide HG).trans (((Grew.refl _).alloc _).trans g4))
        clear o4 g4
        go_wp2
        go_roundw
        case rel => exact ⟨k + 1, by omega, by go_num, O4, G4⟩
        case measure => simp [intOf]; omega
      · have hle : (l.length : Int) ≤ (k : Int) := by omega
        have e : l.take k = l := List.take_of_length_le (by omega)
        rw [e] at HO
        clear e hlt O2 G2
        go_wp2
        go_ret
        refine ⟨_, rfl, .inr ?_, unhide HG⟩
        rw [unhide E]
        exact unhide HO

end Go.Proofs.Yteemihgakcmamaa
