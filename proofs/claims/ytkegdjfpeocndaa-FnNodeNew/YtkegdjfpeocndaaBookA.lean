/-
  Texts together: Book1, Book2, Book3, Book4, Book5.
-/
import Derived.Test.YtkegdjfpeocndaaNumsA
namespace Go.Proofs.Ytkegdjfpeocndaa
set_option linter.unusedVariables false
open Go.RowKit
attribute [local simp] far_const

/-- What all have is ok. -/
def bokB (l : List Int) : Bool := decide (l.length = 3) && (l.all (fun x => inB x 0 27) && decide (l.sum = 27))
theorem all_takeN (l : List Int) (p : Int → Bool) (k : Nat) (h : k < l.length) : (l.take (k + 1)).all p = ((l.take k).all p && p l[k]) := by
  rw [List.take_succ_eq_append_getElem h, List.all_append, List.all_cons, List.all_nil, Bool.and_true]
theorem sum_take (l : List Int) (k : Nat) (h : k < l.length) : (l.take (k + 1)).sum = (l.take k).sum + l[k] := by
  rw [List.take_succ_eq_append_getElem h, List.sum_append, List.sum_cons, List.sum_nil, Int.add_zero]
theorem all_ends (l : List Int) (p : Int → Bool) (k : Nat) (hk : k < l.length) (h : p l[k] = false) : l.all p = false := by
  cases e : l.all p with
  | false => rfl
  | true =>
    rw [List.all_eq_true] at e
    rw [e _ (List.getElem_mem hk)] at h
    cases h

set_option linter.unusedVariables false
open Go.RowKit
attribute [local simp] far_const

/-- What all have behind a payment; as it was, if it cannot be made. -/
def payL (l : List Int) (f t s : Int) : List Int :=
  if s ≤ l.getD (f - 1).toNat 0 then (l.set (f - 1).toNat (l.getD (f - 1).toNat 0 - s)).set (t - 1).toNat (l.getD (t - 1).toNat 0 + s) else l
theorem payB_cases {f t s : Int} (h : payB f t s = true) : 1 ≤ s ∧ s ≤ 9 ∧ (f = 1 ∧ t = 2 ∨ f = 1 ∧ t = 3 ∨ f = 2 ∧ t = 1 ∨ f = 2 ∧ t = 3 ∨ f = 3 ∧ t = 1 ∨ f = 3 ∧ t = 2) := by
  simp only [payB, inB, Bool.and_eq_true, decide_eq_true_eq, Bool.not_eq_true', beq_eq_false_iff_ne] at h
  omega
theorem bokB_three {l : List Int} (h : bokB l = true) : ∃ x y z, l = [x, y, z] ∧ 0 ≤ x ∧ x ≤ 27 ∧ 0 ≤ y ∧ y ≤ 27 ∧ 0 ≤ z ∧ z ≤ 27 ∧ x + y + z = 27 := by
  match l, h with
  | [x, y, z], h =>
    simp [bokB, inB] at h
    exact ⟨x, y, z, rfl, by omega⟩
  | [], h => simp [bokB] at h
  | [_], h => simp [bokB] at h
  | [_, _], h => simp [bokB] at h
  | _ :: _ :: _ :: _ :: _, h => simp [bokB] at h
theorem bokB_of {x y z : Int} (h : 0 ≤ x ∧ 0 ≤ y ∧ 0 ≤ z ∧ x + y + z = 27) : bokB [x, y, z] = true := by
  simp [bokB, inB]; omega
theorem payL_ok {l : List Int} {f t s : Int} (h : bokB l = true) (hp : payB f t s = true) : bokB (payL l f t s) = true := by
  obtain ⟨x, y, z, rfl, h⟩ := bokB_three h
  obtain ⟨h1, h2, hc⟩ := payB_cases hp
  unfold payL
  rcases hc with ⟨rfl, rfl⟩ | ⟨rfl, rfl⟩ | ⟨rfl, rfl⟩ | ⟨rfl, rfl⟩ | ⟨rfl, rfl⟩ | ⟨rfl, rfl⟩ <;> simp <;> split <;> apply bokB_of <;> omega

/-- 'copy' of three numbers into a row of three that the call has just made. -/
theorem copy_three (w : World) (b off cap : Nat) (x y z : Int) (hl : Ints w (some ⟨b, off, none⟩) [x, y, z]) :
    ∃ w1, (Builtin.copy_ #[29, 29] 3 #[.slice (some ⟨w.heap.size, 0, none⟩) 3 3, .slice (some ⟨b, off, none⟩) 3 cap]).run Try.prog (w.alloc (.cells (nums [0, 0, 0]).toArray 3)) = .ok (.int .i64 3) w1 ∧
      Grew w w1 ∧ OwnN w1 w.heap.size (.slice (some ⟨w.heap.size, 0, none⟩) 3 3) [x, y, z] := by
  have hg : (w.alloc (.cells (nums [0, 0, 0]).toArray 3)).heap[w.heap.size]? = some (.cells (nums [0, 0, 0]).toArray 3 (0, 0)) := heap_alloc_new w _
  have hr := run_copy_row Try.prog (w.alloc (.cells (nums [0, 0, 0]).toArray 3)) 29 29 3 3 w.heap.size 0 3 3 ⟨b, off, none⟩ 3 cap (nums [0, 0, 0]).toArray 3 (nums [x, y, z]) Try.underlying29 (by kernel_rfl) hg rfl (hl.grew ((Grew.refl w).alloc _)).nums (by simp [nums]) (nums_one _)
  refine ⟨_, hr, .of_below (below_setRow (Grew.below ((Grew.refl w).alloc _)) (Nat.le_refl _) _), ?_⟩
  refine OwnN.of_heap (Nat.le_refl _) ?_ 3 rfl (by omega)
  have := setRow_heap (w.alloc (.cells (nums [0, 0, 0]).toArray 3)) w.heap.size _ ((nums [0, 0, 0]).toArray.toList.take 0 ++ nums [x, y, z] ++ (nums [0, 0, 0]).toArray.toList.drop (0 + (nums [x, y, z]).length)).toArray 3 (0, 0) hg
  rw [this]
  rfl

set_option maxHeartbeats 2000000 in
theorem clo_any (a : Option Addr) (cap P : Nat) (x y z f t s : Int) (w : World) (hl : Ints w a [x, y, z]) (hx : 0 ≤ x ∧ x ≤ 27 ∧ 0 ≤ y ∧ y ≤ 27 ∧ 0 ≤ z ∧ z ≤ 27) (hp : payB f t s = true)
    (p0 : w.cell? ⟨P, 0, none⟩ = some (.int .i64 f)) (p1 : w.cell? ⟨P, 1, none⟩ = some (.int .i64 t)) (p2 : w.cell? ⟨P, 2, none⟩ = some (.int .i64 s)) :
    Calls Try.prog 162 #[.slice a 3 cap, .pointer (some ⟨P, 0, none⟩)] w fun r w' => ∃ v, r = .returned v ∧ OwnN w' w.heap.size v (payL [x, y, z] f t s) ∧ Grew w w' := by
  obtain ⟨b, off, rfl, _⟩ := hl.three
  have hmk : ∀ w : World, (Instr.makeSlice 29 (.int .i64 3) (.int .i64 3)).run Try.prog w = .ok (.slice (some ⟨w.heap.size, 0, none⟩) 3 3) (w.alloc (.cells (nums [0, 0, 0]).toArray 3)) := fun w => by
    have := make_nums 3 (by omega) w
    rw [nums_zeros] at this
    exact this
  obtain ⟨w1, hcp, g1, o1⟩ := copy_three w b off cap x y z hl
  obtain ⟨C, hC⟩ : ∃ C, C = (nums [0, 0, 0]).toArray := ⟨_, rfl⟩
  rw [← hC] at hmk hcp
  clear hC
  obtain ⟨g, _, hv, _, _, _, hi1, hf1⟩ := o1.shape
  simp only [Value.slice.injEq, Option.some.injEq, Addr.mk.injEq, and_true] at hv
  obtain ⟨rfl, _, _⟩ := hv
  obtain ⟨_, _, hv, c0, c1, c2⟩ := hi1.three
  simp only [Option.some.injEq, Addr.mk.injEq, and_true] at hv
  obtain ⟨rfl, rfl⟩ := hv
  have z0 := hf1 0
  have z1 := hf1 1
  have z2 := hf1 2
  have hPg : P ≠ w.heap.size := by have := World.block_lt_of_cell? w _ p0; simp at this; omega
  have p0 := g1.keep p0
  have p1 := g1.keep p1
  have p2 := g1.keep p2
  have O1 := hide o1
  have G1 := hide g1
  simp only [Nat.zero_add] at c1 c2
  clear hi1 hf1 o1 g1 hl
  obtain ⟨h1, h2, hc⟩ := payB_cases hp
  clear hp
  obtain ⟨hx0, hx1, hy0, hy1, hz0, hz1⟩ := hx
  rcases hc with ⟨rfl, rfl⟩ | ⟨rfl, rfl⟩ | ⟨rfl, rfl⟩ | ⟨rfl, rfl⟩ | ⟨rfl, rfl⟩ | ⟨rfl, rfl⟩
  · by_cases hs : s ≤ x
    · have E := hide (show payL [x, y, z] 1 2 s = ([x, y, z].set 0 (x - s)).set 1 (y + s) by unfold payL; rw [if_pos (by simpa using hs)]; rfl)
      go_enter Try.func162, Try.ntmps162
      go_wp2_with fail
      go_region
      go_wp2_with fail
      go_region
      go_wp2_with fail
      go_region
      go_wp2
      go_ret
      refine ⟨_, rfl, ?_, ?_⟩
      · rw [unhide E]
        exact ((unhide O1).set 0 (x - s)).set 1 (y + s)
      · exact (((((unhide G1).drew.setCell (p := ⟨w.heap.size, 0, none⟩) (Nat.le_refl _) _).drew).setCell (p := ⟨w.heap.size, 1, none⟩) (Nat.le_refl _) _).drew)
    · have E := hide (show payL [x, y, z] 1 2 s = [x, y, z] by unfold payL; rw [if_neg (by simpa using hs)])
      have hs' : decide (s ≤ x) = false := by simpa using hs
      clear hs
      go_enter Try.func162, Try.ntmps162
      go_wp2_with fail
      go_region
      go_wp2
      go_ret
      refine ⟨_, rfl, ?_, (unhide G1).drew⟩
      rw [unhide E]
      exact unhide O1
  · by_cases hs : s ≤ x
    · have E := hide (show payL [x, y, z] 1 3 s = ([x, y, z].set 0 (x - s)).set 2 (z + s) by unfold payL; rw [if_pos (by simpa using hs)]; rfl)
      go_enter Try.func162, Try.ntmps162
      go_wp2_with fail
      go_region
      go_wp2_with fail
      go_region
      go_wp2_with fail
      go_region
      go_wp2
      go_ret
      refine ⟨_, rfl, ?_, ?_⟩
      · rw [unhide E]
        exact ((unhide O1).set 0 (x - s)).set 2 (z + s)
      · exact (((((unhide G1).drew.setCell (p := ⟨w.heap.size, 0, none⟩) (Nat.le_refl _) _).drew).setCell (p := ⟨w.heap.size, 2, none⟩) (Nat.le_refl _) _).drew)
    · have E := hide (show payL [x, y, z] 1 3 s = [x, y, z] by unfold payL; rw [if_neg (by simpa using hs)])
      have hs' : decide (s ≤ x) = false := by simpa using hs
      clear hs
      go_enter Try.func162, Try.ntmps162
      go_wp2_with fail
      go_region
      go_wp2
      go_ret
      refine ⟨_, rfl, ?_, (unhide G1).drew⟩
      rw [unhide E]
      exact unhide O1
  · by_cases hs : s ≤ y
    · have E := hide (show payL [x, y, z] 2 1 s = ([x, y, z].set 1 (y - s)).set 0 (x + s) by unfold payL; rw [if_pos (by simpa using hs)]; rfl)
      go_enter Try.func162, Try.ntmps162
      go_wp2_with fail
      go_region
      go_wp2_with fail
      go_region
      go_wp2_with fail
      go_region
      go_wp2
      go_ret
      refine ⟨_, rfl, ?_, ?_⟩
      · rw [unhide E]
        exact ((unhide O1).set 1 (y - s)).set 0 (x + s)
      · exact (((((unhide G1).drew.setCell (p := ⟨w.heap.size, 1, none⟩) (Nat.le_refl _) _).drew).setCell (p := ⟨w.heap.size, 0, none⟩) (Nat.le_refl _) _).drew)
    · have E := hide (show payL [x, y, z] 2 1 s = [x, y, z] by unfold payL; rw [if_neg (by simpa using hs)])
      have hs' : decide (s ≤ y) = false := by simpa using hs
      clear hs
      go_enter Try.func162, Try.ntmps162
      go_wp2_with fail
      go_region
      go_wp2
      go_ret
      refine ⟨_, rfl, ?_, (unhide G1).drew⟩
      rw [unhide E]
      exact unhide O1
  · by_cases hs : s ≤ y
    · have E := hide (show payL [x, y, z] 2 3 s = ([x, y, z].set 1 (y - s)).set 2 (z + s) by unfold payL; rw [if_pos (by simpa using hs)]; rfl)
      go_enter Try.func162, Try.ntmps162
      go_wp2_with fail
      go_region
      go_wp2_with fail
      go_region
      go_wp2_with fail
      go_region
      go_wp2
      go_ret
      refine ⟨_, rfl, ?_, ?_⟩
      · rw [unhide E]
        exact ((unhide O1).set 1 (y - s)).set 2 (z + s)
      · exact (((((unhide G1).drew.setCell (p := ⟨w.heap.size, 1, none⟩) (Nat.le_refl _) _).drew).setCell (p := ⟨w.heap.size, 2, none⟩) (Nat.le_refl _) _).drew)
    · have E := hide (show payL [x, y, z] 2 3 s = [x, y, z] by unfold payL; rw [if_neg (by simpa using hs)])
      have hs' : decide (s ≤ y) = false := by simpa using hs
      clear hs
      go_enter Try.func162, Try.ntmps162
      go_wp2_with fail
      go_region
      go_wp2
      go_ret
      refine ⟨_, rfl, ?_, (unhide G1).drew⟩
      rw [unhide E]
      exact unhide O1
  · by_cases hs : s ≤ z
    · have E := hide (show payL [x, y, z] 3 1 s = ([x, y, z].set 2 (z - s)).set 0 (x + s) by unfold payL; rw [if_pos (by simpa using hs)]; rfl)
      go_enter Try.func162, Try.ntmps162
      go_wp2_with fail
      go_region
      go_wp2_with fail
      go_region
      go_wp2_with fail
      go_region
      go_wp2
      go_ret
      refine ⟨_, rfl, ?_, ?_⟩
      · rw [unhide E]
        exact ((unhide O1).set 2 (z - s)).set 0 (x + s)
      · exact (((((unhide G1).drew.setCell (p := ⟨w.heap.size, 2, none⟩) (Nat.le_refl _) _).drew).setCell (p := ⟨w.heap.size, 0, none⟩) (Nat.le_refl _) _).drew)
    · have E := hide (show payL [x, y, z] 3 1 s = [x, y, z] by unfold payL; rw [if_neg (by simpa using hs)])
      have hs' : decide (s ≤ z) = false := by simpa using hs
      clear hs
      go_enter Try.func162, Try.ntmps162
      go_wp2_with fail
      go_region
      go_wp2
      go_ret
      refine ⟨_, rfl, ?_, (unhide G1).drew⟩
      rw [unhide E]
      exact unhide O1
  · by_cases hs : s ≤ z
    · have E := hide (show payL [x, y, z] 3 2 s = ([x, y, z].set 2 (z - s)).set 1 (y + s) by unfold payL; rw [if_pos (by simpa using hs)]; rfl)
      go_enter Try.func162, Try.ntmps162
      go_wp2_with fail
      go_region
      go_wp2_with fail
      go_region
      go_wp2_with fail
      go_region
      go_wp2
      go_ret
      refine ⟨_, rfl, ?_, ?_⟩
      · rw [unhide E]
        exact ((unhide O1).set 2 (z - s)).set 1 (y + s)
      · exact (((((unhide G1).drew.setCell (p := ⟨w.heap.size, 2, none⟩) (Nat.le_refl _) _).drew).setCell (p := ⟨w.heap.size, 1, none⟩) (Nat.le_refl _) _).drew)
    · have E := hide (show payL [x, y, z] 3 2 s = [x, y, z] by unfold payL; rw [if_neg (by simpa using hs)])
      have hs' : decide (s ≤ z) = false := by simpa using hs
      clear hs
      go_enter Try.func162, Try.ntmps162
      go_wp2_with fail
      go_region
      go_wp2
      go_ret
      refine ⟨_, rfl, ?_, (unhide G1).drew⟩
      rw [unhide E]
      exact unhide O1

set_option linter.unusedVariables false
open Go.RowKit
attribute [local simp] far_const

set_option linter.unusedVariables false
open Go.RowKit
attribute [local simp] far_const

/-- BookPay. -/
def bpay (l : List Int) (f t s : Int) : List Int := if bokB l = true ∧ payB f t s = true then payL l f t s else []
def payAll (c : List It) : List Int := c.foldl (fun b x => payL b x.f x.t x.s) [9, 9, 9]
/-- BookOf. -/
def bof (c : List It) : List Int := if okB c = true then payAll c else []

theorem implBookNew (w : World) : Calls Try.prog 37 #[] w fun r w' => ∃ v, r = .returned v ∧ OwnN w' w.heap.size v [9, 9, 9] ∧ Grew w w' := by
  have O := hide (OwnN.lit (w := w) (Nat.le_refl _) [9, 9, 9] 3 rfl (by omega))
  go_enter Try.func37, Try.ntmps37
  go_wp2
  go_ret
  exact ⟨_, rfl, unhide O, (Grew.refl _).alloc _⟩
theorem paymentOf_any (f t s : Int) (w : World) : Calls Try.prog 126 #[.agg #[.int .i64 f, .int .i64 t, .int .i64 s]] w fun r w' => r = .returned (.func (.func 162) #[] #[.pointer (some ⟨w.heap.size, 0, none⟩)]) ∧ w' = w.alloc (.cells #[.int .i64 f, .int .i64 t, .int .i64 s] 31) := by
  go_enter Try.func126, Try.ntmps126
  go_wp2
  go_ret
  exact ⟨rfl, rfl⟩

set_option linter.unusedVariables false
open Go.RowKit
attribute [local simp] far_const

theorem goB_pays (l : List It) : ∀ last, goB last l = true → ∀ x ∈ l, payB x.f x.t x.s = true := by
  induction l with
  | nil => intro last _ x hx; cases hx
  | cons y r ih =>
    intro last h x hx
    simp only [goB, stepB, Bool.and_eq_true] at h
    rcases List.mem_cons.1 hx with rfl | hx
    · exact h.1.2
    · exact ih _ h.2 x hx
theorem okB_pay {l : List It} (h : okB l = true) (k : Nat) (hk : k < l.length) : payB l[k].f l[k].t l[k].s = true := by
  simp only [okB, Bool.and_eq_true] at h
  exact goB_pays l 0 h.2 _ (List.getElem_mem hk)
theorem payAll_take (l : List It) (k : Nat) (h : k < l.length) : payAll (l.take (k + 1)) = payL (payAll (l.take k)) l[k].f l[k].t l[k].s := by
  unfold payAll
  rw [List.take_succ_eq_append_getElem h, List.foldl_append]
  rfl
theorem payAll_ok (l : List It) (h : ∀ x ∈ l, payB x.f x.t x.s = true) : bokB (payAll l) = true := by
  have : ∀ (l : List It) (b : List Int), (∀ x ∈ l, payB x.f x.t x.s = true) → bokB b = true → bokB (l.foldl (fun b x => payL b x.f x.t x.s) b) = true := by
    intro l
    induction l with
    | nil => intro b _ hb; exact hb
    | cons y r ih => intro b hl hb; exact ih _ (fun x hx => hl x (List.mem_cons_of_mem _ hx)) (payL_ok hb (hl y (List.mem_cons_self ..)))
  exact this l _ h (bokB_of (by omega))
theorem okB_len {l : List It} (h : okB l = true) : l.length ≤ 16 := by
  simp only [okB, Bool.and_eq_true, decide_eq_true_eq] at h; exact h.1
theorem payAll_take_ok {l : List It} (h : okB l = true) (k : Nat) : bokB (payAll (l.take k)) = true :=
  payAll_ok _ fun x hx => by
    simp only [okB, Bool.and_eq_true] at h
    exact goB_pays l 0 h.2 x (List.mem_of_mem_take hx)
theorem bof_ok {l : List It} (h : okB l = true) : bokB (bof l) = true := by
  unfold bof
  rw [if_pos h]
  have := payAll_take_ok h l.length
  rwa [List.take_length] at this
theorem bof_three (l : List It) : bof l = [] ∨ bokB (bof l) = true := by
  by_cases h : okB l = true
  · exact .inr (bof_ok h)
  · exact .inl (by unfold bof; rw [if_neg h])

set_option maxHeartbeats 1000000 in
theorem implBookOf (a : Option Addr) (cap : Nat) (l : List It) (w : World) (hl : Its w a l) (hn : l.length ≤ 1048576) :
    Calls Try.prog 83 #[.slice a l.length cap] w fun r w' => ∃ v, r = .returned v ∧ AnsN w' w.heap.size v (bof l) ∧ Grew w w' := by
  have HL := hide hl
  cases hb : okB l with
  | false =>
    have E : Hid (bof l = []) := by show bof l = []; unfold bof; rw [hb]; simp
    clear hl
    go_enter Try.func83, Try.ntmps83
    go_wp2_with (go_at_call 54; refine (implChainOk _ _ l _ (unhide HL) hn).mono ?_; rw [hb]; rintro e w' ⟨rfl, g1⟩)
    go_ret
    exact ⟨_, rfl, .inl ⟨rfl, unhide E⟩, by assumption⟩
  | true =>
    have E : Hid (bof l = payAll l) := by show bof l = _; unfold bof; rw [hb]; simp
    have HB := hide hb
    clear hl
    go_enter Try.func83, Try.ntmps83
    go_wp2_with fail
    refine (implChainOk _ _ l _ (unhide HL) hn).mono ?_
    rw [hb]
    rintro e w1 ⟨rfl, g1⟩
    clear hb
    go_wp2_with fail
    refine (implBookNew _).mono ?_
    rintro e w2 ⟨v2, rfl, o2, g2⟩
    have O2 := hide (o2.low g1.size)
    have G2 := hide (g1.trans g2)
    clear o2 g2 g1
    go_wp2_with fail
    go_loopw [3, 12] (fun bv iv wr => ∃ k : Nat, k ≤ l.length ∧ iv = .int .i64 k ∧ Hid (OwnN wr w.heap.size bv (payAll (l.take k))) ∧ Hid (Grew w wr)) (fun _ iv _ => l.length - (intOf iv).toNat)
    case atStart => exact ⟨0, Nat.zero_le _, rfl, O2, G2⟩
    case round =>
      obtain ⟨k, hk, rfl, HO, HG⟩ := hrel
      by_cases hlt : k < l.length
      · obtain ⟨b, off, rfl, hat⟩ := ((unhide HL).grew (unhide HG)).at hlt
        obtain ⟨c0, c1, c2, c3⟩ := hat
        obtain ⟨x, y, z, hxyz, hx⟩ := bokB_three (payAll_take_ok (unhide HB) k)
        have HP := hide (okB_pay (unhide HB) k hlt)
        have HT := hide (payAll_take l k hlt)
        have HO' := unhide HO
        rw [hxyz] at HO'
        have HXYZ := hide hxyz
        obtain ⟨g, cp, rfl, hcap, hbg, hgs, hints, _⟩ := HO'.shape
        have HI := hide hints
        clear HO HO' hints hxyz O2 G2
        go_wp2_with fail
        refine (paymentOf_any _ _ _ _).mono ?_
        rintro e w3 ⟨rfl, rfl⟩
        go_wp2_with fail
        refine (clo_any _ cp wr.heap.size x y z _ _ _ _ ((unhide HI).grew ((Grew.refl _).alloc _)) (by omega) (unhide HP) (by simp [go_sem]) (by simp [go_sem]) (by simp [go_sem])).mono ?_
        rintro e w4 ⟨v, rfl, o4, g4⟩
        rw [← unhide HXYZ, ← unhide HT] at o4
        have O4 := hide (o4.low (base' := w.heap.size) (by have := (unhide HG).size; simp; omega))
        have G4 := hide ((unhide HG).trans (((Grew.refl _).alloc _).trans g4))
        clear o4 g4
        go_wp2
        go_roundw
        case rel => exact ⟨k + 1, by omega, by go_num, O4, G4⟩
        case measure => simp [intOf]; omega
      · have hle : (l.length : Int) ≤ (k : Int) := by omega
        have e : l.take k = l := List.take_of_length_le (by omega)
        rw [e] at HO
        clear e hlt O2 G2
        go_wp2
        go_ret
        refine ⟨_, rfl, .inr ?_, unhide HG⟩
        rw [unhide E]
        exact unhide HO

end Go.Proofs.Ytkegdjfpeocndaa
