/-
  Whether enough voted for each of three.
-/
import Derived.Test.YteemihgakcmamaaCer3
namespace Go.Proofs.Yteemihgakcmamaa
set_option linter.unusedVariables false
open Go.RowKit
attribute [local simp] far_const

set_option maxRecDepth 20000 in
set_option maxHeartbeats 4000000 in
theorem allEnough_any (p0 : Option Addr) (m0 q0 : Nat) (p1 : Option Addr) (m1 q1 : Nat) (p2 : Option Addr) (m2 q2 : Nat) (b0 b1 b2 : Option Addr) (c0 c1 c2 : Nat) (l0 l1 l2 : List Int) (w : World) (h0 : Ints w b0 l0) (h1 : Ints w b1 l1) (h2 : Ints w b2 l2) (n0 : l0.length ≤ 1048576) (n1 : l1.length ≤ 1048576) (n2 : l2.length ≤ 1048576) :
    Calls Try.prog 95 #[.agg #[.slice p0 m0 q0, .slice b0 l0.length c0, .slice p1 m1 q1, .slice b1 l1.length c1, .slice p2 m2 q2, .slice b2 l2.length c2], .func (.func 96) #[] #[]] w fun r w' => r = .returned (.bool (byB l0 && (byB l1 && byB l2))) ∧ Grew w w' := by
  have i0 : ∀ W : World, (Instr.index 91 (.agg #[.slice p0 m0 q0, .slice b0 l0.length c0, .slice p1 m1 q1, .slice b1 l1.length c1, .slice p2 m2 q2, .slice b2 l2.length c2]) (.int .i64 0)).run Try.prog W = .ok (.agg #[.slice p0 m0 q0, .slice b0 l0.length c0]) W := fun _ => by kernel_rfl
  have i1 : ∀ W : World, (Instr.index 91 (.agg #[.slice p0 m0 q0, .slice b0 l0.length c0, .slice p1 m1 q1, .slice b1 l1.length c1, .slice p2 m2 q2, .slice b2 l2.length c2]) (.int .i64 1)).run Try.prog W = .ok (.agg #[.slice p1 m1 q1, .slice b1 l1.length c1]) W := fun _ => by kernel_rfl
  have i2 : ∀ W : World, (Instr.index 91 (.agg #[.slice p0 m0 q0, .slice b0 l0.length c0, .slice p1 m1 q1, .slice b1 l1.length c1, .slice p2 m2 q2, .slice b2 l2.length c2]) (.int .i64 2)).run Try.prog W = .ok (.agg #[.slice p2 m2 q2, .slice b2 l2.length c2]) W := fun _ => by kernel_rfl
  have X0 : Hid (∀ W, Grew w W → Calls Try.prog 96 #[.agg #[.slice p0 m0 q0, .slice b0 l0.length c0]] W fun r w' => r = .returned (.bool (byB l0)) ∧ Grew W w') := hide (fun W g => enough_any _ rfl _ _ _ W (h0.grew g) n0)
  have X1 : Hid (∀ W, Grew w W → Calls Try.prog 96 #[.agg #[.slice p1 m1 q1, .slice b1 l1.length c1]] W fun r w' => r = .returned (.bool (byB l1)) ∧ Grew W w') := hide (fun W g => enough_any _ rfl _ _ _ W (h1.grew g) n1)
  have X2 : Hid (∀ W, Grew w W → Calls Try.prog 96 #[.agg #[.slice p2 m2 q2, .slice b2 l2.length c2]] W fun r w' => r = .returned (.bool (byB l2)) ∧ Grew W w') := hide (fun W g => enough_any _ rfl _ _ _ W (h2.grew g) n2)
  clear h0 h1 h2 n0 n1 n2
  obtain ⟨e0, he0⟩ : ∃ e, byB l0 = e := ⟨_, rfl⟩
  obtain ⟨e1, he1⟩ : ∃ e, byB l1 = e := ⟨_, rfl⟩
  obtain ⟨e2, he2⟩ : ∃ e, byB l2 = e := ⟨_, rfl⟩
  rw [he0] at X0
  rw [he1] at X1
  rw [he2] at X2
  rw [he0, he1, he2]
  clear he0 he1 he2
  go_enter Try.func95, Try.ntmps95
  go_wp2_with fail
  go_loopw [8] (fun i wr => ∃ k : Nat, k ≤ 3 ∧ i = .int .i64 k ∧ Hid ((0 < k → e0 = true) ∧ (1 < k → e1 = true) ∧ (2 < k → e2 = true)) ∧ Hid (Grew w wr)) (fun i _ => 3 - (intOf i).toNat)
  case atStart => exact ⟨0, by omega, rfl, hide ⟨by omega, by omega, by omega⟩, hide ((Grew.refl _).alloc _)⟩
  case round =>
    obtain ⟨k, hk, rfl, hb, gg⟩ := hrel
    match k, hk with
    | 0, _ =>
      cases e0 with
      | false =>
        go_wp2_with fail
        refine (unhide X0 _ ((unhide gg).alloc _)).mono ?_
        rintro r w1 ⟨rfl, g1⟩
        go_wp2
        go_ret
        exact ⟨ret_bool (by simp), ((unhide gg).alloc _).trans g1⟩
      | true =>
        go_wp2_with fail
        refine (unhide X0 _ ((unhide gg).alloc _)).mono ?_
        rintro r w1 ⟨rfl, g1⟩
        have gn := hide (((unhide gg).alloc _).trans g1)
        go_wp2
        go_roundw
        case rel => exact ⟨1, by omega, by go_num, hide ⟨fun _ => by first | rfl | trivial, by omega, by omega⟩, gn⟩
        case measure => simp [intOf]
    | 1, _ =>
      have t0 : e0 = true := (unhide hb).1 (by omega)
      cases e1 with
      | false =>
        go_wp2_with fail
        refine (unhide X1 _ ((unhide gg).alloc _)).mono ?_
        rintro r w1 ⟨rfl, g1⟩
        go_wp2
        go_ret
        exact ⟨ret_bool (by simp [t0]), ((unhide gg).alloc _).trans g1⟩
      | true =>
        go_wp2_with fail
        refine (unhide X1 _ ((unhide gg).alloc _)).mono ?_
        rintro r w1 ⟨rfl, g1⟩
        have gn := hide (((unhide gg).alloc _).trans g1)
        go_wp2
        go_roundw
        case rel => exact ⟨2, by omega, by go_num, hide ⟨fun _ => t0, fun _ => by first | rfl | trivial, by omega⟩, gn⟩
        case measure => simp [intOf]
    | 2, _ =>
      have t0 : e0 = true := (unhide hb).1 (by omega)
      have t1 : e1 = true := (unhide hb).2.1 (by omega)
      cases e2 with
      | false =>
        go_wp2_with fail
        refine (unhide X2 _ ((unhide gg).alloc _)).mono ?_
        rintro r w1 ⟨rfl, g1⟩
        go_wp2
        go_ret
        exact ⟨ret_bool (by simp [t0, t1]), ((unhide gg).alloc _).trans g1⟩
      | true =>
        go_wp2_with fail
        refine (unhide X2 _ ((unhide gg).alloc _)).mono ?_
        rintro r w1 ⟨rfl, g1⟩
        have gn := hide (((unhide gg).alloc _).trans g1)
        go_wp2
        go_roundw
        case rel => exact ⟨3, by omega, by go_num, hide ⟨fun _ => t0, fun _ => t1, fun _ => by first | rfl | trivial⟩, gn⟩
        case measure => simp [intOf]
    | 3, _ =>
      have t0 : e0 = true := (unhide hb).1 (by omega)
      have t1 : e1 = true := (unhide hb).2.1 (by omega)
      have t2 : e2 = true := (unhide hb).2.2 (by omega)
      go_wp2
      go_ret
      exact ⟨ret_bool (by rw [t0, t1, t2]; rfl), unhide gg⟩
end Go.Proofs.Yteemihgakcmamaa
