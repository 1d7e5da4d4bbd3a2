/-
  How chains begin, plainly: the longest with which both begin.
-/
import Derived.Test.YtpoabogjpjbpiaaBoth2
namespace Go.Proofs.Ytpoabogjpjbpiaa
set_option linter.unusedVariables false
open Go.RowKit

def cp : List It → List It → List It
  | x :: r, y :: s => if eqB x y = true then x :: cp r s else []
  | _, _ => []
theorem cp_take : ∀ a b : List It, a.take (shareN a b) = cp a b
  | [], b => by simp [cp]
  | x :: r, [] => by simp [cp, shareN]
  | x :: r, y :: s => by
    by_cases e : eqB x y = true
    · simp [cp, shareN, e, cp_take r s]
    · simp [cp, shareN, e]
theorem cp_comm (a b : List It) : cp a b = cp b a := by
  rw [← cp_take, ← cp_take, shareN_comm b a, shareN_take]
theorem cp_self (a : List It) : cp a a = a := by
  rw [← cp_take, shareN_self, List.take_length]
theorem cp_assoc : ∀ a b c : List It, cp (cp a b) c = cp a (cp b c)
  | [], b, c => by simp [cp]
  | x :: r, [], c => by simp [cp]
  | x :: r, y :: s, [] => by
    by_cases e : eqB x y = true <;> simp [cp, e]
  | x :: r, y :: s, z :: t => by
    by_cases e : eqB x y = true
    · have h1 := (eqB_iff x y).1 e
      subst h1
      by_cases f : eqB x z = true
      · have ih := cp_assoc r s t
        simp [cp, e, f, ih]
      · simp [cp, e, f]
    · by_cases f : eqB y z = true
      · have h1 := (eqB_iff y z).1 f
        subst h1
        simp [cp, e, f]
      · simp [cp, e, f]
theorem bothC_ok {a b : List It} (h1 : okB a = true) (h2 : okB b = true) : bothC a b = cp a b := by
  unfold bothC; rw [if_pos ⟨h1, h2⟩, cp_take]
theorem okB_cp {a b : List It} (h1 : okB a = true) : okB (cp a b) = true := by
  rw [← cp_take]; exact okB_take h1 _
theorem cp_in {a b : List It} (h1 : okB a = true) : inC (cp a b) a = true := by
  refine (inC_iff _ _).2 ⟨okB_cp h1, h1, a.drop (shareN a b), ?_⟩
  rw [← cp_take, List.take_append_drop]
theorem cp_in' {a b : List It} (h2 : okB b = true) : inC (cp a b) b = true := by rw [cp_comm]; exact cp_in h2
theorem cp_len (a b : List It) : (cp a b).length = shareN a b := by
  rw [← cp_take, List.length_take]; have := shareN_le a b; omega
theorem cp_same {a b : List It} (h1 : okB a = true) (h2 : okB b = true) : sameB (cp a b) a = inC a b := by
  rw [Bool.eq_iff_iff, sameB_iff, inC_iff]
  constructor
  · intro h
    refine ⟨h1, h2, (shareN_all a b).1 ?_⟩
    rw [← cp_len, h]
  · rintro ⟨_, _, h⟩
    rw [← cp_take, (shareN_all a b).2 h, List.take_length]
/-- Where they part. -/
theorem cp_part (a b : List It) : (cp a b).length = a.length ∨ (cp a b).length = b.length ∨ ∃ (h1 : (cp a b).length < a.length) (h2 : (cp a b).length < b.length), eqB a[(cp a b).length] b[(cp a b).length] = false := by
  have hle := shareN_le a b
  have hl := cp_len a b
  by_cases e1 : shareN a b = a.length
  · exact .inl (by omega)
  · by_cases e2 : shareN a b = b.length
    · exact .inr (.inl (by omega))
    · right; right
      have h1 : shareN a b < a.length := by omega
      have h2 : shareN a b < b.length := by omega
      refine ⟨by omega, by omega, ?_⟩
      have := shareN_part a b h1 h2
      simpa [hl] using this
theorem three {a b d : List It} (ha : okB a = true) (hb : okB b = true) (hd : okB d = true) :
    bothC (bothC a b) d = bothC (bothC d a) b ∧ bothC (bothC a b) d = bothC (bothC d b) a ∧ bothC a a = a := by
  rw [bothC_ok ha hb, bothC_ok (okB_cp ha) hd, bothC_ok hd ha, bothC_ok (okB_cp hd) hb, bothC_ok hd hb, bothC_ok (okB_cp hd) ha, bothC_ok ha ha]
  refine ⟨?_, ?_, cp_self a⟩
  · rw [cp_assoc d a b, cp_comm]
  · rw [cp_assoc d b a, cp_comm b a, cp_comm]

theorem implBoth_n (a b : Option Addr) (ca cb : Nat) (l m : List It) (w : World) (hl : Its w a l) (hm : Its w b m) (na nb : Nat) (ha : l.length = na) (hb : m.length = nb) (hn : na ≤ 1048576) (hn' : nb ≤ 1048576) :
    Calls Try.prog 18 #[.slice a na ca, .slice b nb cb] w fun r w' => ∃ x c, r = .returned (.slice x (bothC l m).length c) ∧ Its w' x (bothC l m) ∧ Grew w w' ∧ ((bothC l m).length = 0 ∧ x = none ∨ ∃ g, x = some ⟨g, 0, none⟩ ∧ w.heap.size ≤ g ∧ Own w' g (bothC l m).length) := by
  subst ha hb; exact implBoth a b ca cb l m w hl hm hn hn'
end Go.Proofs.Ytpoabogjpjbpiaa
