/-
  Chains as lists: when they are ok, how they begin. Plain mathematics, no Go text.
-/
import Derived.Test.YtjcnbacbnfmkjaaBase
namespace Go.Proofs.Ytjcnbacbnfmkjaa
set_option linter.unusedVariables false

def endE : Int → List It → Int
  | last, [] => last
  | _, x :: r => endE x.e r
theorem goB_snoc (l : List It) (x : It) : ∀ last, goB last (l ++ [x]) = (goB last l && stepB (endE last l) x) := by
  induction l with
  | nil => intro last; simp [goB, endE]
  | cons y r ih => intro last; simp [goB, endE, ih, Bool.and_assoc]
theorem endE_snoc (l : List It) (x : It) : ∀ last, endE last (l ++ [x]) = x.e := by
  induction l with
  | nil => intro last; rfl
  | cons y r ih => intro last; exact ih y.e
theorem take_snoc (l : List It) (k : Nat) (h : k < l.length) : l.take (k + 1) = l.take k ++ [l[k]] := by
  rw [List.take_succ_eq_append_getElem h]
theorem goB_take (l : List It) (k : Nat) (h : k < l.length) : goB 0 (l.take (k + 1)) = (goB 0 (l.take k) && stepB (endE 0 (l.take k)) l[k]) := by
  rw [take_snoc l k h, goB_snoc]
theorem endE_take (l : List It) (k : Nat) (h : k < l.length) : endE 0 (l.take (k + 1)) = (l[k]).e := by
  rw [take_snoc l k h, endE_snoc]
theorem goB_app (l r : List It) : ∀ last, goB last (l ++ r) = (goB last l && goB (endE last l) r) := by
  induction l with
  | nil => intro last; simp [goB, endE]
  | cons y s ih => intro last; simp [goB, endE, ih, Bool.and_assoc]
theorem goB_part (l : List It) (k : Nat) (h : goB 0 (l.take k) = false) : goB 0 l = false := by
  have := goB_app (l.take k) (l.drop k) 0
  rw [List.take_append_drop] at this
  rw [this, h]; rfl
theorem goB_ends (l : List It) (k : Nat) (hk : k < l.length) (h : stepB (endE 0 (l.take k)) l[k] = false) : goB 0 l = false := by
  apply goB_part l (k + 1)
  rw [goB_take l k hk, h, Bool.and_false]
theorem goB_all (l : List It) (h : goB 0 (l.take l.length) = true) : goB 0 l = true := by
  rwa [List.take_length] at h
theorem endE_low (l : List It) : ∀ last, 0 ≤ last → goB last l = true → last ≤ endE last l ∧ (l ≠ [] → last < endE last l) := by
  induction l with
  | nil => intro last _ _; exact ⟨Int.le_refl _, fun h => absurd rfl h⟩
  | cons y r ih =>
    intro last h0 h
    simp only [goB, stepB, Bool.and_eq_true, decide_eq_true_eq] at h
    have := ih y.e (by omega) h.2
    exact ⟨by simp only [endE]; omega, fun _ => by simp only [endE]; omega⟩

def eqB (x y : It) : Bool := x.e == y.e && (x.f == y.f && (x.t == y.t && x.s == y.s))
theorem eqB_iff (x y : It) : eqB x y = true ↔ x = y := by
  cases x; cases y; simp [eqB]
/-- With how many items both begin. -/
def shareN : List It → List It → Nat
  | x :: r, y :: s => if eqB x y = true then shareN r s + 1 else 0
  | _, _ => 0
theorem shareN_le : ∀ a b : List It, shareN a b ≤ a.length ∧ shareN a b ≤ b.length
  | [], b => by simp [shareN]
  | x :: r, [] => by simp [shareN]
  | x :: r, y :: s => by
    have := shareN_le r s
    simp only [shareN, List.length_cons]
    split <;> omega
theorem shareN_eq : ∀ (a b : List It) (i : Nat) (h : i < shareN a b) (h1 : i < a.length) (h2 : i < b.length), a[i] = b[i]
  | [], b, i, h, _, _ => by simp [shareN] at h
  | x :: r, [], i, h, _, _ => by simp [shareN] at h
  | x :: r, y :: s, i, h, h1, h2 => by
    by_cases e : eqB x y = true
    · cases i with
      | zero => simpa using (eqB_iff x y).1 e
      | succ i =>
        have h' : i < shareN r s := by simp only [shareN, if_pos e] at h; omega
        simpa using shareN_eq r s i h' (by simpa using h1) (by simpa using h2)
    · simp [shareN, e] at h
theorem shareN_part : ∀ (a b : List It) (h1 : shareN a b < a.length) (h2 : shareN a b < b.length), eqB a[shareN a b] b[shareN a b] = false
  | [], b, h1, _ => by simp [shareN] at h1
  | x :: r, [], _, h2 => by simp [shareN] at h2
  | x :: r, y :: s, h1, h2 => by
    by_cases e : eqB x y = true
    · have e' : shareN (x :: r) (y :: s) = shareN r s + 1 := by simp [shareN, e]
      have := shareN_part r s (by rw [e'] at h1; simpa using h1) (by rw [e'] at h2; simpa using h2)
      simpa [e'] using this
    · have e' : shareN (x :: r) (y :: s) = 0 := by simp [shareN, e]
      simpa [e'] using e
/-- A number up to which both are one, and at which they part, is shareN. -/
theorem shareN_is (a b : List It) (n : Nat) (h1 : n ≤ a.length) (h2 : n ≤ b.length) (he : ∀ i (k1 : i < a.length) (k2 : i < b.length), i < n → eqB a[i] b[i] = true)
    (hp : ∀ (k1 : n < a.length) (k2 : n < b.length), eqB a[n] b[n] = false) : n = shareN a b := by
  have hs := shareN_le a b
  rcases Nat.lt_trichotomy n (shareN a b) with h | h | h
  · have k1 : n < a.length := by omega
    have k2 : n < b.length := by omega
    have := hp k1 k2
    rw [(eqB_iff _ _).2 (shareN_eq a b n h k1 k2)] at this
    cases this
  · exact h
  · have k1 : shareN a b < a.length := by omega
    have k2 : shareN a b < b.length := by omega
    have := he _ k1 k2 h
    rw [shareN_part a b k1 k2] at this
    cases this
theorem shareN_self (a : List It) : shareN a a = a.length := by
  induction a with
  | nil => rfl
  | cons x r ih => simp [shareN, (eqB_iff x x).2 rfl, ih]
theorem shareN_comm : ∀ a b : List It, shareN a b = shareN b a
  | [], [] => rfl
  | [], y :: s => rfl
  | x :: r, [] => rfl
  | x :: r, y :: s => by
    by_cases e : x = y
    · subst e; simp [shareN, (eqB_iff x x).2 rfl, shareN_comm r s]
    · have h1 : ¬ eqB x y = true := fun h => e ((eqB_iff _ _).1 h)
      have h2 : ¬ eqB y x = true := fun h => e ((eqB_iff _ _).1 h).symm
      simp [shareN, h1, h2]
theorem shareN_take : ∀ a b : List It, a.take (shareN a b) = b.take (shareN a b)
  | [], b => by simp [shareN]
  | x :: r, [] => by simp [shareN]
  | x :: r, y :: s => by
    by_cases e : eqB x y = true
    · have := (eqB_iff x y).1 e
      subst this
      simp [shareN, e, shareN_take r s]
    · simp [shareN, e]
/-- Whether a begins b. -/
def inC (a b : List It) : Bool := okB a && okB b && decide (shareN a b = a.length)
theorem shareN_all (a b : List It) : shareN a b = a.length ↔ ∃ r, b = a ++ r := by
  constructor
  · intro h
    have hb := shareN_le a b
    have ht := shareN_take a b
    rw [h, List.take_length] at ht
    exact ⟨b.drop a.length, by conv => lhs; rw [← List.take_append_drop a.length b, ← ht]⟩
  · rintro ⟨r, rfl⟩
    induction a with
    | nil => simp [shareN]
    | cons x s ih => simp [shareN, (eqB_iff x x).2 rfl, ih]
end Go.Proofs.Ytjcnbacbnfmkjaa
