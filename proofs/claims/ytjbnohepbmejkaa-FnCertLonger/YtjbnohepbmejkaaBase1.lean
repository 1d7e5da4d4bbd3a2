/-
  Texts together: Base, Plain, Pay.
-/
import Derived.WalkKit
import Derived.ProofKit
import Derived.Handy
import Derived.BigQuiet
import Derived.WalkSpells
import Derived.WalkLawsBesides
import Derived.Test.YtjbnohepbmejkaaRows
namespace Go.Proofs.Ytjbnohepbmejkaa
set_option linter.unusedVariables false
open Go.RowKit

theorem hide {p : Prop} (h : p) : Hid p := h
theorem unhide {p : Prop} (h : Hid p) : p := h

/-- The world w with blocks laid behind its own, behind some draws. -/
def far (w : World) (d : Nat) (os : Array Obj) : World := { w with heap := w.heap ++ os, drawn := d }
/-- The world w' is w behind some draws, with some blocks laid behind its own. -/
def Grew (w w' : World) : Prop := ∃ d os, w' = far w d os

theorem Grew.below {a b : World} (h : Grew a b) : Below a.heap.size a b := by
  obtain ⟨n, os, rfl⟩ := h
  exact ⟨rfl, rfl, rfl, by simp [far], fun k hk => by simp [far, Array.getElem?_append, hk]⟩
theorem Grew.of_below {a b : World} (h : Below a.heap.size a b) : Grew a b := by
  refine ⟨b.drawn, b.heap.extract a.heap.size b.heap.size, ?_⟩
  obtain ⟨h1, h2, h3, h4, h5⟩ := h
  cases a; cases b
  simp only at h1 h2 h3 h4 h5
  subst h1 h2 h3
  simp only [far, World.mk.injEq, and_true]
  apply Array.ext_getElem?
  intro k
  rw [Array.getElem?_append]
  split
  · rename_i hk; exact h5 k hk
  · rename_i hk
    rw [Array.getElem?_extract]
    split
    · congr 1; omega
    · rename_i hk2; exact Array.getElem?_eq_none (by omega)
theorem Grew.refl (w : World) : Grew w w := .of_below (Below.refl _ _)
theorem Grew.same {w w' : World} (h : w' = w) : Grew w w' := by rw [h]; exact Grew.refl _
theorem Grew.size {a b : World} (h : Grew a b) : a.heap.size ≤ b.heap.size := h.below.size
theorem Grew.trans {a b c : World} (h : Grew a b) (k : Grew b c) : Grew a c := .of_below (h.below.trans (k.below.mono h.size))
theorem Grew.drew {a b : World} (h : Grew a b) : Grew a b.drew := .of_below h.below.drew
theorem Grew.alloc {a b : World} (h : Grew a b) (o : Obj) : Grew a (b.alloc o) := .of_below (h.below.alloc h.size o)
theorem Grew.setCell {a b : World} (h : Grew a b) {p : Addr} (hp : a.heap.size ≤ p.block) (v : Value) : Grew a (b.setCell p v) := .of_below (h.below.setCell hp v)
theorem Grew.grown {a b c : World} {row : Option Nat} (h : Grew a b) (hg : b.grownBy c row) (hr : ∀ k, row = some k → a.heap.size ≤ k) : Grew a c := .of_below (h.below.grown hg h.size hr)
theorem Grew.cell {a b : World} (h : Grew a b) {p : Addr} (hp : p.block < a.heap.size) : b.cell? p = a.cell? p := h.below.cell hp
theorem Grew.keep {a b : World} (h : Grew a b) {p : Addr} {v : Value} (hv : a.cell? p = some v) : b.cell? p = some v := by
  rw [h.cell (World.block_lt_of_cell? a p hv)]; exact hv
theorem Grew.gcell {a : World} {p : Addr} {v : Value} (hv : a.cell? p = some v) (n : Nat) (os : Array Obj) : (far a n os).cell? p = some v := Grew.keep ⟨n, os, rfl⟩ hv

/-- How far a world is from another. -/
structure Far where
  n : Nat
  os : Array Obj

theorem far_const (q : Prop) : (Far → q) ↔ q := ⟨fun h => h ⟨0, #[]⟩, fun h _ => h⟩

/-- A region that draws its order and only reads, whose callees may lay blocks: walked once, in the order of the text. -/
theorem quietly {P : Program} {id : Nat} {Q : Exit → Act → World → Prop} {a : Act} {w : World} {l : List Oper} (hm : P.follows .mixedOrders = true) (hB : Region.lexB .any l.toArray = true)
    (h : wpQuiet P l.toArray (fun w' => ∃ p : Far, w' = far w p.n p.os) (fun a' => ∀ w', (∃ p : Far, w' = far w p.n p.os) → Q .normal a' w') l a) : (Code.region id l.toArray true).wp P Q a w :=
  wp_region_quiet (C := fun w' => ∃ p : Far, w' = far w p.n p.os) hm hB ⟨⟨w.drawn + 1, #[]⟩, by simp [far]⟩ (by simpa using h)

/-- A callee's contract inside such a region. -/
theorem Calls.far {P : Program} {f : FuncId} {args : Array Value} {w : World} {n : Nat} {os : Array Obj} {v : Value}
    (h : Calls P f args (far w n os) fun e w' => e = .returned v ∧ Grew (far w n os) w') : Calls P f args (far w n os) fun e w'' => e = .returned v ∧ ∃ p : Far, w'' = Go.Proofs.Ytjbnohepbmejkaa.far w p.n p.os :=
  h.mono fun _ _ ⟨he, hg⟩ => by
    obtain ⟨m, os', h⟩ := (show Grew w (Go.Proofs.Ytjbnohepbmejkaa.far w n os) from ⟨n, os, rfl⟩).trans hg
    exact ⟨he, ⟨m, os'⟩, h⟩

/-- An item: its epoch, who pays, who is paid, how much. -/
structure It where
  e : Int
  f : Int
  t : Int
  s : Int

/-- The four cells of an item. -/
def ItAt (w : World) (b o : Nat) (x : It) : Prop :=
  w.cell? ⟨b, o, none⟩ = some (.int .i64 x.e) ∧ w.cell? ⟨b, o + 1, none⟩ = some (.int .i64 x.f) ∧ w.cell? ⟨b, o + 2, none⟩ = some (.int .i64 x.t) ∧ w.cell? ⟨b, o + 3, none⟩ = some (.int .i64 x.s)
theorem ItAt.grew {w w' : World} {b o : Nat} {x : It} (h : ItAt w b o x) (g : Grew w w') : ItAt w' b o x := ⟨g.keep h.1, g.keep h.2.1, g.keep h.2.2.1, g.keep h.2.2.2⟩

/-- The items of a slice, one behind the other. -/
def Its (w : World) (a : Option Addr) (l : List It) : Prop := l = [] ∨ ∃ b off, a = some ⟨b, off, none⟩ ∧ ∀ i (h : i < l.length), ItAt w b (off + i * 4) l[i]
theorem Its.grew {w w' : World} {a : Option Addr} {l : List It} (h : Its w a l) (g : Grew w w') : Its w' a l := by
  rcases h with h | ⟨b, off, ha, h⟩
  · exact .inl h
  · exact .inr ⟨b, off, ha, fun i hi => (h i hi).grew g⟩
theorem Its.at {w : World} {a : Option Addr} {l : List It} (h : Its w a l) {i : Nat} (hi : i < l.length) : ∃ b off, a = some ⟨b, off, none⟩ ∧ ItAt w b (off + i * 4) l[i] := by
  rcases h with h | ⟨b, off, ha, h⟩
  · subst h; exact absurd hi (Nat.not_lt_zero _)
  · exact ⟨b, off, ha, h i hi⟩

def inB (n l h : Int) : Bool := decide (l ≤ n) && decide (n ≤ h)
def payB (f t s : Int) : Bool := inB f 1 3 && inB t 1 3 && !(f == t) && inB s 1 9
/-- One item, behind the epoch that the one ahead of it has (0 ahead of the first). -/
def stepB (last : Int) (x : It) : Bool := decide (last < x.e) && decide (x.e ≤ 30) && payB x.f x.t x.s
def goB : Int → List It → Bool
  | _, [] => true
  | last, x :: r => stepB last x && goB x.e r
def okB (l : List It) : Bool := decide (l.length ≤ 16) && goB 0 l

set_option linter.unusedVariables false

def endE : Int → List It → Int
  | last, [] => last
  | _, x :: r => endE x.e r
theorem goB_snoc (l : List It) (x : It) : ∀ last, goB last (l ++ [x]) = (goB last l && stepB (endE last l) x) := by
  induction l with
  | nil => intro last; simp [goB, endE]
  | cons y r ih => intro last; simp [goB, endE, ih, Bool.and_assoc]
theorem endE_snoc (l : List It) (x : It) : ∀ last, endE last (l ++ [x]) = x.e := by
  induction l with
  | nil => intro last; rfl
  | cons y r ih => intro last; exact ih y.e
theorem take_snoc (l : List It) (k : Nat) (h : k < l.length) : l.take (k + 1) = l.take k ++ [l[k]] := by
  rw [List.take_succ_eq_append_getElem h]
theorem goB_take (l : List It) (k : Nat) (h : k < l.length) : goB 0 (l.take (k + 1)) = (goB 0 (l.take k) && stepB (endE 0 (l.take k)) l[k]) := by
  rw [take_snoc l k h, goB_snoc]
theorem endE_take (l : List It) (k : Nat) (h : k < l.length) : endE 0 (l.take (k + 1)) = (l[k]).e := by
  rw [take_snoc l k h, endE_snoc]
theorem goB_app (l r : List It) : ∀ last, goB last (l ++ r) = (goB last l && goB (endE last l) r) := by
  induction l with
  | nil => intro last; simp [goB, endE]
  | cons y s ih => intro last; simp [goB, endE, ih, Bool.and_assoc]
theorem goB_part (l : List It) (k : Nat) (h : goB 0 (l.take k) = false) : goB 0 l = false := by
  have := goB_app (l.take k) (l.drop k) 0
  rw [List.take_append_drop] at this
  rw [this, h]; rfl
theorem goB_ends (l : List It) (k : Nat) (hk : k < l.length) (h : stepB (endE 0 (l.take k)) l[k] = false) : goB 0 l = false := by
  apply goB_part l (k + 1)
  rw [goB_take l k hk, h, Bool.and_false]
theorem goB_all (l : List It) (h : goB 0 (l.take l.length) = true) : goB 0 l = true := by
  rwa [List.take_length] at h
theorem endE_low (l : List It) : ∀ last, 0 ≤ last → goB last l = true → last ≤ endE last l ∧ (l ≠ [] → last < endE last l) := by
  induction l with
  | nil => intro last _ _; exact ⟨Int.le_refl _, fun h => absurd rfl h⟩
  | cons y r ih =>
    intro last h0 h
    simp only [goB, stepB, Bool.and_eq_true, decide_eq_true_eq] at h
    have := ih y.e (by omega) h.2
    exact ⟨by simp only [endE]; omega, fun _ => by simp only [endE]; omega⟩

def eqB (x y : It) : Bool := x.e == y.e && (x.f == y.f && (x.t == y.t && x.s == y.s))
theorem eqB_iff (x y : It) : eqB x y = true ↔ x = y := by
  cases x; cases y; simp [eqB]
/-- With how many items both begin. -/
def shareN : List It → List It → Nat
  | x :: r, y :: s => if eqB x y = true then shareN r s + 1 else 0
  | _, _ => 0
theorem shareN_le : ∀ a b : List It, shareN a b ≤ a.length ∧ shareN a b ≤ b.length
  | [], b => by simp [shareN]
  | x :: r, [] => by simp [shareN]
  | x :: r, y :: s => by
    have := shareN_le r s
    simp only [shareN, List.length_cons]
    split <;> omega
theorem shareN_eq : ∀ (a b : List It) (i : Nat) (h : i < shareN a b) (h1 : i < a.length) (h2 : i < b.length), a[i] = b[i]
  | [], b, i, h, _, _ => by simp [shareN] at h
  | x :: r, [], i, h, _, _ => by simp [shareN] at h
  | x :: r, y :: s, i, h, h1, h2 => by
    by_cases e : eqB x y = true
    · cases i with
      | zero => simpa using (eqB_iff x y).1 e
      | succ i =>
        have h' : i < shareN r s := by simp only [shareN, if_pos e] at h; omega
        simpa using shareN_eq r s i h' (by simpa using h1) (by simpa using h2)
    · simp [shareN, e] at h
theorem shareN_part : ∀ (a b : List It) (h1 : shareN a b < a.length) (h2 : shareN a b < b.length), eqB a[shareN a b] b[shareN a b] = false
  | [], b, h1, _ => by simp [shareN] at h1
  | x :: r, [], _, h2 => by simp [shareN] at h2
  | x :: r, y :: s, h1, h2 => by
    by_cases e : eqB x y = true
    · have e' : shareN (x :: r) (y :: s) = shareN r s + 1 := by simp [shareN, e]
      have := shareN_part r s (by rw [e'] at h1; simpa using h1) (by rw [e'] at h2; simpa using h2)
      simpa [e'] using this
    · have e' : shareN (x :: r) (y :: s) = 0 := by simp [shareN, e]
      simpa [e'] using e
/-- A number up to which both are one, and at which they part, is shareN. -/
theorem shareN_is (a b : List It) (n : Nat) (h1 : n ≤ a.length) (h2 : n ≤ b.length) (he : ∀ i (k1 : i < a.length) (k2 : i < b.length), i < n → eqB a[i] b[i] = true)
    (hp : ∀ (k1 : n < a.length) (k2 : n < b.length), eqB a[n] b[n] = false) : n = shareN a b := by
  have hs := shareN_le a b
  rcases Nat.lt_trichotomy n (shareN a b) with h | h | h
  · have k1 : n < a.length := by omega
    have k2 : n < b.length := by omega
    have := hp k1 k2
    rw [(eqB_iff _ _).2 (shareN_eq a b n h k1 k2)] at this
    cases this
  · exact h
  · have k1 : shareN a b < a.length := by omega
    have k2 : shareN a b < b.length := by omega
    have := he _ k1 k2 h
    rw [shareN_part a b k1 k2] at this
    cases this
theorem shareN_self (a : List It) : shareN a a = a.length := by
  induction a with
  | nil => rfl
  | cons x r ih => simp [shareN, (eqB_iff x x).2 rfl, ih]
theorem shareN_comm : ∀ a b : List It, shareN a b = shareN b a
  | [], [] => rfl
  | [], y :: s => rfl
  | x :: r, [] => rfl
  | x :: r, y :: s => by
    by_cases e : x = y
    · subst e; simp [shareN, (eqB_iff x x).2 rfl, shareN_comm r s]
    · have h1 : ¬ eqB x y = true := fun h => e ((eqB_iff _ _).1 h)
      have h2 : ¬ eqB y x = true := fun h => e ((eqB_iff _ _).1 h).symm
      simp [shareN, h1, h2]
theorem shareN_take : ∀ a b : List It, a.take (shareN a b) = b.take (shareN a b)
  | [], b => by simp [shareN]
  | x :: r, [] => by simp [shareN]
  | x :: r, y :: s => by
    by_cases e : eqB x y = true
    · have := (eqB_iff x y).1 e
      subst this
      simp [shareN, e, shareN_take r s]
    · simp [shareN, e]
/-- Whether a begins b. -/
def inC (a b : List It) : Bool := okB a && okB b && decide (shareN a b = a.length)
theorem shareN_all (a b : List It) : shareN a b = a.length ↔ ∃ r, b = a ++ r := by
  constructor
  · intro h
    have hb := shareN_le a b
    have ht := shareN_take a b
    rw [h, List.take_length] at ht
    exact ⟨b.drop a.length, by conv => lhs; rw [← List.take_append_drop a.length b, ← ht]⟩
  · rintro ⟨r, rfl⟩
    induction a with
    | nil => simp [shareN]
    | cons x s ih => simp [shareN, (eqB_iff x x).2 rfl, ih]

set_option linter.unusedVariables false
open Go.RowKit

theorem ret_bool {a b : Bool} (h : a = b) : Ending.returned (.bool a) = .returned (.bool b) := by rw [h]

theorem isPayer_any (x : Int) (w : World) : Calls Try.prog 180 #[.int .i64 x] w fun e w' => e = .returned (.bool (inB x 1 3)) ∧ w' = w := by
  by_cases h1 : 1 ≤ x
  · by_cases h2 : x ≤ 3
    · go_enter Try.func180, Try.ntmps180
      go_wp2
      go_ret
      exact ⟨ret_bool (by simp [inB, h1, h2]), rfl⟩
    · have h2' : decide (x ≤ 3) = false := by simpa using h2
      go_enter Try.func180, Try.ntmps180
      go_wp2
      go_ret
      exact ⟨ret_bool (by unfold inB; rw [h2', Bool.and_false]), rfl⟩
  · have h1' : decide (1 ≤ x) = false := by simpa using h1
    go_enter Try.func180, Try.ntmps180
    go_wp2
    go_ret
    exact ⟨ret_bool (by unfold inB; rw [h1']; rfl), rfl⟩

theorem l6In_any (x l h : Int) (w : World) : Calls Try.prog 71 #[.int .i64 x, .int .i64 l, .int .i64 h] w fun e w' => e = .returned (.bool (inB x l h)) ∧ w' = w := by
  by_cases h1 : l ≤ x
  · by_cases h2 : x ≤ h
    · go_enter Try.func71, Try.ntmps71
      go_wp2
      go_ret
      exact ⟨ret_bool (by simp [inB, h1, h2]), rfl⟩
    · have h2' : decide (x ≤ h) = false := by simpa using h2
      go_enter Try.func71, Try.ntmps71
      go_wp2
      go_ret
      exact ⟨ret_bool (by unfold inB; rw [h2', Bool.and_false]), rfl⟩
  · have h1' : decide (l ≤ x) = false := by simpa using h1
    go_enter Try.func71, Try.ntmps71
    go_wp2
    go_ret
    exact ⟨ret_bool (by unfold inB; rw [h1']; rfl), rfl⟩

set_option maxHeartbeats 400000 in
theorem implPayOk (f t s : Int) (w : World) : Calls Try.prog 178 #[.agg #[.int .i64 f, .int .i64 t, .int .i64 s]] w fun e w' => e = .returned (.bool (payB f t s)) ∧ Grew w w' := by
  cases hf : inB f 1 3 with
  | false =>
    have hx : payB f t s = false := by unfold payB; rw [hf]; rfl
    rw [hx]; clear hx
    go_enter Try.func178, Try.ntmps178
    go_wp2_with (go_at_call 180; refine (isPayer_any _ _).mono ?_; rintro e w' ⟨rfl, rfl⟩)
    go_ret
    exact ⟨rfl, (Grew.refl _).alloc _⟩
  | true =>
    cases ht : inB t 1 3 with
    | false =>
      have hx : payB f t s = false := by unfold payB; rw [hf, ht]; rfl
      rw [hx]; clear hx
      go_enter Try.func178, Try.ntmps178
      go_wp2_with (go_at_call 180; refine (isPayer_any _ _).mono ?_; rintro e w' ⟨rfl, rfl⟩)
      go_ret
      exact ⟨rfl, (Grew.refl _).alloc _⟩
    | true =>
      by_cases hft : f = t
      · have hx : payB f t s = false := by unfold payB; rw [hf, ht]; simp [hft]
        rw [hx]; clear hx
        subst hft
        go_enter Try.func178, Try.ntmps178
        go_wp2_with (go_at_call 180; refine (isPayer_any _ _).mono ?_; rintro e w' ⟨rfl, rfl⟩)
        go_ret
        exact ⟨rfl, (Grew.refl _).alloc _⟩
      · have hft' : (f == t) = false := by simpa using hft
        have hft2 : (f != t) = true := by simpa using hft
        have hx : payB f t s = inB s 1 9 := by unfold payB; rw [hf, ht, hft']; rfl
        rw [hx]; clear hx hft
        by_cases h1 : 1 ≤ s
        · by_cases h2 : s ≤ 9
          · have hx : inB s 1 9 = true := by simp [inB, h1, h2]
            rw [hx]; clear hx
            go_enter Try.func178, Try.ntmps178
            go_wp2_with (go_at_call 180; refine (isPayer_any _ _).mono ?_; rintro e w' ⟨rfl, rfl⟩)
            go_ret
            exact ⟨rfl, (Grew.refl _).alloc _⟩
          · have h2' : decide (s ≤ 9) = false := by simpa using h2
            have hx : inB s 1 9 = false := by unfold inB; rw [h2', Bool.and_false]
            rw [hx]; clear hx
            go_enter Try.func178, Try.ntmps178
            go_wp2_with (go_at_call 180; refine (isPayer_any _ _).mono ?_; rintro e w' ⟨rfl, rfl⟩)
            go_ret
            exact ⟨rfl, (Grew.refl _).alloc _⟩
        · have h1' : decide (1 ≤ s) = false := by simpa using h1
          have hx : inB s 1 9 = false := by unfold inB; rw [h1']; rfl
          rw [hx]; clear hx
          go_enter Try.func178, Try.ntmps178
          go_wp2_with (go_at_call 180; refine (isPayer_any _ _).mono ?_; rintro e w' ⟨rfl, rfl⟩)
          go_ret
          exact ⟨rfl, (Grew.refl _).alloc _⟩

set_option maxHeartbeats 400000 in
theorem specPayOk (f t s : Int) (w : World) : Calls Try.prog 103 #[.agg #[.int .i64 f, .int .i64 t, .int .i64 s]] w fun e w' => e = .returned (.bool (payB f t s)) ∧ Grew w w' := by
  cases hf : inB f 1 3 with
  | false =>
    have hx : payB f t s = false := by unfold payB; rw [hf]; rfl
    rw [hx]; clear hx
    go_enter Try.func103, Try.ntmps103
    go_wp2_with (go_at_call 71; refine (l6In_any _ _ _ _).mono ?_; rintro e w' ⟨rfl, rfl⟩)
    go_ret
    exact ⟨rfl, (Grew.refl _).alloc _⟩
  | true =>
    cases ht : inB t 1 3 with
    | false =>
      have hx : payB f t s = false := by unfold payB; rw [hf, ht]; rfl
      rw [hx]; clear hx
      go_enter Try.func103, Try.ntmps103
      go_wp2_with (go_at_call 71; refine (l6In_any _ _ _ _).mono ?_; rintro e w' ⟨rfl, rfl⟩)
      go_ret
      exact ⟨rfl, (Grew.refl _).alloc _⟩
    | true =>
      by_cases hft : f = t
      · have hx : payB f t s = false := by unfold payB; rw [hf, ht]; simp [hft]
        rw [hx]; clear hx
        subst hft
        go_enter Try.func103, Try.ntmps103
        go_wp2_with (go_at_call 71; refine (l6In_any _ _ _ _).mono ?_; rintro e w' ⟨rfl, rfl⟩)
        go_ret
        exact ⟨rfl, (Grew.refl _).alloc _⟩
      · have hft' : (f == t) = false := by simpa using hft
        have hft2 : (f != t) = true := by simpa using hft
        have hx : payB f t s = inB s 1 9 := by unfold payB; rw [hf, ht, hft']; rfl
        rw [hx]; clear hx hft
        go_enter Try.func103, Try.ntmps103
        go_wp2_with (go_at_call 71; refine (l6In_any _ _ _ _).mono ?_; rintro e w' ⟨rfl, rfl⟩)
        go_ret
        exact ⟨rfl, (Grew.refl _).alloc _⟩

set_option maxHeartbeats 400000 in
theorem toPay_any (f t s : Int) (w : World) : Calls Try.prog 152 #[.agg #[.int .i64 f, .int .i64 t, .int .i64 s]] w fun e w' => e = .returned (.agg #[.int .i64 f, .int .i64 t, .int .i64 s]) ∧ Grew w w' := by
  go_enter Try.func152, Try.ntmps152
  go_wp2
  go_returns
  exact ⟨rfl, (((Grew.refl _).alloc _).alloc _).alloc _⟩
end Go.Proofs.Ytjbnohepbmejkaa
