/-
  Texts together: Nums1, Nums2, NumsV.
-/
import Derived.Test.YtkegdjfpeocndaaGreatRows2
import Derived.Laws.CopyOwn
import Derived.Maps.AppendAt
import Derived.OneCell
import Derived.RegionTactic
import Derived.Test.YtkegdjfpeocndaaGreatMarkHeld
namespace Go.Proofs.YtkegdjfpeocndaaGreat
set_option linter.unusedVariables false
open Go.RowKit
attribute [local simp] far_const

/-- The numbers of a slice, one behind the other. -/
def Ints (w : World) (a : Option Addr) (l : List Int) : Prop := l = [] ∨ ∃ b off, a = some ⟨b, off, none⟩ ∧ ∀ i (h : i < l.length), w.cell? ⟨b, off + i, none⟩ = some (.int .i64 l[i])
theorem Ints.grew {w w' : World} {a : Option Addr} {l : List Int} (h : Ints w a l) (g : Grew w w') : Ints w' a l := by
  rcases h with h | ⟨b, off, ha, h⟩
  · exact .inl h
  · exact .inr ⟨b, off, ha, fun i hi => g.keep (h i hi)⟩
theorem Ints.at {w : World} {a : Option Addr} {l : List Int} (h : Ints w a l) {i : Nat} (hi : i < l.length) : ∃ b off, a = some ⟨b, off, none⟩ ∧ w.cell? ⟨b, off + i, none⟩ = some (.int .i64 l[i]) := by
  rcases h with h | ⟨b, off, ha, h⟩
  · subst h; exact absurd hi (Nat.not_lt_zero _)
  · exact ⟨b, off, ha, h i hi⟩
theorem Ints.three {w : World} {a : Option Addr} {x y z : Int} (h : Ints w a [x, y, z]) : ∃ b off, a = some ⟨b, off, none⟩ ∧ w.cell? ⟨b, off, none⟩ = some (.int .i64 x) ∧ w.cell? ⟨b, off + 1, none⟩ = some (.int .i64 y) ∧ w.cell? ⟨b, off + 2, none⟩ = some (.int .i64 z) := by
  rcases h with h | ⟨b, off, ha, h⟩
  · cases h
  · exact ⟨b, off, ha, h 0 (by simp), h 1 (by simp), h 2 (by simp)⟩
theorem Ran.ints {R : Nat} {w w' : World} {a : Option Addr} {l : List Int} (h : Ints w a l) (g : Ran R w w') (hR : ∀ x, a = some x → x.block ≠ R) : Ints w' a l := by
  rcases h with h | ⟨b, off, ha, h⟩
  · exact .inl h
  · have hb := hR _ ha
    exact .inr ⟨b, off, ha, fun i hi => g.cell hb (h i hi)⟩

def nums (l : List Int) : List Value := l.map (Value.int .i64)
theorem nums_length (l : List Int) : (nums l).length = l.length := by simp [nums]
theorem nums_one (l : List Int) : ∀ u ∈ nums l, u.oneCell' = true := fun u hu => by
  obtain ⟨x, _, rfl⟩ := List.mem_map.1 hu
  rfl
/-- The cells of numbers that lie in memory. -/
theorem Ints.nums {w : World} {ad : Addr} {l : List Int} (h : Ints w (some ad) l) : ∀ j u, (nums l)[j]? = some u → w.cell? (ad.add j) = some u := by
  intro j u hj
  rcases h with h | ⟨b, off, ha, h⟩
  · subst h; simp [Go.Proofs.YtkegdjfpeocndaaGreat.nums] at hj
  · simp only [Option.some.injEq] at ha
    subst ha
    have hjl : j < l.length := by
      have := (List.getElem?_eq_some_iff.1 hj).1
      rwa [nums_length] at this
    have hadd : (⟨b, off, none⟩ : Addr).add j = ⟨b, off + j, none⟩ := by unfold Addr.add; split <;> simp_all
    rw [hadd, h j hjl]
    simpa [Go.Proofs.YtkegdjfpeocndaaGreat.nums, hjl] using hj

/-- A row of numbers that the call owns; never nil. -/
def OwnN (w : World) (base : Nat) (v : Value) (l : List Int) : Prop := v ≠ .slice none 0 0 ∧ w.ownsRow base 3 1 v l.length (nums l)
theorem OwnN.shape {w : World} {base : Nat} {v : Value} {l : List Int} (h : OwnN w base v l) : ∃ g cap, v = .slice (some ⟨g, 0, none⟩) l.length cap ∧ l.length ≤ cap ∧ base ≤ g ∧ g < w.heap.size ∧
    Ints w (some ⟨g, 0, none⟩) l ∧ (∀ i, w.frozen? ⟨g, i, none⟩ = false) := by
  rcases h.2.2 with ⟨hv, hn⟩ | ⟨g, cap, cur, hv, hb, hg, hnc, hcm, hcs, htake⟩
  · exact absurd hv h.1
  · have hlt : g < w.heap.size := (Array.getElem?_eq_some_iff.1 hg).1
    have hv' : w.ownsRow base 3 1 (.slice (some ⟨g, 0, none⟩) l.length cap) l.length (Go.Proofs.YtkegdjfpeocndaaGreat.nums l) := by rw [← hv]; exact h.2
    refine ⟨g, cap, hv, hnc, hb, hlt, .inr ⟨g, 0, rfl, fun i hi => ?_⟩, fun i => ?_⟩
    · rw [Nat.zero_add, hv'.cellAt i (by omega)]
      simp [Go.Proofs.YtkegdjfpeocndaaGreat.nums, hi]
    · simp [World.frozen?, hg]
theorem OwnN.kept {w w' : World} {base : Nat} {v : Value} {l : List Int} (h : OwnN w base v l) (e : ∀ g, base ≤ g → g < w.heap.size → v.ownBlock = some g → w'.heap[g]? = w.heap[g]?) : OwnN w' base v l := by
  refine ⟨h.1, h.2.1, ?_⟩
  rcases h.2.2 with h0 | ⟨g, cap, cur, hv, hb, hg, hr⟩
  · exact .inl h0
  · exact .inr ⟨g, cap, cur, hv, hb, by rw [e g hb (Array.getElem?_eq_some_iff.1 hg).1 (by rw [hv]; rfl)]; exact hg, hr⟩
theorem OwnN.grew {w w' : World} {base : Nat} {v : Value} {l : List Int} (h : OwnN w base v l) (g : Grew w w') : OwnN w' base v l :=
  h.kept fun k _ hl _ => g.below.block k hl
theorem OwnN.ran {w w' : World} {R base : Nat} {v : Value} {l : List Int} (h : OwnN w base v l) (g : Ran R w w') (hR : R < base) : OwnN w' base v l :=
  h.kept fun k hk hl _ => g.keep k hl (by omega)
theorem OwnN.low {w : World} {base base' : Nat} {v : Value} {l : List Int} (h : OwnN w base v l) (hb : base' ≤ base) : OwnN w base' v l := by
  refine ⟨h.1, h.2.1, ?_⟩
  rcases h.2.2 with h0 | ⟨g, cap, cur, hv, hb', hr⟩
  · exact .inl h0
  · exact .inr ⟨g, cap, cur, hv, by omega, hr⟩
theorem OwnN.lit {w : World} {base : Nat} (hb : base ≤ w.heap.size) (l : List Int) (n : Nat) (hn : l.length = n) (hm : n ≤ 1048576) : OwnN (w.alloc (.cells (nums l).toArray 3)) base (.slice (some ⟨w.heap.size, 0, none⟩) n n) l := by
  subst hn
  exact ⟨fun e => by simp at e, World.ownsRow_lit w (nums l).toArray l.length hb (by unfold maxLen; omega) (by simp [nums])⟩
theorem OwnN.of_heap {w : World} {base g : Nat} {l : List Int} (hb : base ≤ g) (h : w.heap[g]? = some (.cells (nums l).toArray 3 (0, 0))) (n : Nat) (hn : l.length = n) (hm : n ≤ 1048576) : OwnN w base (.slice (some ⟨g, 0, none⟩) n n) l := by
  subst hn
  refine ⟨fun e => by simp at e, by simp [nums], .inr ⟨g, l.length, (nums l).toArray, rfl, hb, h, Nat.le_refl _, by unfold maxLen; omega, by simp [nums], ?_⟩⟩
  rw [Nat.mul_one, List.take_of_length_le (by simp [nums])]
theorem OwnN.block {w : World} {base : Nat} {v : Value} {l : List Int} (h : OwnN w base v l) : ∀ k, v.ownBlock = some k → base ≤ k ∧ k < w.heap.size := World.ownsRow.lt h.2
theorem OwnN.set {w : World} {base g n cap : Nat} {l : List Int} (h : OwnN w base (.slice (some ⟨g, 0, none⟩) n cap) l) (i : Nat) (x : Int) : OwnN (w.setCell ⟨g, i, none⟩ (.int .i64 x)) base (.slice (some ⟨g, 0, none⟩) n cap) (l.set i x) := by
  have hn : n = l.length := by
    obtain ⟨_, _, hv, _⟩ := h.shape
    simp at hv; exact hv.2.1
  subst hn
  have hs := (World.ownsRow.stored h.2 i (.int .i64 x)).1
  refine ⟨h.1, ?_⟩
  have e : nums (l.set i x) = (nums l).set i (.int .i64 x) := by simp [nums, List.map_set]
  rw [e, List.length_set]
  exact hs
theorem int_info : (Tryz.prog.info? 3).map (fun i => (i.zero, i.size, i.bytes)) = some (some (.int .i64 0), 1, 8) := by kernel_rfl

theorem nums_zeros (n : Nat) : madeCells #[.int .i64 0] n = (nums (List.replicate n 0)).toArray := by
  apply Array.ext'
  rw [toList_madeCells_one]
  simp [nums]

/-- What a call answers: nothing at all, or a row of its own. -/
def AnsN (w : World) (base : Nat) (v : Value) (l : List Int) : Prop := (v = .slice none 0 0 ∧ l = []) ∨ OwnN w base v l
theorem AnsN.shape {w : World} {base : Nat} {v : Value} {l : List Int} (h : AnsN w base v l) : ∃ a cap, v = .slice a l.length cap ∧ l.length ≤ cap ∧ Ints w a l ∧ (∀ x, a = some x → base ≤ x.block ∧ x.block < w.heap.size) := by
  rcases h with ⟨rfl, rfl⟩ | h
  · exact ⟨none, 0, rfl, Nat.le_refl _, .inl rfl, fun x hx => by cases hx⟩
  · obtain ⟨g, cap, rfl, h1, h2, h3, h4, _⟩ := h.shape
    exact ⟨_, cap, rfl, h1, h4, fun x hx => by cases hx; exact ⟨h2, h3⟩⟩
theorem AnsN.grew {w w' : World} {base : Nat} {v : Value} {l : List Int} (h : AnsN w base v l) (g : Grew w w') : AnsN w' base v l := by
  rcases h with h | h
  · exact .inl h
  · exact .inr (h.grew g)
theorem AnsN.low {w : World} {base base' : Nat} {v : Value} {l : List Int} (h : AnsN w base v l) (hb : base' ≤ base) : AnsN w base' v l := by
  rcases h with h | h
  · exact .inl h
  · exact .inr (h.low hb)

set_option linter.unusedVariables false
open Go.RowKit
attribute [local simp] far_const

/-- The marks from k on. -/
def marksN : Int → Nat → List Int
  | _, 0 => []
  | k, n + 1 => k :: marksN (k + 1) n
theorem marksN_len : ∀ (n : Nat) (k : Int), (marksN k n).length = n
  | 0, _ => rfl
  | n + 1, k => by simp [marksN, marksN_len n]
theorem marksN_get : ∀ (n : Nat) (k : Int) (i : Nat) (h : i < (marksN k n).length), (marksN k n)[i] = k + i
  | 0, k, i, h => by simp [marksN] at h
  | n + 1, k, 0, h => by simp [marksN]
  | n + 1, k, i + 1, h => by
    have := marksN_get n (k + 1) i (by simpa [marksN] using h)
    simp only [marksN, List.getElem_cons_succ, this]
    omega
theorem Wrote.ints {a b : Option Addr} {w w' : World} {l : List Int} (h : Wrote a w w') (i : Ints w b l) (hne : 0 < l.length → ∀ x y, a = some x → b = some y → x.block ≠ y.block) : Ints w' b l := by
  by_cases h0 : l = []
  · exact .inl h0
  · have hp : 0 < l.length := List.length_pos_iff.2 h0
    rcases i with i | ⟨g, off, hb, i⟩
    · exact .inl i
    · have e : w'.heap[g]? = w.heap[g]? := h.keep g (fun x hx => hne hp x _ hx hb)
      refine .inr ⟨g, off, hb, fun j hj => ?_⟩
      rw [World.cell?_of_block (w := w) e]; exact i j hj
theorem Wrote.ownN {a : Option Addr} {w w' : World} {base : Nat} {v : Value} {l : List Int} (h : Wrote a w w') (o : OwnN w base v l) (hne : ∀ x g, a = some x → v.ownBlock = some g → x.block ≠ g) : OwnN w' base v l :=
  o.kept fun g _ _ hv => h.keep g fun x hx => hne x g hx hv

set_option linter.unusedVariables false
open Go.RowKit
attribute [local simp] far_const

/-- The slice value v reads as the numbers l. -/
def NumV (w : World) (v : Value) (l : List Int) : Prop := ∃ a cap, v = .slice a l.length cap ∧ Ints w a l
theorem NumV.grew {w w' : World} {v : Value} {l : List Int} (h : NumV w v l) (g : Grew w w') : NumV w' v l := by
  obtain ⟨a, cap, rfl, h⟩ := h; exact ⟨a, cap, rfl, h.grew g⟩
theorem AnsN.num {w : World} {base : Nat} {v : Value} {l : List Int} (h : AnsN w base v l) : NumV w v l := by
  obtain ⟨a, cap, rfl, _, h, _⟩ := h.shape; exact ⟨a, cap, rfl, h⟩
theorem OwnN.ans {w : World} {base : Nat} {v : Value} {l : List Int} (h : OwnN w base v l) : AnsN w base v l := .inr h
theorem OwnN.num {w : World} {base : Nat} {v : Value} {l : List Int} (h : OwnN w base v l) : NumV w v l := h.ans.num
theorem NumV.of {w : World} {a : Option Addr} {n cap : Nat} {l : List Int} (hn : l.length = n) (h : Ints w a l) : NumV w (.slice a n cap) l := ⟨a, cap, by rw [hn], h⟩
/-- What three numbers look like. -/
theorem NumV.three {w : World} {v : Value} {x y z : Int} (h : NumV w v [x, y, z]) : ∃ b off cap, v = .slice (some ⟨b, off, none⟩) 3 cap ∧ w.cell? ⟨b, off, none⟩ = some (.int .i64 x) ∧ w.cell? ⟨b, off + 1, none⟩ = some (.int .i64 y) ∧ w.cell? ⟨b, off + 2, none⟩ = some (.int .i64 z) := by
  obtain ⟨a, cap, rfl, h⟩ := h
  obtain ⟨b, off, rfl, h'⟩ := h.three
  exact ⟨b, off, cap, rfl, h'⟩
theorem NumV.shape {w : World} {v : Value} {l : List Int} (h : NumV w v l) : ∃ a cap, v = .slice a l.length cap := by
  obtain ⟨a, cap, rfl, h⟩ := h
  exact ⟨a, cap, rfl⟩
theorem AnsN.block {w : World} {base : Nat} {v : Value} {l : List Int} (h : AnsN w base v l) : ∀ k, v.ownBlock = some k → base ≤ k ∧ k < w.heap.size := by
  rcases h with ⟨rfl, rfl⟩ | h
  · intro k hk; cases hk
  · exact h.block
theorem AnsN.kept {w w' : World} {base : Nat} {v : Value} {l : List Int} (h : AnsN w base v l) (e : ∀ g, v.ownBlock = some g → w'.heap[g]? = w.heap[g]?) : AnsN w' base v l := by
  rcases h with h | h
  · exact .inl h
  · exact .inr (h.kept fun g _ _ hg => e g hg)

end Go.Proofs.YtkegdjfpeocndaaGreat
