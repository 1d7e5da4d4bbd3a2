/-
  What ChainRead answers at every text, where errors.errorType is laid as the program's text lays it.
-/
import Derived.Test.YtfonpbglnkggfaaDoorRead4
import Derived.Test.YtfonpbglnkggfaaDoorAs
namespace Go.Proofs.YtfonpbglnkggfaaDoor
set_option linter.unusedVariables false
open Go.RowKit
attribute [local simp] far_const

/-- errors.errorType holds the handle of the type 'error'. -/
def ErrLaid (w : World) : Prop := w.cell? ⟨0, 0, none⟩ = some (.iface 87 (.agg #[.pointer (some ⟨5, 45, none⟩)]))
theorem ErrLaid.grew {w w' : World} (h : ErrLaid w) (g : Grew w w') : ErrLaid w' := g.keep h

set_option maxHeartbeats 4000000 in
theorem implChainRead (T : List UInt8) (w : World) (hs : T.length ≤ 1048576) (hL : ErrLaid w) : Calls Tryd.prog 6 #[.string (bt T)] w fun r w' => Grew w w' ∧
    ((∃ l v, okB l = true ∧ T = textL l ∧ r = .returned (.tuple #[v, .bool true]) ∧ (l = [] ∧ v = .slice none 0 0 ∨ OwnL w' w.heap.size v l)) ∨ ((∀ l, okB l = true → T ≠ textL l) ∧ r = .returned (.tuple #[.slice none 0 0, .bool false]))) := by
  obtain ⟨TT, hTT⟩ : ∃ TT, TT = bt T := ⟨_, rfl⟩
  have h0 := chainOfText_any T w hs
  rw [← hTT] at h0 ⊢
  clear hTT
  go_enter Tryd.func6, Tryd.ntmps6
  go_wp2_with fail
  refine h0.mono ?_
  rintro r w1 ⟨g1, ⟨l, v, hl, hTl, rfl, hv⟩ | ⟨hno, n, rfl⟩⟩
  · have H := hide (And.intro hl (And.intro hTl hv))
    clear hl hTl hv
    go_wp2_with (first | (go_at_call 20; refine (as_nil _ _).mono ?_; rintro e w' ⟨rfl, rfl⟩))
    go_ret2
    refine ⟨g1.alloc _, .inl ⟨l, v, (unhide H).1, (unhide H).2.1, rfl, ?_⟩⟩
    rcases (unhide H).2.2 with h | h
    · exact .inl h
    · exact .inr (h.grew ((Grew.refl _).alloc _))
  · have H := hide hno
    clear hno
    have hA : ErrLaid (w1.alloc (.cells #[.int .i64 0] 49)) := hL.grew (g1.alloc _)
    have htA : (w1.alloc (.cells #[.int .i64 0] 49)).cell? ⟨w1.heap.size, 0, none⟩ = some (.int .i64 0) := by simp
    have hfA : (w1.alloc (.cells #[.int .i64 0] 49)).frozen? ⟨w1.heap.size, 0, none⟩ = false := by simp
    go_wp2_with (first | (go_at_call 20; refine (as_hit _ _ (.int .i64 0) _ hA htA hfA).mono ?_; rintro e w' ⟨rfl, rfl⟩))
    go_ret2
    refine ⟨Grew.alloc (Grew.alloc (Grew.alloc (Grew.alloc (Grew.alloc g1 _) _) _) _) _, .inr ⟨unhide H, rfl⟩⟩
end Go.Proofs.YtfonpbglnkggfaaDoor
