/-
  Payments on what all have: what comes back, in two, around. Plain mathematics, no Go text.
-/
import Derived.Test.YtnoiammgpdlljaaBook5
namespace Go.Proofs.Ytnoiammgpdlljaa
set_option linter.unusedVariables false

theorem bpay_len (l : List Int) (f t s : Int) : (bpay l f t s).length ≤ 3 := by
  unfold bpay
  split
  · rename_i h
    have := payL_ok h.1 h.2
    obtain ⟨x, y, z, e, _⟩ := bokB_three this
    rw [e]; simp
  · simp
theorem bpay_pos {l X : List Int} {f t s : Int} (h : bpay l f t s = X) (hX : X ≠ []) : bokB l = true ∧ payB f t s = true ∧ X = payL l f t s := by
  unfold bpay at h
  split at h
  · rename_i hh; exact ⟨hh.1, hh.2, h.symm⟩
  · exact absurd h.symm hX
theorem bpay_ok {l : List Int} {f t s : Int} (h : bokB l = true) (hp : payB f t s = true) : bpay l f t s = payL l f t s := by
  unfold bpay; rw [if_pos ⟨h, hp⟩]
end Go.Proofs.Ytnoiammgpdlljaa
