/-
  What CertFinal answers, in the program and in the specification.
-/
import Derived.Test.YtjbnohepbmejkaaCerK
import Derived.Test.YtjbnohepbmejkaaTFormsA
namespace Go.Proofs.Ytjbnohepbmejkaa
set_option linter.unusedVariables false
open Go.RowKit
attribute [local simp] far_const

/-- What CertFinal answers. -/
def finC (x : Ct) : List It := if certB x = true then x.c.take (x.c.length - 1) else []
theorem certB_len {x : Ct} (h : certB x = true) : 3 ≤ x.c.length := by
  simp only [certB, Bool.and_eq_true] at h
  exact rowB_len h.2.1
theorem finC_len (x : Ct) (h : x.c.length ≤ 1048576) : (finC x).length ≤ 1048576 := by
  unfold finC; split
  · simp; omega
  · simp

set_option maxHeartbeats 1000000 in
theorem implCertFinal (x : Ct) (v : Value) (w : World) (hv : CtV w v x) (hc : x.c.length ≤ 1048576) (hn : x.b.length ≤ 1048576) (hs : ShortI x.b) :
    Calls Try.prog 24 #[v] w fun r w' => ∃ u cap, r = .returned (.slice u (finC x).length cap) ∧ Its w' u (finC x) ∧ OwnX w' w.heap.size u (finC x).length ∧ Grew w w' := by
  have hX := fun W => hide (fun (g : Grew w W) => implCertOk x v W (hv.grew g) hc hn hs)
  obtain ⟨a, cap, b, capb, rfl, hcap, hl, hb⟩ := hv
  clear hb
  cases h : certB x with
  | false =>
    have hf : Hid (finC x = []) := by show finC x = []; unfold finC; rw [if_neg (by rw [h]; decide)]
    rw [h] at hX
    go_enter Try.func24, Try.ntmps24
    go_wp2_with fail
    refine (unhide (hX _) ((Grew.refl _).alloc _)).mono ?_
    rintro r w1 ⟨rfl, g1⟩
    go_wp2
    go_ret
    refine ⟨none, 0, ?_, ?_, ?_, ((Grew.refl _).alloc _).trans g1⟩
    · rw [hf.out]; rfl
    · exact .inl hf.out
    · rw [hf.out]; exact .inl ⟨rfl, rfl⟩
  | true =>
    have h3 := certB_len h
    obtain ⟨m, hm⟩ : ∃ m, x.c.length = m + 1 := ⟨x.c.length - 1, by omega⟩
    have hf : Hid (finC x = x.c.take m) := by show finC x = _; unfold finC; rw [if_pos h, hm]; rfl
    have hfl : Hid ((x.c.take m).length = m) := by show (x.c.take m).length = m; simp; omega
    rw [h] at hX
    have hmm : m ≤ x.c.length := by omega
    have hm2 : m ≤ 1048576 := by omega
    have hmk := make_items m hm2
    have hcp := fun W (g : Grew w W) ty => copy_items W m a cap x.c ty (hl.grew g) hmm
    rw [hm] at hX hcp ⊢
    have HC := hide hcp
    clear hcp hl hm h3 hmm
    go_enter Try.func24, Try.ntmps24
    go_wp2_with fail
    refine (unhide (hX _) ((Grew.refl _).alloc _)).mono ?_
    rintro r w1 ⟨rfl, g1⟩
    have p0 := g1.keep (p := ⟨w.heap.size, 0, none⟩) (v := .slice a (m + 1) cap) (by simp [go_sem])
    have q0 := fun o => ((Grew.refl w1).alloc o).keep p0
    have G1 := hide (((Grew.refl w).alloc _).trans g1)
    have hcp := unhide HC _ (unhide G1)
    clear g1 hX HC
    go_wp2
    go_ret
    refine ⟨some ⟨w1.heap.size, 0, none⟩, m, ?_, ?_, ?_, (unhide G1).alloc _⟩
    · rw [hf.out, hfl.out]; rfl
    · rw [hf.out]; exact its_row w1 _
    · rw [hf.out]; exact .inr ⟨w1.heap.size, rfl, (unhide G1).size, own_row w1 _⟩

end Go.Proofs.Ytjbnohepbmejkaa
