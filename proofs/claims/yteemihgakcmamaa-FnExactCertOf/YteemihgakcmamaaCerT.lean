/-
  What CertOf answers, by the specification: the whole.
-/
import Derived.Test.YteemihgakcmamaaCerS
namespace Go.Proofs.Yteemihgakcmamaa
set_option linter.unusedVariables false
open Go.RowKit
attribute [local simp] far_const

set_option maxRecDepth 20000 in
set_option maxHeartbeats 8000000 in
theorem specCertOf (a : Option Addr) (cap : Nat) (l : List Vt) (w : World) (hl : Vts w a l) (hcap : l.length ≤ cap) (hroom : Room w a l) (hs : Short l) (hn : l.length ≤ 1048576) :
    Calls Try.prog 26 #[.slice a l.length cap] w fun r w' => ∃ u v, r = .returned (.tuple #[.agg #[u, v], .bool (certL l).2]) ∧ CSpec w' w.heap.size u v (certL l).1 ∧ Grew w w' := by
  have hX := fun W => hide (fun (g : Grew w W) => specVotesOk a cap l W (hl.grew g) hcap hs hn)
  have HL := hide hl
  have HR := hide hroom
  have HS := hide hs
  clear hl hroom hs
  cases hv : votesB l with
  | false =>
    have he : Hid (certL l = (⟨[], []⟩, false)) := certL_no (by rw [hv]; simp)
    rw [hv] at hX
    clear hv
    go_enter Try.func26, Try.ntmps26
    go_wp2_with fail
    refine (unhide (hX _) ((Grew.refl _).alloc _)).mono ?_
    clear hX
    rintro r w1 ⟨rfl, g1⟩
    obtain ⟨⟨r0, r1⟩, z0, z1⟩ := (Box2.box w (.slice none 0 0) (.slice none 0 0) 31).grew g1
    have G1 := hide (((Grew.refl w).alloc _).trans g1)
    clear g1
    go_wp2
    refine bodyPost_ret (by simp [results, Try.results26, go_sem, r0, r1]; try rfl) rfl ?_
    refine ⟨_, _, by rw [he.out], .inl ⟨rfl, rfl, by rw [he.out]⟩, ?_⟩
    exact ((unhide G1).setCell (p := ⟨w.heap.size, 0, none⟩) (Nat.le_refl _) _).setCell (p := ⟨w.heap.size, 1, none⟩) (Nat.le_refl _) _
  | true =>
    have HY := hide (certL_yes hv)
    have HN := hide (certL_no (l := l))
    rw [hv] at hX
    have hA := fun W => hide (fun (g : Grew w W) => l11All_any a cap l W ((unhide HL).grew g) ((unhide HR).grew (unhide HL) g) (unhide HS) hn)
    rw [allK_all] at hA
    have hF := fun W => hide (fun (g : Grew w W) => l11Final_any a cap l W ((unhide HL).grew g) ((unhide HR).grew (unhide HL) g) (unhide HS) hn)
    have hO : Hid (∀ W, Grew w W → ∀ (b : Option Addr) (cb : Nat) (c : List It), c ∈ allS l → Its W b c → c.length ≤ cb → c.length ≤ 1048576 → 0 < finN c → Calls Try.prog 85 #[.slice a l.length cap, .slice b c.length cb] W fun r w' => ∃ u v, r = .returned (.tuple #[.agg #[u, v], .bool true]) ∧ CSpec w' W.heap.size u v (certOf l c) ∧ Grew W w') :=
      hide (fun W g b cb c hm hi h1 h2 h3 => l13Of_any a cap l b cb c _ rfl W ((unhide HL).grew g) hcap (unhide HS) hn hi h1 h2 hv hm h3)
    have HM : Hid ((mostC (allS l)).length = (mostF (allS l)).2) := hide (mostC_len _)
    have hlen := allS_len l
    have HSh := hide (allS_short (unhide HS))
    have HFI := hide (most_first (allS l))
    have HSO := hide (most_some (allS l))
    obtain ⟨cs, hcs⟩ : ∃ cs, allS l = cs := ⟨_, rfl⟩
    rw [hcs] at hA hF hO HM hlen HSh HFI HSO HY HN
    obtain ⟨s, hsz⟩ : ∃ s, (mostF cs).2 = s := ⟨_, rfl⟩
    rw [hsz] at HM HFI HSO HY HN
    have hsb : s ≤ 1048576 := by
      rcases Nat.eq_zero_or_pos s with h | h
      · omega
      · obtain ⟨j, hj, e⟩ := unhide HSO h
        have := finN_lt cs[j]
        have := unhide HSh _ (List.getElem_mem hj)
        omega
    clear hv hcs hsz
    go_enter Try.func26, Try.ntmps26
    go_wp2_with fail
    refine (unhide (hX _) ((Grew.refl _).alloc _)).mono ?_
    clear hX
    rintro r w1 ⟨rfl, g1⟩
    have R0 := hide ((Box2.box w (.slice none 0 0) (.slice none 0 0) 31).grew g1)
    have G1 := hide (((Grew.refl w).alloc _).trans g1)
    clear g1
    go_wp2_with fail
    refine (unhide (hA _) (unhide G1)).mono ?_
    clear hA
    rintro rr w2 ⟨v, rfl, ov, g2⟩
    obtain ⟨va, vcap, rfl, hvc, hx⟩ := ov.chsV
    have HX := hide hx
    have R0 := hide ((unhide R0).grew g2)
    have G2 := hide ((unhide G1).trans g2)
    clear hx ov g2 G1
    go_wp2_with fail
    refine (unhide (hF _) (unhide G2)).mono ?_
    clear hF
    rintro rr w3 ⟨vf, rfl, hvf, g3⟩
    obtain ⟨fa, fc, rfl, hfc, hfi⟩ := hvf
    rw [unhide HM]
    have R0 := hide ((unhide R0).grew g3)
    have G3 := hide ((unhide G2).trans g3)
    have S3 := hide (show Grew w2 w3 from g3)
    clear g3 hfi hfc
    go_wp2_with fail
    go_loopw [6] (fun i wr => ∃ k : Nat, k ≤ cs.length ∧ i = .int .i64 k ∧ Hid (∀ j (h : j < cs.length), j < k → finN cs[j] = s → s = 0) ∧ Hid (Grew w3 wr)) (fun i _ => cs.length - (intOf i).toNat)
    case atStart => exact ⟨0, Nat.zero_le _, rfl, hide (fun j _ h => absurd h (Nat.not_lt_zero _)), hide (Grew.refl _)⟩
    case round =>
      obtain ⟨k, hk, rfl, hno, gg⟩ := hrel
      by_cases hlt : k < cs.length
      · obtain ⟨b1, o1, ai, ci, rfl, c1, hci, hi⟩ := HX.out k hlt
        have e1 := (unhide gg).keep ((unhide S3).keep c1)
        have hs1 := HSh.out _ (List.getElem_mem hlt)
        have HCM := hide (List.getElem_mem hlt)
        have HI := hide ((hi.grew (unhide S3)).grew (unhide gg))
        have HF1 := hide (fun h1 h2 h3 => unhide HFI k hlt h1 h2 h3)
        have HNX : Hid (finN cs[k] ≠ s ∨ s = 0 → ∀ j (h : j < cs.length), j < k + 1 → finN cs[j] = s → s = 0) := hide (fun h j hj hjk he => by
          by_cases e : j = k
          · subst e; rcases h with h | h
            · exact absurd he h
            · exact h
          · exact unhide hno j hj (by omega) he)
        obtain ⟨d, hd⟩ : ∃ d, cs[k] = d := ⟨_, rfl⟩
        rw [hd] at e1 hs1 hci HCM HI HF1 HNX
        have hFd := hide (l11FinalIn_any ai ci d.length d rfl wr (unhide HI) hs1)
        obtain ⟨N, hN⟩ : ∃ N, finN d = N := ⟨_, rfl⟩
        have HNN := hide hN
        rw [hN] at hFd HF1 HNX
        clear c1 hi hd hN
        go_wp2_with fail
        refine hFd.out.mono ?_
        clear hFd
        rintro rr w4 ⟨rfl, g4⟩
        have f1 := g4.keep e1
        have gg4 := hide ((unhide gg).trans g4)
        have HI := hide ((unhide HI).grew g4)
        clear g4 gg e1
        by_cases hNs : N = s
        · subst hNs
          by_cases hN0 : 0 < N
          · have hd0 : decide ((0 : Int) < (N : Int)) = true := by simp; omega
            have hd0' : decide (0 < N) = true := by simp; omega
            have hdm : d = (mostF cs).1 := unhide HF1 rfl hN0 (fun j hj hjk he => by have := unhide hno j hj hjk he; omega)
            have he : Hid (certL l = (certOf l d, true)) := by
              show certL l = _; rw [hdm]; exact unhide HY hN0
            have hC := hide (unhide hO w4 ((unhide G3).trans (unhide gg4)) ai ci d (unhide HCM) (unhide HI) hci hs1 (by rw [unhide HNN]; exact hN0))
            have R0 := hide ((unhide R0).grew (unhide gg4))
            clear hdm HF1 HNX HCM hno HY HN HFI HSO
            go_wp2_with fail
            refine (unhide hC).mono ?_
            clear hC
            rintro rr w5 ⟨u, v, rfl, hans, g5⟩
            obtain ⟨ua, un, uc, vb, vn, vc, rfl, rfl⟩ := hans.open
            obtain ⟨⟨r0, r1⟩, z0, z1⟩ := (unhide R0).grew g5
            have hzz := (unhide R0).lt
            have HAN : Hid (∀ W : World, w5.heap.size ≤ W.heap.size → (∀ b, w.heap.size < b → W.heap[b]? = w5.heap[b]?) → CSpec W w.heap.size (.slice ua un uc) (.slice vb vn vc) (certOf l d)) := hide (fun W hz he => (hans.kept hz (fun b hb _ => he b (by omega))).low (by omega))
            have GE := hide (((unhide G3).trans (unhide gg4)).trans g5)
            clear hans g5 gg4 hO R0 hzz
            go_wp2
            refine bodyPost_ret (by simp [results, Try.results26, go_sem, r0, r1]; try rfl) rfl ?_
            refine ⟨_, _, by rw [he.out], ?_, ?_⟩
            · rw [he.out]; exact unhide HAN _ (by simp [World.setCell]) (fun b hb => by rw [Below.heap_setCell _ _ _ _ (by show b ≠ w.heap.size; omega), Below.heap_setCell _ _ _ _ (by show b ≠ w.heap.size; omega)])
            · exact ((unhide GE).setCell (p := ⟨w.heap.size, 0, none⟩) (Nat.le_refl _) _).setCell (p := ⟨w.heap.size, 1, none⟩) (Nat.le_refl _) _
          · have hn2 := hide (unhide HNX (.inr (by omega)))
            have hd0 : decide ((0 : Int) < (N : Int)) = false := by simp; omega
            have hd0' : decide (0 < N) = false := by simp; omega
            clear HNX HF1 hno
            go_wp2
            go_roundw
            case rel => exact ⟨k + 1, by omega, by go_num, hn2, gg4⟩
            case measure => simp [intOf]; omega
        · have hn2 := hide (unhide HNX (.inl hNs))
          have hne : ((N : Int) == (s : Int)) = false := by simp; omega
          have hne' : decide ((N : Int) = (s : Int)) = false := by simp; omega
          have hne2 : ¬ (N : Int) = (s : Int) := by omega
          clear HNX HF1 hno
          go_wp2
          go_roundw
          case rel => exact ⟨k + 1, by omega, by go_num, hn2, gg4⟩
          case measure => simp [intOf]; omega
      · have hle : (cs.length : Int) ≤ (k : Int) := by omega
        have hs0 : s = 0 := by
          rcases Nat.eq_zero_or_pos s with h | h
          · exact h
          · obtain ⟨j, hj, e⟩ := unhide HSO h
            exact unhide hno j hj (by omega) e
        have he : Hid (certL l = (⟨[], []⟩, false)) := unhide HN (by omega)
        have GE := hide ((unhide G3).trans (unhide gg))
        obtain ⟨⟨r0, r1⟩, z0, z1⟩ := (unhide R0).grew (unhide gg)
        clear hno gg hO HY HN HFI HSO hs0 R0
        go_wp2
        refine bodyPost_ret (by simp [results, Try.results26, go_sem, r0, r1]; try rfl) rfl ?_
        refine ⟨_, _, by rw [he.out], .inl ⟨rfl, rfl, by rw [he.out]⟩, ?_⟩
        exact ((unhide GE).setCell (p := ⟨w.heap.size, 0, none⟩) (Nat.le_refl _) _).setCell (p := ⟨w.heap.size, 1, none⟩) (Nat.le_refl _) _
end Go.Proofs.Yteemihgakcmamaa
