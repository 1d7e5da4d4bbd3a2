/-
  A tree of chains grows: a branch more, a chain more, a vote more.
-/
import Derived.Test.YtibhfiamibccnacTree2
namespace Go.Proofs.Ytibhfiamibccnac
set_option linter.unusedVariables false
open Go.RowKit

def upd {α : Type} (f : List It → α) (k : List It) (v : α) (d : List It) : α := if sameB d k = true then v else f d
theorem upd_same {α : Type} (f : List It → α) (k : List It) (v : α) : upd f k v k = v := by unfold upd; rw [if_pos ((sameB_iff k k).2 rfl)]
theorem upd_other {α : Type} (f : List It → α) {k d : List It} (v : α) (h : d ≠ k) : upd f k v d = f d := by unfold upd; rw [if_neg (fun e => h ((sameB_iff d k).1 e))]

theorem cells_type {w : World} {g : Nat} {a b : Array Value} {s t : TypeId} {f1 f2 : Nat × Nat} (h : w.heap[g]? = some (.cells a s f1)) (h' : w.heap[g]? = some (.cells b t f2)) : s = t := by
  rw [h] at h'; cases h'; rfl
theorem ownsRow_block' {w : World} {base : Nat} {v : Value} {n g : Nat} {xs : List Value} (h : w.ownsRow base 58 1 v n xs) (hg : v.ownBlock = some g) : ∃ cur, w.heap[g]? = some (.cells cur 58 (0, 0)) := by
  rcases h.2 with ⟨rfl, _⟩ | ⟨g', cap, cur, rfl, _, hgg, _⟩
  · cases hg
  · simp only [Value.ownBlock, Option.some.injEq] at hg
    subst hg
    exact ⟨cur, hgg⟩
theorem ownsRow_keep {w w' : World} {base : Nat} {v : Value} {n : Nat} {xs : List Value} (h : w.ownsRow base 58 1 v n xs) (hk : ∀ g, v.ownBlock = some g → w'.heap[g]? = w.heap[g]?) : w'.ownsRow base 58 1 v n xs := by
  refine ⟨h.1, ?_⟩
  rcases h.2 with h0 | ⟨g, cap, cur, hv, hb, hg, hr⟩
  · exact .inl h0
  · exact .inr ⟨g, cap, cur, hv, hb, by rw [hk g (by rw [hv]; rfl)]; exact hg, hr⟩
theorem snoc_ne {c d : List It} {x y : It} (h : d ≠ c) : d ++ [y] ≠ c ++ [x] := fun e => h (List.append_inj_left' e rfl)
theorem snoc_ne' {c : List It} {x y : It} (h : y ≠ x) : c ++ [y] ≠ c ++ [x] := fun e => h (by simpa using e)
theorem ne_snoc (c : List It) (x : It) : c ≠ c ++ [x] := fun e => by have := congrArg List.length e; simp at this

section
variable {w : World} {base n : Nat} {M : List It → Prop} {vt pos : List It → Nat} {kv : List It → Value} {kd : List It → List It} {tb : Nat} {cv : Value} {L : List (List It)}

theorem TreeF.more (h : TreeF w base n M vt pos kv kd tb cv L) {m : Nat} (hm : n ≤ m) : TreeF w base m M vt pos kv kd tb cv L := { h with few := fun c hc => Nat.le_trans (h.few c hc) hm }
theorem TreeF.rowBlk (h : TreeF w base n M vt pos kv kd tb cv L) {c : List It} (hc : M c) {g : Nat} (hg : (kv c).ownBlock = some g) : ∃ cur, w.heap[g]? = some (.cells cur 58 (0, 0)) := ownsRow_block' (h.row c hc) hg
theorem TreeF.notKid (h : TreeF w base n M vt pos kv kd tb cv L) {c : List It} {x : It} (hx : x ∉ kd c) : ¬ M (c ++ [x]) := fun hm => hx (h.up c x hm).2
theorem TreeF.drop (h : TreeF w base n M vt pos kv kd tb cv L) {d : List It} (hd : M d) : M d.dropLast := by
  rcases List.eq_nil_or_concat d with rfl | ⟨e, y, rfl⟩
  · exact h.nil
  · rw [List.concat_eq_append] at hd ⊢
    rw [List.dropLast_concat]
    exact (h.up _ _ hd).1

theorem TreeF.grown (h : TreeF w base n M vt pos kv kd tb cv L) {c : List It} {x : It} (hc : M c) (hx : x ∉ kd c) {nb : Nat} (hlow : base ≤ nb) (hnb : w.heap[nb]? = some (brO (some ⟨pos c, 0, none⟩) x (c.length + 1) 0 (.slice none 0 0)))
    (hnew : ∀ d, M d → pos d ≠ nb) {w' : World} {v' : Value} (hrow : w'.ownsRow base 58 1 v' ((kd c).length + 1) (kidsV pos c (kd c) ++ [ptr nb])) (hg : w.grownBy w' (kv c).ownBlock)
    (hsep : ∃ g, v'.ownBlock = some g ∧ ((kv c).ownBlock = some g ∨ w.heap.size ≤ g)) :
    TreeF (w'.setCell ⟨pos c, 7, none⟩ v') base (n + 1) (fun d => M d ∨ d = c ++ [x]) vt (upd pos (c ++ [x]) nb) (upd (upd kv (c ++ [x]) (.slice none 0 0)) c v') (upd (upd kd (c ++ [x]) []) c (kd c ++ [x])) tb cv L := by
  have hnm := h.notKid hx
  have lt : ∀ {k : Nat} {o : Obj}, w.heap[k]? = some o → k < w.heap.size := fun h => (Array.getElem?_eq_some_iff.1 h).1
  have hdne : ∀ {d}, M d → d ≠ c ++ [x] := fun hd e => hnm (e ▸ hd)
  have hpos : ∀ {d}, M d → upd pos (c ++ [x]) nb d = pos d := fun hd => upd_other _ _ (hdne hd)
  have hposn : upd pos (c ++ [x]) nb (c ++ [x]) = nb := upd_same _ _ _
  have hkvc : upd (upd kv (c ++ [x]) (.slice none 0 0)) c v' c = v' := upd_same _ _ _
  have hkvn : upd (upd kv (c ++ [x]) (.slice none 0 0)) c v' (c ++ [x]) = .slice none 0 0 := by rw [upd_other _ _ (ne_snoc c x).symm, upd_same]
  have hkv : ∀ {d}, M d → d ≠ c → upd (upd kv (c ++ [x]) (.slice none 0 0)) c v' d = kv d := fun hd e => by rw [upd_other _ _ e, upd_other _ _ (hdne hd)]
  have hkdc : upd (upd kd (c ++ [x]) []) c (kd c ++ [x]) c = kd c ++ [x] := upd_same _ _ _
  have hkdn : upd (upd kd (c ++ [x]) []) c (kd c ++ [x]) (c ++ [x]) = [] := by rw [upd_other _ _ (ne_snoc c x).symm, upd_same]
  have hkd : ∀ {d}, M d → d ≠ c → upd (upd kd (c ++ [x]) []) c (kd c ++ [x]) d = kd d := fun hd e => by rw [upd_other _ _ e, upd_other _ _ (hdne hd)]
  -- which blocks stay
  have stay : ∀ {k : Nat}, k < w.heap.size → (kv c).ownBlock ≠ some k → k ≠ pos c → (w'.setCell ⟨pos c, 7, none⟩ v').heap[k]? = w.heap[k]? := fun hk h1 h2 => by
    rw [Below.heap_setCell _ _ _ _ h2]
    exact hg.block _ hk (fun e => h1 e.symm)
  have brRow : ∀ {k : Nat} {a : Option Addr} {y : It} {p q : Nat} {u : Value}, w.heap[k]? = some (brO a y p q u) → (kv c).ownBlock ≠ some k := fun hk e => by
    obtain ⟨cur, hcur⟩ := h.rowBlk hc e
    exact absurd (cells_type hcur hk) (by decide)
  have hpc := h.blk c hc
  have hpc' : w'.heap[pos c]? = some (brO (aheadP pos c) (lastI c) c.length (vt c) (kv c)) := by rw [hg.block _ (lt hpc) (fun e => brRow hpc e.symm)]; exact hpc
  have hpc2 : (w'.setCell ⟨pos c, 7, none⟩ v').heap[pos c]? = some (brO (aheadP pos c) (lastI c) c.length (vt c) v') := by
    rw [setCell_heap (cs := _) (t := _) hpc']; rfl
  obtain ⟨g', hg', hsep⟩ := hsep
  have hahead : ∀ {d}, M d → aheadP (upd pos (c ++ [x]) nb) d = aheadP pos d := fun {d} hd => by
    unfold aheadP
    split
    · rfl
    · rw [hpos (h.drop hd)]
  have rowNotPos : ∀ {v : Value} {m : Nat} {xs : List Value} {g : Nat}, w.ownsRow base 58 1 v m xs → v.ownBlock = some g → g ≠ pos c := fun hr hv e => by
    obtain ⟨cur, hcur⟩ := ownsRow_block' hr hv
    rw [e] at hcur
    exact absurd (cells_type hcur hpc) (by decide)
  refine { nil := .inl h.nil, up := ?_, dn := ?_, inj := ?_, zero := fun d hd => h.zero d (fun hm => hd (.inl hm)), few := ?_, low := ?_, blk := ?_, row := ?_, kk := ?_, tlow := h.tlow, tblk := ?_, trow := ?_, mem := fun d hd => .inl (h.mem d hd), kt := ?_ }
  · intro d y hd
    rcases hd with hd | hd
    · obtain ⟨h1, h2⟩ := h.up d y hd
      refine ⟨.inl h1, ?_⟩
      by_cases e : d = c
      · subst e; rw [hkdc]; exact List.mem_append.2 (.inl h2)
      · rw [hkd h1 e]; exact h2
    · have e1 : d = c := List.append_inj_left' hd rfl
      subst e1
      have e2 : y = x := by simpa using hd
      subst e2
      exact ⟨.inl hc, by rw [hkdc]; simp⟩
  · intro d y hd hy
    rcases hd with hd | rfl
    · by_cases e : d = c
      · subst e
        rw [hkdc] at hy
        rcases List.mem_append.1 hy with hy | hy
        · exact .inl (h.dn _ _ hd hy)
        · simp only [List.mem_singleton] at hy; subst hy; exact .inr rfl
      · rw [hkd hd e] at hy
        exact .inl (h.dn _ _ hd hy)
    · rw [hkdn] at hy; cases hy
  · intro d e hd he hp
    rcases hd with hd | rfl <;> rcases he with he | rfl
    · rw [hpos hd, hpos he] at hp; exact h.inj _ _ hd he hp
    · rw [hpos hd, hposn] at hp; exact absurd hp (hnew d hd)
    · rw [hpos he, hposn] at hp; exact absurd hp.symm (hnew e he)
    · rfl
  · intro d hd
    rcases hd with hd | rfl
    · by_cases e : d = c
      · subst e; rw [hkdc]; have := h.few _ hd; simp; omega
      · rw [hkd hd e]; have := h.few _ hd; omega
    · rw [hkdn]; simp
  · intro d hd
    rcases hd with hd | rfl
    · rw [hpos hd]; exact h.low d hd
    · rw [hposn]; exact hlow
  · intro d hd
    rcases hd with hd | rfl
    · rw [hpos hd, hahead hd]
      by_cases e : d = c
      · subst e; rw [hkvc]; exact hpc2
      · rw [hkv hd e, stay (lt (h.blk d hd)) (brRow (h.blk d hd)) (fun e' => e (h.inj _ _ hd hc e'))]
        exact h.blk d hd
    · rw [hposn, hkvn, aheadP_snoc, lastI_snoc, hpos hc, h.zero _ hnm, stay (lt hnb) (brRow hnb) (fun e => hnew c hc e.symm), hnb]
      simp
  · intro d hd
    rcases hd with hd | rfl
    · by_cases e : d = c
      · subst e
        rw [hkvc, hkdc]
        have ek : kidsV (upd pos (d ++ [x]) nb) d (kd d ++ [x]) = kidsV pos d (kd d) ++ [ptr nb] := by
          unfold kidsV
          rw [List.map_append]
          congr 1
          · apply List.map_congr_left
            intro y hy
            rw [hpos (h.dn _ _ hd hy)]
          · simp only [List.map_cons, List.map_nil, hposn]
        rw [ek, List.length_append]
        refine ownsRow_keep hrow (fun g e => Below.heap_setCell _ _ _ _ (fun e' => ?_))
        obtain ⟨cur, hcur⟩ := ownsRow_block' hrow e
        have e'' : g = pos d := e'
        rw [e''] at hcur
        exact absurd (cells_type hcur hpc') (by decide)
      · rw [hkv hd e, hkd hd e]
        have ek : kidsV (upd pos (c ++ [x]) nb) d (kd d) = kidsV pos d (kd d) := by
          unfold kidsV
          apply List.map_congr_left
          intro y hy
          rw [hpos (h.dn _ _ hd hy)]
        rw [ek]
        refine ownsRow_keep (h.row d hd) (fun g hgd => stay ((h.row d hd).lt g hgd).2 (fun e' => e (h.kk _ _ g hd hc hgd e')) (rowNotPos (h.row d hd) hgd))
    · rw [hkvn, hkdn]; exact World.ownsRow_nil _ _ _ _
  · intro d e k hd he h1 h2
    have key : ∀ {d}, M d → d ≠ c → (kv d).ownBlock = some k → v'.ownBlock = some k → False := fun hd e h1 h2 => by
      rw [hg'] at h2
      cases h2
      rcases hsep with hs | hs
      · exact e (h.kk _ _ _ hd hc h1 hs)
      · have := ((h.row _ hd).lt _ h1).2; omega
    rcases hd with hd | rfl
    · by_cases ed : d = c
      · subst ed
        rw [hkvc] at h1
        rcases he with he | rfl
        · by_cases ee : e = d
          · exact ee.symm
          · rw [hkv he ee] at h2; exact (key he ee h2 h1).elim
        · rw [hkvn] at h2; cases h2
      · rw [hkv hd ed] at h1
        rcases he with he | rfl
        · by_cases ee : e = c
          · subst ee; rw [hkvc] at h2; exact (key hd ed h1 h2).elim
          · rw [hkv he ee] at h2; exact h.kk _ _ _ hd he h1 h2
        · rw [hkvn] at h2; cases h2
    · rw [hkvn] at h1; cases h1
  · rw [stay (lt h.tblk) (fun e => ?_) (fun e => ?_)]
    · exact h.tblk
    · obtain ⟨cur, hcur⟩ := h.rowBlk hc e
      exact absurd (cells_type hcur h.tblk) (by decide)
    · have := h.tblk
      rw [e] at this
      exact absurd (cells_type this hpc) (by decide)
  · have ek : L.map (fun d => ptr (upd pos (c ++ [x]) nb d)) = L.map (fun d => ptr (pos d)) := by
      apply List.map_congr_left
      intro d hd
      rw [hpos (h.mem d hd)]
    rw [ek]
    exact ownsRow_keep h.trow (fun g hgd => stay (h.trow.lt g hgd).2 (fun e' => h.kt c g hc e' hgd) (rowNotPos h.trow hgd))
  · intro d k hd h1 h2
    rcases hd with hd | rfl
    · by_cases e : d = c
      · subst e
        rw [hkvc, hg'] at h1
        cases h1
        rcases hsep with hs | hs
        · exact h.kt _ _ hc hs h2
        · have := (h.trow.lt _ h2).2; omega
      · rw [hkv hd e] at h1
        exact h.kt _ _ hd h1 h2
    · rw [hkvn] at h1; cases h1

/-- A vote more. -/
theorem TreeF.voted (h : TreeF w base n M vt pos kv kd tb cv L) {c : List It} (hc : M c) : TreeF (w.setCell ⟨pos c, 6, none⟩ (.int .i64 ((vt c + 1 : Nat) : Int))) base n M (upd vt c (vt c + 1)) pos kv kd tb cv L := by
  have hpc := h.blk c hc
  have hpc2 : (w.setCell ⟨pos c, 6, none⟩ (.int .i64 ((vt c + 1 : Nat) : Int))).heap[pos c]? = some (brO (aheadP pos c) (lastI c) c.length (vt c + 1) (kv c)) := by
    rw [setCell_heap (cs := _) (t := _) hpc]; rfl
  have stay : ∀ {k : Nat}, k ≠ pos c → (w.setCell ⟨pos c, 6, none⟩ (.int .i64 ((vt c + 1 : Nat) : Int))).heap[k]? = w.heap[k]? := fun h2 => Below.heap_setCell _ _ _ _ h2
  have rowNotPos : ∀ {v : Value} {m : Nat} {xs : List Value} {g : Nat}, w.ownsRow base 58 1 v m xs → v.ownBlock = some g → g ≠ pos c := fun hr hv e => by
    obtain ⟨cur, hcur⟩ := ownsRow_block' hr hv
    rw [e] at hcur
    exact absurd (cells_type hcur hpc) (by decide)
  exact { h with
    zero := fun d hd => by
      have e : d ≠ c := fun e => hd (by rw [e]; exact hc)
      rw [upd_other _ _ e]; exact h.zero d hd
    blk := fun d hd => by
      by_cases e : d = c
      · subst e; rw [upd_same]; exact hpc2
      · rw [upd_other _ _ e, stay (fun e' => e (h.inj _ _ hd hc e'))]; exact h.blk d hd
    row := fun d hd => ownsRow_keep (h.row d hd) (fun g hg => stay (rowNotPos (h.row d hd) hg))
    tblk := by rw [stay (fun e => by have := h.tblk; rw [e] at this; exact absurd (cells_type this hpc) (by decide))]; exact h.tblk
    trow := ownsRow_keep h.trow (fun g hg => stay (rowNotPos h.trow hg)) }

/-- A chain more that has votes. -/
theorem TreeF.listed (h : TreeF w base n M vt pos kv kd tb cv L) {c : List It} (hc : M c) {w' : World} {v' : Value} (hrow : w'.ownsRow base 58 1 v' (L.length + 1) (L.map (fun d => ptr (pos d)) ++ [ptr (pos c)])) (hg : w.grownBy w' cv.ownBlock)
    (hsep : ∃ g, v'.ownBlock = some g ∧ (cv.ownBlock = some g ∨ w.heap.size ≤ g)) :
    TreeF (w'.setCell ⟨tb, 0, none⟩ v') base n M vt pos kv kd tb v' (L ++ [c]) := by
  have lt : ∀ {k : Nat} {o : Obj}, w.heap[k]? = some o → k < w.heap.size := fun h => (Array.getElem?_eq_some_iff.1 h).1
  have stay : ∀ {k : Nat}, k < w.heap.size → cv.ownBlock ≠ some k → k ≠ tb → (w'.setCell ⟨tb, 0, none⟩ v').heap[k]? = w.heap[k]? := fun hk h1 h2 => by
    rw [Below.heap_setCell _ _ _ _ h2]
    exact hg.block _ hk (fun e => h1 e.symm)
  have tbRow : cv.ownBlock ≠ some tb := fun e => by
    obtain ⟨cur, hcur⟩ := ownsRow_block' h.trow e
    exact absurd (cells_type hcur h.tblk) (by decide)
  have htb : w'.heap[tb]? = some (.cells #[cv] 90) := by rw [hg.block _ (lt h.tblk) (fun e => tbRow e.symm)]; exact h.tblk
  have rowNotTb : ∀ {v : Value} {m : Nat} {xs : List Value} {g : Nat}, w.ownsRow base 58 1 v m xs → v.ownBlock = some g → g ≠ tb := fun hr hv e => by
    obtain ⟨cur, hcur⟩ := ownsRow_block' hr hv
    rw [e] at hcur
    exact absurd (cells_type hcur h.tblk) (by decide)
  obtain ⟨g', hg', hsep⟩ := hsep
  exact { h with
    blk := fun d hd => by
      rw [stay (lt (h.blk d hd)) (fun e => ?_) (fun e => ?_)]
      · exact h.blk d hd
      · obtain ⟨cur, hcur⟩ := ownsRow_block' h.trow e
        exact absurd (cells_type hcur (h.blk d hd)) (by decide)
      · have := h.tblk
        rw [← e] at this
        exact absurd (cells_type this (h.blk d hd)) (by decide)
    row := fun d hd => ownsRow_keep (h.row d hd) (fun g hgd => stay ((h.row d hd).lt g hgd).2 (fun e' => h.kt d g hd hgd e') (rowNotTb (h.row d hd) hgd))
    tblk := by rw [setCell_heap (cs := _) (t := _) htb]; rfl
    trow := by
      rw [List.length_append, List.map_append]
      refine ownsRow_keep hrow (fun g e => Below.heap_setCell _ _ _ _ (fun e' => ?_))
      obtain ⟨cur, hcur⟩ := ownsRow_block' hrow e
      have e'' : g = tb := e'
      rw [e''] at hcur
      exact absurd (cells_type hcur htb) (by decide)
    mem := fun d hd => by
      rcases List.mem_append.1 hd with hd | hd
      · exact h.mem d hd
      · simp only [List.mem_singleton] at hd; subst hd; exact hc
    kt := fun d k hd h1 h2 => by
      rw [hg'] at h2
      cases h2
      rcases hsep with hs | hs
      · exact h.kt _ _ hd h1 hs
      · have := ((h.row _ hd).lt _ h1).2; omega }
end
end Go.Proofs.Ytibhfiamibccnac
