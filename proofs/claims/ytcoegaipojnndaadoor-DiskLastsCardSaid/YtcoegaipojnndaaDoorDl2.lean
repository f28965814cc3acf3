/-
  The lists of contents in memory: rows that may begin within a block (what s[n:] leaves), appends to them, and the statements' own look for mixed sectors (foyerlaw05.mixed), over this seat's translation.
-/
import Derived.Test.YtcoegaipojnndaaDoorDl1
import Derived.Test.YtcoegaipojnndaaDoorDw2
namespace Go.Proofs.YtcoegaipojnndaaDoor
open Go.RowKit

/-- A row of texts of the call's own, which may begin within its block. -/
def ORow (w : World) (base : Nat) (v : Value) (xs : List ByteArray) : Prop :=
  ∃ g off cap cur, v = .slice (some ⟨g, off, none⟩) xs.length cap ∧ base ≤ g ∧ w.heap[g]? = some (.cells cur 9 (0, 0)) ∧ 0 < xs.length ∧ xs.length ≤ cap ∧ off + cap ≤ cur.size ∧ off + cap ≤ maxLen ∧ ∀ j u, (strsC xs)[j]? = some u → cur[off + j]? = some u
theorem ORow.lt {w : World} {base : Nat} {v : Value} {xs : List ByteArray} (h : ORow w base v xs) : ∀ k, v.ownBlock = some k → base ≤ k ∧ k < w.heap.size := by
  obtain ⟨g, off, cap, cur, rfl, h1, h2, _⟩ := h
  intro k hk
  cases hk
  exact ⟨h1, (Array.getElem?_eq_some_iff.1 h2).1⟩
theorem ORow.kept {w w' : World} {base : Nat} {v : Value} {xs : List ByteArray} (h : ORow w base v xs) {r : Option Nat} (g : w.grownBy w' r) (hr : v.ownBlock ≠ r) : ORow w' base v xs := by
  obtain ⟨b, off, cap, cur, rfl, h1, h2, h3⟩ := h
  exact ⟨b, off, cap, cur, rfl, h1, (g.block b (Array.getElem?_eq_some_iff.1 h2).1 hr).trans h2, h3⟩
theorem ORow.kp {F : Nat → Prop} {w w' : World} {base : Nat} {v : Value} {xs : List ByteArray} (h : ORow w base v xs) (g : Kp F w w') (hr : ∀ k, v.ownBlock = some k → ¬ F k) : ORow w' base v xs := by
  obtain ⟨b, off, cap, cur, rfl, h1, h2, h3⟩ := h
  exact ⟨b, off, cap, cur, rfl, h1, (g.block b (Array.getElem?_eq_some_iff.1 h2).1 (hr b rfl)).trans h2, h3⟩
theorem ORow.form {w : World} {base : Nat} {v : Value} {xs : List ByteArray} (h : ORow w base v xs) : ∃ g off cap, v = .slice (some ⟨g, off, none⟩) xs.length cap ∧ xs.length ≤ cap ∧ 0 < xs.length := by
  obtain ⟨g, off, cap, cur, h0, _, _, h3, h4, _⟩ := h; exact ⟨g, off, cap, h0, h4, h3⟩
theorem cur_cell {w : World} {g : Nat} {t : TypeId} {cur : Array Value} (h : w.heap[g]? = some (.cells cur t (0, 0))) {o : Nat} {u : Value} (hu : cur[o]? = some u) : w.cell? ⟨g, o, none⟩ = some u := by
  simp [World.cell?, h, hu]
theorem ORow.cell {w : World} {base g off n cap : Nat} {xs : List ByteArray} (h : ORow w base (.slice (some ⟨g, off, none⟩) n cap) xs) {j : Nat} {d : ByteArray} (hj : xs[j]? = some d) : w.cell? ⟨g, off + j, none⟩ = some (.string d) := by
  obtain ⟨g', off', cap', cur, e, h1, h2, _, _, _, _, h3⟩ := h
  injection e with e1 e2 e3
  cases e1
  exact cur_cell h2 (h3 j _ (by simp [strsC, hj]))
/-- What v[len-1:] leaves: the last one. -/
theorem ORow.last {w : World} {base g off cap : Nat} {xs : List ByteArray} (h : ORow w base (.slice (some ⟨g, off, none⟩) xs.length cap) xs) {d : ByteArray} (hd : xs.getLast? = some d) : ORow w base (.slice (some ⟨g, off + (xs.length - 1), none⟩) 1 (cap - (xs.length - 1))) [d] := by
  obtain ⟨g', off', cap', cur, e, h1, h2, h3, h4, h5, h6, h7⟩ := h
  injection e with e1 e2 e3
  cases e1
  subst e3
  refine ⟨g, off + (xs.length - 1), cap - (xs.length - 1), cur, rfl, h1, h2, by simp, by simp; omega, by omega, by omega, ?_⟩
  intro j u hj
  have hj0 : j = 0 := by
    have := (List.getElem?_eq_some_iff.1 hj).1
    simpa [strsC] using this
  subst hj0
  have hu : u = .string d := by simpa [strsC] using hj.symm
  subst hu
  have hx : xs[xs.length - 1]? = some d := by rw [← hd, List.getLast?_eq_getElem?]
  have := h7 (xs.length - 1) (.string d) (by simp [strsC, hx])
  rw [Nat.add_zero]; exact this
/-- An append of one. -/
theorem ORow.append {w : World} {base : Nat} {v : Value} {xs : List ByteArray} (h : ORow w base v xs) (a : Addr) (d : ByteArray) (ha : w.cell? a = some (.string d)) (hb : base ≤ w.heap.size) (hl : xs.length ≤ 1000) :
    ∃ v' w', (Builtin.append_ #[37, 37] 37 #[v, .slice (some a) 1 1]).run Tryd.prog w = .ok v' w' ∧ ORow w' base v' (xs ++ [d]) ∧ w.grownBy w' v.ownBlock ∧ ∀ k, v'.ownBlock = some k → v.ownBlock = some k ∨ w.heap.size ≤ k := by
  obtain ⟨i0, hi, hz0, hz1, hz2⟩ := info_parts Tryd.infoStr
  obtain ⟨g, off, cap, cur, rfl, h1, h2, h3, h4, h5, h6, h7⟩ := h
  have hnews : ∀ j u, [Value.string d][j]? = some u → w.cell? (a.add j) = some u := by
    intro j u hj
    have hj0 : j = 0 := by
      have := (List.getElem?_eq_some_iff.1 hj).1
      simpa using this
    subst hj0
    rw [add_zero]
    simp at hj
    rw [ha, hj]
  have hone : ∀ u ∈ [Value.string d], u.oneCell' = true := one_str d
  by_cases hroom : xs.length + 1 ≤ cap
  · have hf := run_firstCells_some (P := Tryd.prog) w 1 1 a 1 1 [.string d] rfl hnews
    have hst := run_storeCells_at Tryd.prog g (off + xs.length) 9 [.string d] 0 cur w h2 (by simp; omega) hone
    simp only [Nat.add_zero] at hst
    have hadd : (⟨g, off, none⟩ : Addr).add xs.length = ⟨g, off + xs.length, none⟩ := by unfold Addr.add; split <;> simp_all
    have hrun : (Builtin.append_ #[37, 37] 37 #[.slice (some ⟨g, off, none⟩) xs.length cap, .slice (some a) 1 1]).run Tryd.prog w = .ok (.slice (some ⟨g, off, none⟩) (xs.length + 1) cap) (w.setRow g (cur.toList.take (off + xs.length) ++ [Value.string d] ++ cur.toList.drop (off + xs.length + [Value.string d].length)).toArray) := by
      simp [Builtin.append_, run_underlying Tryd.underlying37, sizeOf, typeInfo, hi, hz1, Builtin.lenOf, hroom, hf, hadd, hst]
    refine ⟨_, _, hrun, ⟨g, off, cap, _, by simp, h1, setRow_heap w g cur _ _ _ h2, by simp, by simpa using hroom, ?_, h6, ?_⟩, ⟨rfl, rfl, rfl, by simp, fun k _ hk => setRow_other w g k _ (fun e => hk (by simp [Value.ownBlock, e]))⟩, fun k hk => .inl hk⟩
    · simp only [List.size_toArray, List.length_append, List.length_take, List.length_drop, Array.length_toList, List.length_cons, List.length_nil]
      omega
    · intro j u hj
      have hjl : j < xs.length + 1 := by
        have := (List.getElem?_eq_some_iff.1 hj).1
        simpa [strsC] using this
      rw [List.getElem?_toArray]
      by_cases hjx : j < xs.length
      · have hu : (strsC xs)[j]? = some u := by
          have : strsC (xs ++ [d]) = strsC xs ++ [.string d] := strsC_snoc xs d
          rw [this, List.getElem?_append_left (by simpa [strsC] using hjx)] at hj
          exact hj
        rw [List.append_assoc, List.getElem?_append_left (by simp; omega), List.getElem?_take, if_pos (by omega)]
        have := h7 j u hu
        simpa using this
      · have hje : j = xs.length := by omega
        subst hje
        have : strsC (xs ++ [d]) = strsC xs ++ [.string d] := strsC_snoc xs d
        rw [this, List.getElem?_append_right (by simp [strsC])] at hj
        simp [strsC] at hj
        subst hj
        rw [List.append_assoc, List.getElem?_append_right (by simp; omega)]
        have e0 : off + xs.length - (cur.toList.take (off + xs.length)).length = 0 := by simp; omega
        rw [e0]
        rfl
  · have hcells : ∀ j u, (strsC xs)[j]? = some u → w.cell? ((⟨g, off, none⟩ : Addr).add j) = some u := by
      intro j u hj
      have hadd : (⟨g, off, none⟩ : Addr).add j = ⟨g, off + j, none⟩ := by unfold Addr.add; split <;> simp_all
      rw [hadd]
      exact cur_cell h2 (h7 j u hj)
    have hr := run_append_grow (P := Tryd.prog) w 37 37 9 i0 (.string noS) Tryd.underlying37 hi hz0 ⟨g, off, none⟩ xs.length cap (strsC xs) (by rw [hz1]; simp [strsC]) hcells a 1 1 [Value.string d] (by rw [hz1]; rfl) hnews (by omega) (by omega) (by rw [hz2]; exact growslice_fits (by omega) (by omega))
    have hge := grownCap_ge w (xs.length + 1) cap 9
    have hcm := grownCap_le_maxLen w (xs.length + 1) cap 9 (by unfold maxLen; omega)
    refine ⟨_, _, hr, ⟨w.heap.size, 0, grownCap w (xs.length + 1) cap 9, _, by simp, hb, heap_alloc_new w.drew _, by simp, by simpa using hge, ?_, by omega, ?_⟩, gb_trans (gb_drew _ _) (gb_alloc _ _ _), ?_⟩
    · have hz1' : (Value.string noS).cells.size = 1 := rfl
      simp only [Array.size_append, List.size_toArray, size_zeroCells, hz1', List.length_cons, List.length_nil]
      have : (strsC xs).length = xs.length := by simp [strsC]
      omega
    · intro j u hj
      have : strsC (xs ++ [d]) = strsC xs ++ [.string d] := strsC_snoc xs d
      rw [this] at hj
      have hjl := (List.getElem?_eq_some_iff.1 hj).1
      rw [Nat.zero_add, ← Array.getElem?_toList]
      simp only [Array.toList_append]
      rw [List.getElem?_append_left (by simpa using hjl)]
      exact hj
    · intro k hk
      cases hk
      exact .inr (Nat.le_refl _)
end Go.Proofs.YtcoegaipojnndaaDoor
