/-
  The statement's row of texts that are held, which may begin within its block (what all[1:] leaves); over this seat's translation; no conditions.
-/
import Derived.Deep.AppendSrc
import Derived.Test.YtliiooldlooagaaGreatDoorZO3
set_option linter.unusedSimpArgs false
set_option linter.unusedVariables false
namespace Go.Proofs.YtliiooldlooagaaGreatDoor.O12
open Go.RowKit J10
theorem info_held {P : Program} {t : TypeId} {z : Value} {s b : Nat} (h : (P.info? t).map (fun i => (i.zero, i.size, i.bytes)) = some (some z, s, b)) : ∃ i, P.info? t = some i ∧ i.zero = some z ∧ i.size = s ∧ i.bytes = b := by
  cases e : P.info? t with
  | none => rw [e] at h; cases h
  | some i => rw [e] at h; simp at h; exact ⟨i, rfl, h.1, h.2.1, h.2.2⟩
/-- The cells of texts that are held. -/
def hlC1 (x : List Int × ByteArray) : List Value := [.int .i64 ((hd x.1 : Nat) : Int), .string x.2]
def hlC (H : List (List Int × ByteArray)) : List Value := H.flatMap hlC1
theorem hlC_length : ∀ H : List (List Int × ByteArray), (hlC H).length = H.length * 2
  | [] => rfl
  | x :: l => by
    have ih := hlC_length l
    unfold hlC at ih ⊢
    rw [List.flatMap_cons, List.length_append, ih]
    show 2 + _ = (l.length + 1) * 2
    omega
theorem hlC_at : ∀ (l : List (List Int × ByteArray)) (k : Nat) (hk : k < l.length) (j : Nat) (_ : j < 2), (hlC l)[k * 2 + j]? = (hlC1 l[k])[j]?
  | [], _, hk, _, _ => by simp at hk
  | x :: l, 0, _, j, hj => by
    unfold hlC
    rw [List.flatMap_cons, Nat.zero_mul, Nat.zero_add, List.getElem?_append_left (by show j < 2; exact hj)]
    rfl
  | x :: l, k + 1, hk, j, hj => by
    have ih := hlC_at l k (by simpa using hk) j hj
    unfold hlC at ih ⊢
    rw [List.flatMap_cons, List.getElem?_append_right (by show 2 ≤ _; omega)]
    rw [show (k + 1) * 2 + j - (hlC1 x).length = k * 2 + j by show _ - 2 = _; omega, ih]
    rfl
theorem hlC_snoc (H : List (List Int × ByteArray)) (x : List Int × ByteArray) : hlC (H ++ [x]) = hlC H ++ hlC1 x := by
  unfold hlC; rw [List.flatMap_append]; simp
/-- A row of texts that are held. -/
def HRow (w : World) (base : Nat) (v : Value) (H : List (List Int × ByteArray)) : Prop :=
  (v = .slice none 0 0 ∧ H = []) ∨ ∃ g off cap cur, v = .slice (some ⟨g, off, none⟩) H.length cap ∧ base ≤ g ∧ w.heap[g]? = some (.cells cur 37 (0, 0)) ∧ H.length ≤ cap ∧ off + cap * 2 ≤ cur.size ∧ ∀ j u, (hlC H)[j]? = some u → cur[off + j]? = some u
theorem HRow.lt {w : World} {base : Nat} {v : Value} {H : List (List Int × ByteArray)} (h : HRow w base v H) : ∀ k, v.ownBlock = some k → base ≤ k ∧ k < w.heap.size := by
  intro k hk
  rcases h with ⟨rfl, _⟩ | ⟨g, off, cap, cur, rfl, h1, h2, _⟩
  · cases hk
  · cases hk
    exact ⟨h1, (Array.getElem?_eq_some_iff.1 h2).1⟩
theorem HRow.kept {w w' : World} {base : Nat} {v : Value} {H : List (List Int × ByteArray)} (h : HRow w base v H) {r : Option Nat} (g : w.grownBy w' r) (hr : v.ownBlock ≠ r ∨ r = none) : HRow w' base v H := by
  rcases h with h | ⟨b, off, cap, cur, rfl, h1, h2, h3⟩
  · exact .inl h
  · refine .inr ⟨b, off, cap, cur, rfl, h1, (g.block b (Array.getElem?_eq_some_iff.1 h2).1 ?_).trans h2, h3⟩
    rcases hr with hr | rfl
    · exact hr
    · simp
theorem HRow.kp {F : Nat → Prop} {w w' : World} {base : Nat} {v : Value} {H : List (List Int × ByteArray)} (h : HRow w base v H) (g : D5.Kp F w w') (hr : ∀ k, v.ownBlock = some k → ¬ F k) : HRow w' base v H := by
  rcases h with h | ⟨b, off, cap, cur, rfl, h1, h2, h3⟩
  · exact .inl h
  · exact .inr ⟨b, off, cap, cur, rfl, h1, (g.block b (Array.getElem?_eq_some_iff.1 h2).1 (hr b rfl)).trans h2, h3⟩
theorem HRow.shape {w : World} {base : Nat} {v : Value} {H : List (List Int × ByteArray)} (h : HRow w base v H) : ∃ ao cap, v = .slice ao H.length cap ∧ H.length ≤ cap ∨ v = .slice none 0 0 ∧ H = [] := by
  rcases h with ⟨rfl, rfl⟩ | ⟨g, off, cap, cur, rfl, h1, h2, h3, _⟩
  · exact ⟨none, 0, .inr ⟨rfl, rfl⟩⟩
  · exact ⟨_, _, .inl ⟨rfl, h3⟩⟩
theorem cell_cur {w : World} {g : Nat} {t : TypeId} {cur : Array Value} (h : w.heap[g]? = some (.cells cur t (0, 0))) {o : Nat} {u : Value} (hu : cur[o]? = some u) : w.cell? ⟨g, o, none⟩ = some u := by
  simp [World.cell?, h, hu]
/-- One that is held: its first page, its text. -/
theorem HRow.at_ {w : World} {base : Nat} {ao : Option Addr} {n cap : Nat} {H : List (List Int × ByteArray)} (h : HRow w base (.slice ao n cap) H) {k : Nat} {x : List Int × ByteArray} (hx : H[k]? = some x) :
    ∃ g off, ao = some ⟨g, off, none⟩ ∧ w.cell? ⟨g, off + k * 2, none⟩ = some (.int .i64 ((hd x.1 : Nat) : Int)) ∧ w.cell? ⟨g, off + k * 2 + 1, none⟩ = some (.string x.2) := by
  obtain ⟨hk, hxe⟩ := List.getElem?_eq_some_iff.1 hx
  rcases h with ⟨_, rfl⟩ | ⟨g, off, cap', cur, e, h1, h2, h3, h4, h5⟩
  · simp at hk
  · cases e
    have c0 := h5 (k * 2 + 0) (.int .i64 ((hd x.1 : Nat) : Int)) (by rw [hlC_at H k hk 0 (by omega), hxe]; rfl)
    have c1 := h5 (k * 2 + 1) (.string x.2) (by rw [hlC_at H k hk 1 (by omega), hxe]; rfl)
    exact ⟨g, off, rfl, cell_cur h2 (by simpa using c0), cell_cur h2 (by rw [← c1]; congr 1)⟩
/-- What all[1:] leaves. -/
theorem HRow.tail {w : World} {base g off n cap : Nat} {x : List Int × ByteArray} {H : List (List Int × ByteArray)} (h : HRow w base (.slice (some ⟨g, off, none⟩) n cap) (x :: H)) (o2 : Nat) (ho : o2 = off + 2 ∨ o2 = off ∧ cap = 1) : HRow w base (.slice (some ⟨g, o2, none⟩) H.length (cap - 1)) H := by
  rcases h with ⟨_, h⟩ | ⟨g', off', cap', cur, e, h1, h2, h3, h4, h5⟩
  · cases h
  · cases e
    rw [List.length_cons] at h3
    refine .inr ⟨g, o2, cap - 1, cur, rfl, h1, h2, by omega, by omega, fun j u hj => ?_⟩
    have hjl := (List.getElem?_eq_some_iff.1 hj).1
    rw [hlC_length] at hjl
    rcases ho with rfl | ⟨_, rfl⟩
    · rw [Nat.add_assoc]
      refine h5 (2 + j) u ?_
      unfold hlC
      rw [List.flatMap_cons, List.getElem?_append_right (by show 2 ≤ _; omega)]
      rw [show 2 + j - (hlC1 x).length = j by show _ - 2 = _; omega]
      exact hj
    · omega
set_option maxRecDepth 100000 in
/-- An append of one. -/
theorem HRow.append {w : World} {base : Nat} {v : Value} {H : List (List Int × ByteArray)} (h : HRow w base v H) (a : Addr) (x : List Int × ByteArray) (ha0 : w.cell? (a.add 0) = some (.int .i64 ((hd x.1 : Nat) : Int))) (ha1 : w.cell? (a.add 1) = some (.string x.2)) (hb : base ≤ w.heap.size) (hl : H.length ≤ 1000) (ty : TypeId) :
    ∃ ao cap w', (Builtin.append_ #[29, 29] ty #[v, .slice (some a) 1 1]).run Tryz.prog w = .ok (.slice ao (H.length + 1) cap) w' ∧ HRow w' base (.slice ao (H.length + 1) cap) (H ++ [x]) ∧ w.grownBy w' v.ownBlock := by
  obtain ⟨i0, hi, hz0, hz1, hz2⟩ := info_held (P := Tryz.prog) (t := 37) (z := .agg #[.int .i64 0, .string noE]) (s := 2) (b := 24) (by kernel_rfl)
  have hu : Tryz.prog.underlying 29 = some (.slice 37) := Tryz.underlying29
  have hnews : ∀ j u, (hlC1 x)[j]? = some u → w.cell? (a.add j) = some u := by
    intro j u hj
    have hj2 : j < 2 := (List.getElem?_eq_some_iff.1 hj).1
    rcases (show j = 0 ∨ j = 1 by omega) with rfl | rfl
    · cases hj; exact ha0
    · cases hj; exact ha1
  have hone : ∀ u ∈ hlC1 x, u.oneCell' = true := by
    intro u hu
    unfold hlC1 at hu
    simp at hu
    rcases hu with rfl | rfl <;> rfl
  have hnl : (hlC1 x).length = 1 * i0.size := by rw [hz1]; rfl
  rcases h with ⟨rfl, rfl⟩ | ⟨g, off, cap, cur, rfl, h1, h2, h3, h4, h5⟩
  · have hs := Src.ofSlice (P := Tryz.prog) (w := w) (size := i0.size) hu a 1 1 (hlC1 x) hnl hnews hone
    have hold : (Builtin.firstCells i0.size 0 (.slice none 0 0)).run Tryz.prog w.drew = .ok ([] : List Value).toArray w.drew := by
      simp [Builtin.firstCells, loadCells, loadCellsFrom]
    have hr := run_append_grow_src (P := Tryz.prog) w 29 29 ty 37 i0 _ hu hi hz0 none 0 0 [] hold _ 1 (hlC1 x) hs (by omega) (by omega) (by rw [hz2]; exact growslice_fits (by omega) (by omega))
    simp only [Nat.zero_add, List.nil_append] at hr
    refine ⟨_, _, _, hr, .inr ⟨w.heap.size, 0, _, _, rfl, hb, heap_alloc_new w.drew _, grownCap_ge w 1 0 37, ?_, ?_⟩, gb_trans (gb_drew _ _) (gb_alloc _ _ _)⟩
    · have hge := grownCap_ge w 1 0 37
      simp only [Array.size_append, List.size_toArray, size_zeroCells]
      show 0 + grownCap w 1 0 37 * 2 ≤ 2 + (grownCap w 1 0 37 - 1) * 2
      omega
    · intro j u hj
      have hjl := (List.getElem?_eq_some_iff.1 hj).1
      have e : hlC ([] ++ [x]) = hlC1 x := by unfold hlC; simp
      rw [e] at hj hjl
      rw [Nat.zero_add, ← Array.getElem?_toList]
      simp only [Array.toList_append]
      rw [List.getElem?_append_left (by simpa using hjl)]
      exact hj
  · have hxl := hlC_length H
    by_cases hroom : H.length + 1 ≤ cap
    · have hf := run_firstCells_some (P := Tryz.prog) w 2 1 a 1 1 (hlC1 x) rfl hnews
      have hst := run_storeCells_at Tryz.prog g (off + H.length * 2) 37 (hlC1 x) 0 cur w h2 (by show off + H.length * 2 + 0 + 2 ≤ cur.size; omega) hone
      simp only [Nat.add_zero] at hst
      have hadd : (⟨g, off, none⟩ : Addr).add (H.length * 2) = ⟨g, off + H.length * 2, none⟩ := by unfold Addr.add; split <;> simp_all
      have hrun : (Builtin.append_ #[29, 29] ty #[.slice (some ⟨g, off, none⟩) H.length cap, .slice (some a) 1 1]).run Tryz.prog w = .ok (.slice (some ⟨g, off, none⟩) (H.length + 1) cap) (w.setRow g (cur.toList.take (off + H.length * 2) ++ hlC1 x ++ cur.toList.drop (off + H.length * 2 + (hlC1 x).length)).toArray) := by
        simp [Builtin.append_, run_underlying hu, sizeOf, typeInfo, hi, hz1, Builtin.lenOf, hroom, hf, hadd, hst]
      refine ⟨_, _, _, hrun, .inr ⟨g, off, cap, _, by simp, h1, setRow_heap w g cur _ _ _ h2, by simpa using hroom, ?_, ?_⟩, ⟨rfl, rfl, rfl, by simp, fun k _ hk => setRow_other w g k _ (fun e => hk (by simp [Value.ownBlock, e]))⟩⟩
      · simp only [List.size_toArray, List.length_append, List.length_take, List.length_drop, Array.length_toList]
        show off + cap * 2 ≤ min (off + H.length * 2) cur.size + 2 + (cur.size - (off + H.length * 2 + 2))
        omega
      · intro j u hj
        have hjl := (List.getElem?_eq_some_iff.1 hj).1
        rw [hlC_length, List.length_append, List.length_singleton] at hjl
        rw [hlC_snoc] at hj
        rw [List.getElem?_toArray]
        by_cases hjx : j < H.length * 2
        · rw [List.getElem?_append_left (by rw [hxl]; exact hjx)] at hj
          rw [List.append_assoc, List.getElem?_append_left (by simp; omega), List.getElem?_take, if_pos (by omega)]
          have := h5 j u hj
          simpa using this
        · rw [List.getElem?_append_right (by rw [hxl]; omega), hxl] at hj
          rw [List.append_assoc, List.getElem?_append_right (by simp; omega)]
          have e0 : off + j - (cur.toList.take (off + H.length * 2)).length = j - H.length * 2 := by simp; omega
          rw [e0, List.getElem?_append_left (by show _ < 2; omega)]
          exact hj
    · have hcells : ∀ j u, (hlC H)[j]? = some u → w.cell? ((⟨g, off, none⟩ : Addr).add j) = some u := by
        intro j u hj
        have hadd : (⟨g, off, none⟩ : Addr).add j = ⟨g, off + j, none⟩ := by unfold Addr.add; split <;> simp_all
        rw [hadd]
        exact cell_cur h2 (h5 j u hj)
      have hr := run_append_grow (P := Tryz.prog) w 29 ty 37 i0 _ hu hi hz0 ⟨g, off, none⟩ H.length cap (hlC H) (by rw [hz1]; exact hxl) hcells a 1 1 (hlC1 x) hnl hnews (by omega) (by omega) (by rw [hz2]; exact growslice_fits (by omega) (by omega))
      have hge := grownCap_ge w (H.length + 1) cap 37
      refine ⟨_, _, _, hr, .inr ⟨w.heap.size, 0, grownCap w (H.length + 1) cap 37, _, by simp, hb, heap_alloc_new w.drew _, by simpa using hge, ?_, ?_⟩, gb_trans (gb_drew _ _) (gb_alloc _ _ _)⟩
      · simp only [Array.size_append, List.size_toArray, size_zeroCells, hxl]
        show 0 + grownCap w (H.length + 1) cap 37 * 2 ≤ H.length * 2 + 2 + (grownCap w (H.length + 1) cap 37 - (H.length + 1)) * 2
        omega
      · intro j u hj
        rw [hlC_snoc] at hj
        have hjl := (List.getElem?_eq_some_iff.1 hj).1
        rw [Nat.zero_add, ← Array.getElem?_toList]
        simp only [Array.toList_append]
        rw [List.getElem?_append_left (by simpa using hjl)]
        simpa using hj
end Go.Proofs.YtliiooldlooagaaGreatDoor.O12
