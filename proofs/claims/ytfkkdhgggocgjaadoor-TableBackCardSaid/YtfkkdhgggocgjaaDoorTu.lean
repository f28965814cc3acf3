/-
  A row of bytes that '[]byte(s)' makes: one byte written, one appended, and read as a text again, over this seat's translation; no conditions beside those that each law states.
-/
import Derived.Test.YtfkkdhgggocgjaaDoorTr
import Derived.Laws.IdiomStrings
namespace Go.Proofs.YtfkkdhgggocgjaaDoor
open Go.RowKit

theorem addr_zero (a : Addr) : a.add 0 = a := by unfold Addr.add; split <;> simp_all
/-- Block B's first cells are these bytes, and may be written. -/
def BR (W : World) (B cap : Nat) (l : List UInt8) : Prop := ∃ cur fz, W.heap[B]? = some (.cells cur 5 fz) ∧ cur.size = cap ∧ cap ≤ fz.1 ∧ l.length ≤ cap ∧ cur.toList.take l.length = bcells l
theorem BR.lt {W : World} {B cap : Nat} {l : List UInt8} (h : BR W B cap l) : B < W.heap.size := by
  obtain ⟨cur, fz, h1, _⟩ := h; exact (Array.getElem?_eq_some_iff.1 h1).1
theorem BR.keep {W W' : World} {B cap : Nat} {l : List UInt8} {r : Option Nat} (h : BR W B cap l) (g : W.grownBy W' r) (hr : some B ≠ r) : BR W' B cap l := by
  have hl := h.lt
  obtain ⟨cur, fz, h1, h2⟩ := h
  exact ⟨cur, fz, (g.block B hl hr).trans h1, h2⟩
theorem BR.keep0 {W W' : World} {B cap : Nat} {l : List UInt8} (h : BR W B cap l) (g : W.grownBy W' none) : BR W' B cap l := h.keep g (by simp)
theorem BR.cell {W : World} {B cap : Nat} {l : List UInt8} (h : BR W B cap l) {k : Nat} (hk : k < l.length) : W.cell? ⟨B, k, none⟩ = some (.int .u8 ((l.getD k 0).toNat : Nat)) := by
  obtain ⟨cur, fz, h1, h2, h3, h4, h5⟩ := h
  have e : cur[k]? = some (.int .u8 ((l.getD k 0).toNat : Nat)) := by
    rw [← bcells_at hk, ← h5, List.getElem?_take, if_pos hk]; simp
  simp [World.cell?, h1, e]
theorem BR.free {W : World} {B cap : Nat} {l : List UInt8} (h : BR W B cap l) {k : Nat} (hk : k < cap) : W.frozen? ⟨B, k, none⟩ = false := by
  obtain ⟨cur, fz, h1, h2, h3, h4, h5⟩ := h
  simp only [World.frozen?, h1]
  simp; omega
theorem BR.bs {W : World} {B cap : Nat} {l : List UInt8} (h : BR W B cap l) : Bs W (.slice (some ⟨B, 0, none⟩) l.length cap) l := by
  refine ⟨some ⟨B, 0, none⟩, cap, rfl, h.choose_spec.choose_spec.2.2.2.1, (fun e => by cases e), ?_⟩
  intro a e j u hj
  cases e
  have hj1 : j < l.length := by have := (List.getElem?_eq_some_iff.1 hj).1; rw [bcells_length] at this; exact this
  rw [add_at, Nat.zero_add, h.cell hj1, ← bcells_at hj1, hj]
theorem BR.set {W : World} {B cap : Nat} {l : List UInt8} (h : BR W B cap l) (k : Nat) (c : UInt8) : BR (W.setCell ⟨B, k, none⟩ (.int .u8 (c.toNat : Nat))) B cap (l.set k c) := by
  obtain ⟨cur, fz, h1, h2, h3, h4, h5⟩ := h
  refine ⟨cur.setIfInBounds k (.int .u8 (c.toNat : Nat)), fz, ?_, by simpa using h2, h3, by simpa using h4, ?_⟩
  · simp [World.setCell, Array.getElem?_modify, h1]
  · rw [List.length_set, Array.toList_setIfInBounds, List.take_set, h5]
    unfold bcells
    rw [List.map_set]
theorem br_new (w : World) (s : ByteArray) (hs : s.size ≤ 1000000) : ∃ cap W2, (convert 9 33 (.string s)).run Tryd.prog w = .ok (.slice (some ⟨w.heap.size, 0, none⟩) s.size cap) W2 ∧ BR W2 w.heap.size cap s.data.toList ∧ w.grownBy W2 none ∧ cap ≤ maxLen := by
  have hge := grownCap_ge w s.size 0 5
  have hsz : (bytesRow s (grownCap w s.size 0 5)).size = grownCap w s.size 0 5 := by
    unfold bytesRow
    have : s.data.size = s.size := rfl
    simp only [Array.size_append, Array.size_map, Array.size_replicate]; omega
  refine ⟨_, _, run_bytes_of_string w 9 33 5 s Tryd.underlying9 Tryd.underlying33 Tryd.underlying5, ⟨_, _, heap_alloc_new w.drew _, hsz, by rw [hsz]; exact Nat.le_refl _, ?_, ?_⟩, gb_trans (gb_drew _ _) (gb_alloc _ _ _), grownCap_le_maxLen w s.size 0 5 (by unfold maxLen; omega)⟩
  · show s.size ≤ _; exact hge
  · refine List.ext_getElem? fun j => ?_
    rw [List.getElem?_take]
    by_cases hj : j < s.data.toList.length
    · rw [if_pos hj, Array.getElem?_toList, bytesRow_at s _ j (by simpa using hj)]
      have hjs : j < s.data.size := by simpa using hj
      simp only [bcells, List.getElem?_map, Array.getElem?_toList, Array.getElem?_eq_getElem hjs, Option.map_some]
    · rw [if_neg hj, List.getElem?_eq_none (by rw [bcells_length]; omega)]
theorem br_append {W : World} {B cap : Nat} {l : List UInt8} (h : BR W B cap l) (a : Addr) (c : UInt8) (ha : W.cell? a = some (.int .u8 (c.toNat : Nat))) (hl : l.length ≤ 1000) (ty : TypeId) :
    ∃ B' cap' W', (Builtin.append_ #[33, 33] ty #[.slice (some ⟨B, 0, none⟩) l.length cap, .slice (some a) 1 1]).run Tryd.prog W = .ok (.slice (some ⟨B', 0, none⟩) (l.length + 1) cap') W' ∧ Bs W' (.slice (some ⟨B', 0, none⟩) (l.length + 1) cap') (l ++ [c]) ∧ W.grownBy W' (some B) ∧ (B' = B ∨ W.heap.size ≤ B') := by
  obtain ⟨i0, hi, hz0, hz1, hz2⟩ := info_parts Tryd.info8
  have hnews : ∀ j u, [Value.int .u8 (c.toNat : Nat)][j]? = some u → W.cell? (a.add j) = some u := by
    intro j u hj
    have hj0 : j = 0 := by
      have := (List.getElem?_eq_some_iff.1 hj).1
      simpa using this
    subst hj0
    rw [addr_zero]
    simp at hj
    rw [ha, hj]
  by_cases hroom : l.length + 1 ≤ cap
  · have hfree := h.free (k := l.length) (by omega)
    have hcl : ∃ u, W.cell? ⟨B, l.length, none⟩ = some u := by
      obtain ⟨cur, fz, h1, h2, _⟩ := h
      exact ⟨cur[l.length]'(by omega), by simp [World.cell?, h1, show l.length < cur.size by omega]⟩
    obtain ⟨u, hu⟩ := hcl
    have hf := run_firstCells_some (P := Tryd.prog) W 1 1 a 1 1 [Value.int .u8 (c.toNat : Nat)] rfl hnews
    have hst : (storeCells ⟨B, l.length, none⟩ [Value.int .u8 (c.toNat : Nat)] 0).run Tryd.prog W = .ok () (W.setCell ⟨B, l.length, none⟩ (.int .u8 (c.toNat : Nat))) := by
      have e1 : (⟨B, l.length, none⟩ : Addr).add 0 = ⟨B, l.length, none⟩ := addr_zero _
      simp only [storeCells, e1, Sem.run_bind]
      rw [run_store Tryd.prog W _ _ _ (by rfl), hu]
      simp [hfree, Result.andThen]
    have hadd : (⟨B, 0, none⟩ : Addr).add l.length = ⟨B, l.length, none⟩ := by rw [add_at, Nat.zero_add]
    have hrun : (Builtin.append_ #[33, 33] ty #[.slice (some ⟨B, 0, none⟩) l.length cap, .slice (some a) 1 1]).run Tryd.prog W = .ok (.slice (some ⟨B, 0, none⟩) (l.length + 1) cap) (W.setCell ⟨B, l.length, none⟩ (.int .u8 (c.toNat : Nat))) := by
      simp [Builtin.append_, run_underlying Tryd.underlying33, sizeOf, typeInfo, hi, hz1, Builtin.lenOf, hroom, hf, hadd, hst]
    refine ⟨B, cap, _, hrun, ?_, gb_set _ _ _ _ _, .inl rfl⟩
    refine ⟨some ⟨B, 0, none⟩, cap, by simp, by simp; omega, (fun e => by cases e), ?_⟩
    intro b e j v hj
    cases e
    rw [add_at, Nat.zero_add]
    have hjl : j < l.length + 1 := by have := (List.getElem?_eq_some_iff.1 hj).1; rw [bcells_length] at this; simpa using this
    rw [bcells_append] at hj
    by_cases hjx : j < l.length
    · rw [List.getElem?_append_left (by rw [bcells_length]; exact hjx)] at hj
      rw [World.cell?_setCell_other _ _ _ _ (fun e => by injection e with _ e2; omega), h.cell hjx, ← bcells_at hjx, hj]
    · obtain rfl : j = l.length := by omega
      rw [List.getElem?_append_right (by rw [bcells_length]; exact Nat.le_refl _), bcells_length, Nat.sub_self] at hj
      have hv : v = .int .u8 (c.toNat : Nat) := by simpa [bcells] using hj.symm
      rw [hv]
      exact World.cell?_setCell_same _ _ _ hu
  · have hcells : ∀ j u, (bcells l)[j]? = some u → W.cell? ((⟨B, 0, none⟩ : Addr).add j) = some u := by
      intro j u hj
      have hj1 : j < l.length := by have := (List.getElem?_eq_some_iff.1 hj).1; rw [bcells_length] at this; exact this
      rw [add_at, Nat.zero_add, h.cell hj1, ← bcells_at hj1, hj]
    have hcl : l.length ≤ cap := h.choose_spec.choose_spec.2.2.2.1
    have hr := run_append_grow (P := Tryd.prog) W 33 ty 5 i0 (.int .u8 0) Tryd.underlying33 hi hz0 ⟨B, 0, none⟩ l.length cap (bcells l) (by rw [hz1, bcells_length]; omega) hcells a 1 1 [Value.int .u8 (c.toNat : Nat)] (by rw [hz1]; rfl) hnews (by omega) (by omega) (by rw [hz2]; exact growslice_fits (by omega) (by omega))
    have hge := grownCap_ge W (l.length + 1) cap 5
    refine ⟨_, _, _, hr, ?_, gb_weak (gb_trans (gb_drew _ _) (gb_alloc _ _ _)) _, .inr (Nat.le_refl _)⟩
    refine ⟨some ⟨W.heap.size, 0, none⟩, grownCap W (l.length + 1) cap 5, by simp, by simpa using hge, (fun e => by cases e), ?_⟩
    intro b e j v hj
    cases e
    rw [add_at, Nat.zero_add]
    have hjl := (List.getElem?_eq_some_iff.1 hj).1
    have hb9 := heap_alloc_new W.drew (.cells ((bcells l).toArray ++ [Value.int .u8 (c.toNat : Nat)].toArray ++ Builtin.zeroCells (Value.int .u8 0).cells (grownCap W (l.length + 1) cap 5 - (l.length + 1))) 5)
    have hb8 : (W.drew.alloc (.cells ((bcells l).toArray ++ [Value.int .u8 (c.toNat : Nat)].toArray ++ Builtin.zeroCells (Value.int .u8 0).cells (grownCap W (l.length + 1) cap 5 - (l.length + 1))) 5)).heap[W.heap.size]? = _ := hb9
    simp only [World.cell?, hb8]
    rw [← Array.getElem?_toList]
    simp only [Array.toList_append]
    rw [List.getElem?_append_left (by rw [bcells_length] at hjl; simp [bcells_length]; simpa using hjl)]
    rw [bcells_append] at hj
    exact hj
/-- An append whose run is known. -/
theorem list_append_run {P : Program} {w w' : World} {ops : Array Oper} {rest : List Oper} {o : Oper} {a : Act} {Q : Exit → Act → World → Prop} (hgd : o.guard = none) (s x : Operand) (t : TypeId)
    (ho : o.op = .call { callee := .builtin .append, args := #[s, x], argTypes := #[t, t] }) (u1 u2 : Value) (hs : a.eval s = u1) (hx : a.eval x = u2) (v' : Value) (ty : TypeId)
    (hrun : (Builtin.append_ #[t, t] ty #[u1, u2]).run P w = .ok v' w') (hty : o.type = ty := by rfl) (h : wpList P ops Q rest (a.put o.dst v') w') : wpList P ops Q (o :: rest) a w := by
  subst hty
  refine wpList_plain hgd fun K hK => ?_
  unfold Oper.wp
  simp [execOp, ho, resolve, invoke, builtin, hs, hx, hrun, Result.andThen]
  exact hK _ _ h
end Go.Proofs.YtfkkdhgggocgjaaDoor

