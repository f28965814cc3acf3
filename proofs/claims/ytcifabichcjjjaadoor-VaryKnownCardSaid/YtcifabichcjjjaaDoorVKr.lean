/-
  The operations of a drawn region that lays rows of fields, each by what it needs: over this seat's translation; conditions: those that each law states.
-/
import Derived.Test.YtcifabichcjjjaaDoorVInv
import Derived.Great.Walk
namespace Go.Proofs.YtcifabichcjjjaaDoor
open Go.RowKit

/-- What an operation of the region yields. -/
inductive Kd where
  | val (v : Value)
  | fs (l : List Fd)
  | row (l : List Fd) (c : Int)
  | tab (rs : List (List Fd × Int))
def RowsAt (w : World) (vs : Array Value) (rs : List (List Fd × Int)) : Prop :=
  ∀ j l c, rs[j]? = some (l, c) → ∃ s, vs[2 * j]? = some s ∧ vs[2 * j + 1]? = some (.int .i64 c) ∧ Fs w s l
def Kd.on : Kd → Value → World → Prop
  | .val v0, v, _ => v = v0
  | .fs l, v, w => Fs w v l
  | .row l c, v, w => ∃ s, v = .agg #[s, .int .i64 c] ∧ Fs w s l
  | .tab rs, v, w => ∃ b vs, v = .slice (some ⟨b, 0, none⟩) rs.length rs.length ∧ Blk w b 55 vs ∧ RowsAt w vs rs
theorem Kd.mono (k : Kd) (v : Value) (w w' : World) (h : k.on v w) (g : w.grownBy w' none) : k.on v w' := by
  cases k with
  | val v0 => exact h
  | fs l => exact Fs.keep0 h g
  | row l c => obtain ⟨s, h1, h2⟩ := h; exact ⟨s, h1, h2.keep0 g⟩
  | tab rs =>
    obtain ⟨b, vs, h1, h2, h3⟩ := h
    refine ⟨b, vs, h1, h2.keep0 g, fun j l c hj => ?_⟩
    obtain ⟨s, e1, e2, e3⟩ := h3 j l c hj
    exact ⟨s, e1, e2, e3.keep0 g⟩
section
variable {P : Program} {o : Oper} {a : Act} {w : World} {K : Act → World → Prop} {Q : Exit → Act → World → Prop}
theorem op_move {x : Operand} (ho : o.op = .move x) (h : K (a.put o.dst (a.eval x)) w) : o.wp P a w K Q := by
  unfold Oper.wp execOp
  simp only [ho]
  exact h
theorem op_build {t : TypeId} {parts : Array (Nat × Operand)} (ho : o.op = .build t parts) (vs : List (Nat × Value)) (hp : (parts.map fun (i, x) => (i, a.eval x)).toList = vs) (cells : Array Value) (hc : P.built t vs = some cells) (h : K (a.put o.dst (.agg cells)) w) : o.wp P a w K Q := by
  refine wp_build t parts ho ?_ ?_
  · rw [hp, hc]; rfl
  · rw [hp, hc]; exact h
theorem op_buildSlice {t e : TypeId} {len : Nat} {parts : Array (Nat × Operand)} (ho : o.op = .buildSlice t len parts) (hu : P.underlying t = some (.slice e)) (vs : List (Nat × Value)) (hp : (parts.map fun (i, x) => (i, a.eval x)).toList = vs) (cells : Array Value) (hc : P.builtSlice e len vs = some cells)
    (h : K (a.put o.dst (.slice (some ⟨w.heap.size, 0, none⟩) len len)) (w.alloc (.cells cells e))) : o.wp P a w K Q := by
  unfold Program.builtSlice at hc
  cases hie : P.info? e with
  | none => simp [hie] at hc
  | some ie =>
    simp only [hie] at hc
    cases hz : ie.zero with
    | none => simp [hz] at hc
    | some z =>
      simp only [hz] at hc
      by_cases hb : len * ie.size > 2 ^ 24 ∨ len * ie.size = 0
      · simp [hb] at hc
      · rw [if_neg hb] at hc
        exact wp_buildSlice t e len parts ho cells ie z hu hie hz (fun h' => hb (Or.inl h')) (fun h' => hb (Or.inr h')) (by rw [hp]; exact hc) h
end
section
variable {o : Oper} {a : Act} {w : World} {K : Act → World → Prop} {Q : Exit → Act → World → Prop}
theorem st_row {k : Nat} {c : Int} {l : List Fd} (ho : o.op = .build 55 #[(0, .tmp k), (1, .const (.int .i64 c))]) (hf : Fs w (a.tmps.getD k undef) l) (hK : ∀ v w', (Kd.row l c).on v w' → w.grownBy w' none → K (a.put o.dst v) w') : o.wp Tryd.prog a w K Q := by
  have hf0 := hf
  obtain ⟨ao, cap, hv, _⟩ := hf
  refine op_build ho [(0, .slice ao l.length cap), (1, .int .i64 c)] ?_ #[.slice ao l.length cap, .int .i64 c] (by kernel_rfl) (hK _ _ ⟨_, rfl, by rw [← hv]; exact hf0⟩ (gb_refl _ _))
  simp only [List.map_toArray, List.map_cons, List.map_nil, Act.eval, hv]
theorem fs_new (w : World) (l : List Fd) (n : Nat) (hn : n = l.length) (cells : Array Value) (hc : cells.toList = fcells l) : Fs (w.alloc (.cells cells 29)) (.slice (some ⟨w.heap.size, 0, none⟩) n n) l := by
  subst hn
  refine ⟨_, _, rfl, Nat.le_refl _, (fun e => by cases e), ?_⟩
  intro x hx j u hj
  cases hx
  have hb := Blk.mk w 29 cells
  have hj2 : cells[j]? = some u := by rw [← hj, ← hc]; simp
  have := hb.cell j hj2
  cases j with
  | zero => exact this
  | succ j => simpa [Addr.add] using this
theorem st_one {k : Nat} (f : Fd) (ho : o.op = .buildSlice 22 1 #[(0, .tmp k)]) (hf : a.tmps.getD k undef = .agg #[.int .i64 f.tag, .bool f.text, .int .u64 f.n, .string f.s]) (hK : ∀ v w', (Kd.fs [f]).on v w' → w.grownBy w' none → K (a.put o.dst v) w') : o.wp Tryd.prog a w K Q := by
  refine op_buildSlice ho Tryd.underlying22 [(0, .agg #[.int .i64 f.tag, .bool f.text, .int .u64 f.n, .string f.s])] ?_ #[.int .i64 f.tag, .bool f.text, .int .u64 f.n, .string f.s] (by kernel_rfl) (hK _ _ (fs_new w [f] 1 rfl _ rfl) (gb_alloc _ _ _))
  simp only [List.map_toArray, List.map_cons, List.map_nil, Act.eval, hf]
theorem st_two {k k' : Nat} (f f' : Fd) (ho : o.op = .buildSlice 22 2 #[(0, .tmp k), (1, .tmp k')]) (hf : a.tmps.getD k undef = .agg #[.int .i64 f.tag, .bool f.text, .int .u64 f.n, .string f.s]) (hf' : a.tmps.getD k' undef = .agg #[.int .i64 f'.tag, .bool f'.text, .int .u64 f'.n, .string f'.s]) (hK : ∀ v w', (Kd.fs [f, f']).on v w' → w.grownBy w' none → K (a.put o.dst v) w') : o.wp Tryd.prog a w K Q := by
  refine op_buildSlice ho Tryd.underlying22 [(0, .agg #[.int .i64 f.tag, .bool f.text, .int .u64 f.n, .string f.s]), (1, .agg #[.int .i64 f'.tag, .bool f'.text, .int .u64 f'.n, .string f'.s])] ?_ #[.int .i64 f.tag, .bool f.text, .int .u64 f.n, .string f.s, .int .i64 f'.tag, .bool f'.text, .int .u64 f'.n, .string f'.s] (by kernel_rfl) (hK _ _ (fs_new w [f, f'] 2 rfl _ rfl) (gb_alloc _ _ _))
  simp only [List.map_toArray, List.map_cons, List.map_nil, Act.eval, hf, hf']
theorem st_cut {k : Nat} {am : Addr} {cm : Nat} {l : List Fd} (n : Nat) (ho : o.op = .slice 22 (.tmp k) none (some (.const (.int .i64 (n : Int)))) none) (hn : n ≤ l.length) (hv : a.tmps.getD k undef = .slice (some am) l.length cm) (hf : Fs w (.slice (some am) l.length cm) l) (hK : ∀ v w', (Kd.fs (l.take n)).on v w' → w.grownBy w' none → K (a.put o.dst v) w') : o.wp Tryd.prog a w K Q := by
  obtain ⟨ao, cap, hv2, h2, h3, h4⟩ := hf
  injection hv2 with e1 e2 e3
  subst e1 e3
  have h5 := hK (.slice (some am) n cm) w (Fs.cut n hn h2 h3 h4) (gb_refl _ _)
  have hr : (Instr.sliceAt 22 (.slice (some am) l.length cm) none (some (.int .i64 (n : Int))) none).run Tryd.prog w = .ok (.slice (some am) n cm) w := by
    have hb : (n : Int) ≤ (cm : Int) := by omega
    have hz : (sizeOf (Tryd.prog.elem 22)).run Tryd.prog w = .ok 4 w := by kernel_rfl
    have hu : Tryd.prog.underlying 22 = some (.slice (Tryd.prog.elem 22)) := by kernel_rfl
    rw [run_sliceAt_slice w _ _ _ _ _ hu, run_slice_h w _ _ _ _ hu _ _ (by omega) hb, hz]
    simp [Result.andThen, sliced, Addr.add]
  unfold Oper.wp execOp
  simp only [ho, Act.eval, hv, Option.map, Sem.run_bind, hr, Result.andThen_ok]
  exact h5
theorem st_from {k : Nat} {S : ByteArray} (n : Nat) (ho : o.op = .slice 9 (.tmp k) (some (.const (.int .i64 (n : Int)))) none none) (hn : n ≤ S.size) (hv : a.tmps.getD k undef = .string S) (hK : ∀ v w', (Kd.val (.string (S.extract n S.size))).on v w' → w.grownBy w' none → K (a.put o.dst v) w') : o.wp Tryd.prog a w K Q := by
  have h5 := hK _ w rfl (gb_refl _ _)
  have hr : (Instr.sliceAt 9 (.string S) (some (.int .i64 (n : Int))) none none).run Tryd.prog w = .ok (.string (S.extract n S.size)) w := by
    have hu : Tryd.prog.underlying 9 = some .string := by kernel_rfl
    rw [run_sliceAt_string w _ _ _ _ _ hu, run_slice_string_l w _ _ hu _ _ (by omega) (by omega)]
    simp
  unfold Oper.wp execOp
  simp only [ho, Act.eval, hv, Option.map, Sem.run_bind, hr, Result.andThen_ok]
  exact h5
end
/-- The rows' cells, one behind the other. -/
def RowsL (w : World) : List Value → List (List Fd × Int) → Prop
  | s :: v :: vs, (l, c) :: rs => (v = .int .i64 c ∧ Fs w s l) ∧ RowsL w vs rs
  | _, [] => True
  | _, _ => False
theorem rows_list {w : World} : ∀ (rs : List (List Fd × Int)) (vs : List Value), RowsL w vs rs → ∀ j l c, rs[j]? = some (l, c) → ∃ s, vs[2 * j]? = some s ∧ vs[2 * j + 1]? = some (.int .i64 c) ∧ Fs w s l
  | [], _, _, j, l, c, hj => by simp at hj
  | (l0, c0) :: rs, [], h, _, _, _, _ => by simp [RowsL] at h
  | (l0, c0) :: rs, [_], h, _, _, _, _ => by simp [RowsL] at h
  | (l0, c0) :: rs, s :: v :: vs, h, j, l, c, hj => by
    obtain ⟨⟨rfl, h2⟩, h3⟩ := h
    cases j with
    | zero =>
      simp at hj
      obtain ⟨rfl, rfl⟩ := hj
      exact ⟨s, by simp, by simp, h2⟩
    | succ j =>
      obtain ⟨s', e1, e2, e3⟩ := rows_list rs vs h3 j l c (by simpa using hj)
      exact ⟨s', by rw [show 2 * (j + 1) = 2 * j + 1 + 1 by omega]; simpa using e1, by rw [show 2 * (j + 1) + 1 = 2 * j + 1 + 1 + 1 by omega]; simpa using e2, e3⟩
theorem rows_at {w : World} {rs : List (List Fd × Int)} {vs : Array Value} (h : RowsL w vs.toList rs) : RowsAt w vs rs := by
  intro j l c hj
  obtain ⟨s, e1, e2, e3⟩ := rows_list rs vs.toList h j l c hj
  exact ⟨s, by simpa using e1, by simpa using e2, e3⟩
def Each (R : Nat → Oper → Prop) (k : Nat) (l : List Oper) : Prop := ∀ i o, l[i]? = some o → R (k + i) o
theorem each_nil {R : Nat → Oper → Prop} (k : Nat) : Each R k [] := fun i o h => by simp at h
theorem each_cons {R : Nat → Oper → Prop} (k k' : Nat) {x : Oper} {l : List Oper} (hk : k' = k + 1) (h1 : R k x) (h2 : Each R k' l) : Each R k (x :: l) := by
  subst hk
  intro i o h
  cases i with
  | zero => simp at h; subst h; exact h1
  | succ i =>
    have := h2 i o (by simpa using h)
    rwa [show k + 1 + i = k + (i + 1) by omega] at this
theorem hops_of {ops : Array Oper} {lo : Nat} (h : (ops.toList.zipIdx.all fun p => decide (p.1.dst = some (lo + p.2)) && p.1.guard.isNone && p.1.after.toList.all fun e => decide (e.on < p.2)) = true) : ∀ i o, ops[i]? = some o → o.dst = some (lo + i) ∧ o.guard = none ∧ ∀ e ∈ o.after, e.on < i := by
  intro i o ho
  have hm : (o, i) ∈ ops.toList.zipIdx := by
    rw [List.mem_zipIdx_iff_getElem?]; simpa using ho
  have := List.all_eq_true.1 h _ hm
  simp only [Bool.and_eq_true, decide_eq_true_eq, Option.isNone_iff_eq_none, List.all_eq_true] at this
  exact ⟨this.1.1, this.1.2, fun e he => this.2 e (by simpa using he)⟩
theorem op_len {o : Oper} {a : Act} {w : World} {K : Act → World → Prop} {Q : Exit → Act → World → Prop} {k : Nat} {x : Option Addr} {n m : Nat} (ho : o.op = .call { callee := .builtin .len, args := #[.tmp k], argTypes := #[56] }) (hv : a.tmps.getD k undef = .slice x n m) (h : K (a.put o.dst (.int .i64 n)) w) : o.wp Tryd.prog a w K Q := by
  have hu := Tryd.underlying56
  unfold Oper.wp execOp
  simp only [ho]
  simp [go_sem, Act.eval, hv, hu]
  exact h
def kdAt (ks : List Kd) (i : Nat) (v : Value) (w : World) : Prop := match ks[i]? with | some k => k.on v w | none => True
theorem region_kds {P : Program} {l : List Oper} {Q : Exit → Act → World → Prop} (a0 : Act) (w0 : World) (lo n : Nat) (ks : List Kd) (C : Act → World → Prop) (hn : l.toArray.size = n) (hsz : lo + n ≤ a0.tmps.size)
    (hops : ∀ i o, l.toArray[i]? = some o → o.dst = some (lo + i) ∧ o.guard = none ∧ ∀ e ∈ o.after, e.on < i)
    (hC : ∀ (a : Act) (w : World), (∀ j, j < lo ∨ lo + n ≤ j → a.tmps.getD j undef = a0.tmps.getD j undef) → w0.grownBy w none → C a w)
    (hstep : Each (fun i o => ∀ (w : World) (a : Act), (∀ e ∈ o.after, Region.binds .any e = true → kdAt ks e.on (a.tmps.getD (lo + e.on) undef) w) → C a w →
      ∀ K : Act → World → Prop, (∀ v w', kdAt ks i v w' → w.grownBy w' none → K (a.put (some (lo + i)) v) w') → o.wp P a w K Q) 0 l)
    (hend : ∀ (a : Act) (w : World), a.tmps.size = a0.tmps.size → a.defers = a0.defers → (∀ j, j < lo ∨ lo + n ≤ j → a.tmps.getD j undef = a0.tmps.getD j undef) → (∀ i, i < n → kdAt ks i (a.tmps.getD (lo + i) undef) w) → w0.grownBy w none → Q .normal a w) :
    wpAny P .any l.toArray Q l.toArray.size (Array.replicate l.toArray.size false) a0 w0 := by
  refine region_inv a0 w0 lo n (kdAt ks) hn hsz hops ?_ ?_ hend
  · intro i v w w' h g
    unfold kdAt at h ⊢
    cases e : ks[i]? with
    | none => trivial
    | some k => simp only [e] at h ⊢; exact k.mono v w w' h g
  · intro i o w ho a hdep hout hw K hK
    have := hstep i o (by simpa using ho) w a hdep (hC a w hout hw) K
    rw [Nat.zero_add] at this
    exact this hK
theorem arr_lit (t t0 : Array Value) (lo n : Nat) (h : t.size = t0.size) (hn : lo + n ≤ t0.size) (hout : ∀ j, j < lo ∨ lo + n ≤ j → t.getD j undef = t0.getD j undef) :
    t = (t0.toList.take lo ++ ((List.range n).map (fun i => t.getD (lo + i) undef) ++ t0.toList.drop (lo + n))).toArray := by
  have hd : ∀ (x : Array Value) j, j < x.size → x[j]? = some (x.getD j undef) := fun x j hj => by simp [Array.getD, hj]
  have hlt : (t0.toList.take lo).length = lo := by simp; omega
  have hlr : ((List.range n).map (fun i => t.getD (lo + i) undef)).length = n := by simp
  apply Array.ext'
  apply List.ext_getElem?
  intro j
  have hsz : t.toList.length = t0.toList.length := by simpa using h
  simp only [Array.getElem?_toList]
  rcases Nat.lt_or_ge j lo with h1 | h1
  · rw [List.getElem?_append_left (by omega), List.getElem?_take_of_lt h1, Array.getElem?_toList, hd t j (by omega), hd t0 j (by omega), hout j (Or.inl h1)]
  · rw [List.getElem?_append_right (by omega), hlt]
    rcases Nat.lt_or_ge (j - lo) n with h2 | h2
    · rw [List.getElem?_append_left (by omega), List.getElem?_map, List.getElem?_range h2, Option.map_some, show lo + (j - lo) = j by omega, hd t j (by omega)]
    · rw [List.getElem?_append_right (by omega), hlr, List.getElem?_drop, show lo + n + (j - lo - n) = j by omega, Array.getElem?_toList]
      rcases Nat.lt_or_ge j t.size with h3 | h3
      · rw [hd t j h3, hd t0 j (by omega), hout j (Or.inr (by omega))]
      · rw [Array.getElem?_eq_none h3, Array.getElem?_eq_none (by omega)]
end Go.Proofs.YtcifabichcjjjaaDoor
