/-
  The operations of FateKnown's drawn region that lays thirteen rows, each by what it needs: over this seat's translation; conditions: those that each law states.
-/
import Derived.Test.YtcoegaipojnndaaDoorFkI
import Derived.Great.Walk
namespace Go.Proofs.YtcoegaipojnndaaDoor
open Go.RowKit

/-- What an operation of the region yields. -/
inductive Kd where
  | val (v : Value)
  | bs (l : List Bool)
  | fate (l : List Bool) (t a : Int)
  | row (l : List Bool) (t a e : Int)
  | tab (rs : List (List Bool × Int × Int × Int))
/-- The rows' cells, one behind the other. -/
def RowsL (w : World) : List Value → List (List Bool × Int × Int × Int) → Prop
  | s :: v :: x :: y :: vs, (l, t, a, e) :: rs => (v = .int .i64 t ∧ x = .int .i64 a ∧ y = .int .i64 e ∧ Bls w s l) ∧ RowsL w vs rs
  | _, [] => True
  | _, _ => False
def Kd.on : Kd → Value → World → Prop
  | .val v0, v, _ => v = v0
  | .bs l, v, w => Bls w v l
  | .fate l t a, v, w => ∃ s, v = .agg #[s, .int .i64 t, .int .i64 a] ∧ Bls w s l
  | .row l t a e, v, w => ∃ s, v = .agg #[s, .int .i64 t, .int .i64 a, .int .i64 e] ∧ Bls w s l
  | .tab rs, v, w => ∃ b vs, v = .slice (some ⟨b, 0, none⟩) rs.length rs.length ∧ Blk w b 27 vs ∧ RowsL w vs.toList rs
theorem RowsL.keep0 {w w' : World} (g : w.grownBy w' none) : ∀ (rs : List (List Bool × Int × Int × Int)) (vs : List Value), RowsL w vs rs → RowsL w' vs rs
  | [], vs, _ => by unfold RowsL; split <;> trivial
  | (l, t, a, e) :: rs, [], h => by simp [RowsL] at h
  | (l, t, a, e) :: rs, [_], h => by simp [RowsL] at h
  | (l, t, a, e) :: rs, [_, _], h => by simp [RowsL] at h
  | (l, t, a, e) :: rs, [_, _, _], h => by simp [RowsL] at h
  | (l, t, a, e) :: rs, s :: v :: x :: y :: vs, h => ⟨⟨h.1.1, h.1.2.1, h.1.2.2.1, h.1.2.2.2.keep0 g⟩, RowsL.keep0 g rs vs h.2⟩
theorem rows_list {w : World} : ∀ (rs : List (List Bool × Int × Int × Int)) (vs : List Value), RowsL w vs rs → ∀ j l t a e, rs[j]? = some (l, t, a, e) → ∃ s, vs[4 * j]? = some s ∧ vs[4 * j + 1]? = some (.int .i64 t) ∧ vs[4 * j + 2]? = some (.int .i64 a) ∧ vs[4 * j + 3]? = some (.int .i64 e) ∧ Bls w s l
  | [], _, _, j, l, t, a, e, hj => by simp at hj
  | (l0, t0, a0, e0) :: rs, [], h, _, _, _, _, _, _ => by simp [RowsL] at h
  | (l0, t0, a0, e0) :: rs, [_], h, _, _, _, _, _, _ => by simp [RowsL] at h
  | (l0, t0, a0, e0) :: rs, [_, _], h, _, _, _, _, _, _ => by simp [RowsL] at h
  | (l0, t0, a0, e0) :: rs, [_, _, _], h, _, _, _, _, _, _ => by simp [RowsL] at h
  | (l0, t0, a0, e0) :: rs, s :: v :: x :: y :: vs, h, j, l, t, a, e, hj => by
    obtain ⟨⟨rfl, rfl, rfl, h2⟩, h3⟩ := h
    cases j with
    | zero =>
      simp at hj
      obtain ⟨rfl, rfl, rfl, rfl⟩ := hj
      exact ⟨s, by simp, by simp, by simp, by simp, h2⟩
    | succ j =>
      obtain ⟨s', e1, e2, e3, e4, e5⟩ := rows_list rs vs h3 j l t a e (by simpa using hj)
      refine ⟨s', ?_, ?_, ?_, ?_, e5⟩
      · rw [show 4 * (j + 1) = 4 * j + 1 + 1 + 1 + 1 by omega]; simpa using e1
      · rw [show 4 * (j + 1) + 1 = 4 * j + 1 + 1 + 1 + 1 + 1 by omega]; simpa using e2
      · rw [show 4 * (j + 1) + 2 = 4 * j + 2 + 1 + 1 + 1 + 1 by omega]; simpa using e3
      · rw [show 4 * (j + 1) + 3 = 4 * j + 3 + 1 + 1 + 1 + 1 by omega]; simpa using e4
theorem Kd.mono (k : Kd) (v : Value) (w w' : World) (h : k.on v w) (g : w.grownBy w' none) : k.on v w' := by
  cases k with
  | val v0 => exact h
  | bs l => exact Bls.keep0 h g
  | fate l t a => obtain ⟨s, h1, h2⟩ := h; exact ⟨s, h1, h2.keep0 g⟩
  | row l t a e => obtain ⟨s, h1, h2⟩ := h; exact ⟨s, h1, h2.keep0 g⟩
  | tab rs => obtain ⟨b, vs, h1, h2, h3⟩ := h; exact ⟨b, vs, h1, h2.keep0 g, RowsL.keep0 g _ _ h3⟩
section
variable {P : Program} {o : Oper} {a : Act} {w : World} {K : Act → World → Prop} {Q : Exit → Act → World → Prop}
theorem op_move {x : Operand} (ho : o.op = .move x) (h : K (a.put o.dst (a.eval x)) w) : o.wp P a w K Q := by
  unfold Oper.wp execOp
  simp only [ho]
  exact h
theorem op_build {t : TypeId} {parts : Array (Nat × Operand)} (ho : o.op = .build t parts) (vs : List (Nat × Value)) (hp : (parts.map fun (i, x) => (i, a.eval x)).toList = vs) (cells : Array Value) (hc : P.built t vs = some cells) (h : K (a.put o.dst (.agg cells)) w) : o.wp P a w K Q := by
  refine wp_build t parts ho ?_ ?_
  · rw [hp, hc]; rfl
  · rw [hp, hc]; exact h
theorem op_buildSlice {t e : TypeId} {len : Nat} {parts : Array (Nat × Operand)} (ho : o.op = .buildSlice t len parts) (hu : P.underlying t = some (.slice e)) (vs : List (Nat × Value)) (hp : (parts.map fun (i, x) => (i, a.eval x)).toList = vs) (cells : Array Value) (hc : P.builtSlice e len vs = some cells)
    (h : K (a.put o.dst (.slice (some ⟨w.heap.size, 0, none⟩) len len)) (w.alloc (.cells cells e))) : o.wp P a w K Q := by
  unfold Program.builtSlice at hc
  cases hie : P.info? e with
  | none => simp [hie] at hc
  | some ie =>
    simp only [hie] at hc
    cases hz : ie.zero with
    | none => simp [hz] at hc
    | some z =>
      simp only [hz] at hc
      by_cases hb : len * ie.size > 2 ^ 24 ∨ len * ie.size = 0
      · simp [hb] at hc
      · rw [if_neg hb] at hc
        exact wp_buildSlice t e len parts ho cells ie z hu hie hz (fun h' => hb (Or.inl h')) (fun h' => hb (Or.inr h')) (by rw [hp]; exact hc) h
end
def Each (R : Nat → Oper → Prop) (k : Nat) (l : List Oper) : Prop := ∀ i o, l[i]? = some o → R (k + i) o
theorem each_nil {R : Nat → Oper → Prop} (k : Nat) : Each R k [] := fun i o h => by simp at h
theorem each_cons {R : Nat → Oper → Prop} (k k' : Nat) {x : Oper} {l : List Oper} (hk : k' = k + 1) (h1 : R k x) (h2 : Each R k' l) : Each R k (x :: l) := by
  subst hk
  intro i o h
  cases i with
  | zero => simp at h; subst h; exact h1
  | succ i =>
    have := h2 i o (by simpa using h)
    rwa [show k + 1 + i = k + (i + 1) by omega] at this
theorem hops_of {ops : Array Oper} {lo : Nat} (h : (ops.toList.zipIdx.all fun p => decide (p.1.dst = some (lo + p.2)) && p.1.guard.isNone && p.1.after.toList.all fun e => decide (e.on < p.2)) = true) : ∀ i o, ops[i]? = some o → o.dst = some (lo + i) ∧ o.guard = none ∧ ∀ e ∈ o.after, e.on < i := by
  intro i o ho
  have hm : (o, i) ∈ ops.toList.zipIdx := by
    rw [List.mem_zipIdx_iff_getElem?]; simpa using ho
  have := List.all_eq_true.1 h _ hm
  simp only [Bool.and_eq_true, decide_eq_true_eq, Option.isNone_iff_eq_none, List.all_eq_true] at this
  exact ⟨this.1.1, this.1.2, fun e he => this.2 e (by simpa using he)⟩
def kdAt (ks : List Kd) (i : Nat) (v : Value) (w : World) : Prop := match ks[i]? with | some k => k.on v w | none => True
theorem region_kds {P : Program} {l : List Oper} {Q : Exit → Act → World → Prop} (a0 : Act) (w0 : World) (lo n : Nat) (ks : List Kd) (C : Act → World → Prop) (hn : l.toArray.size = n) (hsz : lo + n ≤ a0.tmps.size)
    (hops : ∀ i o, l.toArray[i]? = some o → o.dst = some (lo + i) ∧ o.guard = none ∧ ∀ e ∈ o.after, e.on < i)
    (hC : ∀ (a : Act) (w : World), (∀ j, j < lo ∨ lo + n ≤ j → a.tmps.getD j undef = a0.tmps.getD j undef) → w0.grownBy w none → C a w)
    (hstep : Each (fun i o => ∀ (w : World) (a : Act), (∀ e ∈ o.after, Region.binds .any e = true → kdAt ks e.on (a.tmps.getD (lo + e.on) undef) w) → C a w →
      ∀ K : Act → World → Prop, (∀ v w', kdAt ks i v w' → w.grownBy w' none → K (a.put (some (lo + i)) v) w') → o.wp P a w K Q) 0 l)
    (hend : ∀ (a : Act) (w : World), a.tmps.size = a0.tmps.size → a.defers = a0.defers → (∀ j, j < lo ∨ lo + n ≤ j → a.tmps.getD j undef = a0.tmps.getD j undef) → (∀ i, i < n → kdAt ks i (a.tmps.getD (lo + i) undef) w) → w0.grownBy w none → Q .normal a w) :
    wpAny P .any l.toArray Q l.toArray.size (Array.replicate l.toArray.size false) a0 w0 := by
  refine region_inv a0 w0 lo n (kdAt ks) hn hsz hops ?_ ?_ hend
  · intro i v w w' h g
    unfold kdAt at h ⊢
    cases e : ks[i]? with
    | none => trivial
    | some k => simp only [e] at h ⊢; exact k.mono v w w' h g
  · intro i o w ho a hdep hout hw K hK
    have := hstep i o (by simpa using ho) w a hdep (hC a w hout hw) K
    rw [Nat.zero_add] at this
    exact this hK
section
variable {o : Oper} {a : Act} {w : World} {K : Act → World → Prop} {Q : Exit → Act → World → Prop}
theorem st_one (b : Bool) (ho : o.op = .buildSlice 23 1 #[(0, .const (.bool b))]) (hK : ∀ v w', (Kd.bs [b]).on v w' → w.grownBy w' none → K (a.put o.dst v) w') : o.wp Tryd.prog a w K Q :=
  op_buildSlice ho Tryd.underlying23 [(0, .bool b)] (by simp only [List.map_toArray, List.map_cons, List.map_nil, Act.eval]) #[.bool b] (by kernel_rfl) (hK _ _ (bls_of_blk (l := [b]) (Blk.mk w _ _) rfl) (gb_alloc _ _ _))
theorem st_make {l : List Bool} (n : Nat) {z : Int} (ho : o.op = .makeSlice 23 (.const (.int .i64 z)) (.const (.int .i64 z))) (hz : z = (n : Int)) (hn : n ≤ 100000) (hl : l = List.replicate n false) (hK : ∀ v w', (Kd.bs l).on v w' → w.grownBy w' none → K (a.put o.dst v) w') : o.wp Tryd.prog a w K Q := by
  have hr := make_bools n z w hz hn
  have h5 := hK _ _ (by subst hl; exact bls_of_blk (Blk.mk w 4 _) List.length_replicate) (gb_alloc w (.cells (bools (List.replicate n false)).toArray 4) none)
  unfold Oper.wp execOp
  simp only [ho, Act.eval, Sem.run_bind, hr, Result.andThen_ok]
  exact h5
theorem st_fate1 {k : Nat} {l : List Bool} (t : Int) (ho : o.op = .build 25 #[(0, .tmp k), (1, .const (.int .i64 t))]) (hf : Bls w (a.tmps.getD k undef) l) (hK : ∀ v w', (Kd.fate l t 0).on v w' → w.grownBy w' none → K (a.put o.dst v) w') : o.wp Tryd.prog a w K Q := by
  have hf0 := hf
  obtain ⟨ao, cap, hv, _⟩ := hf
  refine op_build ho [(0, .slice ao l.length cap), (1, .int .i64 t)] ?_ #[.slice ao l.length cap, .int .i64 t, .int .i64 0] (by kernel_rfl) (hK _ _ ⟨_, rfl, by rw [← hv]; exact hf0⟩ (gb_refl _ _))
  simp only [List.map_toArray, List.map_cons, List.map_nil, Act.eval, hv]
theorem st_fate2 {k : Nat} {l : List Bool} (x : Int) (ho : o.op = .build 25 #[(0, .tmp k), (2, .const (.int .i64 x))]) (hf : Bls w (a.tmps.getD k undef) l) (hK : ∀ v w', (Kd.fate l 0 x).on v w' → w.grownBy w' none → K (a.put o.dst v) w') : o.wp Tryd.prog a w K Q := by
  have hf0 := hf
  obtain ⟨ao, cap, hv, _⟩ := hf
  refine op_build ho [(0, .slice ao l.length cap), (2, .int .i64 x)] ?_ #[.slice ao l.length cap, .int .i64 0, .int .i64 x] (by kernel_rfl) (hK _ _ ⟨_, rfl, by rw [← hv]; exact hf0⟩ (gb_refl _ _))
  simp only [List.map_toArray, List.map_cons, List.map_nil, Act.eval, hv]
theorem st_row {k : Nat} {l : List Bool} {t x : Int} (e : Int) (ho : o.op = .build 27 #[(0, .tmp k), (1, .const (.int .i64 e))]) (hf : (Kd.fate l t x).on (a.tmps.getD k undef) w) (hK : ∀ v w', (Kd.row l t x e).on v w' → w.grownBy w' none → K (a.put o.dst v) w') : o.wp Tryd.prog a w K Q := by
  obtain ⟨s, hv, hb⟩ := hf
  have hb0 := hb
  obtain ⟨ao, cap, rfl, _⟩ := hb
  refine op_build ho [(0, .agg #[.slice ao l.length cap, .int .i64 t, .int .i64 x]), (1, .int .i64 e)] ?_ #[.slice ao l.length cap, .int .i64 t, .int .i64 x, .int .i64 e] (by kernel_rfl) (hK _ _ ⟨_, rfl, hb0⟩ (gb_refl _ _))
  simp only [List.map_toArray, List.map_cons, List.map_nil, Act.eval, hv]
theorem op_len {k : Nat} {x : Option Addr} {n m : Nat} (ho : o.op = .call { callee := .builtin .len, args := #[.tmp k], argTypes := #[28] }) (hv : a.tmps.getD k undef = .slice x n m) (h : K (a.put o.dst (.int .i64 n)) w) : o.wp Tryd.prog a w K Q := by
  have hu := Tryd.underlying28
  unfold Oper.wp execOp
  simp only [ho]
  simp [go_sem, Act.eval, hv, hu]
  exact h
end
theorem arr_lit (t t0 : Array Value) (lo n : Nat) (h : t.size = t0.size) (hn : lo + n ≤ t0.size) (hout : ∀ j, j < lo ∨ lo + n ≤ j → t.getD j undef = t0.getD j undef) :
    t = (t0.toList.take lo ++ ((List.range n).map (fun i => t.getD (lo + i) undef) ++ t0.toList.drop (lo + n))).toArray := by
  have hd : ∀ (x : Array Value) j, j < x.size → x[j]? = some (x.getD j undef) := fun x j hj => by simp [Array.getD, hj]
  have hlt : (t0.toList.take lo).length = lo := by simp; omega
  have hlr : ((List.range n).map (fun i => t.getD (lo + i) undef)).length = n := by simp
  apply Array.ext'
  apply List.ext_getElem?
  intro j
  have hsz : t.toList.length = t0.toList.length := by simpa using h
  simp only [Array.getElem?_toList]
  rcases Nat.lt_or_ge j lo with h1 | h1
  · rw [List.getElem?_append_left (by omega), List.getElem?_take_of_lt h1, Array.getElem?_toList, hd t j (by omega), hd t0 j (by omega), hout j (Or.inl h1)]
  · rw [List.getElem?_append_right (by omega), hlt]
    rcases Nat.lt_or_ge (j - lo) n with h2 | h2
    · rw [List.getElem?_append_left (by omega), List.getElem?_map, List.getElem?_range h2, Option.map_some, show lo + (j - lo) = j by omega, hd t j (by omega)]
    · rw [List.getElem?_append_right (by omega), hlr, List.getElem?_drop, show lo + n + (j - lo - n) = j by omega, Array.getElem?_toList]
      rcases Nat.lt_or_ge j t.size with h3 | h3
      · rw [hd t j h3, hd t0 j (by omega), hout j (Or.inr (by omega))]
      · rw [Array.getElem?_eq_none h3, Array.getElem?_eq_none (by omega)]
end Go.Proofs.YtcoegaipojnndaaDoor

