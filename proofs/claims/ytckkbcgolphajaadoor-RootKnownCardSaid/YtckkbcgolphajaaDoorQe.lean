/-
  Roots held against each other, whole, over this seat's translation; conditions: eight chunks each.
-/
import Derived.Test.YtckkbcgolphajaaDoorQp
import Derived.Laws.StructEq
import Derived.ChangeKeysEq
import Derived.Deep.WholeRow
namespace Go.Proofs.YtckkbcgolphajaaDoor
open Go.RowKit

/-- A whole row loaded by an operation behind a guard that lets it be. -/
theorem wpList_load_rowG {P : Program} {ops : Array Oper} {rest : List Oper} {o : Oper} {a : Act} {w : World} {Q : Exit → Act → World → Prop} (hw : Region.wanted o (yielded ops a.tmps) = true) (ty : TypeId) (x : Operand) (ho : o.op = .load ty x)
    (g : Nat) (hx : a.eval x = .pointer (some ⟨g, 0, none⟩)) (t : TypeId) (cs : Array Value) (fr : Nat × Nat) (d : TypeDesc) (hg : w.heap[g]? = some (.cells cs t fr))
    (hu : P.underlying ty = some d) (hd : (match d with | .struct _ | .array _ _ => true | _ => false) = true) (hi : (P.info? ty).map (·.size) = some cs.size)
    (h : wpList P ops Q rest (a.put o.dst (.agg cs)) w) : wpList P ops Q (o :: rest) a w := by
  unfold wpList
  rw [if_pos hw]
  exact .inl (wp_load_row ty x ho g hx t cs fr d hg hu hd hi h)
theorem root_fields : Tryd.prog.underlying 25 = some (.struct (Tryd.prog.fieldsOf 25)) := by kernel_rfl
theorem root_held : Tryd.prog.stoodInHeld 25 = false := by kernel_rfl
theorem root_guard : Tryd.prog.eqGuardType Tryd.prog.depth 25 = false := by kernel_rfl
theorem root_three : (Tryd.prog.fieldsOf 25).toList = [⟨"Epoch", 22, 0, false, "", "", 0⟩, ⟨"Sectors", 3, 1, false, "", "", 8⟩, ⟨"Chunks", 23, 2, false, "", "", 16⟩] := by kernel_rfl
theorem rootC_at (r : Rt) (k : Nat) (h : k < r.cs.length) : ((rootC r).toArray.extract 2 (2 + 8))[k]? = if k < 8 then some (.int .i64 (r.cs.getD k 0)) else none := by
  rw [Array.getElem?_extract]
  have := rootC_chunk r k h
  rw [Nat.add_comm] at this
  have hs : (rootC r).toArray.size = r.cs.length + 2 := by simp [rootC]
  by_cases h8 : k < 8
  · rw [if_pos (by omega), if_pos h8, List.getElem?_toArray, this]
  · rw [if_neg (by omega), if_neg h8]
theorem part_epoch (r : Rt) (w : World) : (part 22 (rootC r).toArray 0).run Tryd.prog w = .ok (.int .u64 (r.e : Nat)) w := by
  simp [part, Tryd.isAgg22, Sem.run_bind, rootC]
theorem part_sectors (r : Rt) (w : World) : (part 3 (rootC r).toArray 1).run Tryd.prog w = .ok (.int .i64 r.n) w := by
  simp [part, Tryd.isAgg3, Sem.run_bind, rootC]
theorem part_chunks (r : Rt) (w : World) : (part 23 (rootC r).toArray 2).run Tryd.prog w = .ok (.agg ((rootC r).toArray.extract 2 (2 + 8))) w := by
  simp [part, Tryd.isAgg23, Sem.run_bind, Tryd.sizeOf23]
theorem part_chunk (r : Rt) (k : Nat) (h : k < 8) (hl : r.cs.length = 8) (w : World) : (part 3 ((rootC r).toArray.extract 2 (2 + 8)) (k * Tryd.prog.cellsOf 3)).run Tryd.prog w = .ok (.int .i64 (r.cs.getD k 0)) w := by
  have hc : Tryd.prog.cellsOf 3 = 1 := by kernel_rfl
  have := rootC_at r k (by omega)
  rw [if_pos h] at this
  rw [hc, Nat.mul_one]
  unfold part
  simp only [Sem.run_bind, Tryd.isAgg3, Result.andThen_ok, Bool.false_eq_true, if_false, this]
  rfl
theorem eqItems_chunks (d : Nat) (a b : Rt) (ha : a.cs.length = 8) (hb : b.cs.length = 8) (w : World) : ∀ is : List Nat, (∀ k ∈ is, k < 8) →
    (Op.eqItems (d + 1) 3 (Tryd.prog.cellsOf 3) ((rootC a).toArray.extract 2 (2 + 8)) ((rootC b).toArray.extract 2 (2 + 8)) is).run Tryd.prog w = .ok (is.all fun k => a.cs.getD k 0 == b.cs.getD k 0) w
  | [], _ => by simp [Op.eqItems]
  | k :: is, h => by
    have ih := eqItems_chunks d a b ha hb w is (fun x hx => h x (List.mem_cons_of_mem _ hx))
    have hk := h k (List.mem_cons_self ..)
    have he := run_equalIn_int (P := Tryd.prog) (w := w) d 3 .i64 .i64 (a.cs.getD k 0) (b.cs.getD k 0) Tryd.underlying3
    simp only [Op.eqItems, Sem.run_bind, part_chunk a k hk ha, part_chunk b k hk hb, Result.andThen_ok, he, List.all_cons]
    cases a.cs.getD k 0 == b.cs.getD k 0
    · simp
    · simpa using ih
def sameR (a b : Rt) : Bool := (a.e == b.e) && ((a.n == b.n) && (List.range 8).all fun k => a.cs.getD k 0 == b.cs.getD k 0)
theorem sameR_iff (a b : Rt) (ha : a.cs.length = 8) (hb : b.cs.length = 8) : sameR a b = true ↔ a = b := by
  unfold sameR
  simp only [Bool.and_eq_true, beq_iff_eq, List.all_eq_true, List.mem_range]
  constructor
  · rintro ⟨h1, h2, h3⟩
    refine Rt.eq_of h1 h2 (List.ext_getElem (by omega) fun k h4 h5 => ?_)
    have := h3 k (by omega)
    simpa [List.getD_eq_getElem?_getD, h4, h5] using this
  · rintro rfl; exact ⟨rfl, rfl, fun _ _ => rfl⟩
theorem equal_roots (a b : Rt) (ha : a.cs.length = 8) (hb : b.cs.length = 8) (w : World) : (Op.equalIn 10000 25 (.agg (rootC a).toArray) (.agg (rootC b).toArray)).run Tryd.prog w = .ok (sameR a b) w := by
  cases hi : Tryd.prog.info? 3 with
  | none => exact absurd hi (by have h : (Tryd.prog.info? 3).isSome = true := by kernel_rfl
                                intro e; rw [e] at h; cases h)
  | some i =>
    rw [show (10000 : Nat) = 9997 + 1 + 1 + 1 from rfl, run_equalIn_struct w (9997 + 1 + 1) _ _ _ root_fields root_held, root_three]
    have e1 := run_equalIn_int (P := Tryd.prog) (w := w) (9997 + 1) 22 .u64 .u64 (a.e : Nat) (b.e : Nat) Tryd.underlying22
    have e2 := run_equalIn_int (P := Tryd.prog) (w := w) (9997 + 1) 3 .i64 .i64 a.n b.n Tryd.underlying3
    have e3 := run_equalIn_array w (9997 + 1) ((rootC a).toArray.extract 2 (2 + 8)) ((rootC b).toArray.extract 2 (2 + 8)) Tryd.underlying23 hi
    rw [eqItems_chunks 9997 a b ha hb w _ (fun k hk => List.mem_range.1 hk)] at e3
    have he : (((a.e : Nat) : Int) == ((b.e : Nat) : Int)) = (a.e == b.e) := by
      rw [Bool.eq_iff_iff, beq_iff_eq, beq_iff_eq]; omega
    rw [he] at e1
    have n1 : ("Epoch" : String) ≠ "_" := by decide
    have n2 : ("Sectors" : String) ≠ "_" := by decide
    have n3 : ("Chunks" : String) ≠ "_" := by decide
    unfold sameR
    simp only [Op.eqFields, if_pos n1, if_pos n2, if_pos n3, Sem.run_bind, part_epoch, Result.andThen_ok, e1]
    cases a.e == b.e
    · simp
    · simp only [Bool.not_true, Bool.false_eq_true, if_false, Sem.run_bind, part_sectors, Result.andThen_ok, e2]
      cases a.n == b.n
      · simp
      · simp only [Bool.not_true, Bool.false_eq_true, if_false, Sem.run_bind, part_chunks, Result.andThen_ok, e3]
        cases (List.range 8).all (fun k => a.cs.getD k 0 == b.cs.getD k 0) <;> simp
theorem eql_roots (a b : Rt) (ha : a.cs.length = 8) (hb : b.cs.length = 8) (w : World) : (binOp .eql 25 (.agg (rootC a).toArray) (.agg (rootC b).toArray)).run Tryd.prog w = .ok (.bool (sameR a b)) w := by
  rw [run_eql_struct, equal_roots a b ha hb]; rfl
theorem neq_roots (a b : Rt) (ha : a.cs.length = 8) (hb : b.cs.length = 8) (w : World) : (binOp .neq 25 (.agg (rootC a).toArray) (.agg (rootC b).toArray)).run Tryd.prog w = .ok (.bool (!sameR a b)) w := by
  rw [run_neq_struct, equal_roots a b ha hb]; rfl
theorem Fit.len {r : Rt} (h : Fit r) : r.cs.length = 8 := h.1
theorem Good.l8 {r : Rt} (h : Good r) : r.cs.length = 8 := h.2.1
/-- A whole root loaded: the operation is written out, so that what does not fit is told at once. -/
theorem ld (s b : Nat) (r : Rt) {ops : Array Oper} {rest : List Oper} {a : Act} {w : World} {Q : Exit → Act → World → Prop} {dst : Option Tmp} {ty : TypeId} {pos : String} {after : Array Edge} (hr : r.cs.length = 8) (hb : RB w b r)
    (hx : a.eval (.tmp s) = .pointer (some ⟨b, 0, none⟩)) (h : wpList Tryd.prog ops Q rest (a.put dst (.agg (rootC r).toArray)) w) : wpList Tryd.prog ops Q (⟨dst, .load 25 (.tmp s), ty, pos, after, none⟩ :: rest) a w :=
  wpList_load_row rfl 25 (.tmp s) rfl b hx 25 (rootC r).toArray (0, 0) _ hb Tryd.underlying25 rfl (root_info r hr) h
theorem ldG (s b : Nat) (r : Rt) {ops : Array Oper} {rest : List Oper} {a : Act} {w : World} {Q : Exit → Act → World → Prop} {dst : Option Tmp} {ty : TypeId} {pos : String} {after : Array Edge} {j : Nat} {want : Bool} (hr : r.cs.length = 8) (hb : RB w b r)
    (hw : yielded ops a.tmps j = some want) (hx : a.eval (.tmp s) = .pointer (some ⟨b, 0, none⟩)) (h : wpList Tryd.prog ops Q rest (a.put dst (.agg (rootC r).toArray)) w) : wpList Tryd.prog ops Q (⟨dst, .load 25 (.tmp s), ty, pos, after, some (j, want)⟩ :: rest) a w :=
  wpList_load_rowG (by simp [Region.wanted, hw]) 25 (.tmp s) rfl b hx 25 (rootC r).toArray (0, 0) _ hb Tryd.underlying25 rfl (root_info r hr) h
theorem root_size (r : Rt) (h : r.cs.length = 8) : 10 = (rootC r).toArray.size := by rw [List.size_toArray, rootC_length r h]
/-- A whole root stored into a new one. -/
theorem stN (p v : Nat) (r : Rt) {ops : Array Oper} {rest : List Oper} {a : Act} {w : World} {Q : Exit → Act → World → Prop} {dst : Option Tmp} {ty : TypeId} {pos : String} {after : Array Edge} (hr : r.cs.length = 8)
    (hx : a.eval (.tmp p) = .pointer (some ⟨w.heap.size, 0, none⟩)) (hy : a.eval (.tmp v) = .agg (rootC r).toArray) (h : wpList Tryd.prog ops Q rest (a.put dst undef) (w.alloc (.cells (rootC r).toArray 25))) :
    wpList Tryd.prog ops Q (⟨dst, .store 25 (.tmp p) (.tmp v), ty, pos, after, none⟩ :: rest) a (w.alloc (.cells #[.int .u64 0, .int .i64 0, .int .i64 0, .int .i64 0, .int .i64 0, .int .i64 0, .int .i64 0, .int .i64 0, .int .i64 0, .int .i64 0] 25)) := by
  refine wpList_store_row rfl 25 (.tmp p) (.tmp v) rfl w.heap.size (rootC r).toArray hx hy 25 _ (heap_alloc_new _ _) (root_info r hr) (root_size r hr) (root_one r) ?_
  rw [World.setRow_alloc_new]
  exact h
/-- A whole root stored, as the next operation of a drawn region. -/
theorem stR (p v b : Nat) (q r : Rt) {ops : Array Oper} {a : Act} {w : World} {K : Act → World → Prop} {Q : Exit → Act → World → Prop} {dst : Option Tmp} {ty : TypeId} {pos : String} {after : Array Edge} (hq : q.cs.length = 8) (hr : r.cs.length = 8) (hb : RB w b q)
    (hx : a.eval (.tmp p) = .pointer (some ⟨b, 0, none⟩)) (hy : a.eval (.tmp v) = .agg (rootC r).toArray) (h : K (a.put dst undef) (w.setRow b (rootC r).toArray)) :
    if Region.wanted ⟨dst, .store 25 (.tmp p) (.tmp v), ty, pos, after, none⟩ (yielded ops a.tmps) = true then Oper.wp Tryd.prog ⟨dst, .store 25 (.tmp p) (.tmp v), ty, pos, after, none⟩ a w K Q else K (a.put dst undef) w := by
  rw [if_pos (by rfl)]
  exact wp_store_row 25 (.tmp p) (.tmp v) rfl b (rootC r).toArray hx hy 25 _ hb (root_info r hr) ((root_size q hq).symm.trans (root_size r hr)) (root_one r) h
end Go.Proofs.YtckkbcgolphajaaDoor
