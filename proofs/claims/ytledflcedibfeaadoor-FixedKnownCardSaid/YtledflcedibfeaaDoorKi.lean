/-
  FixedKnown's last statement: what each of its operations yields, and what each wants, over this seat's translation; conditions: those that each law states.
-/
import Derived.Test.YtledflcedibfeaaDoorKt
import Derived.Test.YtledflcedibfeaaDoorInv2
import Derived.Great.Walk
import Derived.Laws.Tables
namespace Go.Proofs.YtledflcedibfeaaDoor
open Go.RowKit

/-- Blocks stay, but that a row of bytes may get the mark of a conversion. -/
def GR (w w' : World) : Prop := ∀ (k : Nat) (o : Obj), w.heap[k]? = some o → w'.heap[k]? = some o ∨ ∃ C, o = .cells C 5 (0, 0) ∧ w'.heap[k]? = some (.cells C 5 (C.size, C.size + 1))
theorem GR.refl (w : World) : GR w w := fun _ _ h => Or.inl h
theorem GR.of_grown {w w' : World} (g : w.grownBy w' none) : GR w w' := fun k _ h =>
  Or.inl ((g.block k (Array.getElem?_eq_some_iff.1 h).1 (by simp)).trans h)
theorem GR.cell {w w' : World} (g : GR w w') {a : Addr} {v : Value} (h : w.cell? a = some v) : w'.cell? a = some v := by
  unfold World.cell? at h ⊢
  cases hk : w.heap[a.block]? with
  | none => rw [hk] at h; simp at h
  | some o =>
    rw [hk] at h
    rcases g _ _ hk with e | ⟨C, rfl, e⟩
    · rw [e]; exact h
    · rw [e]; exact h
theorem GR.bs {w w' : World} (g : GR w w') {v : Value} {l : List UInt8} (h : Bs w v l) : Bs w' v l := by
  obtain ⟨ao, cap, h1, h2, h3, h4⟩ := h
  exact ⟨ao, cap, h1, h2, h3, fun a e j u hj => g.cell (h4 a e j u hj)⟩
theorem GR.ft {w w' : World} (g : GR w w') {b : Nat} {c p : Int} (h : Ft w b c p) : Ft w' b c p := by
  unfold Ft Blk at h ⊢
  rcases g _ _ h with e | ⟨C, e, _⟩
  · exact e
  · injection e with _ e2 _
    exact absurd e2 (by decide)
/-- The row that the statement's own literal lays, marked or not. -/
def Lit1 (B : Nat) (w : World) (v : Value) : Prop := ∃ g, v = .slice (some ⟨g, 0, none⟩) 1 1 ∧ B ≤ g ∧ (w.heap[g]? = some (.cells #[.int .u8 113] 5 (0, 0)) ∨ w.heap[g]? = some (.cells #[.int .u8 113] 5 (1, 2)))
theorem GR.lit {w w' : World} (g : GR w w') {B : Nat} {v : Value} (h : Lit1 B w v) : Lit1 B w' v := by
  obtain ⟨b, h1, h2, h3⟩ := h
  refine ⟨b, h1, h2, ?_⟩
  rcases h3 with h3 | h3
  · rcases g _ _ h3 with e | ⟨C, e, e2⟩
    · exact Or.inl e
    · injection e with e1 _ _
      subst e1
      exact Or.inr e2
  · rcases g _ _ h3 with e | ⟨C, e, _⟩
    · exact Or.inr e
    · injection e with _ _ e3
      exact absurd e3 (by decide)
theorem lit_bs {B : Nat} {w : World} {v : Value} (h : Lit1 B w v) : Bs w v [113] := by
  obtain ⟨b, rfl, _, h3⟩ := h
  refine ⟨some ⟨b, 0, none⟩, 1, rfl, by decide, (fun e => by cases e), ?_⟩
  intro a e j u hj
  cases e
  obtain rfl : j = 0 := by
    have := (List.getElem?_eq_some_iff.1 hj).1
    simpa [bcells] using this
  have hu : u = .int .u8 113 := by simpa [bcells] using hj.symm
  subst hu
  rcases h3 with h3 | h3 <;> simp [World.cell?, Addr.add, h3]
/-- What an operation yields. -/
inductive Kf where
  | val (v : Value)
  | bs (l : List UInt8)
  | flt (c p : Int)
  | lit
def Kf.on (B : Nat) : Kf → Value → World → Prop
  | .val v0, v, _ => v = v0
  | .bs l, v, w => Bs w v l
  | .flt c p, v, w => ∃ b, v = .iface 77 (.pointer (some ⟨b, 0, none⟩)) ∧ Ft w b c p
  | .lit, v, w => Lit1 B w v
theorem Kf.mono (B : Nat) (k : Kf) (v : Value) (w w' : World) (h : k.on B v w) (g : GR w w') : k.on B v w' := by
  cases k with
  | val v0 => exact h
  | bs l => exact g.bs h
  | flt c p => obtain ⟨b, h1, h2⟩ := h; exact ⟨b, h1, g.ft h2⟩
  | lit => exact g.lit h
def kfAt (B : Nat) (ks : List Kf) (i : Nat) (v : Value) (w : World) : Prop := match ks[i]? with | some k => k.on B v w | none => True
theorem kf_mono (B : Nat) (ks : List Kf) (i : Nat) (v : Value) (w w' : World) (h : kfAt B ks i v w) (g : GR w w') : kfAt B ks i v w' := by
  unfold kfAt at h ⊢
  cases e : ks[i]? with
  | none => trivial
  | some k => simp only [e] at h ⊢; exact k.mono B v w w' h g
/-- Which of them are a plain bool. -/
def kfB (ks : List Kf) (i : Nat) : Option Bool := match ks[i]? with | some (.val (.bool b)) => some b | _ => none
theorem kf_bool (B : Nat) (ks : List Kf) (g : Nat) (b : Bool) (h : kfB ks g = some b) (v : Value) (w : World) (hv : kfAt B ks g v w) : v = .bool b := by
  unfold kfB at h
  unfold kfAt at hv
  split at h
  · rename_i e
    rw [e] at hv
    injection h with h
    subst h
    exact hv
  · cases h
def Each (R : Nat → Oper → Prop) (k : Nat) (l : List Oper) : Prop := ∀ i o, l[i]? = some o → R (k + i) o
theorem each_nil {R : Nat → Oper → Prop} (k : Nat) : Each R k [] := fun i o h => by simp at h
theorem each_cons {R : Nat → Oper → Prop} (k k' : Nat) {x : Oper} {l : List Oper} (hk : k' = k + 1) (h1 : R k x) (h2 : Each R k' l) : Each R k (x :: l) := by
  subst hk
  intro i o h
  cases i with
  | zero => simp at h; subst h; exact h1
  | succ i =>
    have := h2 i o (by simpa using h)
    rwa [show k + 1 + i = k + (i + 1) by omega] at this
theorem region_kf {P : Program} {l : List Oper} {Q : Exit → Act → World → Prop} (a0 : Act) (w0 : World) (lo m last : Nat) (ks : List Kf) (hn : l.length = m + 1) (hsz : lo + m ≤ a0.tmps.size) (hlast : last < lo)
    (hops : opsOk lo m last (kfB ks) l = true)
    (hstep : Each (fun i o => ∀ (w : World) (a : Act), (∀ e ∈ o.after, Region.binds .any e = true → kfAt w0.heap.size ks e.on (a.tmps.getD (dstAt lo m last e.on) undef) w) → (∀ j, outAt lo m last j → a.tmps.getD j undef = a0.tmps.getD j undef) → w0.grownBy w none →
      ∀ K : Act → World → Prop, (∀ v w', kfAt w0.heap.size ks i v w' → GR w w' → w0.grownBy w' none → K (a.put o.dst v) w') → o.wp P a w K Q) 0 l)
    (hend : ∀ (a : Act) (w : World), a.tmps.size = a0.tmps.size → a.defers = a0.defers → (∀ j, outAt lo m last j → a.tmps.getD j undef = a0.tmps.getD j undef) → (∀ i, i ≤ m → kfAt w0.heap.size ks i (a.tmps.getD (dstAt lo m last i) undef) w) → w0.grownBy w none → Q .normal a w) :
    wpAny P .any l.toArray Q l.toArray.size (Array.replicate l.toArray.size false) a0 w0 :=
  region_inv2 a0 w0 lo m last (kfB ks) (kfAt w0.heap.size ks) hn hsz hlast hops (fun g b h v w hv => kf_bool _ ks g b h v w hv) GR (fun u => w0.grownBy u none) (fun i v w w' h g => kf_mono _ ks i v w w' h g)
    (fun i o w ho a h1 h2 h3 K hK => (by have h := hstep i o ho; rw [Nat.zero_add] at h; exact h w a h1 h2 h3 K hK)) hend (gb_refl _ _)
section
variable {P : Program} {o : Oper} {a : Act} {w : World} {K : Act → World → Prop} {Q : Exit → Act → World → Prop}
theorem op_move {x : Operand} {v : Value} (ho : o.op = .move x) (hv : a.eval x = v) (h : K (a.put o.dst v) w) : o.wp P a w K Q := by
  subst hv
  unfold Oper.wp execOp
  simp only [ho]
  exact h
theorem op_assign {x : Operand} {v : Value} (ho : o.op = .assign x) (hv : a.eval x = v) (h : K (a.put o.dst v) w) : o.wp P a w K Q := by
  subst hv
  unfold Oper.wp execOp
  simp only [ho]
  exact h
theorem op_pick {x y z : Operand} (ho : o.op = .pick x y z) (h1 : a.eval x = .bool true) (h2 : a.eval y = .bool true) (h : K (a.put o.dst (.bool true)) w) : o.wp P a w K Q := by
  unfold Oper.wp execOp
  simp only [ho, h1, h2]
  simp [go_sem]
  exact h
theorem op_bin {b : BinOp} {t u : TypeId} {x y : Operand} {v1 v2 v : Value} (ho : o.op = .binOp b t x y u) (h1 : a.eval x = v1) (h2 : a.eval y = v2) (hg : (eqGuard b t x y v1 v2).run P w = .ok () w) (hr : (binOp b t v1 v2).run P w = .ok v w) (h : K (a.put o.dst v) w) : o.wp P a w K Q := by
  unfold Oper.wp execOp
  simp only [ho, h1, h2]
  simp [hg, hr, go_sem]
  exact h
theorem op_conv {t u : TypeId} {x : Operand} {v1 v : Value} {w' : World} (ho : o.op = .convert t u x) (h1 : a.eval x = v1) (hr : (convert t u v1).run P w = .ok v w') (h : K (a.put o.dst v) w') : o.wp P a w K Q := by
  unfold Oper.wp execOp
  simp only [ho, h1]
  simp [hr, go_sem]
  exact h
theorem op_build {t : TypeId} {parts : Array (Nat × Operand)} (ho : o.op = .build t parts) (vs : List (Nat × Value)) (hp : (parts.map fun (i, x) => (i, a.eval x)).toList = vs) (cells : Array Value) (hc : P.built t vs = some cells) (h : K (a.put o.dst (.agg cells)) w) : o.wp P a w K Q := by
  refine wp_build t parts ho ?_ ?_
  · rw [hp, hc]; rfl
  · rw [hp, hc]; exact h
theorem op_buildSlice {t e : TypeId} {len : Nat} {parts : Array (Nat × Operand)} (ho : o.op = .buildSlice t len parts) (hu : P.underlying t = some (.slice e)) (vs : List (Nat × Value)) (hp : (parts.map fun (i, x) => (i, a.eval x)).toList = vs) (cells : Array Value) (hc : P.builtSlice e len vs = some cells)
    (h : K (a.put o.dst (.slice (some ⟨w.heap.size, 0, none⟩) len len)) (w.alloc (.cells cells e))) : o.wp P a w K Q := by
  unfold Program.builtSlice at hc
  cases hie : P.info? e with
  | none => simp [hie] at hc
  | some ie =>
    simp only [hie] at hc
    cases hz : ie.zero with
    | none => simp [hz] at hc
    | some z =>
      simp only [hz] at hc
      by_cases hb : len * ie.size > 2 ^ 24 ∨ len * ie.size = 0
      · simp [hb] at hc
      · rw [if_neg hb] at hc
        exact wp_buildSlice t e len parts ho cells ie z hu hie hz (fun h' => hb (Or.inl h')) (fun h' => hb (Or.inr h')) (by rw [hp]; exact hc) h
end
section
variable {o : Oper} {a : Act} {w : World} {K : Act → World → Prop} {Q : Exit → Act → World → Prop}
theorem op_load {x : Operand} {b : Nat} (ho : o.op = .load 36 x) (h1 : a.eval x = .pointer (some ⟨b, 0, none⟩)) (hf : Ft w b 1 0) (h : K (a.put o.dst (.agg #[.int .i64 1, .int .i64 0])) w) : o.wp Tryd.prog a w K Q := by
  have n0 := Blk.cell hf 0 rfl
  have n1 := Blk.cell hf 1 rfl
  unfold Oper.wp execOp
  simp only [ho, h1]
  go_simp
  exact h
theorem eq_u8 (w : World) : (binOp .eql 5 (.int .u8 0) (.int .u8 0)).run Tryd.prog w = .ok (.bool true) w := by go_simp
theorem eq_u64 (w : World) : (binOp .eql 29 (.int .u64 0) (.int .u64 0)).run Tryd.prog w = .ok (.bool true) w := by go_simp
theorem eq_int (w : World) : (binOp .eql 3 (.int .i64 0) (.int .i64 0)).run Tryd.prog w = .ok (.bool true) w := by go_simp
theorem eq_nil (w : World) : (binOp .eql 31 .nilIface .nilIface).run Tryd.prog w = .ok (.bool true) w := by go_simp
theorem eq_str (s : ByteArray) (w : World) : (binOp .eql 9 (.string s) (.string s)).run Tryd.prog w = .ok (.bool true) w := by go_simp
theorem gd_nil (x : Operand) (w : World) : (eqGuard .eql 31 x (.const .nilIface) .nilIface .nilIface).run Tryd.prog w = .ok () w := by simp [eqGuard, go_sem]
theorem gd_int (b : BinOp) (t : TypeId) (x y : Operand) (k k' : IntKind) (n m : Int) (w : World) : (eqGuard b t x y (.int k n) (.int k' m)).run Tryd.prog w = .ok () w := by cases b <;> simp [eqGuard, go_sem]
theorem gd_str (b : BinOp) (t : TypeId) (x y : Operand) (s s' : ByteArray) (w : World) : (eqGuard b t x y (.string s) (.string s')).run Tryd.prog w = .ok () w := by cases b <;> simp [eqGuard, go_sem]
/-- The literal's row gets its mark. -/
theorem lit_mark {B : Nat} {v : Value} {w0 : World} (hB : B = w0.heap.size) (h : Lit1 B w v) (hg : w0.grownBy w none) :
    ∃ w', (convert 49 49 v).run Tryd.prog w = .ok v w' ∧ GR w w' ∧ w0.grownBy w' none := by
  obtain ⟨b, rfl, hb, h3⟩ := h
  have hsh : ∃ fr, w.heap[b]? = some (.cells #[.int .u8 113] 5 fr) ∧ (fr = (0, 0) ∨ fr = (1, 2)) := by
    rcases h3 with h3 | h3
    · exact ⟨_, h3, Or.inl rfl⟩
    · exact ⟨_, h3, Or.inr rfl⟩
  obtain ⟨fr, hfr, hfr2⟩ := hsh
  have hshape : w.shape? b = some (5, 1) := by unfold World.shape?; rw [hfr]; rfl
  have hlt : b < w.heap.size := (Array.getElem?_eq_some_iff.1 hfr).1
  refine ⟨w.freeze ⟨b, 1, none⟩ 1, ?_, ?_, ?_⟩
  · simp [convert, run_underlying Tryd.underlying49, run_underlying Tryd.underlying5, markStringish, hshape]
  · intro k oo hk
    unfold World.freeze
    rw [if_neg (by decide)]
    by_cases e : b = k
    · subst e
      rw [hk] at hfr
      injection hfr with hfr
      subst hfr
      rcases hfr2 with rfl | rfl
      · right
        refine ⟨_, rfl, ?_⟩
        simp [Array.getElem?_modify, hk]
      · left
        simp [Array.getElem?_modify, hk]
    · left
      simp [Array.getElem?_modify, e, hk]
  · refine ⟨hg.os, hg.tape, hg.output, ?_, ?_⟩
    · have := hg.size
      unfold World.freeze
      rw [if_neg (by decide)]
      simpa using this
    · intro k hk hne
      have e : b ≠ k := by omega
      rw [← hg.block k hk hne]
      unfold World.freeze
      rw [if_neg (by decide)]
      simp [Array.getElem?_modify, e]
end
end Go.Proofs.YtledflcedibfeaaDoor
