/-
  Maps of numbers to pairs of a number and a text, in memory, as functions: made, looked up, written, ranged over; conditions: those that each law states.
-/
import Derived.Maps.OwnSet
import Derived.Maps.RangeWalk
import Derived.Maps.Ext
import Derived.Test.YtliiooldlooagaaGreatDoorZJ2
set_option linter.unusedSimpArgs false
set_option linter.unusedVariables false
namespace Go.Proofs.YtliiooldlooagaaGreatDoor.J10
open Go.RowKit Go.Maps Go.ChangeMaps
def elV (x : Nat × ByteArray) : Value := .agg #[.int .i64 (x.1 : Nat), .string x.2]
def elD (x : Nat × ByteArray) : DataW Unit := .agg [.lit (.int .i64 (x.1 : Nat)), .lit (.string x.2.data.toList)]
def noE : ByteArray := ⟨#[]⟩
theorem elD_inj {x y : Nat × ByteArray} (h : elD x = elD y) : x = y := by
  obtain ⟨a, b⟩ := x
  obtain ⟨c, d⟩ := y
  unfold elD at h
  injection h with h
  injection h with h1 h2
  injection h1 with h1
  injection h1 with _ h1
  injection h2 with h2
  injection h2 with h2
  injection h2 with h2
  have h3 : a = c := by omega
  obtain ⟨⟨b⟩⟩ := b
  obtain ⟨⟨d⟩⟩ := d
  have h4 : b = d := h2
  rw [h3, h4]
theorem elV_inj {x y : Nat × ByteArray} (h : elV x = elV y) : x = y := by
  obtain ⟨a, b⟩ := x
  obtain ⟨c, d⟩ := y
  unfold elV at h
  injection h with h
  have h1 : [Value.int .i64 (a : Nat), .string b] = [.int .i64 (c : Nat), .string d] := congrArg Array.toList h
  injection h1 with h1 h2
  injection h1 with _ h1
  injection h2 with h2
  injection h2 with h2
  have h3 : a = c := by omega
  rw [h3, h2]
/-- How an element reads. -/
noncomputable def elR (v : Value) : Option (DataW Unit × List MemPlace) := open Classical in if h : ∃ x, v = elV x then some (elD h.choose, []) else none
theorem elR_mk (x : Nat × ByteArray) : elR (elV x) = some (elD x, []) := by
  unfold elR
  have h : ∃ y, elV x = elV y := ⟨x, rfl⟩
  rw [dif_pos h, ← elV_inj h.choose_spec]
theorem elR_inv {v : Value} {y : DataW Unit × List MemPlace} (h : elR v = some y) : ∃ x, v = elV x ∧ y = (elD x, []) := by
  unfold elR at h
  split at h
  · rename_i hx
    injection h with h
    exact ⟨hx.choose, hx.choose_spec, h.symm⟩
  · cases h
def In64 (i : Int) : Prop := -9223372036854775808 ≤ i ∧ i ≤ 9223372036854775807
theorem i64_wf {z : Int} (h : In64 z) : (Lit.int .i64 z).wf = true := by
  show (decide (-9223372036854775808 ≤ z) && decide (z ≤ 9223372036854775807)) = true
  simp [h.1, h.2]
theorem lawI : Keyed Tryz.prog 3 := int_keyed Tryz.underlying3
/-- What a map tells, as a function. -/
def Vw (D : DataW Unit) (f : Pgs) : Prop := ∀ i : Int, In64 i → (f i = none ∧ Maps.has D (.int .i64 i) = false) ∨ ∃ x, f i = some x ∧ Maps.has D (.int .i64 i) = true ∧ ∀ z, D.atKey (.int .i64 i) z = elD x
def Mp (w : World) (b n : Nat) (f : Pgs) : Prop := ∃ D, w.ownsMap Tryz.prog 3 elR b n D ∧ Vw D f
theorem Mp.lt {w : World} {b n : Nat} {f : Pgs} (h : Mp w b n f) : b < w.heap.size := by
  obtain ⟨D, h, _⟩ := h
  exact h.lt
theorem Mp.keep {w w' : World} {b n : Nat} {f : Pgs} {r : Option Nat} (h : Mp w b n f) (g : w.grownBy w' r) (hr : some b ≠ r) : Mp w' b n f := by
  obtain ⟨D, h, v⟩ := h
  exact ⟨D, h.kept g hr, v⟩
theorem Mp.keep0 {w w' : World} {b n : Nat} {f : Pgs} (h : Mp w b n f) (g : w.grownBy w' none) : Mp w' b n f := h.keep g (by simp)
theorem Mp.kp {F : Nat → Prop} {w w' : World} {b n : Nat} {f : Pgs} (h : Mp w b n f) (g : D5.Kp F w w') (hf : ¬ F b) : Mp w' b n f := by
  obtain ⟨D, h, v⟩ := h
  exact ⟨D, g.map h hf, v⟩
theorem Mp.mono {w : World} {b n n' : Nat} {f : Pgs} (h : Mp w b n f) (hn : n ≤ n') : Mp w b n' f := by
  obtain ⟨D, h, v⟩ := h
  exact ⟨D, h.mono hn, v⟩
theorem vw_nil : Vw (.map []) (fun _ => none) := fun i _ => .inl ⟨rfl, rfl⟩
theorem Mp.made (w : World) : Mp (w.alloc (.map #[] 0)) w.heap.size 0 (fun _ => none) := ⟨.map [], World.ownsMap_made _ _ _ _, vw_nil⟩
theorem Vw.put {D : DataW Unit} {f : Pgs} (h : Vw D f) (hD : IsMap D) {i : Int} (hi : In64 i) (x : Nat × ByteArray) : Vw (D.put (.int .i64 i) (elD x)) (upd f i x) := by
  intro k hk
  by_cases e : k = i
  · subst e
    exact .inr ⟨x, upd_same .., has_put_same hD (show WideAt.IsKeyLit (.int .i64 k) from trivial) _, fun z => atKey_put_same hD (show WideAt.IsKeyLit (.int .i64 k) from trivial) _ z⟩
  · have hne : (Lit.int .i64 k) ≠ .int .i64 i := by intro h; injection h with _ h; exact e h
    rw [upd_off _ _ e, has_put_other hne]
    rcases h k hk with h1 | ⟨y, h1, h2, h3⟩
    · exact .inl h1
    · exact .inr ⟨y, h1, h2, fun z => by rw [atKey_put_other hne]; exact h3 z⟩
theorem Vw.del {D : DataW Unit} {f : Pgs} (h : Vw D f) (i : Int) : Vw (D.del (.int .i64 i)) (del f i) := by
  intro k hk
  by_cases e : k = i
  · subst e
    exact .inl ⟨del_same .., has_del_same⟩
  · have hne : (Lit.int .i64 k) ≠ .int .i64 i := by intro h; injection h with _ h; exact e h
    rw [del_off _ e, has_del_other hne]
    rcases h k hk with h1 | ⟨y, h1, h2, h3⟩
    · exact .inl h1
    · exact .inr ⟨y, h1, h2, fun z => by rw [atKey_del_other hne]; exact h3 z⟩
/-- A type of maps to such pairs. -/
structure PairT (t e : TypeId) : Prop where
  map : Tryz.prog.underlying t = some (.map 3 e)
  zero : ∀ w, (zeroValue e).run Tryz.prog w = .ok (elV (0, noE)) w
theorem pairW : PairT 72 105 := ⟨by kernel_rfl, fun w => by kernel_rfl⟩
section
variable {w : World} {b n : Nat} {f : Pgs} {t e : TypeId}
theorem key_int {i : Int} (hi : In64 i) : keyOf Tryz.prog 3 (.int .i64 i) = some (.int .i64 i) := keyOf_int_mk Tryz.underlying3 (i64_wf hi)
set_option maxRecDepth 100000 in
theorem Mp.lookYes (h : Mp w b n f) (T : PairT t e) {i : Int} (hi : In64 i) {x : Nat × ByteArray} (hx : f i = some x) : (Instr.lookup t (.map (some b)) (.int .i64 i) true).run Tryz.prog w = .ok (.tuple #[elV x, .bool true]) w := by
  obtain ⟨D, h, v⟩ := h
  obtain ⟨u, ps, hrun, hR⟩ := h.look_ok lawI T.map (T.zero w) (elR_mk _) (key_int hi)
  rcases v i hi with ⟨h1, _⟩ | ⟨y, h1, h2, h3⟩
  · rw [hx] at h1; cases h1
  · rw [hx] at h1
    injection h1 with h1
    subst h1
    rw [h3] at hR
    obtain ⟨z, rfl, hz⟩ := elR_inv hR
    injection hz with hz _
    rw [h2, ← elD_inj hz] at hrun
    exact hrun
set_option maxRecDepth 100000 in
theorem Mp.lookNo (h : Mp w b n f) (T : PairT t e) {i : Int} (hi : In64 i) (hx : f i = none) : (Instr.lookup t (.map (some b)) (.int .i64 i) true).run Tryz.prog w = .ok (.tuple #[elV (0, noE), .bool false]) w := by
  obtain ⟨D, h, v⟩ := h
  obtain ⟨u, ps, hrun, hR⟩ := h.look_ok lawI T.map (T.zero w) (elR_mk _) (key_int hi)
  rcases v i hi with ⟨_, h2⟩ | ⟨y, h1, _⟩
  · rw [atKey_of_not_has h2] at hR
    obtain ⟨z, rfl, hz⟩ := elR_inv hR
    injection hz with hz _
    rw [h2, ← elD_inj hz] at hrun
    exact hrun
  · rw [hx] at h1; cases h1
set_option maxRecDepth 100000 in
theorem Mp.getYes (h : Mp w b n f) (T : PairT t e) {i : Int} (hi : In64 i) {x : Nat × ByteArray} (hx : f i = some x) : (Instr.lookup t (.map (some b)) (.int .i64 i) false).run Tryz.prog w = .ok (elV x) w := by
  obtain ⟨D, h, v⟩ := h
  obtain ⟨u, ps, hrun, hR⟩ := h.lookup lawI T.map (T.zero w) (elR_mk _) (key_int hi)
  rcases v i hi with ⟨h1, _⟩ | ⟨y, h1, h2, h3⟩
  · rw [hx] at h1; cases h1
  · rw [hx] at h1
    injection h1 with h1
    subst h1
    rw [h3] at hR
    obtain ⟨z, rfl, hz⟩ := elR_inv hR
    injection hz with hz _
    rw [← elD_inj hz] at hrun
    exact hrun
theorem Mp.put (h : Mp w b n f) (T : PairT t e) (hn : n < 1000000) {i : Int} (hi : In64 i) (x : Nat × ByteArray) : ∃ w', (Instr.mapUpdate t (.map (some b)) (.int .i64 i) (elV x)).run Tryz.prog w = .ok () w' ∧ Mp w' b (n + 1) (upd f i x) ∧ w.grownBy w' (some b) := by
  obtain ⟨D, h, v⟩ := h
  obtain ⟨w', h1, h2, h3⟩ := h.update lawI T.map (by unfold maxLen; omega) (key_int hi) (elR_mk x)
  exact ⟨w', h1, ⟨_, h2, v.put h.isMap hi x⟩, h3⟩
theorem Mp.drop (h : Mp w b n f) (T : PairT t e) {i : Int} (hi : In64 i) (ty : TypeId) : ∃ w', (Builtin.delete_ #[t, 3] ty #[.map (some b), .int .i64 i]).run Tryz.prog w = .ok (.tuple #[]) w' ∧ Mp w' b n (del f i) ∧ w.grownBy w' (some b) := by
  obtain ⟨D, h, v⟩ := h
  obtain ⟨w', h1, h2, h3⟩ := h.drop lawI T.map (key_int hi) ty
  exact ⟨w', h1, ⟨_, h2, v.del i⟩, h3.grown⟩
theorem wpList_mput {ops : Array Oper} {rest : List Oper} {o : Oper} {a : Act} {Q : Exit → Act → World → Prop} (hg : o.guard = none) (m k v : Operand) (hop : o.op = Op.mapUpdate t m k v)
    (T : PairT t e) (hm : a.eval m = .map (some b)) (h : Mp w b n f) (hn : n < 1000000) (i : Int) (hi : In64 i) (x : Nat × ByteArray) (hk : a.eval k = .int .i64 i) (hv : a.eval v = elV x)
    (hK : ∀ w', Mp w' b (n + 1) (upd f i x) → w.grownBy w' (some b) → wpList Tryz.prog ops Q rest (a.put o.dst undef) w') : wpList Tryz.prog ops Q (o :: rest) a w := by
  obtain ⟨D, h, vw⟩ := h
  exact wpList_mapUpdate_own w hg m k v t hop 3 e lawI T.map elR b n D hm h (by unfold maxLen; omega) _ _ _ hk hv (key_int hi) (elD x) [] (elR_mk x) (fun w' h1 h2 => hK w' ⟨_, h1, vw.put h.isMap hi x⟩ h2)
theorem wpList_mdel {ops : Array Oper} {rest : List Oper} {o : Oper} {a : Act} {Q : Exit → Act → World → Prop} (hg : o.guard = none) (m k : Operand) (hop : o.op = Op.call { callee := Callee.builtin Builtin.delete, args := #[m, k], argTypes := #[t, 3] })
    (T : PairT t e) (hm : a.eval m = .map (some b)) (h : Mp w b n f) (i : Int) (hi : In64 i) (hk : a.eval k = .int .i64 i)
    (hK : ∀ w', Mp w' b n (del f i) → w.grownBy w' (some b) → wpList Tryz.prog ops Q rest (a.put o.dst (.tuple #[])) w') : wpList Tryz.prog ops Q (o :: rest) a w := by
  obtain ⟨D, h, vw⟩ := h
  exact wpList_delete_own w hg m k t 3 hop e lawI T.map elR b n D hm h _ _ hk (key_int hi) (fun w' h1 h2 => hK w' ⟨_, h1, vw.del i⟩ h2.grown)
end
end Go.Proofs.YtliiooldlooagaaGreatDoor.J10
