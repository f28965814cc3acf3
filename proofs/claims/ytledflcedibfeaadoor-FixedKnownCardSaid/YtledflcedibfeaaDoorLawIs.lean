/-
  What the statements' own 'is' answers: true of nil and a Fault of OK, and of a *api.Fault that is the one asked for; conditions: the variable errors.errorType holds its type's handle, the Fault's block is there.
-/
import Derived.Test.YtledflcedibfeaaDoorRd3
import Derived.Laws.StructEq
namespace Go.Proofs.YtledflcedibfeaaDoor
open Go.RowKit

/-- The variable errors.errorType holds error's handle. -/
def Hd (w : World) : Prop := w.cell? ⟨0, 0, none⟩ = some (.iface 104 (.agg #[.pointer (some ⟨1, 31, none⟩)]))
theorem Hd.lt {w : World} (h : Hd w) : 0 < w.heap.size := World.block_lt_of_cell? w ⟨0, 0, none⟩ h
theorem Hd.keep {w w' : World} {r : Option Nat} (h : Hd w) (g : w.grownBy w' r) (hr : some 0 ≠ r) : Hd w' := g.cell h hr
theorem Hd.keep0 {w w' : World} (h : Hd w) (g : w.grownBy w' none) : Hd w' := g.cell h (by simp)

theorem as_hit2 (e : Addr) (tb : Nat) (old : Value) (w : World) (hg : Hd w) (ht : Blk w tb 77 #[old]) :
    Calls Tryd.prog 30 #[.iface 77 (.pointer (some e)), .iface 79 (.pointer (some ⟨tb, 0, none⟩))] w fun ev w' => ev = .returned (.bool true) ∧ Blk w' tb 77 #[.pointer (some e)] ∧ w.grownBy w' (some tb) := by
  refine (as_hit e ⟨tb, 0, none⟩ old w hg (Blk.cell ht 0 rfl) (Blk.free ht 0)).mono ?_
  rintro ev w' ⟨rfl, rfl⟩
  have g1 := gb_trans (gb_alloc w (.cells #[.pointer (some ⟨tb, 0, none⟩)] 79) none) (gb_trans (gb_alloc _ (.cells #[.pointer (some ⟨1, 79, none⟩), .pointer (some ⟨w.heap.size, 0, none⟩), .int .u64 150] 92) none) (gb_trans (gb_alloc _ (.cells #[.pointer (some ⟨1, 79, none⟩), .pointer (some ⟨w.heap.size, 0, none⟩), .int .u64 150] 92) none) (gb_alloc _ (.cells #[.pointer (some e)] 77) none)))
  exact ⟨rfl, Blk.set (ht.keep0 g1) 0 _, gb_trans (gb_weak g1 _) (gb_set _ _ _ _ _)⟩

theorem Tryd.eqlFault (c p : Int) (w : World) : (binOp .eql 36 (.agg #[.int .i64 c, .int .i64 p]) (.agg #[.int .i64 c, .int .i64 p])).run Tryd.prog w = .ok (.bool true) w := by
  have u3 := Tryd.underlying3
  have a3 := Tryd.isAgg3
  have z3 := Tryd.sizeOf3
  have u4 := Tryd.underlying34
  have a4 := Tryd.isAgg34
  have z4 := Tryd.sizeOf34
  rw [run_eql_struct, show (10000 : Nat) = 9999 + 1 from rfl, run_equalIn_agg w 9999 36 _ _ (by kernel_rfl) (by kernel_rfl)]
  simp only [Program.fieldsOf, Tryd.underlying36]
  go_simp

theorem law_is_nil (p : Int) (w : World) :
    Calls Tryd.prog 11 #[.nilIface, .agg #[.int .i64 0, .int .i64 p]] w fun e w' => e = .returned (.bool true) ∧ w.grownBy w' none := by
  go_enter Tryd.func11, Tryd.ntmps11
  go_wp2
  go_ret
  exact ⟨rfl, gb_alloc _ _ _⟩

set_option maxHeartbeats 1000000 in
theorem law_is_fault (a : Nat) (c p : Int) (w : World) (hd : Hd w) (hf : Ft w a c p) (hc : (c == 0) = false) :
    Calls Tryd.prog 11 #[.iface 77 (.pointer (some ⟨a, 0, none⟩)), .agg #[.int .i64 c, .int .i64 p]] w fun e w' => e = .returned (.bool true) ∧ w.grownBy w' none := by
  have q := Tryd.eqlFault
  have hl := hf.lt
  go_enter Tryd.func11, Tryd.ntmps11
  go_wp2
  obtain ⟨w0, hw0⟩ : ∃ w0 : World, w0 = (w.alloc (.cells #[.int .i64 c, .int .i64 p] 36)).alloc (.cells #[.pointer none] 77) := ⟨_, rfl⟩
  have g0 : w.grownBy w0 none := by rw [hw0]; exact gb_trans (gb_alloc _ _ _) (gb_alloc _ _ _)
  have d0 := hd.keep0 g0
  have f0 := hf.keep0 g0
  have k0 : Blk w0 w.heap.size 36 #[.int .i64 c, .int .i64 p] := by rw [hw0]; exact (Blk.mk _ _ _).keep0 (gb_alloc _ _ _)
  have t0 : Blk w0 (w.heap.size + 1) 77 #[.pointer none] := by
    rw [hw0]; have := Blk.mk (w.alloc (.cells #[.int .i64 c, .int .i64 p] 36)) 77 #[.pointer none]; simpa using this
  rw [← hw0]
  clear hw0
  have e0 := gb_drew w0 none
  replace d0 := d0.keep0 e0
  replace f0 := f0.keep0 e0
  replace k0 := k0.keep0 e0
  replace t0 := t0.keep0 e0
  replace g0 := gb_trans g0 e0
  clear e0
  go_region_with (first | (go_at_call 30; refine (as_hit2 ⟨a, 0, none⟩ (w.heap.size + 1) (.pointer none) _ d0 t0).mono ?_; rintro e w1 ⟨rfl, t1, g1⟩; have f1 := f0.keep g1 (ne_some (by omega)); have k1 := k0.keep g1 (ne_some (by omega)); have tc := Blk.cell t1 0 rfl; have fc := Blk.cell f1 0 rfl; have fp := Blk.cell f1 1 rfl; have kc := Blk.cell k1 0 rfl; have kp := Blk.cell k1 1 rfl) | (go_at_call 31; refine (is_hit ⟨a, 0, none⟩ c _ fc).mono ?_; rintro e w2 ⟨rfl, rfl⟩))
  all_goals
    go_wp2
    go_ret
    exact ⟨rfl, gb_step g0 g1 (by omega)⟩
end Go.Proofs.YtledflcedibfeaaDoor
