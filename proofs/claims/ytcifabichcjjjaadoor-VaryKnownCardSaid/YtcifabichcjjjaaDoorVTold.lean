/-
  What the statements' own 'told' answers: true of nil and a Fault of OK, and of a *api.Fault that is the one asked for; conditions: the variable errors.errorType holds its type's handle, the Fault's block is there.
-/
import Derived.Test.YtcifabichcjjjaaDoorVPutA
import Derived.Laws.StructEq
namespace Go.Proofs.YtcifabichcjjjaaDoor
open Go.RowKit

/-- The variable errors.errorType holds error's handle. -/
def Hd (w : World) : Prop := w.cell? ⟨0, 0, none⟩ = some (.iface 114 (.agg #[.pointer (some ⟨2, 41, none⟩)]))
theorem Hd.lt {w : World} (h : Hd w) : 0 < w.heap.size := World.block_lt_of_cell? w ⟨0, 0, none⟩ h
theorem Hd.keep {w w' : World} {r : Option Nat} (h : Hd w) (g : w.grownBy w' r) (hr : some 0 ≠ r) : Hd w' := g.cell h hr
theorem Hd.keep0 {w w' : World} (h : Hd w) (g : w.grownBy w' none) : Hd w' := g.cell h (by simp)

theorem as_hit2 (e : Addr) (tb : Nat) (old : Value) (w : World) (hg : Hd w) (ht : Blk w tb 69 #[old]) :
    Calls Tryd.prog 30 #[.iface 69 (.pointer (some e)), .iface 73 (.pointer (some ⟨tb, 0, none⟩))] w fun ev w' => ev = .returned (.bool true) ∧ Blk w' tb 69 #[.pointer (some e)] ∧ w.grownBy w' (some tb) := by
  refine (as_hit e ⟨tb, 0, none⟩ old w hg (Blk.cell ht 0 rfl) (Blk.free ht 0)).mono ?_
  rintro ev w' ⟨rfl, rfl⟩
  have g1 := gb_trans (gb_alloc w (.cells #[.pointer (some ⟨tb, 0, none⟩)] 73) none) (gb_trans (gb_alloc _ (.cells #[.pointer (some ⟨2, 73, none⟩), .pointer (some ⟨w.heap.size, 0, none⟩), .int .u64 150] 95) none) (gb_trans (gb_alloc _ (.cells #[.pointer (some ⟨2, 73, none⟩), .pointer (some ⟨w.heap.size, 0, none⟩), .int .u64 150] 95) none) (gb_alloc _ (.cells #[.pointer (some e)] 69) none)))
  exact ⟨rfl, Blk.set (ht.keep0 g1) 0 _, gb_trans (gb_weak g1 _) (gb_set _ _ _ _ _)⟩

theorem Tryd.eqlFault (c p : Int) (w : World) : (binOp .eql 45 (.agg #[.int .i64 c, .int .i64 p]) (.agg #[.int .i64 c, .int .i64 p])).run Tryd.prog w = .ok (.bool true) w := by
  have u3 := Tryd.underlying3
  have a3 := Tryd.isAgg3
  have z3 := Tryd.sizeOf3
  have u4 := Tryd.underlying24
  have a4 := Tryd.isAgg24
  have z4 := Tryd.sizeOf24
  rw [run_eql_struct, show (10000 : Nat) = 9999 + 1 from rfl, run_equalIn_agg w 9999 45 _ _ (by kernel_rfl) (by kernel_rfl)]
  simp only [Program.fieldsOf, Tryd.underlying45]
  go_simp

theorem told_nil (p : Int) (w : World) :
    Calls Tryd.prog 17 #[.nilIface, .agg #[.int .i64 0, .int .i64 p]] w fun e w' => e = .returned (.bool true) ∧ w.grownBy w' none := by
  go_enter Tryd.func17, Tryd.ntmps17
  go_wp2
  go_ret
  exact ⟨rfl, gb_alloc _ _ _⟩

set_option maxHeartbeats 1000000 in
theorem told_fault (a c p : Nat) (w : World) (hd : Hd w) (hf : Ft w a c p) (hc : ((c : Int) == 0) = false) :
    Calls Tryd.prog 17 #[.iface 69 (.pointer (some ⟨a, 0, none⟩)), .agg #[.int .i64 c, .int .i64 p]] w fun e w' => e = .returned (.bool true) ∧ w.grownBy w' none := by
  have q := Tryd.eqlFault
  have hl := Blk.lt hf
  go_enter Tryd.func17, Tryd.ntmps17
  go_wp2
  obtain ⟨w0, hw0⟩ : ∃ w0 : World, w0 = (w.alloc (.cells #[.int .i64 c, .int .i64 p] 45)).alloc (.cells #[.pointer none] 69) := ⟨_, rfl⟩
  have g0 : w.grownBy w0 none := by rw [hw0]; exact gb_trans (gb_alloc _ _ _) (gb_alloc _ _ _)
  have d0 := hd.keep0 g0
  have f0 := Blk.keep0 hf g0
  have k0 : Blk w0 w.heap.size 45 #[.int .i64 c, .int .i64 p] := by rw [hw0]; exact (Blk.mk _ _ _).keep0 (gb_alloc _ _ _)
  have t0 : Blk w0 (w.heap.size + 1) 69 #[.pointer none] := by
    rw [hw0]; have := Blk.mk (w.alloc (.cells #[.int .i64 c, .int .i64 p] 45)) 69 #[.pointer none]; simpa using this
  rw [← hw0]
  clear hw0
  have e0 := gb_drew w0 none
  replace d0 := d0.keep0 e0
  replace f0 := f0.keep0 e0
  replace k0 := k0.keep0 e0
  replace t0 := t0.keep0 e0
  replace g0 := gb_trans g0 e0
  clear e0
  go_region_with (first | (go_at_call 30; refine (as_hit2 ⟨a, 0, none⟩ (w.heap.size + 1) (.pointer none) _ d0 t0).mono ?_; rintro e w1 ⟨rfl, t1, g1⟩; have f1 := f0.keep g1 (ne_some (by omega)); have k1 := k0.keep g1 (ne_some (by omega)); have tc := Blk.cell t1 0 rfl; have fc := Blk.cell f1 0 rfl; have fp := Blk.cell f1 1 rfl; have kc := Blk.cell k1 0 rfl; have kp := Blk.cell k1 1 rfl) | (go_at_call 31; refine (is_hit ⟨a, 0, none⟩ c _ fc).mono ?_; rintro e w2 ⟨rfl, rfl⟩))
  all_goals
    go_wp2
    go_ret
    exact ⟨rfl, gb_step g0 g1 (by omega)⟩
end Go.Proofs.YtcifabichcjjjaaDoor
