/-
  What the statements' own 'is' answers: true of nil and a Fault of OK, and of a *api.Fault that is the one asked for; conditions: the variable errors.errorType holds its type's handle, the Fault's block is there.
-/
import Derived.Test.YtfkkdhgggocgjaaDoorRd3
import Derived.Laws.StructEq
namespace Go.Proofs.YtfkkdhgggocgjaaDoor
open Go.RowKit

/-- The variable errors.errorType holds error's handle. -/
def Hd (w : World) : Prop := w.cell? ⟨0, 0, none⟩ = some (.iface 103 (.agg #[.pointer (some ⟨1, 37, none⟩)]))
theorem Hd.lt {w : World} (h : Hd w) : 0 < w.heap.size := World.block_lt_of_cell? w ⟨0, 0, none⟩ h
theorem Hd.keep {w w' : World} {r : Option Nat} (h : Hd w) (g : w.grownBy w' r) (hr : some 0 ≠ r) : Hd w' := g.cell h hr
theorem Hd.keep0 {w w' : World} (h : Hd w) (g : w.grownBy w' none) : Hd w' := g.cell h (by simp)

theorem as_hit2 (e : Addr) (tb : Nat) (old : Value) (w : World) (hg : Hd w) (ht : Blk w tb 67 #[old]) :
    Calls Tryd.prog 34 #[.iface 67 (.pointer (some e)), .iface 69 (.pointer (some ⟨tb, 0, none⟩))] w fun ev w' => ev = .returned (.bool true) ∧ Blk w' tb 67 #[.pointer (some e)] ∧ w.grownBy w' (some tb) := by
  refine (as_hit e ⟨tb, 0, none⟩ old w hg (Blk.cell ht 0 rfl) (Blk.free ht 0)).mono ?_
  rintro ev w' ⟨rfl, rfl⟩
  have g1 := gb_trans (gb_alloc w (.cells #[.pointer (some ⟨tb, 0, none⟩)] 69) none) (gb_trans (gb_alloc _ (.cells #[.pointer (some ⟨1, 69, none⟩), .pointer (some ⟨w.heap.size, 0, none⟩), .int .u64 150] 86) none) (gb_trans (gb_alloc _ (.cells #[.pointer (some ⟨1, 69, none⟩), .pointer (some ⟨w.heap.size, 0, none⟩), .int .u64 150] 86) none) (gb_alloc _ (.cells #[.pointer (some e)] 67) none)))
  exact ⟨rfl, Blk.set (ht.keep0 g1) 0 _, gb_trans (gb_weak g1 _) (gb_set _ _ _ _ _)⟩

theorem Tryd.eqlFault (c p : Int) (w : World) : (binOp .eql 40 (.agg #[.int .i64 c, .int .i64 p]) (.agg #[.int .i64 c, .int .i64 p])).run Tryd.prog w = .ok (.bool true) w := by
  have u3 := Tryd.underlying3
  have a3 := Tryd.isAgg3
  have z3 := Tryd.sizeOf3
  have u4 := Tryd.underlying30
  have a4 := Tryd.isAgg30
  have z4 := Tryd.sizeOf30
  rw [run_eql_struct, show (10000 : Nat) = 9999 + 1 from rfl, run_equalIn_agg w 9999 40 _ _ (by kernel_rfl) (by kernel_rfl)]
  simp only [Program.fieldsOf, Tryd.underlying40]
  go_simp

end Go.Proofs.YtfkkdhgggocgjaaDoor

