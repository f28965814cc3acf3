/-
  What the statements' own 'is' answers: true of nil and a Fault of OK, and of a *api.Fault that is the one asked for; conditions: the variable errors.errorType holds its type's handle, the Fault's block is there.
-/
import Derived.Test.YthhimhjegodklaaGreatRd3
import Derived.Laws.StructEq
namespace Go.Proofs.YthhimhjegodklaaGreat
open Go.RowKit

theorem Tryz.eqlFault (c p : Int) (w : World) : (binOp .eql 80 (.agg #[.int .i64 c, .int .i64 p]) (.agg #[.int .i64 c, .int .i64 p])).run Tryz.prog w = .ok (.bool true) w := by
  have u3 := Tryz.underlying3
  have a3 := Tryz.isAgg3
  have z3 := Tryz.sizeOf3
  have u4 := Tryz.underlying40
  have a4 := Tryz.isAgg40
  have z4 := Tryz.sizeOf40
  rw [run_eql_struct, show (10000 : Nat) = 9999 + 1 from rfl, run_equalIn_agg w 9999 80 _ _ (by kernel_rfl) (by kernel_rfl)]
  simp only [Program.fieldsOf, Tryz.underlying80]
  go_simp

end Go.Proofs.YthhimhjegodklaaGreat

