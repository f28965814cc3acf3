/-
  What the Reader's take, and the numbers' widths, answer and leave, over this seat's translation; conditions: the Reader's block is there, its place is not behind the text's end, the text is no longer than a machine's numbers tell.
-/
import Derived.Test.YthemolnhncjlmaaDoorRd1
namespace Go.Proofs.YthemolnhncjlmaaDoor
open Go.RowKit

theorem slice_str (P : Program) (t : TypeId) (hu : P.underlying t = some .string) (s : ByteArray) (a b : Nat) (x y : Int) (hx : x = a) (hy : y = b) (h1 : a ≤ b) (h2 : b ≤ s.size) (W : World) :
    (Instr.slice t (.string s) (some (.int .i64 x)) (some (.int .i64 y)) none).run P W = .ok (.string (s.extract a b)) W := by
  subst hx; subst hy
  have := run_slice_string (P := P) W t s .i64 .i64 (a : Int) (b : Int) hu (by omega) (by omega) (by omega)
  simpa using this

end Go.Proofs.YthemolnhncjlmaaDoor

