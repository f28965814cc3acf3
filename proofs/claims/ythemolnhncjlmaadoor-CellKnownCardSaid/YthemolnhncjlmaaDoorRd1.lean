/-
  What the Reader's small calls (New, Place, Left, fault, take) answer and leave, over this seat's translation; conditions: the Reader's block is there with its text and its place, and the place is not behind the text's end.
-/
import Derived.Test.YthemolnhncjlmaaDoorBase
import Derived.Outline
namespace Go.Proofs.YthemolnhncjlmaaDoor
open Go.RowKit

/-- A Fault's block. -/
def Ft (w : World) (b : Nat) (c p : Int) : Prop := Blk w b 51 #[.int .i64 c, .int .i64 p]
theorem Ft.keep0 {w w' : World} {b : Nat} {c p : Int} (h : Ft w b c p) (g : w.grownBy w' none) : Ft w' b c p := Blk.keep0 h g
theorem Ft.keep {w w' : World} {b : Nat} {c p : Int} {r : Option Nat} (h : Ft w b c p) (g : w.grownBy w' r) (hr : some b ≠ r) : Ft w' b c p := Blk.keep h g hr
theorem Ft.lt {w : World} {b : Nat} {c p : Int} (h : Ft w b c p) : b < w.heap.size := Blk.lt h

end Go.Proofs.YthemolnhncjlmaaDoor

