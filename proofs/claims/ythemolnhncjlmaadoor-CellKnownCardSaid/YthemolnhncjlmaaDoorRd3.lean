/-
  What the Reader's Text and End answer and leave, over this seat's translation; conditions: the Reader's block is there (or the Reader is nil), its place is not behind the text's end, the text is no longer than a machine's numbers tell.
-/
import Derived.Test.YthemolnhncjlmaaDoorNx
namespace Go.Proofs.YthemolnhncjlmaaDoor
open Go.RowKit

/-- A value beside a new Fault; nothing that was there has turned. -/
def Faulted (w : World) (v : Value) (c p : Int) (e : Ending) (w' : World) : Prop :=
  ∃ a : Nat, e = .returned (.tuple #[v, .iface 66 (.pointer (some ⟨a, 0, none⟩))]) ∧ w.heap.size ≤ a ∧ Ft w' a c p ∧ w.grownBy w' none

end Go.Proofs.YthemolnhncjlmaaDoor

