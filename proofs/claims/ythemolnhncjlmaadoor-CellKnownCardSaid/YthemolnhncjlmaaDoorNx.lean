/-
  What the Reader's numbers of the widths 1, 2, 4, 8 answer and leave, over this seat's translation; conditions: the Reader's block is there (or the Reader is nil), its place is not behind the text's end, the text is no longer than a machine's numbers tell.
-/
import Derived.Test.YthemolnhncjlmaaDoorRd2
import Derived.Test.YthemolnhncjlmaaDoorNum
import Derived.Test.YthemolnhncjlmaaDoorShelf
namespace Go.Proofs.YthemolnhncjlmaaDoor
open Go.RowKit

theorem width8 (w : World) : Calls Tryd.prog 52 #[] w fun e w' => e = .returned (.int .i64 1) ∧ w = w' := by
  go_enter Tryd.func52, Tryd.ntmps52
  go_wp2_with (go_at_call 56; refine (Tryd.bits_Len64 255 _ (by omega) (by omega)).mono ?_; rw [show Lib.bitLen (255 : Int).toNat = 8 from by decide]; rintro e w' ⟨rfl, rfl⟩)
  go_ret
  exact ⟨rfl, rfl⟩
theorem width32 (w : World) : Calls Tryd.prog 53 #[] w fun e w' => e = .returned (.int .i64 4) ∧ w = w' := by
  go_enter Tryd.func53, Tryd.ntmps53
  go_wp2_with (go_at_call 56; refine (Tryd.bits_Len64 4294967295 _ (by omega) (by omega)).mono ?_; rw [show Lib.bitLen (4294967295 : Int).toNat = 32 from by decide]; rintro e w' ⟨rfl, rfl⟩)
  go_ret
  exact ⟨rfl, rfl⟩
end Go.Proofs.YthemolnhncjlmaaDoor

