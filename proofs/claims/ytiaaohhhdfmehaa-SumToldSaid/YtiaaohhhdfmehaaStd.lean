/-
  SumTold's walk: for every text, doubled so often, and every number the function returns true; conditions: the text's length is within the reach, the numbers fit.
-/
import Derived.Test.YtiaaohhhdfmehaaSv
namespace Go.Proofs.Ytiaaohhhdfmehaa
open Go.RowKit

set_option maxHeartbeats 1000000 in
theorem told_walk (s : ByteArray) (d : Int) (n : Nat) (w : World) (hs : s.size ≤ 9223372036854775807) (h0 : 0 ≤ d) (h1 : d ≤ 255) (hn : n < 4294967296) :
    Calls Try.prog 3 #[.string s, .int .u8 d, .int .u32 n] w fun e w' => e = .returned (.bool true) ∧ Below w.heap.size w w' := by
  go_enter Try.func3, Try.ntmps3
  go_wp2_with (go_at_call 7; refine (long_any s d _ hs h0 h1).mono ?_; rintro e w' ⟨t, rfl, ht, rfl⟩)
  go_wp2_with (first
    | (go_at_call 8; (with_reducible refine (of_any _ _ (by omega)).mono ?_); rintro e w1 ⟨rfl, hb1⟩)
    | (go_at_call 9; (with_reducible refine (refOf_any _ _ (by omega)).mono ?_); rintro e w1 ⟨rfl, rfl⟩)
    | (go_at_call 10; (with_reducible refine (more_any _ _ _ (by omega) (by omega)).mono ?_); rintro e w1 ⟨rfl, hb1⟩)
    | (go_at_call 11; (with_reducible refine (refMore_any _ _ _ (by omega) (by omega)).mono ?_); rintro e w1 ⟨rfl, rfl⟩)
    | (go_at_call 12; (with_reducible refine (works_any _).mono ?_); rintro e w1 ⟨rfl, hb1⟩))
  go_ret
  exact ⟨rfl, by repeat (first | exact Below.refl _ _ | refine bchain ?_ (by assumption))⟩
end Go.Proofs.Ytiaaohhhdfmehaa
