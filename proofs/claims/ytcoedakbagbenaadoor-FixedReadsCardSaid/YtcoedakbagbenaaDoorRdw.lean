/-
  FixedReads' walk whatever calls came in, over this seat's translation; condition: the variable errors.errorType holds its type's handle.
-/
import Derived.Test.YtcoedakbagbenaaDoorRds
import Derived.Test.YtcoedakbagbenaaDoorRdn
namespace Go.Proofs.YtcoedakbagbenaaDoor
open Go.RowKit

theorem reads_walk (s : ByteArray) (v : Value) (w : World) (hd : Hd w) (hs : s.size ≤ 9223372036854775807)
    (hv : v = .slice none 0 0 ∨ ∃ (a : Addr) (len cap : Nat) (zs : List Int), v = .slice (some a) len cap ∧ len ≤ 9223372036854775807 ∧ (∀ i, i < len → w.cell? (a.add i) = some (.int .i16 (zs.getD i 0))) ∧ (∀ i, i < len → -32768 ≤ zs.getD i 0 ∧ zs.getD i 0 ≤ 32767)) :
    Calls Tryd.prog 3 #[.string s, v] w fun e w' => e = .returned (.bool true) ∧ w.grownBy w' none := by
  rcases hv with rfl | ⟨a, len, cap, zs, rfl, h1, h2, h3⟩
  · exact reads_none s w hd hs
  · exact reads_some s a len cap zs w hd hs h1 h2 h3
end Go.Proofs.YtcoedakbagbenaaDoor
