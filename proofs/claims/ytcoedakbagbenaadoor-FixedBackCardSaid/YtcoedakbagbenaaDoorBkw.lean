/-
  FixedBack's walk whatever things came in, over this seat's translation; condition: the variable errors.errorType holds its type's handle.
-/
import Derived.Test.YtcoedakbagbenaaDoorBk
import Derived.Test.YtcoedakbagbenaaDoorBn
namespace Go.Proofs.YtcoedakbagbenaaDoor
open Go.RowKit

theorem back_any (v : Value) (cut : Nat) (w : World) (hd : Hd w) (hc : cut < 65536)
    (hv : v = .slice none 0 0 ∨ ∃ (a : Addr) (len cap : Nat) (wd nn : Nat → Nat) (ss : Nat → ByteArray), v = .slice (some a) len cap ∧ len ≤ cap ∧ cap ≤ 9223372036854775807 ∧
      (∀ i, i < len → w.cell? (a.add (i * 3)) = some (.int .u8 (wd i)) ∧ w.cell? ⟨(a.add (i * 3)).block, (a.add (i * 3)).off + 1, none⟩ = some (.int .u64 (nn i)) ∧ w.cell? ⟨(a.add (i * 3)).block, (a.add (i * 3)).off + 2, none⟩ = some (.string (ss i))) ∧
      (∀ i, i < len → wd i < 256 ∧ nn i < 18446744073709551616 ∧ (ss i).size ≤ 9223372036854775807)) :
    Calls Tryd.prog 5 #[v, .int .u16 cut] w fun e w' => e = .returned (.bool true) ∧ w.grownBy w' none := by
  rcases hv with rfl | ⟨a, len, cap, wd, nn, ss, rfl, h1, h2, h3, h4⟩
  · exact back_walk none ⟨0, 0, none⟩ 0 0 (fun _ => 0) (fun _ => 0) (fun _ => ⟨#[]⟩) cut w hd (fun h => by omega) (by omega) (by omega) hc (fun i h => by omega) (fun i h => by omega)
  · exact back_walk (some a) a len cap wd nn ss cut w hd (fun _ => rfl) h1 h2 hc h3 h4
end Go.Proofs.YtcoedakbagbenaaDoor
