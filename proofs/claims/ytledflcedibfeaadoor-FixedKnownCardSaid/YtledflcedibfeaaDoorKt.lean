/-
  Three small laws that FixedKnown's walk wants, over this seat's translation: a slice of bytes converted to its own type, a text with one byte more; condition: the text has at most 255 bytes.
-/
import Derived.Test.YtledflcedibfeaaDoorWorks
import Derived.Lib.SlBytesConst
import Derived.Lib.SmallJoins
namespace Go.Proofs.YtledflcedibfeaaDoor
open Go.RowKit

theorem kn_same (W : World) (C : Array Value) (n c : Nat) : (convert 49 49 (.slice (some ⟨W.heap.size, 0, none⟩) n c)).run Tryd.prog (W.alloc (.cells C 5)) = .ok (.slice (some ⟨W.heap.size, 0, none⟩) n c) (W.alloc (.cells C 5 (C.size, C.size + 1))) :=
  Lib.run_convert_bytes_const W 49 5 C n c Tryd.underlying49 Tryd.underlying5
theorem kn_add (S : ByteArray) (h : S.size ≤ 255) (W : World) : (binOp .add 9 (.string S) (.string ⟨#[120]⟩)).run Tryd.prog W = .ok (.string (S ++ ⟨#[120]⟩)) W := by
  have h2 : S.size + 1 ≤ 9223372036854775807 := by omega
  go_simp
theorem kn_size (S : ByteArray) (h : 255 ≤ S.size) : 255 < (S ++ (⟨#[120]⟩ : ByteArray)).size := by
  have h1 : (⟨#[120]⟩ : ByteArray).size = 1 := rfl
  rw [ByteArray.size_append, h1]; omega
theorem kn_bsm (w : World) (fr : Nat × Nat) : Bs (w.alloc (.cells #[.int .u8 113] 5 fr)) (.slice (some ⟨w.heap.size, 0, none⟩) 1 1) [113] := by
  refine ⟨some ⟨w.heap.size, 0, none⟩, 1, rfl, by decide, (fun e => by cases e), ?_⟩
  intro a e j u hj
  cases e
  rw [Addr.add_lit, Nat.zero_add, World.cell?_alloc_mark]
  simpa [bcells] using hj
end Go.Proofs.YtledflcedibfeaaDoor
