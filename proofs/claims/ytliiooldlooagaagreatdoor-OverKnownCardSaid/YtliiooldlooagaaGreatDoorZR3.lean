/-
  What the document's own Put answers, over this seat's translation; conditions: the root's numbers fit.
-/
import Derived.OrdersHeld
import Derived.Deep.RegionHeld3
import Derived.Test.YtliiooldlooagaaGreatDoorZR2
set_option linter.unusedSimpArgs false
set_option linter.unusedVariables false
namespace Go.Proofs.YtliiooldlooagaaGreatDoor.R8
open Go.RowKit

def putC (r : Rt) : Nat := if MayR r then 0 else 2
def putS (r : Rt) : List UInt8 := if MayR r then putL r else []
/-- A text that reads as these bytes, and a number. -/
def PutGot (w : World) (r : Rt) (e : Ending) (w' : World) : Prop := ∃ t : ByteArray, e = .returned (.tuple #[.string t, .int .i64 (putC r : Nat)]) ∧ t.data.toList = putS r ∧ w.grownBy w' none
theorem chunks_snoc (cs : List Int) (i : Nat) (h : i < cs.length) : chunksL (cs.take (i + 1)) = chunksL (cs.take i) ++ dg (cs.getD i 0).toNat 2 := by
  rw [List.take_succ_eq_append_getElem h]
  unfold chunksL
  rw [List.map_append, List.flatten_append, List.getD_eq_getElem?_getD, List.getElem?_eq_getElem h]
  simp
theorem chunks_all (cs : List Int) (h : cs.length = 8) : chunksL (cs.take 8) = chunksL cs := by rw [List.take_of_length_le (by omega)]
theorem root_info (r : Rt) (h : r.cs.length = 8) : (Tryz.prog.info? 79).map (·.size) = some (rootC r).toArray.size := by
  rw [List.size_toArray, rootC_length r h]; kernel_rfl
theorem root_one (r : Rt) : (rootC r).toArray.all (·.oneCell') = true := by
  rw [Array.all_eq_true_iff_forall_mem]
  intro v hv
  simp only [List.mem_toArray, rootC, List.mem_cons] at hv
  rcases hv with rfl | rfl | hv
  · rfl
  · rfl
  · obtain ⟨k, _, rfl⟩ := List.mem_map.1 hv
    rfl
end Go.Proofs.YtliiooldlooagaaGreatDoor.R8
