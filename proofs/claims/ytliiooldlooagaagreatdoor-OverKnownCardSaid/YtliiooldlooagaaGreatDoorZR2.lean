/-
  Roots in memory, and the document's own numbers, values and noughts, over this seat's translation; conditions: those that each law states.
-/
import Derived.Laws.MakeOwn
import Derived.Laws.IdiomStrings
import Derived.Laws.Rows
import Derived.Laws.Strings
import Derived.IntWalk
import Derived.Test.YtliiooldlooagaaGreatDoorZR1
import Derived.Test.YtliiooldlooagaaGreatDoorZROOT1
set_option linter.unusedSimpArgs false
set_option linter.unusedVariables false
namespace Go.Proofs.YtliiooldlooagaaGreatDoor.R8
open Go.RowKit

/-- A root's cells. -/
def rootC (r : Rt) : List Value := .int .u64 (r.e : Nat) :: .int .i64 r.n :: r.cs.map (Value.int .i64)
theorem rootC_length (r : Rt) (h : r.cs.length = 8) : (rootC r).length = 10 := by simp [rootC, h]
theorem rootC_chunk (r : Rt) (i : Nat) (h : i < r.cs.length) : (rootC r)[i + 2]? = some (.int .i64 (r.cs.getD i 0)) := by
  simp [rootC, List.getD_eq_getElem?_getD, h]
def RV (r : Rt) : Value := .agg (rootC r).toArray
def RB (W : World) (b : Nat) (r : Rt) : Prop := Blk W b 79 (rootC r).toArray
theorem RB.keep0 {W W' : World} {b : Nat} {r : Rt} (h : RB W b r) (g : W.grownBy W' none) : RB W' b r := Blk.keep0 h g
theorem RB.keepS {W W' : World} {b : Nat} {r : Rt} {q : Option Nat} (h : RB W b r) (g : W.grownBy W' q) (hq : some b ≠ q) : RB W' b r := Blk.keep h g hq
theorem RB.epoch {W : World} {b : Nat} {r : Rt} (h : RB W b r) : W.cell? ⟨b, 0, none⟩ = some (.int .u64 (r.e : Nat)) := Blk.cell h 0 rfl
theorem RB.sectors {W : World} {b : Nat} {r : Rt} (h : RB W b r) : W.cell? ⟨b, 1, none⟩ = some (.int .i64 r.n) := Blk.cell h 1 rfl
theorem RB.chunk {W : World} {b : Nat} {r : Rt} (h : RB W b r) (i : Nat) (hi : i < r.cs.length) : W.cell? ⟨b, i + 2, none⟩ = some (.int .i64 (r.cs.getD i 0)) := Blk.cell h (i + 2) (by rw [List.getElem?_toArray]; exact rootC_chunk r i hi)
theorem RB.load {W : World} {b : Nat} {r : Rt} (h : RB W b r) (hl : r.cs.length = 8) : (loadVar 79 ⟨b, 0, none⟩).run Tryz.prog W = .ok (RV r) W :=
  run_loadVar_row (P := Tryz.prog) W b 79 79 (rootC r).toArray (0, 0) _ h Tryz.underlying79 rfl (by rw [List.size_toArray, rootC_length r hl]; kernel_rfl)
theorem add_at (p o j : Nat) : (⟨p, o, none⟩ : Addr).add j = ⟨p, o + j, none⟩ := by unfold Addr.add; split <;> simp_all

theorem Tryz.infoByte : (Tryz.prog.info? 5).map (fun i => (i.zero, i.size, i.bytes)) = some (some (.int .u8 0), 1, 1) := by kernel_rfl
theorem made_one (v : Value) (n : Nat) (h : v.cells = #[v]) : madeCells v.cells n = (List.replicate n v).toArray := by
  rw [h]; apply Array.toList_inj.1; rw [toList_madeCells_one]
theorem bytes_zero (n : Nat) : bytesC (zer n) = List.replicate n (Value.int .u8 0) := by simp [bytesC, zer]
theorem make_bytes (n : Nat) (z : Int) (w : World) (hz : z = (n : Int)) (hn : n ≤ 100000) : (Instr.makeSlice 59 (.int .i64 z) (.int .i64 z)).run Tryz.prog w = .ok (.slice (some ⟨w.heap.size, 0, none⟩) n n) (w.alloc (.cells (bytesC (zer n)).toArray 5)) := by
  obtain ⟨i0, hi, hz0, hz1, hz2⟩ := info_parts Tryz.infoByte
  subst hz
  have h := run_make (P := Tryz.prog) w 59 5 i0 (.int .u8 0) Tryz.underlying59 hi hz0 .i64 .i64 (n : Int) (n : Int) (by omega) (by omega) (by rw [hz2]; omega) (by omega)
  rw [hz1, Nat.mul_one, Int.toNat_natCast, made_one _ _ rfl, ← bytes_zero] at h
  exact h
theorem bytes_at {l : List UInt8} {j : Nat} (h : j < l.length) : (bytesC l)[j]? = some (.int .u8 ((l.getD j 0).toNat : Nat)) := by simp [bytesC, List.getD_eq_getElem?_getD, h]
/-- A block of bytes, made a text. -/
theorem blk_text {W : World} {b : Nat} {l : List UInt8} (h : Blk W b 5 (bytesC l).toArray) (n cap : Nat) (hn : n = l.length) :
    (convert 59 9 (.slice (some ⟨b, 0, none⟩) n cap)).run Tryz.prog W = .ok (.string ⟨l.toArray⟩) W := by
  subst hn
  exact run_convert_bytes_back W 59 9 5 ⟨b, 0, none⟩ cap l Tryz.underlying59 Tryz.underlying5 Tryz.underlying9 (fun j hj => by
    rw [add_at, Nat.zero_add, h.cell j (by rw [List.getElem?_toArray]; exact bytes_at hj)]
    simp [List.getD_eq_getElem?_getD, hj])
theorem new_text (w : World) (l : List UInt8) (n : Nat) (hn : n = l.length) : (convert 59 9 (.slice (some ⟨w.heap.size, 0, none⟩) n n)).run Tryz.prog (w.alloc (.cells (bytesC l).toArray 5)) = .ok (.string ⟨l.toArray⟩) (w.alloc (.cells (bytesC l).toArray 5)) := blk_text (Blk.mk w _ _) n n hn
theorem text_eq (t : ByteArray) (l : List UInt8) (h : t.data.toList = l) : t = ⟨l.toArray⟩ := by
  apply ByteArray.ext; rw [← h]
theorem ap_list (a b : ByteArray) : (a ++ b).data.toList = a.data.toList ++ b.data.toList := by simp
theorem ex_list (s : ByteArray) (a b : Nat) : (s.extract a b).data.toList = (s.data.toList.take b).drop a := by
  rw [ByteArray.data_extract, Array.toList_extract]
  simp [List.extract_eq_take_drop, List.drop_take]
/-- A text that reads as these bytes. -/
def TextGot (w : World) (l : List UInt8) (e : Ending) (w' : World) : Prop := ∃ t : ByteArray, e = .returned (.string t) ∧ t.data.toList = l ∧ w.grownBy w' none

theorem dg_front (k : Nat) : ∀ n, dg n (k + 1) = UInt8.ofNat (n / 256 ^ k % 256) :: dg n k := by
  induction k with
  | zero => intro n; simp [dg]
  | succ k ih =>
    intro n
    rw [dg, ih (n / 256), Nat.div_div_eq_div_mul, Nat.mul_comm 256, ← Nat.pow_succ]
    rfl
theorem u8_wrap (x : Nat) : IntKind.u8.wrap (x : Int) = ((x % 256 : Nat) : Int) := by rw [IntKind.wrap_u8']; omega
theorem u64_small (a : Nat) (h : a < 18446744073709551616) : IntKind.u64.wrap (a : Int) = (a : Int) := by rw [IntKind.wrap_u64]; omega
theorem take_snocB (s : ByteArray) (k : Nat) (h : k < s.size) : s.data.toList.take (k + 1) = s.data.toList.take k ++ [s[k]] := by
  rw [List.take_succ_eq_append_getElem (by simpa using h)]; rfl
theorem pow_le8 (k : Nat) (h : k ≤ 8) : 256 ^ k ≤ 18446744073709551616 := by
  have h1 : 256 ^ k ≤ 256 ^ 8 := Nat.pow_le_pow_right (by decide) h
  rwa [two8] at h1
/-- A root whose numbers fit. -/
def Fit (r : Rt) : Prop := r.cs.length = 8 ∧ r.e < 18446744073709551616 ∧ (-9223372036854775808 ≤ r.n ∧ r.n ≤ 9223372036854775807) ∧ ∀ i, i < 8 → -9223372036854775808 ≤ r.cs.getD i 0 ∧ r.cs.getD i 0 ≤ 9223372036854775807
def YesNo (w : World) (b : Bool) (e : Ending) (w' : World) : Prop := e = .returned (.bool b) ∧ w.grownBy w' none
theorem not_may {r : Rt} (h : ¬ MayR r) : decide (MayR r) = false := decide_eq_false h
end Go.Proofs.YtliiooldlooagaaGreatDoor.R8
