/-
  Texts of one layer, one behind the other, each with its own sentence; conditions: those that each law states.
-/
import Derived.Deep.RegionHeld3
import Derived.Deep.AppendLies
import Derived.Deep.DeepCutAuto
import Derived.IntWalk
import Derived.Outline
import Derived.Laws.MakeOwn
import Derived.Laws.OwnMore
import Derived.Test.YtliiooldlooagaaGreatDoorZD1
set_option linter.unusedSimpArgs false
set_option linter.unusedVariables false

/-
  Which fate choices tell, by the document's own answer (foyerref04.Read), over this seat's translation; conditions: the numbers fit their kinds, the slice reads as a list of bytes.
-/
namespace Go.Proofs.YtliiooldlooagaaGreatDoor.D5
open Go.RowKit

/-- Did the i-th write come, by these choices? -/
def wentB (cs : List UInt8) (i : Nat) : Bool := decide (i / 8 < cs.length) && decide ((cs.getD (i / 8) 0).toNat / 2 ^ (i % 8) % 2 = 1)
def cameF (cs : List UInt8) (n : Nat) : List Bool := (List.range n).map (wentB cs)
theorem cameF_succ (cs : List UInt8) (n : Nat) : cameF cs (n + 1) = cameF cs n ++ [wentB cs n] := by simp [cameF, List.range_succ]
theorem cameF_length (cs : List UInt8) (n : Nat) : (cameF cs n).length = n := by simp [cameF]
/-- Is one of them torn? -/
def tornB (cs : List UInt8) (n : Nat) : Bool := decide ((n + 7) / 8 + 3 ≤ cs.length) && (decide ((cs.getD ((n + 7) / 8) 0).toNat < 128) && decide (0 < (cameTo (cameF cs n) n).length))
def tornF (cs : List UInt8) (n : Nat) : Int := if tornB cs n = true then (((cameTo (cameF cs n) n).getD ((cs.getD ((n + 7) / 8) 0).toNat % (cameTo (cameF cs n) n).length) 0 : Nat) : Int) else -1
def atF (cs : List UInt8) (n : Nat) : Int := if tornB cs n = true then (((256 * (cs.getD ((n + 7) / 8 + 1) 0).toNat + (cs.getD ((n + 7) / 8 + 2) 0).toNat) % 257 : Nat) : Int) else 0
theorem bytes_at {l : List UInt8} {j : Nat} (h : j < l.length) : (bytesC l)[j]? = some (.int .u8 ((l.getD j 0).toNat : Nat)) := by simp [bytesC, h, List.getD]

theorem ints_at {l : List Nat} {j : Nat} (h : j < l.length) : (intsC l)[j]? = some (.int .i64 (l.getD j 0 : Nat)) := by simp [intsC, h, List.getD]

end Go.Proofs.YtliiooldlooagaaGreatDoor.D5

/-
  The small functions of package fate: isSet, sizeFor, blank, over this seat's translation; conditions: the table of masks reads as the program lays it, the numbers fit their kinds, the slices read as lists.
-/
namespace Go.Proofs.YtliiooldlooagaaGreatDoor.D5
open Go.RowKit

/-- The table of masks, as the program lays it. -/
def Masks (w : World) : Prop := ∀ k : Nat, k < 8 → w.cell? ⟨0, k, none⟩ = some (.int .u8 ((2 ^ k : Nat) : Int))
theorem Masks.keep0 {w w' : World} (h : Masks w) (g : w.grownBy w' none) : Masks w' := fun k hk => g.cell (h k hk) (by simp)
theorem bits_and : ∀ c : Fin 256, ∀ r : Fin 8, (bits BinOp.and IntKind.u8 (c.val : Int) (2 ^ r.val) != 0) = decide (c.val / 2 ^ r.val % 2 = 1) := by decide +kernel
theorem made_one (v : Value) (n : Nat) (h : v.cells = #[v]) : madeCells v.cells n = (List.replicate n v).toArray := by
  rw [h]; apply Array.toList_inj.1; rw [toList_madeCells_one]
theorem bools_false (n : Nat) : bools (List.replicate n false) = List.replicate n (Value.bool false) := by simp [bools]
theorem make_bools (n : Nat) (z : Int) (w : World) (hz : z = (n : Int)) (hn : n ≤ 100000) : (Instr.makeSlice 163 (.int .i64 z) (.int .i64 z)).run Tryz.prog w = .ok (.slice (some ⟨w.heap.size, 0, none⟩) n n) (w.alloc (.cells (bools (List.replicate n false)).toArray 4)) := by
  obtain ⟨i0, hi, hz0, hz1, hz2⟩ := info_parts Tryz.infoBool
  subst hz
  have h := run_make (P := Tryz.prog) w 163 4 i0 (.bool false) Tryz.underlying163 hi hz0 .i64 .i64 (n : Int) (n : Int) (by omega) (by omega) (by rw [hz2]; omega) (by omega)
  rw [hz1, Nat.mul_one, Int.toNat_natCast, made_one _ _ rfl, ← bools_false] at h
  exact h
theorem Tryz.infoByte : (Tryz.prog.info? 5).map (fun i => (i.zero, i.size, i.bytes)) = some (some (.int .u8 0), 1, 1) := by kernel_rfl
theorem bytes_zero (n : Nat) : bytesC (List.replicate n 0) = List.replicate n (Value.int .u8 0) := by simp [bytesC]
theorem make_bytes (n : Nat) (z : Int) (w : World) (hz : z = (n : Int)) (hn : n ≤ 100000) : (Instr.makeSlice 59 (.int .i64 z) (.int .i64 z)).run Tryz.prog w = .ok (.slice (some ⟨w.heap.size, 0, none⟩) n n) (w.alloc (.cells (bytesC (List.replicate n 0)).toArray 5)) := by
  obtain ⟨i0, hi, hz0, hz1, hz2⟩ := info_parts Tryz.infoByte
  subst hz
  have h := run_make (P := Tryz.prog) w 59 5 i0 (.int .u8 0) Tryz.underlying59 hi hz0 .i64 .i64 (n : Int) (n : Int) (by omega) (by omega) (by rw [hz2]; omega) (by omega)
  rw [hz1, Nat.mul_one, Int.toNat_natCast, made_one _ _ rfl, ← bytes_zero] at h
  exact h
/-- A fate by which no write came, new, its list its own block. -/
def BlankGot (w : World) (N : Nat) (e : Ending) (w' : World) : Prop :=
  ∃ b, e = .returned (.agg #[.slice (some ⟨b, 0, none⟩) N N, .int .i64 (-1), .int .i64 0]) ∧ w.heap.size ≤ b ∧ Blk w' b 4 (bools (List.replicate N false)).toArray ∧ w.grownBy w' none
end Go.Proofs.YtliiooldlooagaaGreatDoor.D5
