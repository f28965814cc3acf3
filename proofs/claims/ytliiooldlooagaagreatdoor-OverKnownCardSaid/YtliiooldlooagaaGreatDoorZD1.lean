/-
  Texts of one layer, one behind the other, each with its own sentence; conditions: those that each law states.
-/
import Derived.WalkSpells
import Derived.WalkLawsBesides
import Derived.Maps.AppendAt
import Derived.Laws.MakeOwn
import Derived.RangeFuncBox
import Derived.Test.YtliiooldlooagaaGreatDoorZROOT1
set_option linter.unusedSimpArgs false
set_option linter.unusedVariables false

/-
  What the document's own answer of layer 4 (foyerref04) tells, its small functions, over this seat's translation; conditions: the numbers fit their kinds, the slices read as lists.
-/
namespace Go.Proofs.YtliiooldlooagaaGreatDoor.D5
open Go.RowKit

/-- How many writes count. -/
def manyN (n : Int) : Nat := min n.toNat 4096
theorem manyN_le (n : Int) : manyN n ≤ 4096 := by unfold manyN; omega
theorem ret_i64 {a b : Int} (h : a = b) : Ending.returned (.int .i64 a) = .returned (.int .i64 b) := by rw [h]
theorem bools_at {l : List Bool} {j : Nat} (h : j < l.length) : (bools l)[j]? = some (.bool l[j]) := by simp [bools, h]
theorem Tryz.infoBool : (Tryz.prog.info? 4).map (fun i => (i.zero, i.size, i.bytes)) = some (some (.bool false), 1, 1) := by kernel_rfl
theorem one_bool (b : Bool) : ∀ u ∈ [Value.bool b], u.oneCell' = true := by intro u hu; simp at hu; subst hu; rfl
theorem bools_snoc (l : List Bool) (b : Bool) : bools (l ++ [b]) = bools l ++ [.bool b] := by simp [bools]
end Go.Proofs.YtliiooldlooagaaGreatDoor.D5

/-
  Which writes came, by the document's own answer (foyerref04.Came), and whether a fate may be (May), over this seat's translation; conditions: the numbers fit their kinds, the slices read as lists.
-/
namespace Go.Proofs.YtliiooldlooagaaGreatDoor.D5
open Go.RowKit

/-- The numbers below k of those that came. -/
def cameTo (l : List Bool) (k : Nat) : List Nat := (List.range k).filter fun i => l.getD i false
theorem cameTo_yes {l : List Bool} {k : Nat} (h : l.getD k false = true) : cameTo l (k + 1) = cameTo l k ++ [k] := by
  unfold cameTo
  rw [List.range_succ, List.filter_append, List.filter_cons, if_pos h]
  rfl
theorem cameTo_no {l : List Bool} {k : Nat} (h : l.getD k false = false) : cameTo l (k + 1) = cameTo l k := by
  unfold cameTo
  rw [List.range_succ, List.filter_append, List.filter_cons, if_neg (by rw [h]; decide)]
  simp
theorem cameTo_le (l : List Bool) (k : Nat) : (cameTo l k).length ≤ k := by
  unfold cameTo
  have := List.length_filter_le (fun i => l.getD i false) (List.range k)
  simpa using this
theorem intsC_snoc (l : List Nat) (n : Nat) : intsC (l ++ [n]) = intsC l ++ [.int .i64 (n : Nat)] := by simp [intsC]
theorem Tryz.infoInt : (Tryz.prog.info? 3).map (fun i => (i.zero, i.size, i.bytes)) = some (some (.int .i64 0), 1, 8) := by kernel_rfl
theorem one_int (n : Int) : ∀ u ∈ [Value.int .i64 n], u.oneCell' = true := by intro u hu; simp at hu; subst hu; rfl
def CameGot (w : World) (l : List Bool) (e : Ending) (w' : World) : Prop := ∃ v, e = .returned v ∧ Nts w' v (cameTo l l.length) ∧ w.grownBy w' none
def CameRel (w wr : World) (l : List Bool) (k : Nat) (v3 : Value) : Prop :=
  wr.ownsRow (w.heap.size + 1) 3 1 v3 (cameTo l k).length (intsC (cameTo l k)) ∧ w.grownBy wr none
theorem camerel_form {w wr : World} {l : List Bool} {k : Nat} {v3 : Value} (h : CameRel w wr l k v3) : ∃ ao cap, v3 = .slice ao (cameTo l k).length cap := by
  obtain ⟨ao, cap, rfl, _⟩ := Sl.of_owns h.1
  exact ⟨ao, cap, rfl⟩
end Go.Proofs.YtliiooldlooagaaGreatDoor.D5
