/-
  What the document's own answer of layer 4 (foyerref04) tells, its small functions, over this seat's translation; conditions: the numbers fit their kinds, the slices read as lists.
-/
import Derived.Test.YtcoegaipojnndaaDoorGb
import Derived.WalkSpells
import Derived.WalkLawsBesides
import Derived.Maps.AppendAt
import Derived.Laws.MakeOwn
import Derived.RangeFuncBox
namespace Go.Proofs.YtcoegaipojnndaaDoor
open Go.RowKit

/-- How many writes count. -/
def manyN (n : Int) : Nat := min n.toNat 4096
theorem manyN_le (n : Int) : manyN n ≤ 4096 := by unfold manyN; omega
theorem ret_i64 {a b : Int} (h : a = b) : Ending.returned (.int .i64 a) = .returned (.int .i64 b) := by rw [h]
theorem many_any (n : Int) (w : World) (h1 : -9223372036854775808 ≤ n) (h2 : n ≤ 9223372036854775807) :
    Calls Tryd.prog 61 #[.int .i64 n] w fun e w' => e = .returned (.int .i64 (manyN n : Nat)) ∧ w = w' := by
  rcases Int.lt_or_le n 0 with h | h
  · go_enter Tryd.func61, Tryd.ntmps61
    go_wp2
    go_ret
    exact ⟨ret_i64 (by unfold manyN; omega), rfl⟩
  · rcases Int.lt_or_le 4096 n with h3 | h3
    · go_enter Tryd.func61, Tryd.ntmps61
      go_wp2
      go_ret
      exact ⟨ret_i64 (by unfold manyN; omega), rfl⟩
    · by_cases h0 : n = 0
      · subst h0
        go_enter Tryd.func61, Tryd.ntmps61
        go_wp2
        go_ret
        exact ⟨rfl, rfl⟩
      · have h4 : 0 < n := by omega
        go_enter Tryd.func61, Tryd.ntmps61
        go_wp2
        go_ret
        exact ⟨ret_i64 (by unfold manyN; omega), rfl⟩

theorem bools_at {l : List Bool} {j : Nat} (h : j < l.length) : (bools l)[j]? = some (.bool l[j]) := by simp [bools, h]
theorem Tryd.infoBool : (Tryd.prog.info? 4).map (fun i => (i.zero, i.size, i.bytes)) = some (some (.bool false), 1, 1) := by kernel_rfl
theorem one_bool (b : Bool) : ∀ u ∈ [Value.bool b], u.oneCell' = true := by intro u hu; simp at hu; subst hu; rfl
theorem bools_snoc (l : List Bool) (b : Bool) : bools (l ++ [b]) = bools l ++ [.bool b] := by simp [bools]
/-- A fate that is being made: its box, and the row that its Came owns. -/
def Making (w wr : World) (fb rb : Nat) (came : List Bool) (torn at_ : Int) : Prop :=
  ∃ v, Blk wr fb 25 #[v, .int .i64 torn, .int .i64 at_] ∧ Blk wr rb 25 #[.slice none 0 0, .int .i64 0, .int .i64 0] ∧ wr.ownsRow (w.heap.size + 2) 4 1 v came.length (bools came) ∧ w.grownBy wr none
theorem making_form {w wr : World} {fb rb : Nat} {came : List Bool} {torn at_ : Int} (h : Making w wr fb rb came torn at_) : ∃ ao cap, Blk wr fb 25 #[.slice ao came.length cap, .int .i64 torn, .int .i64 at_] ∧ Blk wr rb 25 #[.slice none 0 0, .int .i64 0, .int .i64 0] ∧ wr.ownsRow (w.heap.size + 2) 4 1 (.slice ao came.length cap) came.length (bools came) ∧ w.grownBy wr none := by
  obtain ⟨v, h1, h2, h3, h4⟩ := h
  obtain ⟨ao, cap, rfl, _⟩ := Sl.of_owns h3
  exact ⟨ao, cap, h1, h2, h3, h4⟩
end Go.Proofs.YtcoegaipojnndaaDoor

