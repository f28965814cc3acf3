/-
  The rows into which package sum cuts a text: its iterator's contract, over this seat's translation; conditions: the text's length is within the reach.
-/
import Derived.RangeFuncNested
import Derived.RangeFuncBound
import Derived.RangeFuncCalls
import Derived.RangeFuncLeaves
import Derived.RangeFuncBox
import Derived.Shelf.Abstract
import Derived.Shelf.RegionOpen
import Derived.WalkKit
import Derived.OwnWalkIn
import Derived.TacticsInMore
import Derived.LoopNIn
import Derived.LoopIn
import Derived.Test.YthemolnhncjlmaaDoorSf
namespace Go.Proofs.YthemolnhncjlmaaDoor
open Go.RowKit Go.Shelf
attribute [local go_sem] Oper.semAt_some

/-- A row: 4096 bytes at most. -/
abbrev Piece := { x : ByteArray // x.size ≤ 4096 }
def cat (l : List Piece) : List UInt8 := (l.map fun x => x.1.data.toList).flatten
theorem cat_snoc (l : List Piece) (x : Piece) : cat (l ++ [x]) = cat l ++ x.1.data.toList := by simp [cat]
theorem extract_list (s : ByteArray) (a b : Nat) : (s.extract a b).data.toList = (s.data.toList.take b).drop a := by
  simp [ByteArray.extract, ByteArray.copySlice, List.drop_take]
theorem take_more (l : List UInt8) (a b : Nat) (h : a ≤ b) : l.take a ++ (l.take b).drop a = l.take b := by
  have := List.take_append_drop a (l.take b)
  rw [List.take_take, Nat.min_eq_left h] at this
  exact this
/-- A round keeps what this one cell holds. -/
def SameCell (B : Nat) (W W' : World) : Prop := ∀ v, W.cell? ⟨B, 0, none⟩ = some v → W'.cell? ⟨B, 0, none⟩ = some v
theorem same_t {B : Nat} {X Y Z : World} (h : SameCell B X Y) (k : SameCell B Y Z) : SameCell B X Z := fun v hv => k v (h v hv)
theorem same_b {B : Nat} {w : World} (W : World) (l : Nat) (o o' : Obj) (_ : w.heap.size ≤ l) (h : W.heap[l]? = some o) (ho : o.isCells = false) (_ : o.isWalk = false) : SameCell B W (W.putObj l o') :=
  fun _ hv => cell_kept hv (grownBy_putObj' W l o') (fun r e => by cases e; exact ⟨o, h, ho⟩)
set_option maxRecDepth 100000 in
set_option maxHeartbeats 1000000 in
theorem rows1_in (F : Fence) (n : Nat) (h6 : F.fn 51) (hro : F.round = none) (hn : 1 ≤ n) (l Bn : Nat) (s : ByteArray) (hs : s.size ≤ 140737488351232) (J Jx : List Piece → World → Prop)
    (hY : ∀ pre x W, J pre W → pre.length < s.size + 1 → YieldAt F (n - 1) Tryd.prog l #[.string x.1] W fun e W' =>
      (e = .returned (.bool true) ∧ J (pre ++ [x]) W' ∧ SameCell Bn W W') ∨ (e = .returned (.bool false) ∧ Jx (pre ++ [x]) W'))
    (W : World) (hBn : W.cell? ⟨Bn, 0, none⟩ = some (.string s)) (h0 : J [] W) :
    CallsIn F n Tryd.prog 51 #[.func (.yield l) #[] #[], .pointer (some ⟨Bn, 0, none⟩)] W fun e W' => (∃ v, e = .returned v) ∧
      ((∃ ys, cat ys = s.data.toList ∧ J ys W') ∨ (∃ pre, True ∧ Jx pre W')) := by
  refine callsIn_of_wp Tryd.func51 rfl h6 ?_ hro
  simp only [Tryd.ntmps51, List.size_toArray, List.length_cons, List.length_nil, Nat.reduceAdd, Nat.reduceSub, Array.replicate_succ, Array.replicate_zero, List.push_toArray, List.append_toArray, List.nil_append, List.cons_append]
  gi_wp2
  gi_loopw [3] (fun i wr => ∃ (k : Nat) (pre : List Piece), i = .int .i64 (k : Nat) ∧ k = pre.length * 4096 ∧ k ≤ s.size + 4096 ∧ cat pre = s.data.toList.take k ∧ wr.cell? ⟨Bn, 0, none⟩ = some (.string s) ∧ J pre wr)
    (fun i _ => s.size + 8192 - (intOf i).toNat)
  case atStart =>
    exact ⟨0, [], rfl, rfl, by omega, by simp [cat], hBn, h0⟩
  case round =>
    obtain ⟨k, pre, rfl, hk0, hk2, hc0, hcell, hJs⟩ := hrel
    have hkl : pre.length ≤ k := by omega
    have hk := Lib.hid hk0
    have hc := Lib.hid hc0
    clear hk0 hc0
    by_cases hlt : k < s.size
    · by_cases hfit : k + 4096 ≤ s.size
      · obtain ⟨fn, tmps, assign, body, hy, hR⟩ := hY pre ⟨s.extract k (k + 4096), by simp; omega⟩ wr hJs (by omega)
        dsimp only at hy
        gi_wp2
        refine hR.mono ?_
        rintro e W3 (⟨rfl, hJ3, hk3⟩ | ⟨rfl, hJx3⟩)
        · have hcell3 : W3.cell? ⟨Bn, 0, none⟩ = some (.string s) := hk3 _ hcell
          gi_wp2
          go_roundw
          case rel => exact ⟨k + 4096, _, by go_num, by simp only [List.length_append, List.length_cons, List.length_nil]; have := hk.out; omega, by omega, by rw [cat_snoc, hc.out]; exact by rw [extract_list, take_more _ _ _ (by omega)], hcell3, hJ3⟩
          case measure => simp [intOf]; omega
        · gi_wp2
          refine bodyPost_ret (results_none rfl _ _ _) rfl ?_
          exact ⟨⟨_, rfl⟩, .inr ⟨_, trivial, hJx3⟩⟩
      · obtain ⟨fn, tmps, assign, body, hy, hR⟩ := hY pre ⟨s.extract k (s.size), by simp; omega⟩ wr hJs (by omega)
        dsimp only at hy
        gi_wp2
        refine hR.mono ?_
        rintro e W3 (⟨rfl, hJ3, hk3⟩ | ⟨rfl, hJx3⟩)
        · have hcell3 : W3.cell? ⟨Bn, 0, none⟩ = some (.string s) := hk3 _ hcell
          gi_wp2
          go_roundw
          case rel => exact ⟨k + 4096, _, by go_num, by simp only [List.length_append, List.length_cons, List.length_nil]; have := hk.out; omega, by omega, by rw [cat_snoc, hc.out]; exact by rw [extract_list, take_more _ _ _ (by omega), List.take_of_length_le (by simp), List.take_of_length_le (by simp; omega)], hcell3, hJ3⟩
          case measure => simp [intOf]; omega
        · gi_wp2
          refine bodyPost_ret (results_none rfl _ _ _) rfl ?_
          exact ⟨⟨_, rfl⟩, .inr ⟨_, trivial, hJx3⟩⟩
    · gi_wp2
      go_end0
      exact ⟨⟨_, rfl⟩, .inl ⟨pre, by rw [hc.out]; exact List.take_of_length_le (by simp; omega), hJs⟩⟩

/-- What the closure hands over: all rows in their order; or a beginning of them. -/
theorem rows_stops (F : Fence) (n : Nat) (h6 : F.fn 51) (hro : F.round = none) (hn : 1 ≤ n) (Bn : Nat) (s : ByteArray) (hs : s.size ≤ 140737488351232) (w : World) (hBn : Bn < w.heap.size)
    (hc : w.cell? ⟨Bn, 0, none⟩ = some (.string s)) :
    SeqStopsK F n Tryd.prog 51 #[.pointer (some ⟨Bn, 0, none⟩)] (fun x : Piece => #[Value.string x.1]) (SameCell Bn) (fun ys => cat ys = s.data.toList) (fun _ => True) (s.size + 1) w := fun l J Jx W hW _ _ hY h0 =>
  rows1_in F n h6 hro hn l Bn s hs J Jx hY W ((hW.cell (p := ⟨Bn, 0, none⟩) hBn).trans hc) h0
end Go.Proofs.YthemolnhncjlmaaDoor

