/-
  The statements' own helper that makes writes, over this seat's translation; conditions: the slice reads as a list.
-/
import Derived.Test.YtcoegaipojnndaaDoorFl1
namespace Go.Proofs.YtcoegaipojnndaaDoor
open Go.RowKit

abbrev Lay := UInt8 × UInt8 × UInt8
def layC (l : List Lay) : List Value := l.flatMap fun x => [.int .u8 (x.1.toNat : Nat), .int .u8 (x.2.1.toNat : Nat), .int .u8 (x.2.2.toNat : Nat)]
def Lys (w : World) (v : Value) (l : List Lay) : Prop := Sl 3 w v l.length (layC l)
theorem layC_length (l : List Lay) : (layC l).length = l.length * 3 := by
  induction l with
  | nil => rfl
  | cons x l ih => show (layC l).length + 3 = _; rw [ih, List.length_cons]; omega
theorem layC_at (l : List Lay) (i : Nat) (x : Lay) (h : l[i]? = some x) : (layC l)[i * 3]? = some (.int .u8 (x.1.toNat : Nat)) ∧ (layC l)[i * 3 + 1]? = some (.int .u8 (x.2.1.toNat : Nat)) ∧ (layC l)[i * 3 + 2]? = some (.int .u8 (x.2.2.toNat : Nat)) := by
  induction l generalizing i with
  | nil => simp at h
  | cons y l ih =>
    cases i with
    | zero =>
      obtain rfl : y = x := by simpa using h
      exact ⟨rfl, rfl, rfl⟩
    | succ i =>
      have := ih i (by simpa using h)
      rw [show (i + 1) * 3 = i * 3 + 3 by omega]
      exact this
/-- The write that is drawn so. -/
def dataW (y z : UInt8) : ByteArray := if 250 < z.toNat then (secS y).extract 0 (256 - (z.toNat - 250)) else secS y
def layW (x : Lay) : Int × ByteArray := (((x.1.toNat % 10 : Nat) : Int) - 1, dataW x.2.1 x.2.2)
def wrsF (l : List Lay) : List (Int × ByteArray) := (l.take 20).map layW
theorem wrsF_length (l : List Lay) : (wrsF l).length = min 20 l.length := by simp [wrsF]
theorem wrC_snoc (l : List (Int × ByteArray)) (x : Int × ByteArray) : wrC (l ++ [x]) = wrC l ++ [.int .i64 x.1, .string x.2] := by simp [wrC]
theorem wts_of_owns {w : World} {base N : Nat} {v : Value} {R : List (Int × ByteArray)} (own : w.ownsRow base 35 2 v N (wrC R)) (h : R.length = N) : Wts w v R := by
  subst h; exact Sl.of_owns own
theorem Tryd.infoWr : (Tryd.prog.info? 35).map (fun i => (i.zero, i.size, i.bytes)) = some (some (.agg #[.int .i64 0, .string ⟨#[]⟩]), 2, 24) := by kernel_rfl
theorem cells2_new (w : World) (x y : Value) (t : TypeId) : ∀ j u, [x, y][j]? = some u → (w.alloc (.cells #[x, y] t)).cell? ((⟨w.heap.size, 0, none⟩ : Addr).add j) = some u := by
  intro j u hj
  rw [add_lit]
  exact (Blk.mk w t #[x, y]).cell j (by rw [List.getElem?_toArray]; exact hj)
theorem one_wr (k : Int) (s : ByteArray) : ∀ u ∈ [Value.int .i64 k, .string s], u.oneCell' = true := by
  intro u hu; simp at hu; rcases hu with rfl | rfl <;> rfl
def WritesGot (w : World) (l : List Lay) (e : Ending) (w' : World) : Prop := ∃ v, e = .returned v ∧ Wts w' v (wrsF l) ∧ w.grownBy w' none
end Go.Proofs.YtcoegaipojnndaaDoor

