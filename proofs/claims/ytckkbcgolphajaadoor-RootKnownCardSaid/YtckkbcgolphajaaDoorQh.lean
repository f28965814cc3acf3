/-
  The chapter's examples as plain mathematics: three roots, their sectors, what is spoilt of them, and which counts; no conditions.
-/
import Derived.Test.YtckkbcgolphajaaDoorQo
namespace Go.Proofs.YtckkbcgolphajaaDoor
open Go.RowKit

def f4 : Rt := ⟨4, 1024, [2, 1023, 0, 0, 7, 8, 9, 10]⟩
def f5 : Rt := ⟨5, 64, [63, 0, 0, 0, 0, 0, 0, 0]⟩
def f6 : Rt := ⟨5, 65, [0, 0, 0, 0, 0, 0, 0, 0]⟩
theorem fit_f4 : Fit f4 := ⟨rfl, by decide, by decide, by decide⟩
theorem fit_f5 : Fit f5 := ⟨rfl, by decide, by decide, by decide⟩
theorem fit_f6 : Fit f6 := ⟨rfl, by decide, by decide, by decide⟩
theorem may_f4 : MayR f4 := by decide
theorem may_f5 : MayR f5 := by decide
theorem may_f6 : MayR f6 := by decide
theorem put_f (r : Rt) (h : MayR r) : (putB r).data.toList = putL r := by rw [putB_list]; unfold putS; rw [if_pos h]
theorem put_fs (r : Rt) (h : MayR r) (hl : r.cs.length = 8) : (putB r).size = 256 := by show (putB r).data.size = 256; rw [← Array.length_toList, put_f r h, putL_length r hl]
/-- The roots that may not be. -/
def badR : List Rt := [⟨0, 64, [0, 0, 0, 0, 0, 0, 0, 0]⟩, ⟨1, 63, [0, 0, 0, 0, 0, 0, 0, 0]⟩, ⟨1, 1025, [0, 0, 0, 0, 0, 0, 0, 0]⟩, ⟨1, 64, [1, 0, 0, 0, 0, 0, 0, 0]⟩, ⟨1, 64, [64, 0, 0, 0, 0, 0, 0, 0]⟩, ⟨1, 64, [5, 0, 5, 0, 0, 0, 0, 0]⟩, ⟨1, 64, [0, -1, 0, 0, 0, 0, 0, 0]⟩, ⟨1, -64, [0, 0, 0, 0, 0, 0, 0, 0]⟩]
theorem bad_may (i : Nat) (hi : i < 8) : ¬ MayR (badR.getD i zeroR) := by
  obtain rfl | rfl | rfl | rfl | rfl | rfl | rfl | rfl : i = 0 ∨ i = 1 ∨ i = 2 ∨ i = 3 ∨ i = 4 ∨ i = 5 ∨ i = 6 ∨ i = 7 := by omega
  all_goals decide
theorem bad_fit (i : Nat) (hi : i < 8) : Fit (badR.getD i zeroR) := by
  have key : ∀ i, i < 8 → (badR.getD i zeroR).cs.length = 8 ∧ (badR.getD i zeroR).e < 18446744073709551616 ∧ (-9223372036854775808 ≤ (badR.getD i zeroR).n ∧ (badR.getD i zeroR).n ≤ 9223372036854775807) ∧ ∀ j, j < 8 → -9223372036854775808 ≤ (badR.getD i zeroR).cs.getD j 0 ∧ (badR.getD i zeroR).cs.getD j 0 ≤ 9223372036854775807 := by decide +kernel
  exact key i hi
/-- What a text is read as, where it is no root's. -/
theorem get_five {l : List UInt8} (h : (getF l).2 = 5) : getF l = (zeroR, 5) := by
  rcases get_cases l with h1 | h1 | h1
  · rw [h] at h1; cases h1
  · exact h1
  · rw [h1.1] at h; cases h
theorem mix1 : (getF ((putL f4).take 200 ++ (putL f5).drop 200)).2 = 5 := by decide +kernel
theorem mix2 : (getF ((putL f5).take 100 ++ (putL f4).drop 100)).2 = 5 := by decide +kernel
theorem cut1 : (getF ((putL f4).take 255)).2 = 5 := by decide +kernel
theorem odd1 : (getF ((putL f4).take 100 ++ [120] ++ (putL f4).drop 101)).2 = 5 := by decide +kernel
theorem long1 : (getF (putL f4 ++ [0])).2 = 5 := by decide +kernel
theorem ex1 : (getF [120]).2 = 5 := by decide +kernel
theorem none1 : (getF []).2 = 5 := by decide +kernel
theorem get_f (r : Rt) (h : MayR r) (hl : r.cs.length = 8) (he : r.e < 18446744073709551616) : getF (putL r) = (r, 0) := get_put r h hl he
theorem pick_of {a b : List UInt8} {x y : Rt} {n m : Nat} (ha : getF a = (x, n)) (hb : getF b = (y, m)) : pickF a b = if n = 0 ∧ (m ≠ 0 ∨ y.e ≤ x.e) then (x, 0, 0) else if m = 0 then (y, 1, 0) else if n = 9 ∨ m = 9 then (zeroR, -1, 9) else (zeroR, -1, 29) := by
  unfold pickF
  rw [ha, hb]
/-- The rows: two texts, and what is picked of them. -/
def rowsK (four five same Z cut m1 m2 : ByteArray) : List (ByteArray × ByteArray × Nat × Int × Nat) :=
  [(four, five, 5, 1, 0), (five, four, 5, 0, 0), (five, same, 5, 0, 0), (Z, four, 4, 1, 0), (⟨#[120]⟩, four, 4, 1, 0), (four, cut, 4, 0, 0), (Z, ⟨#[]⟩, 0, -1, 9), (⟨#[]⟩, Z, 0, -1, 9), (⟨#[]⟩, ⟨#[120]⟩, 0, -1, 29), (m1, m2, 0, -1, 29)]
theorem rows_pick {four five same Z cut m1 m2 : ByteArray} (h1 : getF four.data.toList = (f4, 0)) (h2 : getF five.data.toList = (f5, 0)) (h3 : getF same.data.toList = (f6, 0)) (h4 : getF Z.data.toList = (zeroR, 9)) (h5 : getF cut.data.toList = (zeroR, 5)) (h6 : getF m1.data.toList = (zeroR, 5)) (h7 : getF m2.data.toList = (zeroR, 5))
    (i : Nat) (hi : i < 10) : ∃ r : Rt, r.cs.length = 8 ∧ pickF ((rowsK four five same Z cut m1 m2).getD i (⟨#[]⟩, ⟨#[]⟩, 0, 0, 0)).1.data.toList ((rowsK four five same Z cut m1 m2).getD i (⟨#[]⟩, ⟨#[]⟩, 0, 0, 0)).2.1.data.toList = (r, ((rowsK four five same Z cut m1 m2).getD i (⟨#[]⟩, ⟨#[]⟩, 0, 0, 0)).2.2.2.1, ((rowsK four five same Z cut m1 m2).getD i (⟨#[]⟩, ⟨#[]⟩, 0, 0, 0)).2.2.2.2) ∧ r.e = ((rowsK four five same Z cut m1 m2).getD i (⟨#[]⟩, ⟨#[]⟩, 0, 0, 0)).2.2.1 := by
  have hx : getF (⟨#[120]⟩ : ByteArray).data.toList = (zeroR, 5) := get_five ex1
  have hn : getF (⟨#[]⟩ : ByteArray).data.toList = (zeroR, 5) := get_five none1
  obtain rfl | rfl | rfl | rfl | rfl | rfl | rfl | rfl | rfl | rfl : i = 0 ∨ i = 1 ∨ i = 2 ∨ i = 3 ∨ i = 4 ∨ i = 5 ∨ i = 6 ∨ i = 7 ∨ i = 8 ∨ i = 9 := by omega
  · exact ⟨f5, rfl, by show pickF four.data.toList five.data.toList = _; rw [pick_of h1 h2]; rfl, rfl⟩
  · exact ⟨f5, rfl, by show pickF five.data.toList four.data.toList = _; rw [pick_of h2 h1]; rfl, rfl⟩
  · exact ⟨f5, rfl, by show pickF five.data.toList same.data.toList = _; rw [pick_of h2 h3]; rfl, rfl⟩
  · exact ⟨f4, rfl, by show pickF Z.data.toList four.data.toList = _; rw [pick_of h4 h1]; rfl, rfl⟩
  · exact ⟨f4, rfl, by show pickF (⟨#[120]⟩ : ByteArray).data.toList four.data.toList = _; rw [pick_of hx h1]; rfl, rfl⟩
  · exact ⟨f4, rfl, by show pickF four.data.toList cut.data.toList = _; rw [pick_of h1 h5]; rfl, rfl⟩
  · exact ⟨zeroR, rfl, by show pickF Z.data.toList (⟨#[]⟩ : ByteArray).data.toList = _; rw [pick_of h4 hn]; rfl, rfl⟩
  · exact ⟨zeroR, rfl, by show pickF (⟨#[]⟩ : ByteArray).data.toList Z.data.toList = _; rw [pick_of hn h4]; rfl, rfl⟩
  · exact ⟨zeroR, rfl, by show pickF (⟨#[]⟩ : ByteArray).data.toList (⟨#[120]⟩ : ByteArray).data.toList = _; rw [pick_of hn hx]; rfl, rfl⟩
  · exact ⟨zeroR, rfl, by show pickF m1.data.toList m2.data.toList = _; rw [pick_of h6 h7]; rfl, rfl⟩
end Go.Proofs.YtckkbcgolphajaaDoor
