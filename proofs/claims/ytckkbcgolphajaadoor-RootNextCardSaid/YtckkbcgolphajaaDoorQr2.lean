/-
  A place that came in as an argument: its two numbers; no conditions.
-/
import Derived.Test.YtckkbcgolphajaaDoorQrow
namespace Go.Proofs.YtckkbcgolphajaaDoor
open Go.ChangeShapes Go.WideShapes Go.ChangeMaps Go.RowKit

set_option maxRecDepth 100000 in
theorem open_place {H : Type} {enc : TypeId × Value → H} {W : World} {base : Nat} {v : Value} {d : DataW H} {ps : List MemPlace} (hval : Value.okWide Tryd.prog W .any base 52 v) (h : DataW.Trod enc Tryd.prog W 0 (fun _ => true) true 52 v d ps) :
    ∃ (a b : Nat), v = .agg #[.int .u8 (a : Nat), .int .u16 (b : Nat)] ∧ a < 256 ∧ b < 65536 := by
  obtain ⟨vs, rfl, hsz⟩ := okWide_struct Tryd.underlying52 hval
  obtain ⟨fuel, hf⟩ := h
  obtain ⟨y0, y1, n, _, hl, h0, h1⟩ := trod_struct2 Tryd.underlying52 hf
  obtain ⟨a, he, _, wa⟩ := DataW.trod_int Tryd.underlying5 h0
  obtain ⟨b, hs, _, wb⟩ := DataW.trod_int Tryd.underlying26 h1
  have q4 : Tryd.prog.cellsOf 5 = 1 := by kernel_rfl
  have q2 : Tryd.prog.cellsOf 26 = 1 := by kernel_rfl
  have q5 : Tryd.prog.cellsOf 52 = 2 := by kernel_rfl
  rw [q4] at he
  rw [q2] at hs
  have c0 := one_cell he
  have c1 := one_cell hs
  obtain ⟨a, rfl, ha⟩ := u8_wf a wa
  obtain ⟨b, rfl, hb⟩ := u16_wf b wb
  refine ⟨a, b, ?_, ha, hb⟩
  congr 1
  apply Array.ext_getElem?
  intro i
  have hv : (Value.cells (.agg vs)).toList[i]? = vs[i]? := by simp [Value.cells]
  rw [← hv, List.getElem?_toArray]
  rcases (show i = 0 ∨ i = 1 ∨ 2 ≤ i by omega) with rfl | rfl | hi2
  · exact c0
  · exact c1
  · rw [List.getElem?_eq_none (by rw [hl, q5]; omega), List.getElem?_eq_none (by simpa using hi2)]
end Go.Proofs.YtckkbcgolphajaaDoor
