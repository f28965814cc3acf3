/-
  Slices of slices, of cells, of keys, of Kids: what they read as; no conditions beside those that each law states.
-/
import Derived.Test.YthhimhjegodklaaGreatNd
namespace Go.Proofs.YthhimhjegodklaaGreat.N11
set_option linter.unusedSimpArgs false
set_option linter.unusedVariables false
open Go.RowKit
def cutA (ao : Option Addr) (a m k : Nat) : Option Addr := if m = a then ao else ao.map (·.add (a * k))
theorem _root_.Go.Proofs.YthhimhjegodklaaGreat.Sl.cut {k : Nat} {w : World} {ao : Option Addr} {n cap : Nat} {cs : List Value} (h : Sl k w (.slice ao n cap) n cs) {a b m : Nat} (hab : a ≤ b) (hbn : b ≤ n) (hbm : b ≤ m) (hm : m ≤ cap) :
    Sl k w (.slice (cutA ao a m k) (b - a) (m - a)) (b - a) ((cs.drop (a * k)).take ((b - a) * k)) := by
  obtain ⟨ao', cap', e, hc, hl, hnil, hcell⟩ := h
  injection e with e1 e2 e3
  subst e1 e3
  refine ⟨_, _, rfl, by omega, ?_, ?_, ?_⟩
  · rw [List.length_take, List.length_drop, hl, ← Nat.sub_mul]
    exact Nat.min_eq_left (Nat.mul_le_mul_right _ (by omega))
  · intro h
    unfold cutA at h
    split at h
    · omega
    · cases ao with
      | none => have := hnil rfl; omega
      | some a => simp at h
  · intro x hx j u hj
    rw [List.getElem?_take] at hj
    split at hj
    · rename_i hlt
      rw [List.getElem?_drop] at hj
      unfold cutA at hx
      split at hx
      · rename_i hma
        have : b - a = 0 := by omega
        rw [this] at hlt; omega
      · cases ao with
        | none => simp at hx
        | some y =>
          simp at hx
          rw [← hx, addr_add]
          exact hcell y rfl _ _ hj
    · cases hj
theorem ceC_part (l : List Ce) (a b : Nat) : ((ceC l).drop (a * 4)).take ((b - a) * 4) = ceC ((l.drop a).take (b - a)) := by rw [ceC_take, ceC_drop]
theorem strsC_part (l : List ByteArray) (a b : Nat) : ((strsC l).drop (a * 1)).take ((b - a) * 1) = strsC ((l.drop a).take (b - a)) := by simp [strsC, List.map_take, List.map_drop]
theorem inC_part (l : List Int) (a b : Nat) : ((inC l).drop (a * 1)).take ((b - a) * 1) = inC ((l.drop a).take (b - a)) := by simp [inC, List.map_take, List.map_drop]
theorem part_len {α : Type} (l : List α) {a b : Nat} (hb : b ≤ l.length) : ((l.drop a).take (b - a)).length = b - a := by rw [List.length_take, List.length_drop]; omega
theorem und_C : Tryz.prog.underlying 22 = some (.slice (Tryz.prog.elem 22)) := by kernel_rfl
theorem siz_C (W : World) : (sizeOf (Tryz.prog.elem 22)).run Tryz.prog W = .ok 4 W := by kernel_rfl
theorem cut_C {w : World} {ao : Option Addr} {cap : Nat} {l : List Ce} (h : Ces w (.slice ao l.length cap) l) {a b m : Nat} (hab : a ≤ b) (hbn : b ≤ l.length) (hbm : b ≤ m) (hm : m ≤ cap) :
    Ces w (.slice (cutA ao a m 4) (b - a) (m - a)) ((l.drop a).take (b - a)) := by
  have := Sl.cut h hab hbn hbm hm
  rw [ceC_part] at this
  show Sl _ _ _ _ _
  rw [part_len l hbn]; exact this
theorem from_C (ao : Option Addr) (n cap a : Nat) (h : a ≤ n) (W : World) : (Instr.sliceAt 22 (.slice ao n cap) (some (.int .i64 (a : Nat))) none none).run Tryz.prog W = .ok (.slice (cutA ao a cap 4) (n - a) (cap - a)) W := by
  rw [run_sliceAt_slice W _ _ _ _ _ und_C, run_slice_l W _ _ _ _ und_C _ _ (by omega) (by omega), siz_C]
  simp [Result.andThen, sliced, cutA]
theorem upto_C (ao : Option Addr) (n cap b : Nat) (h : b ≤ cap) (W : World) : (Instr.sliceAt 22 (.slice ao n cap) none (some (.int .i64 (b : Nat))) none).run Tryz.prog W = .ok (.slice (cutA ao 0 cap 4) (b - 0) (cap - 0)) W := by
  rw [run_sliceAt_slice W _ _ _ _ _ und_C, run_slice_h W _ _ _ _ und_C _ _ (by omega) (by omega), siz_C]
  simp [Result.andThen, sliced, cutA]
theorem both_C (ao : Option Addr) (n cap a b : Nat) (h : a ≤ b) (h2 : b ≤ cap) (W : World) : (Instr.sliceAt 22 (.slice ao n cap) (some (.int .i64 (a : Nat))) (some (.int .i64 (b : Nat))) none).run Tryz.prog W = .ok (.slice (cutA ao a cap 4) (b - a) (cap - a)) W := by
  rw [run_sliceAt_slice W _ _ _ _ _ und_C, run_slice_lh W _ _ _ _ und_C _ _ _ _ (by omega) (by omega) (by omega), siz_C]
  simp [Result.andThen, sliced, cutA]
theorem three_C (ao : Option Addr) (n cap a : Nat) (h2 : a ≤ cap) (W : World) : (Instr.sliceAt 22 (.slice ao n cap) (some (.int .i64 (a : Nat))) (some (.int .i64 (a : Nat))) (some (.int .i64 (a : Nat)))).run Tryz.prog W = .ok (.slice ao 0 0) W := by
  rw [run_sliceAt_slice W _ _ _ _ _ und_C, run_slice_lhm W _ _ _ _ und_C _ _ _ _ _ _ (by omega) (by omega) (by omega) (by omega), siz_C]
  simp [Result.andThen, sliced]
theorem und_S : Tryz.prog.underlying 23 = some (.slice (Tryz.prog.elem 23)) := by kernel_rfl
theorem siz_S (W : World) : (sizeOf (Tryz.prog.elem 23)).run Tryz.prog W = .ok 1 W := by kernel_rfl
theorem cut_S {w : World} {ao : Option Addr} {cap : Nat} {l : List ByteArray} (h : Sts w (.slice ao l.length cap) l) {a b m : Nat} (hab : a ≤ b) (hbn : b ≤ l.length) (hbm : b ≤ m) (hm : m ≤ cap) :
    Sts w (.slice (cutA ao a m 1) (b - a) (m - a)) ((l.drop a).take (b - a)) := by
  have := Sl.cut h hab hbn hbm hm
  rw [strsC_part] at this
  show Sl _ _ _ _ _
  rw [part_len l hbn]; exact this
theorem from_S (ao : Option Addr) (n cap a : Nat) (h : a ≤ n) (W : World) : (Instr.sliceAt 23 (.slice ao n cap) (some (.int .i64 (a : Nat))) none none).run Tryz.prog W = .ok (.slice (cutA ao a cap 1) (n - a) (cap - a)) W := by
  rw [run_sliceAt_slice W _ _ _ _ _ und_S, run_slice_l W _ _ _ _ und_S _ _ (by omega) (by omega), siz_S]
  simp [Result.andThen, sliced, cutA]
theorem upto_S (ao : Option Addr) (n cap b : Nat) (h : b ≤ cap) (W : World) : (Instr.sliceAt 23 (.slice ao n cap) none (some (.int .i64 (b : Nat))) none).run Tryz.prog W = .ok (.slice (cutA ao 0 cap 1) (b - 0) (cap - 0)) W := by
  rw [run_sliceAt_slice W _ _ _ _ _ und_S, run_slice_h W _ _ _ _ und_S _ _ (by omega) (by omega), siz_S]
  simp [Result.andThen, sliced, cutA]
theorem both_S (ao : Option Addr) (n cap a b : Nat) (h : a ≤ b) (h2 : b ≤ cap) (W : World) : (Instr.sliceAt 23 (.slice ao n cap) (some (.int .i64 (a : Nat))) (some (.int .i64 (b : Nat))) none).run Tryz.prog W = .ok (.slice (cutA ao a cap 1) (b - a) (cap - a)) W := by
  rw [run_sliceAt_slice W _ _ _ _ _ und_S, run_slice_lh W _ _ _ _ und_S _ _ _ _ (by omega) (by omega) (by omega), siz_S]
  simp [Result.andThen, sliced, cutA]
theorem three_S (ao : Option Addr) (n cap a : Nat) (h2 : a ≤ cap) (W : World) : (Instr.sliceAt 23 (.slice ao n cap) (some (.int .i64 (a : Nat))) (some (.int .i64 (a : Nat))) (some (.int .i64 (a : Nat)))).run Tryz.prog W = .ok (.slice ao 0 0) W := by
  rw [run_sliceAt_slice W _ _ _ _ _ und_S, run_slice_lhm W _ _ _ _ und_S _ _ _ _ _ _ (by omega) (by omega) (by omega) (by omega), siz_S]
  simp [Result.andThen, sliced]
theorem und_I : Tryz.prog.underlying 24 = some (.slice (Tryz.prog.elem 24)) := by kernel_rfl
theorem siz_I (W : World) : (sizeOf (Tryz.prog.elem 24)).run Tryz.prog W = .ok 1 W := by kernel_rfl
theorem cut_I {w : World} {ao : Option Addr} {cap : Nat} {l : List Int} (h : Ins w (.slice ao l.length cap) l) {a b m : Nat} (hab : a ≤ b) (hbn : b ≤ l.length) (hbm : b ≤ m) (hm : m ≤ cap) :
    Ins w (.slice (cutA ao a m 1) (b - a) (m - a)) ((l.drop a).take (b - a)) := by
  have := Sl.cut h hab hbn hbm hm
  rw [inC_part] at this
  show Sl _ _ _ _ _
  rw [part_len l hbn]; exact this
theorem from_I (ao : Option Addr) (n cap a : Nat) (h : a ≤ n) (W : World) : (Instr.sliceAt 24 (.slice ao n cap) (some (.int .i64 (a : Nat))) none none).run Tryz.prog W = .ok (.slice (cutA ao a cap 1) (n - a) (cap - a)) W := by
  rw [run_sliceAt_slice W _ _ _ _ _ und_I, run_slice_l W _ _ _ _ und_I _ _ (by omega) (by omega), siz_I]
  simp [Result.andThen, sliced, cutA]
theorem upto_I (ao : Option Addr) (n cap b : Nat) (h : b ≤ cap) (W : World) : (Instr.sliceAt 24 (.slice ao n cap) none (some (.int .i64 (b : Nat))) none).run Tryz.prog W = .ok (.slice (cutA ao 0 cap 1) (b - 0) (cap - 0)) W := by
  rw [run_sliceAt_slice W _ _ _ _ _ und_I, run_slice_h W _ _ _ _ und_I _ _ (by omega) (by omega), siz_I]
  simp [Result.andThen, sliced, cutA]
theorem both_I (ao : Option Addr) (n cap a b : Nat) (h : a ≤ b) (h2 : b ≤ cap) (W : World) : (Instr.sliceAt 24 (.slice ao n cap) (some (.int .i64 (a : Nat))) (some (.int .i64 (b : Nat))) none).run Tryz.prog W = .ok (.slice (cutA ao a cap 1) (b - a) (cap - a)) W := by
  rw [run_sliceAt_slice W _ _ _ _ _ und_I, run_slice_lh W _ _ _ _ und_I _ _ _ _ (by omega) (by omega) (by omega), siz_I]
  simp [Result.andThen, sliced, cutA]
theorem three_I (ao : Option Addr) (n cap a : Nat) (h2 : a ≤ cap) (W : World) : (Instr.sliceAt 24 (.slice ao n cap) (some (.int .i64 (a : Nat))) (some (.int .i64 (a : Nat))) (some (.int .i64 (a : Nat)))).run Tryz.prog W = .ok (.slice ao 0 0) W := by
  rw [run_sliceAt_slice W _ _ _ _ _ und_I, run_slice_lhm W _ _ _ _ und_I _ _ _ _ _ _ (by omega) (by omega) (by omega) (by omega), siz_I]
  simp [Result.andThen, sliced]
end Go.Proofs.YthhimhjegodklaaGreat.N11

