/-
  FateKnown's facts: what the fates and sectors of the chapter's examples are; reckoned.
-/
import Derived.Test.YtcoegaipojnndaaDoorFl3
namespace Go.Proofs.YtcoegaipojnndaaDoor
open Go.RowKit

theorem k_e1 : putE [] (-1) 0 = 0 := by decide +kernel
theorem k_e2 : putE [] 0 0 = 2 := by decide +kernel
theorem k_e3 : putE [] (-1) 1 = 2 := by decide +kernel
theorem k_e4 : putE [] (-2) 0 = 2 := by decide +kernel
theorem k_e5 : putE [false] 0 0 = 2 := by decide +kernel
theorem k_e6 : putE [true] 1 0 = 2 := by decide +kernel
theorem k_e7 : putE [true] 0 256 = 0 := by decide +kernel
theorem k_e8 : putE [true] 0 257 = 2 := by decide +kernel
theorem k_e9 : putE [true] 0 (-1) = 2 := by decide +kernel
theorem k_e10 : putE (List.replicate 200 true) 127 0 = 0 := by decide +kernel
theorem k_e11 : putE (List.replicate 200 true) 128 0 = 4 := by decide +kernel
theorem k_e12 : putE (List.replicate 4096 false) (-1) 0 = 0 := by decide +kernel
theorem k_e13 : putE (List.replicate 4097 false) (-1) 0 = 4 := by decide +kernel
theorem k_a : (cameF [5, 128, 0, 0] (manyN 3)).getD 0 false = true ∧ tornF [5, 128, 0, 0] (manyN 3) = -1 := by decide +kernel
theorem k_b : tornF [5, 1, 0] (manyN 3) = -1 := by decide +kernel
theorem k_c : tornF [2, 3, 1, 1] (manyN 2) = 1 ∧ atF [2, 3, 1, 1] (manyN 2) = 0 := by decide +kernel
theorem k_d : manyN (-1) = 0 ∧ tornF [255] (manyN (-1)) = -1 := by decide +kernel
theorem k_g : manyN 5000 = 4096 ∧ manyN 9000 = 4096 ∧ manyN 4 = 4 := by decide +kernel
theorem k_h : tornF [0, 0, 0, 9] (manyN 8) = -1 := by decide +kernel
end Go.Proofs.YtcoegaipojnndaaDoor

