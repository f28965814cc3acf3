/-
  The texts of TableKnown, cut and joined; no conditions.
-/
import Derived.Test.YtfkkdhgggocgjaaDoorTka
namespace Go.Proofs.YtfkkdhgggocgjaaDoor
open Go.RowKit

def kY1 : ByteArray := ⟨Array.replicate 238 0⟩
def kY2 : ByteArray := ⟨Array.replicate 4 0⟩
def kY3 : ByteArray := ⟨Array.replicate 4 0 ++ #[4, 0]⟩
def kY4 : ByteArray := ⟨Array.replicate 234 0⟩
def kY5 : ByteArray := ⟨Array.replicate 2 0⟩
def kY6 : ByteArray := ⟨Array.replicate 2 0 ++ #[255, 255]⟩
def kY7 : ByteArray := ⟨Array.replicate 236 0⟩
theorem ky1 : kZ.extract 0 238 = kY1 ∧ kY1 ++ ⟨#[3, 255]⟩ = kX1 ∧ kY1 ++ ⟨#[0, 1]⟩ = kX3 := by decide +kernel
theorem ky2 : kZ.extract 0 4 = kY2 ∧ kY2 ++ ⟨#[4, 0]⟩ = kY3 ∧ kZ.extract 6 240 = kY4 ∧ kY3 ++ kY4 = kX2 := by decide +kernel
theorem ky3 : kZ.extract 0 2 = kY5 ∧ kY5 ++ ⟨#[255, 255]⟩ = kY6 ∧ kZ.extract 4 240 = kY7 ∧ kY6 ++ kY7 = kX4 := by decide +kernel
theorem kmA : loadF newF 7 kX1 = m1 := rfl
theorem kmB : setF m1 841 9 = m2 := rfl
theorem kmC : loadF m2 7 kZ = m3 := rfl
theorem kmE : setE 841 9 = 0 := by decide
theorem kn2 : (2 : Nat) ≠ 0 := by decide
theorem kn4 : (4 : Nat) ≠ 0 := by decide
theorem kn5 : (5 : Nat) ≠ 0 := by decide
theorem kz0 : kZ.size ≤ 9223372036854775807 := by decide +kernel
theorem kzA : kX1.size ≤ 9223372036854775807 := by decide +kernel
theorem kzB : kX0.size ≤ 9223372036854775807 := by decide +kernel
theorem kzC : kX2.size ≤ 9223372036854775807 := by decide +kernel
theorem kzD : kX3.size ≤ 9223372036854775807 := by decide +kernel
theorem kzE : kX4.size ≤ 9223372036854775807 := by decide +kernel
theorem kzs : kZ.size = 240 ∧ kY1.size = 238 ∧ kY2.size = 4 ∧ kY3.size = 6 ∧ kY4.size = 234 ∧ kY5.size = 2 ∧ kY6.size = 4 ∧ kY7.size = 236 := by decide +kernel
end Go.Proofs.YtfkkdhgggocgjaaDoor

