/-
  Plain mathematics for this seat: the number whose digits to the base 256 are given bytes, the bytes of a number, and how the model's shifts and ors reckon them; conditions: the numbers' bounds that each law states.
-/
import Derived.WalkKit
import Derived.Lib.Hide
set_option linter.unusedSimpArgs false
set_option linter.unusedVariables false
namespace Go.Proofs.YtliiooldlooagaaGreatDoor
open Go.RowKit

/-- The number whose digits to the base 256 are these bytes, the highest first. -/
def nat8 (l : List UInt8) : Nat := l.foldl (fun n c => n * 256 + c.toNat) 0
/-- The number that so many bytes of s make, from p on. -/
def valAt (s : ByteArray) (p k : Nat) : Nat := nat8 ((s.data.toList.drop p).take k)

theorem nat8_snoc (l : List UInt8) (c : UInt8) : nat8 (l ++ [c]) = nat8 l * 256 + c.toNat := by
  simp [nat8, List.foldl_append]
theorem nat8_from (l : List UInt8) : ∀ a : Nat, l.foldl (fun n c => n * 256 + c.toNat) a < (a + 1) * 256 ^ l.length := by
  induction l with
  | nil => intro a; simp
  | cons c l ih =>
    intro a
    have hc : c.toNat < 256 := c.toNat_lt
    have h1 := ih (a * 256 + c.toNat)
    have h2 : (a * 256 + c.toNat + 1) * 256 ^ l.length ≤ ((a + 1) * 256) * 256 ^ l.length := Nat.mul_le_mul_right _ (by omega)
    have h3 : (a + 1) * 256 ^ (l.length + 1) = ((a + 1) * 256) * 256 ^ l.length := by rw [Nat.pow_succ, Nat.mul_comm (256 ^ l.length) 256, Nat.mul_assoc]
    simp only [List.foldl_cons, List.length_cons]
    omega
theorem nat8_lt (l : List UInt8) : nat8 l < 256 ^ l.length := by
  have := nat8_from l 0
  simpa [nat8] using this
theorem valAt_lt (s : ByteArray) (p k : Nat) : valAt s p k < 256 ^ k := by
  unfold valAt
  refine Nat.lt_of_lt_of_le (nat8_lt _) (Nat.pow_le_pow_right (by omega) ?_)
  simp only [List.length_take]; omega
theorem or_byte (a c : Nat) (ha : a < 72057594037927936) (hc : c < 256) :
    bits .or .u64 ((a : Int) * 256) (IntKind.u64.wrap (c : Int)) = ((a * 256 + c : Nat) : Int) := by
  have h1 : IntKind.u64.wrap (c : Int) = (c : Int) := by
    simp only [IntKind.wrap, IntKind.bits, IntKind.signed]; simp; omega
  rw [h1]
  have e1 : BitVec.ofInt 64 ((a : Int) * 256) = BitVec.ofNat 64 (a * 256) := by
    rw [show ((a : Int) * 256) = ((a * 256 : Nat) : Int) from by omega, BitVec.ofInt_natCast]
  have e2 : BitVec.ofInt 64 ((c : Int)) = BitVec.ofNat 64 c := BitVec.ofInt_natCast _ _
  have e3 : (a * 256 ||| c) = a * 256 + c := by
    have := Nat.shiftLeft_add_eq_or_of_lt (i := 8) (b := c) (by simpa using hc) a
    rw [Nat.shiftLeft_eq] at this
    simpa using this.symm
  show IntKind.u64.wrap (((BitVec.ofInt 64 ((a : Int) * 256) ||| BitVec.ofInt 64 (c : Int)).toNat : Nat) : Int) = _
  rw [e1, e2, BitVec.toNat_or, BitVec.toNat_ofNat, BitVec.toNat_ofNat]
  rw [Nat.mod_eq_of_lt (show a * 256 < 2 ^ 64 by omega), Nat.mod_eq_of_lt (show c < 2 ^ 64 by omega), e3]
  simp only [IntKind.wrap, IntKind.bits, IntKind.signed]; simp; omega
theorem take_snoc8 (t : ByteArray) (k : Nat) (h : k < t.size) : t.data.toList.take (k + 1) = t.data.toList.take k ++ [t[k]] := by
  rw [List.take_succ_eq_append_getElem (by simpa using h)]; rfl
theorem nat8_step (t : ByteArray) (k : Nat) (h : k < t.size) (hk : k < 8) :
    bits .or .u64 ((nat8 (t.data.toList.take k) : Int) * 256) (IntKind.u64.wrap (t[k].toNat : Int)) = (nat8 (t.data.toList.take (k + 1)) : Int) := by
  have hl := nat8_lt (t.data.toList.take k)
  have hlen : (t.data.toList.take k).length ≤ 7 := by simp only [List.length_take]; omega
  have hp : 256 ^ (t.data.toList.take k).length ≤ 256 ^ 7 := Nat.pow_le_pow_right (by omega) hlen
  have h7 : (256 : Nat) ^ 7 = 72057594037927936 := by decide
  rw [take_snoc8 t k h, nat8_snoc]
  exact or_byte _ _ (by omega) t[k].toNat_lt
theorem nat8_bound (t : ByteArray) (k : Nat) (hk : k < 8) : (nat8 (t.data.toList.take k) : Int) < 72057594037927936 := by
  have hl := nat8_lt (t.data.toList.take k)
  have hlen : (t.data.toList.take k).length ≤ 7 := by simp only [List.length_take]; omega
  have hp : 256 ^ (t.data.toList.take k).length ≤ 256 ^ 7 := Nat.pow_le_pow_right (by omega) hlen
  have h7 : (256 : Nat) ^ 7 = 72057594037927936 := by decide
  omega
theorem valAt_extract (s : ByteArray) (p k : Nat) : nat8 ((s.extract p (p + k)).data.toList.take k) = valAt s p k := by
  unfold valAt
  congr 1
  have : (s.extract p (p + k)).data.toList = (s.data.toList.drop p).take k := by simp
  rw [this, List.take_take, Nat.min_self]
end Go.Proofs.YtliiooldlooagaaGreatDoor
