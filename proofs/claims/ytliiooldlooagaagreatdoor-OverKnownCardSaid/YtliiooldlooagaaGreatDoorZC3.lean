/-
  What the small functions of package sum, and the document's own answer (foyerref03), reckon, over this seat's translation; conditions: the numbers' bounds.
-/
import Derived.WalkSpells
import Derived.WalkLawsBesides
import Derived.Below
import Derived.Test.YtliiooldlooagaaGreatDoorProg
import Derived.Test.YtliiooldlooagaaGreatDoorZC1
set_option linter.unusedSimpArgs false
set_option linter.unusedVariables false
namespace Go.Proofs.YtliiooldlooagaaGreatDoor.C7
open Go.RowKit

theorem ret_u32 {a b : Int} (h : a = b) : Ending.returned (.int .u32 a) = .returned (.int .u32 b) := by rw [h]
theorem ret_u64 {a b : Int} (h : a = b) : Ending.returned (.int .u64 a) = .returned (.int .u64 b) := by rw [h]
theorem and_16 (a : Nat) (h : a < 4294967296) : bits .and .u32 (a : Int) 65535 = ((a % 65536 : Nat) : Int) := by
  have e1 : BitVec.ofInt 32 (a : Int) = BitVec.ofNat 32 a := BitVec.ofInt_natCast _ _
  have e2 : BitVec.ofInt 32 (65535 : Int) = BitVec.ofNat 32 65535 := BitVec.ofInt_natCast _ 65535
  have e3 : a &&& 65535 = a % 65536 := Nat.and_two_pow_sub_one_eq_mod a 16
  show IntKind.u32.wrap (((BitVec.ofInt 32 (a : Int) &&& BitVec.ofInt 32 (65535 : Int)).toNat : Nat) : Int) = _
  rw [e1, e2, BitVec.toNat_and, BitVec.toNat_ofNat, BitVec.toNat_ofNat]
  rw [Nat.mod_eq_of_lt (show a < 2 ^ 32 by omega), Nat.mod_eq_of_lt (show 65535 < 2 ^ 32 by omega), e3]
  simp only [IntKind.wrap, IntKind.bits, IntKind.signed]; simp; omega
theorem or_16 (a c : Nat) (ha : a < 65536) (hc : c < 65536) : bits .or .u64 ((a : Int) * 65536) (c : Int) = ((a * 65536 + c : Nat) : Int) := by
  have e1 : BitVec.ofInt 64 ((a : Int) * 65536) = BitVec.ofNat 64 (a * 65536) := by
    rw [show ((a : Int) * 65536) = ((a * 65536 : Nat) : Int) from by omega, BitVec.ofInt_natCast]
  have e2 : BitVec.ofInt 64 ((c : Int)) = BitVec.ofNat 64 c := BitVec.ofInt_natCast _ _
  have e3 : (a * 65536 ||| c) = a * 65536 + c := by
    have := Nat.shiftLeft_add_eq_or_of_lt (i := 16) (b := c) (by simpa using hc) a
    rw [Nat.shiftLeft_eq] at this
    simpa using this.symm
  show IntKind.u64.wrap (((BitVec.ofInt 64 ((a : Int) * 65536) ||| BitVec.ofInt 64 (c : Int)).toNat : Nat) : Int) = _
  rw [e1, e2, BitVec.toNat_or, BitVec.toNat_ofNat, BitVec.toNat_ofNat]
  rw [Nat.mod_eq_of_lt (show a * 65536 < 2 ^ 64 by omega), Nat.mod_eq_of_lt (show c < 2 ^ 64 by omega), e3]
  simp only [IntKind.wrap, IntKind.bits, IntKind.signed]; simp; omega
theorem u64_small (a : Nat) (h : a < 18446744073709551616) : IntKind.u64.wrap (a : Int) = (a : Int) := by
  simp only [IntKind.wrap, IntKind.bits, IntKind.signed]; simp; omega
theorem half_math (a : Nat) (h : a < 4294967296) : (IntKind.u64.wrap (bits .and .u32 (a : Int) 65535)).tmod 65521 = ((a % 65536 % 65521 : Nat) : Int) := by
  rw [and_16 a h, u64_small _ (by omega)]
  exact (Int.ofNat_tmod _ _).symm
theorem joint_math (a b : Nat) : bits .or .u64 ((b : Int) % 65521 * 65536) ((a : Int) % 65521) % 4294967296 = ((packed (left2 (a, b)) : Nat) : Int) := by
  have h := or_16 (b % 65521) (a % 65521) (by omega) (by omega)
  rw [show ((b : Int) % 65521) = ((b % 65521 : Nat) : Int) from by omega, show ((a : Int) % 65521) = ((a % 65521 : Nat) : Int) from by omega, h]
  simp only [packed, left2]; omega

theorem half_lo (n : Nat) (w : World) (hn : n < 4294967296) : Calls Tryz.prog 154 #[.int .u32 n, .int .i64 0] w fun e w' => e = .returned (.int .u64 ((halves n).1 : Nat)) ∧ w = w' := by
  have H := Lib.hid (half_math n hn)
  go_enter Tryz.func154, Tryz.ntmps154
  go_wp2
  go_ret
  exact ⟨ret_u64 (by rw [H.out]; rfl), rfl⟩
theorem half_hi (n : Nat) (w : World) (hn : n < 4294967296) : Calls Tryz.prog 154 #[.int .u32 n, .int .i64 16] w fun e w' => e = .returned (.int .u64 ((halves n).2 : Nat)) ∧ w = w' := by
  have H := Lib.hid (half_math (n / 65536) (by omega))
  go_enter Tryz.func154, Tryz.ntmps154
  go_wp2
  go_ret
  refine ⟨ret_u64 ?_, rfl⟩
  rw [show ((n : Int) / 65536) = ((n / 65536 : Nat) : Int) from by omega, H.out]
  simp only [halves]; omega
theorem joint_any (a b : Nat) (w : World) (ha : a < 18446744073709551616) (hb : b < 18446744073709551616) : Calls Tryz.prog 156 #[.int .u64 a, .int .u64 b] w fun e w' => e = .returned (.int .u32 (packed (left2 (a, b)) : Nat)) ∧ w = w' := by
  have H := Lib.hid (joint_math a b)
  go_enter Tryz.func156, Tryz.ntmps156
  go_wp2
  go_ret
  exact ⟨ret_u32 H.out, rfl⟩
theorem rows_any (s : ByteArray) (w : World) : Calls Tryz.prog 155 #[.string s] w fun e w' => e = .returned (.func (.func 165) #[] #[.pointer (some ⟨w.heap.size, 0, none⟩)]) ∧ w' = w.alloc (.cells #[.string s] 9) := by
  go_enter Tryz.func155, Tryz.ntmps155
  go_wp2
  go_ret
  exact ⟨rfl, rfl⟩

theorem take_snocB (s : ByteArray) (k : Nat) (h : k < s.size) : s.data.toList.take (k + 1) = s.data.toList.take k ++ [s[k]] := by
  rw [List.take_succ_eq_append_getElem (by simpa using h)]; rfl
end Go.Proofs.YtliiooldlooagaaGreatDoor.C7
