/-
  What the Reader's numbers of the widths 1, 2, 4, 8 answer and leave, over this seat's translation; conditions: the Reader's block is there (or the Reader is nil), its place is not behind the text's end, the text is no longer than a machine's numbers tell.
-/
import Derived.Test.YtledflcedibfeaaDoorRd2
import Derived.Test.YtledflcedibfeaaDoorNum
import Derived.Test.YtledflcedibfeaaDoorShelf
namespace Go.Proofs.YtledflcedibfeaaDoor
open Go.RowKit

theorem width8 (w : World) : Calls Tryd.prog 51 #[] w fun e w' => e = .returned (.int .i64 1) ∧ w = w' := by
  go_enter Tryd.func51, Tryd.ntmps51
  go_wp2_with (go_at_call 57; refine (Tryd.bits_Len64 255 _ (by omega) (by omega)).mono ?_; rw [show Lib.bitLen (255 : Int).toNat = 8 from by decide]; rintro e w' ⟨rfl, rfl⟩)
  go_ret
  exact ⟨rfl, rfl⟩
theorem next8_ok (b : Nat) (s : ByteArray) (p : Nat) (w : World) (h : Rd w b s p) (hp : p + 1 ≤ s.size) (hs : s.size ≤ 9223372036854775807) :
    Calls Tryd.prog 37 #[.pointer (some ⟨b, 0, none⟩)] w fun e w' => e = .returned (.tuple #[.int .u8 (valAt s p 1), .nilIface]) ∧ Rd w' b s (p + 1) ∧ w.grownBy w' (some b) := by
  obtain ⟨t, ht⟩ : ∃ t : ByteArray, t = s.extract p (p + 1) := ⟨_, rfl⟩
  have hz1 : t.size ≤ 1 := by rw [ht]; simp; omega
  have hz2 : 1 ≤ t.size := by rw [ht]; simp; omega
  have HT := Lib.hid ht
  clear ht
  go_enter Tryd.func37, Tryd.ntmps37
  go_wp2_with (first | (go_at_call 51; refine (width8 _).mono ?_; rintro e w' ⟨rfl, rfl⟩) | (go_at_call 33; refine (take_ok b s p 1 _ h hp hs).mono ?_; rintro e w1 ⟨rfl, h1, hg⟩; rw [← HT.out]))
  go_loop [6, 19] (fun n i => ∃ k : Nat, k ≤ 1 ∧ i = .int .i64 k ∧ n = .int .u64 (nat8 (t.data.toList.take k))) (fun _ i => 1 - (intOf i).toNat)
  case atStart => exact ⟨0, Nat.zero_le _, rfl, rfl⟩
  case round =>
    obtain ⟨k, hk, rfl, rfl⟩ := hrel
    by_cases hlt : k < t.size
    · have hb := nat8_bound t k (by omega)
      have HS := Lib.hid (nat8_step t k hlt (by omega))
      go_wp2
      go_round
      case rel => exact ⟨k + 1, by omega, by go_num, congrArg (Value.int .u64) HS.out⟩
      case measure => simp [intOf]; omega
    · have hl := valAt_lt s p 1
      have HV := Lib.hid (valAt_extract s p 1)
      have hk1 : k = 1 := by omega
      subst hk1
      have hv : nat8 (t.data.toList.take 1) = valAt s p 1 := by rw [HT.out]; exact HV.out
      rw [hv]
      clear hv
      go_wp2
      go_ret2
      exact ⟨rfl, h1, hg⟩
theorem next8_short (b : Nat) (s : ByteArray) (p : Nat) (w : World) (h : Rd w b s p) (hp : p ≤ s.size) (hs : s.size ≤ 9223372036854775807) (hn : s.size < p + 1) :
    Calls Tryd.prog 37 #[.pointer (some ⟨b, 0, none⟩)] w fun e w' => e = .returned (.tuple #[.int .u8 0, .iface 77 (.pointer (some ⟨w.heap.size, 0, none⟩))]) ∧ Ft w' w.heap.size 3 p ∧ w.grownBy w' none := by
  go_enter Tryd.func37, Tryd.ntmps37
  go_wp2_with (first | (go_at_call 51; refine (width8 _).mono ?_; rintro e w' ⟨rfl, rfl⟩) | (go_at_call 33; refine (take_short b s p 1 _ h hp hs (by omega)).mono ?_; rintro e w1 ⟨rfl, h1, hg⟩))
  go_ret2
  exact ⟨rfl, h1, hg⟩
theorem u8_ok (b : Nat) (s : ByteArray) (p : Nat) (w : World) (h : Rd w b s p) (hp : p + 1 ≤ s.size) (hs : s.size ≤ 9223372036854775807) :
    Calls Tryd.prog 23 #[.pointer (some ⟨b, 0, none⟩)] w fun e w' => e = .returned (.tuple #[.int .u8 (valAt s p 1), .nilIface]) ∧ Rd w' b s (p + 1) ∧ w.grownBy w' (some b) := by
  go_enter Tryd.func23, Tryd.ntmps23
  go_wp2_with (go_at_call 37; refine (next8_ok b s p _ h hp hs).mono ?_; rintro e w1 ⟨rfl, h1, hg⟩)
  go_ret2
  exact ⟨rfl, h1, hg⟩
theorem u8_short (b : Nat) (s : ByteArray) (p : Nat) (w : World) (h : Rd w b s p) (hp : p ≤ s.size) (hs : s.size ≤ 9223372036854775807) (hn : s.size < p + 1) :
    Calls Tryd.prog 23 #[.pointer (some ⟨b, 0, none⟩)] w fun e w' => e = .returned (.tuple #[.int .u8 0, .iface 77 (.pointer (some ⟨w.heap.size, 0, none⟩))]) ∧ Ft w' w.heap.size 3 p ∧ w.grownBy w' none := by
  go_enter Tryd.func23, Tryd.ntmps23
  go_wp2_with (go_at_call 37; refine (next8_short b s p _ h hp hs hn).mono ?_; rintro e w1 ⟨rfl, h1, hg⟩)
  go_ret2
  exact ⟨rfl, h1, hg⟩
theorem next8_nil (w : World) :
    Calls Tryd.prog 37 #[.pointer none] w fun e w' => e = .returned (.tuple #[.int .u8 0, .iface 77 (.pointer (some ⟨w.heap.size, 0, none⟩))]) ∧ w' = w.alloc (.cells #[.int .i64 1, .int .i64 0] 36) := by
  go_enter Tryd.func37, Tryd.ntmps37
  go_wp2_with (first | (go_at_call 51; refine (width8 _).mono ?_; rintro e w' ⟨rfl, rfl⟩) | (go_at_call 33; refine (take_nil _ _).mono ?_; rintro e w1 ⟨rfl, rfl⟩))
  go_ret2
  exact ⟨rfl, rfl⟩
theorem u8_nil (w : World) :
    Calls Tryd.prog 23 #[.pointer none] w fun e w' => e = .returned (.tuple #[.int .u8 0, .iface 77 (.pointer (some ⟨w.heap.size, 0, none⟩))]) ∧ w' = w.alloc (.cells #[.int .i64 1, .int .i64 0] 36) := by
  go_enter Tryd.func23, Tryd.ntmps23
  go_wp2_with (go_at_call 37; refine (next8_nil _).mono ?_; rintro e w1 ⟨rfl, rfl⟩)
  go_ret2
  exact ⟨rfl, rfl⟩

theorem width16 (w : World) : Calls Tryd.prog 53 #[] w fun e w' => e = .returned (.int .i64 2) ∧ w = w' := by
  go_enter Tryd.func53, Tryd.ntmps53
  go_wp2_with (go_at_call 57; refine (Tryd.bits_Len64 65535 _ (by omega) (by omega)).mono ?_; rw [show Lib.bitLen (65535 : Int).toNat = 16 from by decide]; rintro e w' ⟨rfl, rfl⟩)
  go_ret
  exact ⟨rfl, rfl⟩
theorem next16_ok (b : Nat) (s : ByteArray) (p : Nat) (w : World) (h : Rd w b s p) (hp : p + 2 ≤ s.size) (hs : s.size ≤ 9223372036854775807) :
    Calls Tryd.prog 41 #[.pointer (some ⟨b, 0, none⟩)] w fun e w' => e = .returned (.tuple #[.int .u16 (valAt s p 2), .nilIface]) ∧ Rd w' b s (p + 2) ∧ w.grownBy w' (some b) := by
  obtain ⟨t, ht⟩ : ∃ t : ByteArray, t = s.extract p (p + 2) := ⟨_, rfl⟩
  have hz1 : t.size ≤ 2 := by rw [ht]; simp; omega
  have hz2 : 2 ≤ t.size := by rw [ht]; simp; omega
  have HT := Lib.hid ht
  clear ht
  go_enter Tryd.func41, Tryd.ntmps41
  go_wp2_with (first | (go_at_call 53; refine (width16 _).mono ?_; rintro e w' ⟨rfl, rfl⟩) | (go_at_call 33; refine (take_ok b s p 2 _ h hp hs).mono ?_; rintro e w1 ⟨rfl, h1, hg⟩; rw [← HT.out]))
  go_loop [6, 19] (fun n i => ∃ k : Nat, k ≤ 2 ∧ i = .int .i64 k ∧ n = .int .u64 (nat8 (t.data.toList.take k))) (fun _ i => 2 - (intOf i).toNat)
  case atStart => exact ⟨0, Nat.zero_le _, rfl, rfl⟩
  case round =>
    obtain ⟨k, hk, rfl, rfl⟩ := hrel
    by_cases hlt : k < t.size
    · have hb := nat8_bound t k (by omega)
      have HS := Lib.hid (nat8_step t k hlt (by omega))
      go_wp2
      go_round
      case rel => exact ⟨k + 1, by omega, by go_num, congrArg (Value.int .u64) HS.out⟩
      case measure => simp [intOf]; omega
    · have hl := valAt_lt s p 2
      have HV := Lib.hid (valAt_extract s p 2)
      have hk2 : k = 2 := by omega
      subst hk2
      have hv : nat8 (t.data.toList.take 2) = valAt s p 2 := by rw [HT.out]; exact HV.out
      rw [hv]
      clear hv
      go_wp2
      go_ret2
      exact ⟨rfl, h1, hg⟩
theorem next16_short (b : Nat) (s : ByteArray) (p : Nat) (w : World) (h : Rd w b s p) (hp : p ≤ s.size) (hs : s.size ≤ 9223372036854775807) (hn : s.size < p + 2) :
    Calls Tryd.prog 41 #[.pointer (some ⟨b, 0, none⟩)] w fun e w' => e = .returned (.tuple #[.int .u16 0, .iface 77 (.pointer (some ⟨w.heap.size, 0, none⟩))]) ∧ Ft w' w.heap.size 3 p ∧ w.grownBy w' none := by
  go_enter Tryd.func41, Tryd.ntmps41
  go_wp2_with (first | (go_at_call 53; refine (width16 _).mono ?_; rintro e w' ⟨rfl, rfl⟩) | (go_at_call 33; refine (take_short b s p 2 _ h hp hs (by omega)).mono ?_; rintro e w1 ⟨rfl, h1, hg⟩))
  go_ret2
  exact ⟨rfl, h1, hg⟩
theorem u16_ok (b : Nat) (s : ByteArray) (p : Nat) (w : World) (h : Rd w b s p) (hp : p + 2 ≤ s.size) (hs : s.size ≤ 9223372036854775807) :
    Calls Tryd.prog 27 #[.pointer (some ⟨b, 0, none⟩)] w fun e w' => e = .returned (.tuple #[.int .u16 (valAt s p 2), .nilIface]) ∧ Rd w' b s (p + 2) ∧ w.grownBy w' (some b) := by
  go_enter Tryd.func27, Tryd.ntmps27
  go_wp2_with (go_at_call 41; refine (next16_ok b s p _ h hp hs).mono ?_; rintro e w1 ⟨rfl, h1, hg⟩)
  go_ret2
  exact ⟨rfl, h1, hg⟩
theorem u16_short (b : Nat) (s : ByteArray) (p : Nat) (w : World) (h : Rd w b s p) (hp : p ≤ s.size) (hs : s.size ≤ 9223372036854775807) (hn : s.size < p + 2) :
    Calls Tryd.prog 27 #[.pointer (some ⟨b, 0, none⟩)] w fun e w' => e = .returned (.tuple #[.int .u16 0, .iface 77 (.pointer (some ⟨w.heap.size, 0, none⟩))]) ∧ Ft w' w.heap.size 3 p ∧ w.grownBy w' none := by
  go_enter Tryd.func27, Tryd.ntmps27
  go_wp2_with (go_at_call 41; refine (next16_short b s p _ h hp hs hn).mono ?_; rintro e w1 ⟨rfl, h1, hg⟩)
  go_ret2
  exact ⟨rfl, h1, hg⟩
theorem next16_nil (w : World) :
    Calls Tryd.prog 41 #[.pointer none] w fun e w' => e = .returned (.tuple #[.int .u16 0, .iface 77 (.pointer (some ⟨w.heap.size, 0, none⟩))]) ∧ w' = w.alloc (.cells #[.int .i64 1, .int .i64 0] 36) := by
  go_enter Tryd.func41, Tryd.ntmps41
  go_wp2_with (first | (go_at_call 53; refine (width16 _).mono ?_; rintro e w' ⟨rfl, rfl⟩) | (go_at_call 33; refine (take_nil _ _).mono ?_; rintro e w1 ⟨rfl, rfl⟩))
  go_ret2
  exact ⟨rfl, rfl⟩
theorem u16_nil (w : World) :
    Calls Tryd.prog 27 #[.pointer none] w fun e w' => e = .returned (.tuple #[.int .u16 0, .iface 77 (.pointer (some ⟨w.heap.size, 0, none⟩))]) ∧ w' = w.alloc (.cells #[.int .i64 1, .int .i64 0] 36) := by
  go_enter Tryd.func27, Tryd.ntmps27
  go_wp2_with (go_at_call 41; refine (next16_nil _).mono ?_; rintro e w1 ⟨rfl, rfl⟩)
  go_ret2
  exact ⟨rfl, rfl⟩

theorem width32 (w : World) : Calls Tryd.prog 54 #[] w fun e w' => e = .returned (.int .i64 4) ∧ w = w' := by
  go_enter Tryd.func54, Tryd.ntmps54
  go_wp2_with (go_at_call 57; refine (Tryd.bits_Len64 4294967295 _ (by omega) (by omega)).mono ?_; rw [show Lib.bitLen (4294967295 : Int).toNat = 32 from by decide]; rintro e w' ⟨rfl, rfl⟩)
  go_ret
  exact ⟨rfl, rfl⟩
theorem next32_ok (b : Nat) (s : ByteArray) (p : Nat) (w : World) (h : Rd w b s p) (hp : p + 4 ≤ s.size) (hs : s.size ≤ 9223372036854775807) :
    Calls Tryd.prog 42 #[.pointer (some ⟨b, 0, none⟩)] w fun e w' => e = .returned (.tuple #[.int .u32 (valAt s p 4), .nilIface]) ∧ Rd w' b s (p + 4) ∧ w.grownBy w' (some b) := by
  obtain ⟨t, ht⟩ : ∃ t : ByteArray, t = s.extract p (p + 4) := ⟨_, rfl⟩
  have hz1 : t.size ≤ 4 := by rw [ht]; simp; omega
  have hz2 : 4 ≤ t.size := by rw [ht]; simp; omega
  have HT := Lib.hid ht
  clear ht
  go_enter Tryd.func42, Tryd.ntmps42
  go_wp2_with (first | (go_at_call 54; refine (width32 _).mono ?_; rintro e w' ⟨rfl, rfl⟩) | (go_at_call 33; refine (take_ok b s p 4 _ h hp hs).mono ?_; rintro e w1 ⟨rfl, h1, hg⟩; rw [← HT.out]))
  go_loop [6, 19] (fun n i => ∃ k : Nat, k ≤ 4 ∧ i = .int .i64 k ∧ n = .int .u64 (nat8 (t.data.toList.take k))) (fun _ i => 4 - (intOf i).toNat)
  case atStart => exact ⟨0, Nat.zero_le _, rfl, rfl⟩
  case round =>
    obtain ⟨k, hk, rfl, rfl⟩ := hrel
    by_cases hlt : k < t.size
    · have hb := nat8_bound t k (by omega)
      have HS := Lib.hid (nat8_step t k hlt (by omega))
      go_wp2
      go_round
      case rel => exact ⟨k + 1, by omega, by go_num, congrArg (Value.int .u64) HS.out⟩
      case measure => simp [intOf]; omega
    · have hl := valAt_lt s p 4
      have HV := Lib.hid (valAt_extract s p 4)
      have hk4 : k = 4 := by omega
      subst hk4
      have hv : nat8 (t.data.toList.take 4) = valAt s p 4 := by rw [HT.out]; exact HV.out
      rw [hv]
      clear hv
      go_wp2
      go_ret2
      exact ⟨rfl, h1, hg⟩
theorem next32_short (b : Nat) (s : ByteArray) (p : Nat) (w : World) (h : Rd w b s p) (hp : p ≤ s.size) (hs : s.size ≤ 9223372036854775807) (hn : s.size < p + 4) :
    Calls Tryd.prog 42 #[.pointer (some ⟨b, 0, none⟩)] w fun e w' => e = .returned (.tuple #[.int .u32 0, .iface 77 (.pointer (some ⟨w.heap.size, 0, none⟩))]) ∧ Ft w' w.heap.size 3 p ∧ w.grownBy w' none := by
  go_enter Tryd.func42, Tryd.ntmps42
  go_wp2_with (first | (go_at_call 54; refine (width32 _).mono ?_; rintro e w' ⟨rfl, rfl⟩) | (go_at_call 33; refine (take_short b s p 4 _ h hp hs (by omega)).mono ?_; rintro e w1 ⟨rfl, h1, hg⟩))
  go_ret2
  exact ⟨rfl, h1, hg⟩
theorem u32_ok (b : Nat) (s : ByteArray) (p : Nat) (w : World) (h : Rd w b s p) (hp : p + 4 ≤ s.size) (hs : s.size ≤ 9223372036854775807) :
    Calls Tryd.prog 28 #[.pointer (some ⟨b, 0, none⟩)] w fun e w' => e = .returned (.tuple #[.int .u32 (valAt s p 4), .nilIface]) ∧ Rd w' b s (p + 4) ∧ w.grownBy w' (some b) := by
  go_enter Tryd.func28, Tryd.ntmps28
  go_wp2_with (go_at_call 42; refine (next32_ok b s p _ h hp hs).mono ?_; rintro e w1 ⟨rfl, h1, hg⟩)
  go_ret2
  exact ⟨rfl, h1, hg⟩
theorem u32_short (b : Nat) (s : ByteArray) (p : Nat) (w : World) (h : Rd w b s p) (hp : p ≤ s.size) (hs : s.size ≤ 9223372036854775807) (hn : s.size < p + 4) :
    Calls Tryd.prog 28 #[.pointer (some ⟨b, 0, none⟩)] w fun e w' => e = .returned (.tuple #[.int .u32 0, .iface 77 (.pointer (some ⟨w.heap.size, 0, none⟩))]) ∧ Ft w' w.heap.size 3 p ∧ w.grownBy w' none := by
  go_enter Tryd.func28, Tryd.ntmps28
  go_wp2_with (go_at_call 42; refine (next32_short b s p _ h hp hs hn).mono ?_; rintro e w1 ⟨rfl, h1, hg⟩)
  go_ret2
  exact ⟨rfl, h1, hg⟩
theorem next32_nil (w : World) :
    Calls Tryd.prog 42 #[.pointer none] w fun e w' => e = .returned (.tuple #[.int .u32 0, .iface 77 (.pointer (some ⟨w.heap.size, 0, none⟩))]) ∧ w' = w.alloc (.cells #[.int .i64 1, .int .i64 0] 36) := by
  go_enter Tryd.func42, Tryd.ntmps42
  go_wp2_with (first | (go_at_call 54; refine (width32 _).mono ?_; rintro e w' ⟨rfl, rfl⟩) | (go_at_call 33; refine (take_nil _ _).mono ?_; rintro e w1 ⟨rfl, rfl⟩))
  go_ret2
  exact ⟨rfl, rfl⟩
theorem u32_nil (w : World) :
    Calls Tryd.prog 28 #[.pointer none] w fun e w' => e = .returned (.tuple #[.int .u32 0, .iface 77 (.pointer (some ⟨w.heap.size, 0, none⟩))]) ∧ w' = w.alloc (.cells #[.int .i64 1, .int .i64 0] 36) := by
  go_enter Tryd.func28, Tryd.ntmps28
  go_wp2_with (go_at_call 42; refine (next32_nil _).mono ?_; rintro e w1 ⟨rfl, rfl⟩)
  go_ret2
  exact ⟨rfl, rfl⟩

theorem width64 (w : World) : Calls Tryd.prog 52 #[] w fun e w' => e = .returned (.int .i64 8) ∧ w = w' := by
  go_enter Tryd.func52, Tryd.ntmps52
  go_wp2_with (go_at_call 57; refine (Tryd.bits_Len64 18446744073709551615 _ (by omega) (by omega)).mono ?_; rw [show Lib.bitLen (18446744073709551615 : Int).toNat = 64 from by decide]; rintro e w' ⟨rfl, rfl⟩)
  go_ret
  exact ⟨rfl, rfl⟩
theorem next64_ok (b : Nat) (s : ByteArray) (p : Nat) (w : World) (h : Rd w b s p) (hp : p + 8 ≤ s.size) (hs : s.size ≤ 9223372036854775807) :
    Calls Tryd.prog 38 #[.pointer (some ⟨b, 0, none⟩)] w fun e w' => e = .returned (.tuple #[.int .u64 (valAt s p 8), .nilIface]) ∧ Rd w' b s (p + 8) ∧ w.grownBy w' (some b) := by
  obtain ⟨t, ht⟩ : ∃ t : ByteArray, t = s.extract p (p + 8) := ⟨_, rfl⟩
  have hz1 : t.size ≤ 8 := by rw [ht]; simp; omega
  have hz2 : 8 ≤ t.size := by rw [ht]; simp; omega
  have HT := Lib.hid ht
  clear ht
  go_enter Tryd.func38, Tryd.ntmps38
  go_wp2_with (first | (go_at_call 52; refine (width64 _).mono ?_; rintro e w' ⟨rfl, rfl⟩) | (go_at_call 33; refine (take_ok b s p 8 _ h hp hs).mono ?_; rintro e w1 ⟨rfl, h1, hg⟩; rw [← HT.out]))
  go_loop [6, 19] (fun n i => ∃ k : Nat, k ≤ 8 ∧ i = .int .i64 k ∧ n = .int .u64 (nat8 (t.data.toList.take k))) (fun _ i => 8 - (intOf i).toNat)
  case atStart => exact ⟨0, Nat.zero_le _, rfl, rfl⟩
  case round =>
    obtain ⟨k, hk, rfl, rfl⟩ := hrel
    by_cases hlt : k < t.size
    · have hb := nat8_bound t k (by omega)
      have HS := Lib.hid (nat8_step t k hlt (by omega))
      go_wp2
      go_round
      case rel => exact ⟨k + 1, by omega, by go_num, congrArg (Value.int .u64) HS.out⟩
      case measure => simp [intOf]; omega
    · have hl := valAt_lt s p 8
      have HV := Lib.hid (valAt_extract s p 8)
      have hk8 : k = 8 := by omega
      subst hk8
      have hv : nat8 (t.data.toList.take 8) = valAt s p 8 := by rw [HT.out]; exact HV.out
      rw [hv]
      clear hv
      go_wp2
      go_ret2
      exact ⟨rfl, h1, hg⟩
theorem next64_short (b : Nat) (s : ByteArray) (p : Nat) (w : World) (h : Rd w b s p) (hp : p ≤ s.size) (hs : s.size ≤ 9223372036854775807) (hn : s.size < p + 8) :
    Calls Tryd.prog 38 #[.pointer (some ⟨b, 0, none⟩)] w fun e w' => e = .returned (.tuple #[.int .u64 0, .iface 77 (.pointer (some ⟨w.heap.size, 0, none⟩))]) ∧ Ft w' w.heap.size 3 p ∧ w.grownBy w' none := by
  go_enter Tryd.func38, Tryd.ntmps38
  go_wp2_with (first | (go_at_call 52; refine (width64 _).mono ?_; rintro e w' ⟨rfl, rfl⟩) | (go_at_call 33; refine (take_short b s p 8 _ h hp hs (by omega)).mono ?_; rintro e w1 ⟨rfl, h1, hg⟩))
  go_ret2
  exact ⟨rfl, h1, hg⟩
theorem u64_ok (b : Nat) (s : ByteArray) (p : Nat) (w : World) (h : Rd w b s p) (hp : p + 8 ≤ s.size) (hs : s.size ≤ 9223372036854775807) :
    Calls Tryd.prog 24 #[.pointer (some ⟨b, 0, none⟩)] w fun e w' => e = .returned (.tuple #[.int .u64 (valAt s p 8), .nilIface]) ∧ Rd w' b s (p + 8) ∧ w.grownBy w' (some b) := by
  go_enter Tryd.func24, Tryd.ntmps24
  go_wp2_with (go_at_call 38; refine (next64_ok b s p _ h hp hs).mono ?_; rintro e w1 ⟨rfl, h1, hg⟩)
  go_ret2
  exact ⟨rfl, h1, hg⟩
theorem u64_short (b : Nat) (s : ByteArray) (p : Nat) (w : World) (h : Rd w b s p) (hp : p ≤ s.size) (hs : s.size ≤ 9223372036854775807) (hn : s.size < p + 8) :
    Calls Tryd.prog 24 #[.pointer (some ⟨b, 0, none⟩)] w fun e w' => e = .returned (.tuple #[.int .u64 0, .iface 77 (.pointer (some ⟨w.heap.size, 0, none⟩))]) ∧ Ft w' w.heap.size 3 p ∧ w.grownBy w' none := by
  go_enter Tryd.func24, Tryd.ntmps24
  go_wp2_with (go_at_call 38; refine (next64_short b s p _ h hp hs hn).mono ?_; rintro e w1 ⟨rfl, h1, hg⟩)
  go_ret2
  exact ⟨rfl, h1, hg⟩
theorem next64_nil (w : World) :
    Calls Tryd.prog 38 #[.pointer none] w fun e w' => e = .returned (.tuple #[.int .u64 0, .iface 77 (.pointer (some ⟨w.heap.size, 0, none⟩))]) ∧ w' = w.alloc (.cells #[.int .i64 1, .int .i64 0] 36) := by
  go_enter Tryd.func38, Tryd.ntmps38
  go_wp2_with (first | (go_at_call 52; refine (width64 _).mono ?_; rintro e w' ⟨rfl, rfl⟩) | (go_at_call 33; refine (take_nil _ _).mono ?_; rintro e w1 ⟨rfl, rfl⟩))
  go_ret2
  exact ⟨rfl, rfl⟩
theorem u64_nil (w : World) :
    Calls Tryd.prog 24 #[.pointer none] w fun e w' => e = .returned (.tuple #[.int .u64 0, .iface 77 (.pointer (some ⟨w.heap.size, 0, none⟩))]) ∧ w' = w.alloc (.cells #[.int .i64 1, .int .i64 0] 36) := by
  go_enter Tryd.func24, Tryd.ntmps24
  go_wp2_with (go_at_call 38; refine (next64_nil _).mono ?_; rintro e w1 ⟨rfl, rfl⟩)
  go_ret2
  exact ⟨rfl, rfl⟩
end Go.Proofs.YtledflcedibfeaaDoor
