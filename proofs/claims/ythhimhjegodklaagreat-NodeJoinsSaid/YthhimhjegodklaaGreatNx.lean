/-
  What the Reader's numbers of the widths 1, 2, 4, 8 answer and leave, over this seat's translation; conditions: the Reader's block is there (or the Reader is nil), its place is not behind the text's end, the text is no longer than a machine's numbers tell.
-/
import Derived.Test.YthhimhjegodklaaGreatRd2
import Derived.Test.YthhimhjegodklaaGreatNum
import Derived.Test.YthhimhjegodklaaGreatShelf
namespace Go.Proofs.YthhimhjegodklaaGreat
open Go.RowKit

theorem width8 (w : World) : Calls Tryz.prog 56 #[] w fun e w' => e = .returned (.int .i64 1) ∧ w = w' := by
  go_enter Tryz.func56, Tryz.ntmps56
  go_wp2_with (go_at_call 68; refine (Tryz.bits_Len64 255 _ (by omega) (by omega)).mono ?_; rw [show Lib.bitLen (255 : Int).toNat = 8 from by decide]; rintro e w' ⟨rfl, rfl⟩)
  go_ret
  exact ⟨rfl, rfl⟩
theorem next8_ok (b : Nat) (s : ByteArray) (p : Nat) (w : World) (h : Rd w b s p) (hp : p + 1 ≤ s.size) (hs : s.size ≤ 9223372036854775807) :
    Calls Tryz.prog 49 #[.pointer (some ⟨b, 0, none⟩)] w fun e w' => e = .returned (.tuple #[.int .u8 (valAt s p 1), .nilIface]) ∧ Rd w' b s (p + 1) ∧ w.grownBy w' (some b) := by
  obtain ⟨t, ht⟩ : ∃ t : ByteArray, t = s.extract p (p + 1) := ⟨_, rfl⟩
  have hz1 : t.size ≤ 1 := by rw [ht]; simp; omega
  have hz2 : 1 ≤ t.size := by rw [ht]; simp; omega
  have HT := Lib.hid ht
  clear ht
  go_enter Tryz.func49, Tryz.ntmps49
  go_wp2_with (first | (go_at_call 56; refine (width8 _).mono ?_; rintro e w' ⟨rfl, rfl⟩) | (go_at_call 55; refine (take_ok b s p 1 _ h hp hs).mono ?_; rintro e w1 ⟨rfl, h1, hg⟩; rw [← HT.out]))
  go_loop [6, 19] (fun n i => ∃ k : Nat, k ≤ 1 ∧ i = .int .i64 k ∧ n = .int .u64 (nat8 (t.data.toList.take k))) (fun _ i => 1 - (intOf i).toNat)
  case atStart => exact ⟨0, Nat.zero_le _, rfl, rfl⟩
  case round =>
    obtain ⟨k, hk, rfl, rfl⟩ := hrel
    by_cases hlt : k < t.size
    · have hb := nat8_bound t k (by omega)
      have HS := Lib.hid (nat8_step t k hlt (by omega))
      go_wp2
      go_round
      case rel => exact ⟨k + 1, by omega, by go_num, congrArg (Value.int .u64) HS.out⟩
      case measure => simp [intOf]; omega
    · have hl := valAt_lt s p 1
      have HV := Lib.hid (valAt_extract s p 1)
      have hk1 : k = 1 := by omega
      subst hk1
      have hv : nat8 (t.data.toList.take 1) = valAt s p 1 := by rw [HT.out]; exact HV.out
      rw [hv]
      clear hv
      go_wp2
      go_ret2
      exact ⟨rfl, h1, hg⟩
theorem next8_short (b : Nat) (s : ByteArray) (p : Nat) (w : World) (h : Rd w b s p) (hp : p ≤ s.size) (hs : s.size ≤ 9223372036854775807) (hn : s.size < p + 1) :
    Calls Tryz.prog 49 #[.pointer (some ⟨b, 0, none⟩)] w fun e w' => e = .returned (.tuple #[.int .u8 0, .iface 78 (.pointer (some ⟨w.heap.size, 0, none⟩))]) ∧ Ft w' w.heap.size 3 p ∧ w.grownBy w' none := by
  go_enter Tryz.func49, Tryz.ntmps49
  go_wp2_with (first | (go_at_call 56; refine (width8 _).mono ?_; rintro e w' ⟨rfl, rfl⟩) | (go_at_call 55; refine (take_short b s p 1 _ h hp hs (by omega)).mono ?_; rintro e w1 ⟨rfl, h1, hg⟩))
  go_ret2
  exact ⟨rfl, h1, hg⟩
theorem u8_ok (b : Nat) (s : ByteArray) (p : Nat) (w : World) (h : Rd w b s p) (hp : p + 1 ≤ s.size) (hs : s.size ≤ 9223372036854775807) :
    Calls Tryz.prog 45 #[.pointer (some ⟨b, 0, none⟩)] w fun e w' => e = .returned (.tuple #[.int .u8 (valAt s p 1), .nilIface]) ∧ Rd w' b s (p + 1) ∧ w.grownBy w' (some b) := by
  go_enter Tryz.func45, Tryz.ntmps45
  go_wp2_with (go_at_call 49; refine (next8_ok b s p _ h hp hs).mono ?_; rintro e w1 ⟨rfl, h1, hg⟩)
  go_ret2
  exact ⟨rfl, h1, hg⟩
theorem u8_short (b : Nat) (s : ByteArray) (p : Nat) (w : World) (h : Rd w b s p) (hp : p ≤ s.size) (hs : s.size ≤ 9223372036854775807) (hn : s.size < p + 1) :
    Calls Tryz.prog 45 #[.pointer (some ⟨b, 0, none⟩)] w fun e w' => e = .returned (.tuple #[.int .u8 0, .iface 78 (.pointer (some ⟨w.heap.size, 0, none⟩))]) ∧ Ft w' w.heap.size 3 p ∧ w.grownBy w' none := by
  go_enter Tryz.func45, Tryz.ntmps45
  go_wp2_with (go_at_call 49; refine (next8_short b s p _ h hp hs hn).mono ?_; rintro e w1 ⟨rfl, h1, hg⟩)
  go_ret2
  exact ⟨rfl, h1, hg⟩
theorem next8_nil (w : World) :
    Calls Tryz.prog 49 #[.pointer none] w fun e w' => e = .returned (.tuple #[.int .u8 0, .iface 78 (.pointer (some ⟨w.heap.size, 0, none⟩))]) ∧ w' = w.alloc (.cells #[.int .i64 1, .int .i64 0] 80) := by
  go_enter Tryz.func49, Tryz.ntmps49
  go_wp2_with (first | (go_at_call 56; refine (width8 _).mono ?_; rintro e w' ⟨rfl, rfl⟩) | (go_at_call 55; refine (take_nil _ _).mono ?_; rintro e w1 ⟨rfl, rfl⟩))
  go_ret2
  exact ⟨rfl, rfl⟩
theorem u8_nil (w : World) :
    Calls Tryz.prog 45 #[.pointer none] w fun e w' => e = .returned (.tuple #[.int .u8 0, .iface 78 (.pointer (some ⟨w.heap.size, 0, none⟩))]) ∧ w' = w.alloc (.cells #[.int .i64 1, .int .i64 0] 80) := by
  go_enter Tryz.func45, Tryz.ntmps45
  go_wp2_with (go_at_call 49; refine (next8_nil _).mono ?_; rintro e w1 ⟨rfl, rfl⟩)
  go_ret2
  exact ⟨rfl, rfl⟩

theorem width16 (w : World) : Calls Tryz.prog 71 #[] w fun e w' => e = .returned (.int .i64 2) ∧ w = w' := by
  go_enter Tryz.func71, Tryz.ntmps71
  go_wp2_with (go_at_call 68; refine (Tryz.bits_Len64 65535 _ (by omega) (by omega)).mono ?_; rw [show Lib.bitLen (65535 : Int).toNat = 16 from by decide]; rintro e w' ⟨rfl, rfl⟩)
  go_ret
  exact ⟨rfl, rfl⟩
theorem next16_ok (b : Nat) (s : ByteArray) (p : Nat) (w : World) (h : Rd w b s p) (hp : p + 2 ≤ s.size) (hs : s.size ≤ 9223372036854775807) :
    Calls Tryz.prog 69 #[.pointer (some ⟨b, 0, none⟩)] w fun e w' => e = .returned (.tuple #[.int .u16 (valAt s p 2), .nilIface]) ∧ Rd w' b s (p + 2) ∧ w.grownBy w' (some b) := by
  obtain ⟨t, ht⟩ : ∃ t : ByteArray, t = s.extract p (p + 2) := ⟨_, rfl⟩
  have hz1 : t.size ≤ 2 := by rw [ht]; simp; omega
  have hz2 : 2 ≤ t.size := by rw [ht]; simp; omega
  have HT := Lib.hid ht
  clear ht
  go_enter Tryz.func69, Tryz.ntmps69
  go_wp2_with (first | (go_at_call 71; refine (width16 _).mono ?_; rintro e w' ⟨rfl, rfl⟩) | (go_at_call 55; refine (take_ok b s p 2 _ h hp hs).mono ?_; rintro e w1 ⟨rfl, h1, hg⟩; rw [← HT.out]))
  go_loop [6, 19] (fun n i => ∃ k : Nat, k ≤ 2 ∧ i = .int .i64 k ∧ n = .int .u64 (nat8 (t.data.toList.take k))) (fun _ i => 2 - (intOf i).toNat)
  case atStart => exact ⟨0, Nat.zero_le _, rfl, rfl⟩
  case round =>
    obtain ⟨k, hk, rfl, rfl⟩ := hrel
    by_cases hlt : k < t.size
    · have hb := nat8_bound t k (by omega)
      have HS := Lib.hid (nat8_step t k hlt (by omega))
      go_wp2
      go_round
      case rel => exact ⟨k + 1, by omega, by go_num, congrArg (Value.int .u64) HS.out⟩
      case measure => simp [intOf]; omega
    · have hl := valAt_lt s p 2
      have HV := Lib.hid (valAt_extract s p 2)
      have hk2 : k = 2 := by omega
      subst hk2
      have hv : nat8 (t.data.toList.take 2) = valAt s p 2 := by rw [HT.out]; exact HV.out
      rw [hv]
      clear hv
      go_wp2
      go_ret2
      exact ⟨rfl, h1, hg⟩
theorem next16_short (b : Nat) (s : ByteArray) (p : Nat) (w : World) (h : Rd w b s p) (hp : p ≤ s.size) (hs : s.size ≤ 9223372036854775807) (hn : s.size < p + 2) :
    Calls Tryz.prog 69 #[.pointer (some ⟨b, 0, none⟩)] w fun e w' => e = .returned (.tuple #[.int .u16 0, .iface 78 (.pointer (some ⟨w.heap.size, 0, none⟩))]) ∧ Ft w' w.heap.size 3 p ∧ w.grownBy w' none := by
  go_enter Tryz.func69, Tryz.ntmps69
  go_wp2_with (first | (go_at_call 71; refine (width16 _).mono ?_; rintro e w' ⟨rfl, rfl⟩) | (go_at_call 55; refine (take_short b s p 2 _ h hp hs (by omega)).mono ?_; rintro e w1 ⟨rfl, h1, hg⟩))
  go_ret2
  exact ⟨rfl, h1, hg⟩
theorem u16_ok (b : Nat) (s : ByteArray) (p : Nat) (w : World) (h : Rd w b s p) (hp : p + 2 ≤ s.size) (hs : s.size ≤ 9223372036854775807) :
    Calls Tryz.prog 59 #[.pointer (some ⟨b, 0, none⟩)] w fun e w' => e = .returned (.tuple #[.int .u16 (valAt s p 2), .nilIface]) ∧ Rd w' b s (p + 2) ∧ w.grownBy w' (some b) := by
  go_enter Tryz.func59, Tryz.ntmps59
  go_wp2_with (go_at_call 69; refine (next16_ok b s p _ h hp hs).mono ?_; rintro e w1 ⟨rfl, h1, hg⟩)
  go_ret2
  exact ⟨rfl, h1, hg⟩
theorem u16_short (b : Nat) (s : ByteArray) (p : Nat) (w : World) (h : Rd w b s p) (hp : p ≤ s.size) (hs : s.size ≤ 9223372036854775807) (hn : s.size < p + 2) :
    Calls Tryz.prog 59 #[.pointer (some ⟨b, 0, none⟩)] w fun e w' => e = .returned (.tuple #[.int .u16 0, .iface 78 (.pointer (some ⟨w.heap.size, 0, none⟩))]) ∧ Ft w' w.heap.size 3 p ∧ w.grownBy w' none := by
  go_enter Tryz.func59, Tryz.ntmps59
  go_wp2_with (go_at_call 69; refine (next16_short b s p _ h hp hs hn).mono ?_; rintro e w1 ⟨rfl, h1, hg⟩)
  go_ret2
  exact ⟨rfl, h1, hg⟩
theorem next16_nil (w : World) :
    Calls Tryz.prog 69 #[.pointer none] w fun e w' => e = .returned (.tuple #[.int .u16 0, .iface 78 (.pointer (some ⟨w.heap.size, 0, none⟩))]) ∧ w' = w.alloc (.cells #[.int .i64 1, .int .i64 0] 80) := by
  go_enter Tryz.func69, Tryz.ntmps69
  go_wp2_with (first | (go_at_call 71; refine (width16 _).mono ?_; rintro e w' ⟨rfl, rfl⟩) | (go_at_call 55; refine (take_nil _ _).mono ?_; rintro e w1 ⟨rfl, rfl⟩))
  go_ret2
  exact ⟨rfl, rfl⟩
theorem u16_nil (w : World) :
    Calls Tryz.prog 59 #[.pointer none] w fun e w' => e = .returned (.tuple #[.int .u16 0, .iface 78 (.pointer (some ⟨w.heap.size, 0, none⟩))]) ∧ w' = w.alloc (.cells #[.int .i64 1, .int .i64 0] 80) := by
  go_enter Tryz.func59, Tryz.ntmps59
  go_wp2_with (go_at_call 69; refine (next16_nil _).mono ?_; rintro e w1 ⟨rfl, rfl⟩)
  go_ret2
  exact ⟨rfl, rfl⟩

end Go.Proofs.YthhimhjegodklaaGreat

