/-
  Texts of one layer, one behind the other, each with its own sentence; conditions: those that each law states.
-/
import Derived.Laws.StructEq
import Derived.Test.YtliiooldlooagaaGreatDoorZROOT4
import Derived.Test.YtliiooldlooagaaGreatDoorZROOT5
import Derived.Test.YtliiooldlooagaaGreatDoorZROOT6
set_option linter.unusedSimpArgs false
set_option linter.unusedVariables false

/-
  What the Reader's numbers of the widths 1, 2, 4, 8 answer and leave, over this seat's translation; conditions: the Reader's block is there (or the Reader is nil), its place is not behind the text's end, the text is no longer than a machine's numbers tell.
-/
namespace Go.Proofs.YtliiooldlooagaaGreatDoor
open Go.RowKit

theorem width8 (w : World) : Calls Tryz.prog 152 #[] w fun e w' => e = .returned (.int .i64 1) ∧ w = w' := by
  go_enter Tryz.func152, Tryz.ntmps152
  go_wp2_with (go_at_call 164; refine (Tryz.bits_Len64 255 _ (by omega) (by omega)).mono ?_; rw [show Lib.bitLen (255 : Int).toNat = 8 from by decide]; rintro e w' ⟨rfl, rfl⟩)
  go_ret
  exact ⟨rfl, rfl⟩
theorem width16 (w : World) : Calls Tryz.prog 151 #[] w fun e w' => e = .returned (.int .i64 2) ∧ w = w' := by
  go_enter Tryz.func151, Tryz.ntmps151
  go_wp2_with (go_at_call 164; refine (Tryz.bits_Len64 65535 _ (by omega) (by omega)).mono ?_; rw [show Lib.bitLen (65535 : Int).toNat = 16 from by decide]; rintro e w' ⟨rfl, rfl⟩)
  go_ret
  exact ⟨rfl, rfl⟩
theorem next16_ok (b : Nat) (s : ByteArray) (p : Nat) (w : World) (h : Rd w b s p) (hp : p + 2 ≤ s.size) (hs : s.size ≤ 9223372036854775807) :
    Calls Tryz.prog 166 #[.pointer (some ⟨b, 0, none⟩)] w fun e w' => e = .returned (.tuple #[.int .u16 (valAt s p 2), .nilIface]) ∧ Rd w' b s (p + 2) ∧ w.grownBy w' (some b) := by
  obtain ⟨t, ht⟩ : ∃ t : ByteArray, t = s.extract p (p + 2) := ⟨_, rfl⟩
  have hz1 : t.size ≤ 2 := by rw [ht]; simp; omega
  have hz2 : 2 ≤ t.size := by rw [ht]; simp; omega
  have HT := Lib.hid ht
  clear ht
  go_enter Tryz.func166, Tryz.ntmps166
  go_wp2_with (first | (go_at_call 151; refine (width16 _).mono ?_; rintro e w' ⟨rfl, rfl⟩) | (go_at_call 171; refine (take_ok b s p 2 _ h hp hs).mono ?_; rintro e w1 ⟨rfl, h1, hg⟩; rw [← HT.out]))
  go_loop [6, 19] (fun n i => ∃ k : Nat, k ≤ 2 ∧ i = .int .i64 k ∧ n = .int .u64 (nat8 (t.data.toList.take k))) (fun _ i => 2 - (intOf i).toNat)
  case atStart => exact ⟨0, Nat.zero_le _, rfl, rfl⟩
  case round =>
    obtain ⟨k, hk, rfl, rfl⟩ := hrel
    by_cases hlt : k < t.size
    · have hb := nat8_bound t k (by omega)
      have HS := Lib.hid (nat8_step t k hlt (by omega))
      go_wp2
      go_round
      case rel => exact ⟨k + 1, by omega, by go_num, congrArg (Value.int .u64) HS.out⟩
      case measure => simp [intOf]; omega
    · have hl := valAt_lt s p 2
      have HV := Lib.hid (valAt_extract s p 2)
      have hk2 : k = 2 := by omega
      subst hk2
      have hv : nat8 (t.data.toList.take 2) = valAt s p 2 := by rw [HT.out]; exact HV.out
      rw [hv]
      clear hv
      go_wp2
      go_ret2
      exact ⟨rfl, h1, hg⟩
theorem next16_short (b : Nat) (s : ByteArray) (p : Nat) (w : World) (h : Rd w b s p) (hp : p ≤ s.size) (hs : s.size ≤ 9223372036854775807) (hn : s.size < p + 2) :
    Calls Tryz.prog 166 #[.pointer (some ⟨b, 0, none⟩)] w fun e w' => e = .returned (.tuple #[.int .u16 0, .iface 209 (.pointer (some ⟨w.heap.size, 0, none⟩))]) ∧ Ft w' w.heap.size 3 p ∧ w.grownBy w' none := by
  go_enter Tryz.func166, Tryz.ntmps166
  go_wp2_with (first | (go_at_call 151; refine (width16 _).mono ?_; rintro e w' ⟨rfl, rfl⟩) | (go_at_call 171; refine (take_short b s p 2 _ h hp hs (by omega)).mono ?_; rintro e w1 ⟨rfl, h1, hg⟩))
  go_ret2
  exact ⟨rfl, h1, hg⟩
theorem u16_ok (b : Nat) (s : ByteArray) (p : Nat) (w : World) (h : Rd w b s p) (hp : p + 2 ≤ s.size) (hs : s.size ≤ 9223372036854775807) :
    Calls Tryz.prog 158 #[.pointer (some ⟨b, 0, none⟩)] w fun e w' => e = .returned (.tuple #[.int .u16 (valAt s p 2), .nilIface]) ∧ Rd w' b s (p + 2) ∧ w.grownBy w' (some b) := by
  go_enter Tryz.func158, Tryz.ntmps158
  go_wp2_with (go_at_call 166; refine (next16_ok b s p _ h hp hs).mono ?_; rintro e w1 ⟨rfl, h1, hg⟩)
  go_ret2
  exact ⟨rfl, h1, hg⟩
theorem u16_short (b : Nat) (s : ByteArray) (p : Nat) (w : World) (h : Rd w b s p) (hp : p ≤ s.size) (hs : s.size ≤ 9223372036854775807) (hn : s.size < p + 2) :
    Calls Tryz.prog 158 #[.pointer (some ⟨b, 0, none⟩)] w fun e w' => e = .returned (.tuple #[.int .u16 0, .iface 209 (.pointer (some ⟨w.heap.size, 0, none⟩))]) ∧ Ft w' w.heap.size 3 p ∧ w.grownBy w' none := by
  go_enter Tryz.func158, Tryz.ntmps158
  go_wp2_with (go_at_call 166; refine (next16_short b s p _ h hp hs hn).mono ?_; rintro e w1 ⟨rfl, h1, hg⟩)
  go_ret2
  exact ⟨rfl, h1, hg⟩
theorem next16_nil (w : World) :
    Calls Tryz.prog 166 #[.pointer none] w fun e w' => e = .returned (.tuple #[.int .u16 0, .iface 209 (.pointer (some ⟨w.heap.size, 0, none⟩))]) ∧ w' = w.alloc (.cells #[.int .i64 1, .int .i64 0] 211) := by
  go_enter Tryz.func166, Tryz.ntmps166
  go_wp2_with (first | (go_at_call 151; refine (width16 _).mono ?_; rintro e w' ⟨rfl, rfl⟩) | (go_at_call 171; refine (take_nil _ _).mono ?_; rintro e w1 ⟨rfl, rfl⟩))
  go_ret2
  exact ⟨rfl, rfl⟩
theorem u16_nil (w : World) :
    Calls Tryz.prog 158 #[.pointer none] w fun e w' => e = .returned (.tuple #[.int .u16 0, .iface 209 (.pointer (some ⟨w.heap.size, 0, none⟩))]) ∧ w' = w.alloc (.cells #[.int .i64 1, .int .i64 0] 211) := by
  go_enter Tryz.func158, Tryz.ntmps158
  go_wp2_with (go_at_call 166; refine (next16_nil _).mono ?_; rintro e w1 ⟨rfl, rfl⟩)
  go_ret2
  exact ⟨rfl, rfl⟩

theorem width32 (w : World) : Calls Tryz.prog 153 #[] w fun e w' => e = .returned (.int .i64 4) ∧ w = w' := by
  go_enter Tryz.func153, Tryz.ntmps153
  go_wp2_with (go_at_call 164; refine (Tryz.bits_Len64 4294967295 _ (by omega) (by omega)).mono ?_; rw [show Lib.bitLen (4294967295 : Int).toNat = 32 from by decide]; rintro e w' ⟨rfl, rfl⟩)
  go_ret
  exact ⟨rfl, rfl⟩
end Go.Proofs.YtliiooldlooagaaGreatDoor

/-
  What the Reader's Text and End answer and leave, over this seat's translation; conditions: the Reader's block is there (or the Reader is nil), its place is not behind the text's end, the text is no longer than a machine's numbers tell.
-/
namespace Go.Proofs.YtliiooldlooagaaGreatDoor
open Go.RowKit

/-- A value beside a new Fault; nothing that was there has turned. -/
def Faulted (w : World) (v : Value) (c p : Int) (e : Ending) (w' : World) : Prop :=
  ∃ a : Nat, e = .returned (.tuple #[v, .iface 209 (.pointer (some ⟨a, 0, none⟩))]) ∧ w.heap.size ≤ a ∧ Ft w' a c p ∧ w.grownBy w' none

theorem end_nil (w : World) :
    Calls Tryz.prog 159 #[.pointer none] w fun e w' => e = .returned (.iface 209 (.pointer (some ⟨w.heap.size, 0, none⟩))) ∧ Ft w' w.heap.size 1 0 ∧ w.grownBy w' none := by
  go_enter Tryz.func159, Tryz.ntmps159
  go_wp2_with (go_at_call 167; refine (fault_nil _ _).mono ?_; rintro e w' ⟨rfl, rfl⟩)
  go_ret
  exact ⟨rfl, Blk.mk _ _ _, gb_alloc _ _ _⟩
theorem end_all (b : Nat) (s : ByteArray) (p : Nat) (w : World) (h : Rd w b s p) (hp : p = s.size) (hs : s.size ≤ 9223372036854775807) :
    Calls Tryz.prog 159 #[.pointer (some ⟨b, 0, none⟩)] w fun e w' => e = .returned .nilIface ∧ w.grownBy w' none := by
  have h1 : ¬ (0 < (s.size : Int) - p) := by omega
  have h2 : p ≤ s.size := by omega
  clear hp
  go_enter Tryz.func159, Tryz.ntmps159
  go_wp2_with (go_at_call 150; refine (left_any b s p _ h h2 hs).mono ?_; rintro e w1 ⟨rfl, hg, hh⟩; clear hh)
  go_ret
  exact ⟨rfl, hg⟩
theorem end_left (b : Nat) (s : ByteArray) (p : Nat) (w : World) (h : Rd w b s p) (hp : p < s.size) (hs : s.size ≤ 9223372036854775807) :
    Calls Tryz.prog 159 #[.pointer (some ⟨b, 0, none⟩)] w fun e w' => e = .returned (.iface 209 (.pointer (some ⟨w.heap.size, 0, none⟩))) ∧ Ft w' w.heap.size 4 p ∧ w.grownBy w' none := by
  have h1 : 0 < (s.size : Int) - p := by omega
  go_enter Tryz.func159, Tryz.ntmps159
  go_wp2_with (first | (go_at_call 150; refine (left_any b s p _ h (by omega) hs).mono ?_; rintro e w1 ⟨rfl, hg, hh⟩; have hz := Lib.hid (congrArg Array.size hh); clear hh) | (go_at_call 167; refine (fault_any b s p _ _ (h.keep0 hg)).mono ?_; rintro e w' ⟨rfl, rfl⟩))
  go_ret
  rw [← hz.out]
  exact ⟨rfl, Blk.mk _ _ _, gb_trans hg (gb_alloc _ _ _)⟩
end Go.Proofs.YtliiooldlooagaaGreatDoor

/-
  What the statements' own 'is' answers: true of nil and a Fault of OK, and of a *api.Fault that is the one asked for; conditions: the variable errors.errorType holds its type's handle, the Fault's block is there.
-/
namespace Go.Proofs.YtliiooldlooagaaGreatDoor
open Go.RowKit

/-- The variable errors.errorType holds error's handle. -/
def Hd (w : World) : Prop := w.cell? ⟨3, 0, none⟩ = some (.iface 250 (.agg #[.pointer (some ⟨4, 94, none⟩)]))
theorem Hd.lt {w : World} (h : Hd w) : 3 < w.heap.size := World.block_lt_of_cell? w ⟨3, 0, none⟩ h
theorem Hd.keep {w w' : World} {r : Option Nat} (h : Hd w) (g : w.grownBy w' r) (hr : some 3 ≠ r) : Hd w' := g.cell h hr
theorem Hd.keep0 {w w' : World} (h : Hd w) (g : w.grownBy w' none) : Hd w' := g.cell h (by simp)

theorem as_hit2 (e : Addr) (tb : Nat) (old : Value) (w : World) (hg : Hd w) (ht : Blk w tb 209 #[old]) :
    Calls Tryz.prog 149 #[.iface 209 (.pointer (some e)), .iface 227 (.pointer (some ⟨tb, 0, none⟩))] w fun ev w' => ev = .returned (.bool true) ∧ Blk w' tb 209 #[.pointer (some e)] ∧ w.grownBy w' (some tb) := by
  refine (as_hit e ⟨tb, 0, none⟩ old w hg (Blk.cell ht 0 rfl) (Blk.free ht 0)).mono ?_
  rintro ev w' ⟨rfl, rfl⟩
  have g1 := gb_trans (gb_alloc w (.cells #[.pointer (some ⟨tb, 0, none⟩)] 227) none) (gb_trans (gb_alloc _ (.cells #[.pointer (some ⟨4, 227, none⟩), .pointer (some ⟨w.heap.size, 0, none⟩), .int .u64 150] 238) none) (gb_trans (gb_alloc _ (.cells #[.pointer (some ⟨4, 227, none⟩), .pointer (some ⟨w.heap.size, 0, none⟩), .int .u64 150] 238) none) (gb_alloc _ (.cells #[.pointer (some e)] 209) none)))
  exact ⟨rfl, Blk.set (ht.keep0 g1) 0 _, gb_trans (gb_weak g1 _) (gb_set _ _ _ _ _)⟩

theorem Tryz.eqlFault (c p : Int) (w : World) : (binOp .eql 211 (.agg #[.int .i64 c, .int .i64 p]) (.agg #[.int .i64 c, .int .i64 p])).run Tryz.prog w = .ok (.bool true) w := by
  have u3 := Tryz.underlying3
  have a3 := Tryz.isAgg3
  have z3 := Tryz.sizeOf3
  have u4 := Tryz.underlying33
  have a4 := Tryz.isAgg33
  have z4 := Tryz.sizeOf33
  rw [run_eql_struct, show (10000 : Nat) = 9999 + 1 from rfl, run_equalIn_agg w 9999 211 _ _ (by kernel_rfl) (by kernel_rfl)]
  simp only [Program.fieldsOf, Tryz.underlying211]
  go_simp

end Go.Proofs.YtliiooldlooagaaGreatDoor
