/-
  What the statements' own 'num' reads and what the document's answers Num, Text, End, fault read, over this seat's translation; conditions: the readers' blocks are there with their texts and places, no place behind the text's end, the text of at most a million bytes.
-/
import Derived.Test.YtcoedakbagbenaaDoorRd3
import Derived.Test.YtcoedakbagbenaaDoorLawIs
import Derived.Deep.DeepCutAuto
import Derived.WalkSpells
namespace Go.Proofs.YtcoedakbagbenaaDoor
open Go.RowKit

/-- The document's reader: its bytes, and how many were taken. -/
def Qd (w : World) (b : Nat) (s : ByteArray) (p : Nat) : Prop := Blk w b 27 #[.string s, .int .i64 p]
theorem Qd.c0 {w : World} {b : Nat} {s : ByteArray} {p : Nat} (h : Qd w b s p) : w.cell? ⟨b, 0, none⟩ = some (.string s) := Blk.cell h 0 rfl
theorem Qd.c1 {w : World} {b : Nat} {s : ByteArray} {p : Nat} (h : Qd w b s p) : w.cell? ⟨b, 1, none⟩ = some (.int .i64 p) := Blk.cell h 1 rfl
theorem Qd.keep0 {w w' : World} {b : Nat} {s : ByteArray} {p : Nat} (h : Qd w b s p) (g : w.grownBy w' none) : Qd w' b s p := Blk.keep0 h g
theorem Qd.keep {w w' : World} {b : Nat} {s : ByteArray} {p : Nat} {r : Option Nat} (h : Qd w b s p) (g : w.grownBy w' r) (hr : some b ≠ r) : Qd w' b s p := Blk.keep h g hr
theorem Qd.lt {w : World} {b : Nat} {s : ByteArray} {p : Nat} (h : Qd w b s p) : b < w.heap.size := Blk.lt h
theorem Qd.setI {w : World} {b : Nat} {s : ByteArray} {p : Nat} (h : Qd w b s p) (x : Int) (q : Nat) (e : x = q) : Qd (w.setCell ⟨b, 1, none⟩ (.int .i64 x)) b s q := by
  subst e; exact Blk.set h 1 (.int .i64 q)
theorem Qd.free {w : World} {b : Nat} {s : ByteArray} {p : Nat} (h : Qd w b s p) (o : Nat) : w.frozen? ⟨b, o, none⟩ = false := Blk.free h o

theorem num1_ok (b : Nat) (s : ByteArray) (p : Nat) (w : World) (h : Rd w b s p) (hp : p + 1 ≤ s.size) (hs : s.size ≤ 1000000) :
    Calls Tryd.prog 9 #[.pointer (some ⟨b, 0, none⟩), .int .i64 1] w fun e w' => e = .returned (.tuple #[.int .u64 (valAt s p 1), .nilIface]) ∧ Rd w' b s (p + 1) ∧ w.grownBy w' (some b) := by
  have hv := valAt_lt s p 1
  have hv2 : valAt s p 1 < 256 := hv
  clear hv
  go_enter Tryd.func9, Tryd.ntmps9
  go_wp2_with (go_at_call 23; go_must (refine (u8_ok b s p _ h hp (by omega)).mono ?_; rintro e w1 ⟨rfl, h1, g1⟩))
  go_ret2
  exact ⟨rfl, h1, g1⟩
theorem num1_short (b : Nat) (s : ByteArray) (p : Nat) (w : World) (h : Rd w b s p) (hp : p ≤ s.size) (hs : s.size ≤ 1000000) (hn : s.size < p + 1) :
    Calls Tryd.prog 9 #[.pointer (some ⟨b, 0, none⟩), .int .i64 1] w (Faulted w (.int .u64 0) 3 p) := by
  go_enter Tryd.func9, Tryd.ntmps9
  go_wp2_with (go_at_call 23; go_must (refine (u8_short b s p _ h hp (by omega) hn).mono ?_; rintro e w1 ⟨rfl, h1, g1⟩))
  go_ret2
  exact ⟨_, rfl, Nat.le_refl _, h1, g1⟩

theorem num2_ok (b : Nat) (s : ByteArray) (p : Nat) (w : World) (h : Rd w b s p) (hp : p + 2 ≤ s.size) (hs : s.size ≤ 1000000) :
    Calls Tryd.prog 9 #[.pointer (some ⟨b, 0, none⟩), .int .i64 2] w fun e w' => e = .returned (.tuple #[.int .u64 (valAt s p 2), .nilIface]) ∧ Rd w' b s (p + 2) ∧ w.grownBy w' (some b) := by
  have hv := valAt_lt s p 2
  have hv2 : valAt s p 2 < 65536 := hv
  clear hv
  go_enter Tryd.func9, Tryd.ntmps9
  go_wp2_with (go_at_call 27; go_must (refine (u16_ok b s p _ h hp (by omega)).mono ?_; rintro e w1 ⟨rfl, h1, g1⟩))
  go_ret2
  exact ⟨rfl, h1, g1⟩
theorem num2_short (b : Nat) (s : ByteArray) (p : Nat) (w : World) (h : Rd w b s p) (hp : p ≤ s.size) (hs : s.size ≤ 1000000) (hn : s.size < p + 2) :
    Calls Tryd.prog 9 #[.pointer (some ⟨b, 0, none⟩), .int .i64 2] w (Faulted w (.int .u64 0) 3 p) := by
  go_enter Tryd.func9, Tryd.ntmps9
  go_wp2_with (go_at_call 27; go_must (refine (u16_short b s p _ h hp (by omega) hn).mono ?_; rintro e w1 ⟨rfl, h1, g1⟩))
  go_ret2
  exact ⟨_, rfl, Nat.le_refl _, h1, g1⟩

theorem num4_ok (b : Nat) (s : ByteArray) (p : Nat) (w : World) (h : Rd w b s p) (hp : p + 4 ≤ s.size) (hs : s.size ≤ 1000000) :
    Calls Tryd.prog 9 #[.pointer (some ⟨b, 0, none⟩), .int .i64 4] w fun e w' => e = .returned (.tuple #[.int .u64 (valAt s p 4), .nilIface]) ∧ Rd w' b s (p + 4) ∧ w.grownBy w' (some b) := by
  have hv := valAt_lt s p 4
  have hv2 : valAt s p 4 < 4294967296 := hv
  clear hv
  go_enter Tryd.func9, Tryd.ntmps9
  go_wp2_with (go_at_call 28; go_must (refine (u32_ok b s p _ h hp (by omega)).mono ?_; rintro e w1 ⟨rfl, h1, g1⟩))
  go_ret2
  exact ⟨rfl, h1, g1⟩
theorem num4_short (b : Nat) (s : ByteArray) (p : Nat) (w : World) (h : Rd w b s p) (hp : p ≤ s.size) (hs : s.size ≤ 1000000) (hn : s.size < p + 4) :
    Calls Tryd.prog 9 #[.pointer (some ⟨b, 0, none⟩), .int .i64 4] w (Faulted w (.int .u64 0) 3 p) := by
  go_enter Tryd.func9, Tryd.ntmps9
  go_wp2_with (go_at_call 28; go_must (refine (u32_short b s p _ h hp (by omega) hn).mono ?_; rintro e w1 ⟨rfl, h1, g1⟩))
  go_ret2
  exact ⟨_, rfl, Nat.le_refl _, h1, g1⟩

theorem num8_ok (b : Nat) (s : ByteArray) (p : Nat) (w : World) (h : Rd w b s p) (hp : p + 8 ≤ s.size) (hs : s.size ≤ 1000000) :
    Calls Tryd.prog 9 #[.pointer (some ⟨b, 0, none⟩), .int .i64 8] w fun e w' => e = .returned (.tuple #[.int .u64 (valAt s p 8), .nilIface]) ∧ Rd w' b s (p + 8) ∧ w.grownBy w' (some b) := by
  have hv := valAt_lt s p 8
  have hv2 : valAt s p 8 < 18446744073709551616 := hv
  clear hv
  go_enter Tryd.func9, Tryd.ntmps9
  go_wp2_with (go_at_call 24; go_must (refine (u64_ok b s p _ h hp (by omega)).mono ?_; rintro e w1 ⟨rfl, h1, g1⟩))
  go_ret2
  exact ⟨rfl, h1, g1⟩
theorem num8_short (b : Nat) (s : ByteArray) (p : Nat) (w : World) (h : Rd w b s p) (hp : p ≤ s.size) (hs : s.size ≤ 1000000) (hn : s.size < p + 8) :
    Calls Tryd.prog 9 #[.pointer (some ⟨b, 0, none⟩), .int .i64 8] w (Faulted w (.int .u64 0) 3 p) := by
  go_enter Tryd.func9, Tryd.ntmps9
  go_wp2_with (go_at_call 24; go_must (refine (u64_short b s p _ h hp (by omega) hn).mono ?_; rintro e w1 ⟨rfl, h1, g1⟩))
  go_ret2
  exact ⟨_, rfl, Nat.le_refl _, h1, g1⟩

theorem rfault_any (b : Nat) (s : ByteArray) (p : Nat) (c : Int) (w : World) (h : Qd w b s p) :
    Calls Tryd.prog 29 #[.pointer (some ⟨b, 0, none⟩), .int .i64 c] w fun e w' => e = .returned (.agg #[.int .i64 c, .int .i64 p]) ∧ w.grownBy w' none := by
  have h1 := h.c1
  have hl := h.lt
  clear h
  go_enter Tryd.func29, Tryd.ntmps29
  go_wp2
  exact bodyPost_ret (v := .agg #[.int .i64 c, .int .i64 p]) (by simp [results, Tryd.results29, go_sem]) rfl ⟨rfl, gb_alloc _ _ _⟩

theorem rend_all (b : Nat) (s : ByteArray) (p : Nat) (w : World) (h : Qd w b s p) (hp : s.size ≤ p) (_hs : s.size ≤ 1000000) :
    Calls Tryd.prog 17 #[.pointer (some ⟨b, 0, none⟩)] w fun e w' => e = .returned (.agg #[.int .i64 0, .int .i64 0]) ∧ w.grownBy w' none := by
  have hlt : ¬ p < s.size := by omega
  have hl := h.lt
  have hc0 : (w.alloc (.cells #[.int .i64 0, .int .i64 0] 36)).cell? ⟨b, 0, none⟩ = some (.string s) := (h.keep0 (gb_alloc _ _ _)).c0
  have hc1 : (w.alloc (.cells #[.int .i64 0, .int .i64 0] 36)).cell? ⟨b, 1, none⟩ = some (.int .i64 p) := (h.keep0 (gb_alloc _ _ _)).c1
  clear h
  go_enter Tryd.func17, Tryd.ntmps17
  go_wp2
  go_quiet (fail)
  go_wp2
  refine bodyPost_ret (v := .agg #[.int .i64 0, .int .i64 0]) (by simp [results, Tryd.results17, go_sem]) rfl ⟨rfl, ?_⟩
  exact gb_step (gb_step (gb_trans (gb_alloc _ _ _) (gb_drewN _ _ _)) (gb_set _ _ _ _ _) (Nat.le_refl _)) (gb_set _ _ _ _ _) (Nat.le_refl _)
theorem rend_left (b : Nat) (s : ByteArray) (p : Nat) (w : World) (h : Qd w b s p) (hp : p < s.size) (_hs : s.size ≤ 1000000) :
    Calls Tryd.prog 17 #[.pointer (some ⟨b, 0, none⟩)] w fun e w' => e = .returned (.agg #[.int .i64 4, .int .i64 p]) ∧ w.grownBy w' none := by
  have hl := h.lt
  have h1 := h.keep0 (gb_alloc w (.cells #[.int .i64 0, .int .i64 0] 36) none)
  have rb := Blk.mk w 36 #[.int .i64 0, .int .i64 0]
  have hc0 := h1.c0
  have hc1 := h1.c1
  go_enter Tryd.func17, Tryd.ntmps17
  go_wp2
  go_quiet (fail)
  go_wp2_with (go_at_call 29; go_must (refine (rfault_any b s p _ _ (h1.keep0 (gb_drewN _ _ _))).mono ?_; rintro e w1 ⟨rfl, g1⟩; replace rb := (rb.keep0 (gb_drewN _ _ _)).keep0 g1; have r0 := Blk.cell rb 0 rfl; have r1 := Blk.cell rb 1 rfl; have f0 := Blk.free rb 0; have f1 := Blk.free rb 1))
  have rb2 := Blk.set (Blk.set rb 0 (.int .i64 4)) 1 (.int .i64 p)
  have k0 := Blk.cell rb2 0 rfl
  have k1 := Blk.cell rb2 1 rfl
  refine bodyPost_ret (v := .agg #[.int .i64 4, .int .i64 p]) (by simp [results, Tryd.results17, go_sem, k0, k1]) rfl ⟨rfl, ?_⟩
  exact gb_step (gb_step (gb_trans (gb_trans (gb_alloc _ _ _) (gb_drewN _ _ _)) g1) (gb_set _ _ _ _ _) (Nat.le_refl _)) (gb_set _ _ _ _ _) (Nat.le_refl _)
end Go.Proofs.YtcoedakbagbenaaDoor
