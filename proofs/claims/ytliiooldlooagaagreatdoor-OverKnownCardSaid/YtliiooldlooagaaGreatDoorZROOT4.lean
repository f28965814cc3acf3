/-
  Texts of one layer, one behind the other, each with its own sentence; conditions: those that each law states.
-/
import Derived.Below
import Derived.Deep.QuietTactic
import Derived.BigQuiet
import Derived.Deep.RegionWith
import Derived.Outline
import Derived.Test.YtliiooldlooagaaGreatDoorZROOT1
import Derived.Test.YtliiooldlooagaaGreatDoorZROOT3
set_option linter.unusedSimpArgs false
set_option linter.unusedVariables false

/-
  The base of this seat: nothing of its own (the small laws on memory stand in Gb).
-/
namespace Go.Proofs.YtliiooldlooagaaGreatDoor
open Go.RowKit
end Go.Proofs.YtliiooldlooagaaGreatDoor

/-
  What the Reader's small calls (New, Place, Left, fault, take) answer and leave, over this seat's translation; conditions: the Reader's block is there with its text and its place, and the place is not behind the text's end.
-/
namespace Go.Proofs.YtliiooldlooagaaGreatDoor
open Go.RowKit

/-- A Reader's block: the text, the place. -/
def Rd (w : World) (b : Nat) (s : ByteArray) (p : Nat) : Prop := Blk w b 232 #[.string s, .int .i64 p]
/-- A Fault's block. -/
def Ft (w : World) (b : Nat) (c p : Int) : Prop := Blk w b 211 #[.int .i64 c, .int .i64 p]
theorem Rd.c0 {w : World} {b : Nat} {s : ByteArray} {p : Nat} (h : Rd w b s p) : w.cell? ⟨b, 0, none⟩ = some (.string s) := Blk.cell h 0 rfl
theorem Rd.c1 {w : World} {b : Nat} {s : ByteArray} {p : Nat} (h : Rd w b s p) : w.cell? ⟨b, 1, none⟩ = some (.int .i64 p) := Blk.cell h 1 rfl
theorem Rd.keep0 {w w' : World} {b : Nat} {s : ByteArray} {p : Nat} (h : Rd w b s p) (g : w.grownBy w' none) : Rd w' b s p := Blk.keep0 h g
theorem Rd.keep {w w' : World} {b : Nat} {s : ByteArray} {p : Nat} {r : Option Nat} (h : Rd w b s p) (g : w.grownBy w' r) (hr : some b ≠ r) : Rd w' b s p := Blk.keep h g hr
theorem Rd.lt {w : World} {b : Nat} {s : ByteArray} {p : Nat} (h : Rd w b s p) : b < w.heap.size := Blk.lt h
theorem Ft.keep0 {w w' : World} {b : Nat} {c p : Int} (h : Ft w b c p) (g : w.grownBy w' none) : Ft w' b c p := Blk.keep0 h g
theorem Ft.keep {w w' : World} {b : Nat} {c p : Int} {r : Option Nat} (h : Ft w b c p) (g : w.grownBy w' r) (hr : some b ≠ r) : Ft w' b c p := Blk.keep h g hr
theorem Ft.lt {w : World} {b : Nat} {c p : Int} (h : Ft w b c p) : b < w.heap.size := Blk.lt h

theorem new_any (s : ByteArray) (w : World) :
    Calls Tryz.prog 147 #[.string s] w fun e w' => e = .returned (.pointer (some ⟨w.heap.size, 0, none⟩)) ∧ w' = w.alloc (.cells #[.string s, .int .i64 0] 232) := by
  go_enter Tryz.func147, Tryz.ntmps147
  go_wp2
  go_ret
  exact ⟨rfl, rfl⟩

theorem place_any (b : Nat) (s : ByteArray) (p : Nat) (w : World) (h : Rd w b s p) :
    Calls Tryz.prog 172 #[.pointer (some ⟨b, 0, none⟩)] w fun e w' => e = .returned (.int .i64 p) ∧ w = w' := by
  have h1 := h.c1
  clear h
  go_enter Tryz.func172, Tryz.ntmps172
  go_wp2
  go_ret
  exact ⟨rfl, rfl⟩
theorem place_nil (w : World) :
    Calls Tryz.prog 172 #[.pointer none] w fun e w' => e = .returned (.int .i64 0) ∧ w = w' := by
  go_enter Tryz.func172, Tryz.ntmps172
  go_wp2
  go_ret
  exact ⟨rfl, rfl⟩
theorem left_any (b : Nat) (s : ByteArray) (p : Nat) (w : World) (h : Rd w b s p) (hp : p ≤ s.size) (hs : s.size ≤ 9223372036854775807) :
    Calls Tryz.prog 150 #[.pointer (some ⟨b, 0, none⟩)] w fun e w' => e = .returned (.int .i64 ((s.size : Int) - p)) ∧ w.grownBy w' none ∧ w'.heap = w.heap := by
  have h0 := h.c0
  have h1 := h.c1
  clear h
  go_enter Tryz.func150, Tryz.ntmps150
  go_wp2
  go_quiet (fail)
  go_wp2
  go_ret
  exact ⟨rfl, gb_drewN _ _ _, by simp⟩
theorem left_nil (w : World) :
    Calls Tryz.prog 150 #[.pointer none] w fun e w' => e = .returned (.int .i64 0) ∧ w = w' := by
  go_enter Tryz.func150, Tryz.ntmps150
  go_wp2
  go_ret
  exact ⟨rfl, rfl⟩
theorem fault_any (b : Nat) (s : ByteArray) (p : Nat) (c : Int) (w : World) (h : Rd w b s p) :
    Calls Tryz.prog 167 #[.pointer (some ⟨b, 0, none⟩), .int .i64 c] w fun e w' => e = .returned (.iface 209 (.pointer (some ⟨w.heap.size, 0, none⟩))) ∧ w' = w.alloc (.cells #[.int .i64 c, .int .i64 p] 211) := by
  have h1 := h.c1
  clear h
  go_enter Tryz.func167, Tryz.ntmps167
  go_wp2
  go_ret
  exact ⟨rfl, rfl⟩
theorem fault_nil (c : Int) (w : World) :
    Calls Tryz.prog 167 #[.pointer none, .int .i64 c] w fun e w' => e = .returned (.iface 209 (.pointer (some ⟨w.heap.size, 0, none⟩))) ∧ w' = w.alloc (.cells #[.int .i64 c, .int .i64 0] 211) := by
  go_enter Tryz.func167, Tryz.ntmps167
  go_wp2
  go_ret
  exact ⟨rfl, rfl⟩
end Go.Proofs.YtliiooldlooagaaGreatDoor

/-
  What the Reader's take, and the numbers' widths, answer and leave, over this seat's translation; conditions: the Reader's block is there, its place is not behind the text's end, the text is no longer than a machine's numbers tell.
-/
namespace Go.Proofs.YtliiooldlooagaaGreatDoor
open Go.RowKit

theorem Rd.set {w : World} {b : Nat} {s : ByteArray} {p : Nat} (h : Rd w b s p) (q : Nat) : Rd (w.setCell ⟨b, 1, none⟩ (.int .i64 q)) b s q := Blk.set h 1 (.int .i64 q)
theorem Rd.setI {w : World} {b : Nat} {s : ByteArray} {p : Nat} (h : Rd w b s p) (x : Int) (q : Nat) (e : x = q) : Rd (w.setCell ⟨b, 1, none⟩ (.int .i64 x)) b s q := e ▸ Rd.set h q
theorem Rd.free {w : World} {b : Nat} {s : ByteArray} {p : Nat} (h : Rd w b s p) (o : Nat) : w.frozen? ⟨b, o, none⟩ = false := Blk.free h o

theorem slice_str (P : Program) (t : TypeId) (hu : P.underlying t = some .string) (s : ByteArray) (a b : Nat) (x y : Int) (hx : x = a) (hy : y = b) (h1 : a ≤ b) (h2 : b ≤ s.size) (W : World) :
    (Instr.slice t (.string s) (some (.int .i64 x)) (some (.int .i64 y)) none).run P W = .ok (.string (s.extract a b)) W := by
  subst hx; subst hy
  have := run_slice_string (P := P) W t s .i64 .i64 (a : Int) (b : Int) hu (by omega) (by omega) (by omega)
  simpa using this

theorem take_nil (n : Int) (w : World) :
    Calls Tryz.prog 171 #[.pointer none, .int .i64 n] w fun e w' => e = .returned (.tuple #[.string ⟨#[]⟩, .iface 209 (.pointer (some ⟨w.heap.size, 0, none⟩))]) ∧ w' = w.alloc (.cells #[.int .i64 1, .int .i64 0] 211) := by
  go_enter Tryz.func171, Tryz.ntmps171
  go_wp2_with (go_at_call 167; refine (fault_nil _ _).mono ?_; rintro e w' ⟨rfl, rfl⟩)
  go_ret2
  exact ⟨rfl, rfl⟩

theorem take_short (b : Nat) (s : ByteArray) (p : Nat) (n : Int) (w : World) (h : Rd w b s p) (hp : p ≤ s.size) (hs : s.size ≤ 9223372036854775807) (hn : (s.size : Int) - p < n) :
    Calls Tryz.prog 171 #[.pointer (some ⟨b, 0, none⟩), .int .i64 n] w fun e w' => e = .returned (.tuple #[.string ⟨#[]⟩, .iface 209 (.pointer (some ⟨w.heap.size, 0, none⟩))]) ∧ Ft w' w.heap.size 3 p ∧ w.grownBy w' none := by
  go_enter Tryz.func171, Tryz.ntmps171
  go_wp2_with (first | (go_at_call 150; refine (left_any b s p _ h hp hs).mono ?_; rintro e w1 ⟨rfl, hg, hh⟩; have hz := Lib.hid (congrArg Array.size hh); clear hh) | (go_at_call 167; refine (fault_any b s p _ _ (h.keep0 hg)).mono ?_; rintro e w' ⟨rfl, rfl⟩))
  go_ret2
  rw [← hz.out]
  exact ⟨rfl, Blk.mk _ _ _, gb_trans hg (gb_alloc _ _ _)⟩

theorem take_ok (b : Nat) (s : ByteArray) (p n : Nat) (w : World) (h : Rd w b s p) (hp : p + n ≤ s.size) (hs : s.size ≤ 9223372036854775807) :
    Calls Tryz.prog 171 #[.pointer (some ⟨b, 0, none⟩), .int .i64 n] w fun e w' => e = .returned (.tuple #[.string (s.extract p (p + n)), .nilIface]) ∧ Rd w' b s (p + n) ∧ w.grownBy w' (some b) := by
  have hlt : ¬ ((s.size : Int) - p < n) := by omega
  go_enter Tryz.func171, Tryz.ntmps171
  go_wp2_with (go_at_call 150; refine (left_any b s p _ h (by omega) hs).mono ?_; rintro e w1 ⟨rfl, hg, hh⟩; clear hh; have h1 := h.keep0 hg; have c0 := h1.c0; have c1 := h1.c1; have f1 := h1.free 1)
  have h2 := h1.setI ((p : Int) + n) (p + n) (by omega)
  have d0 := h2.c0
  have d1 : (w1.setCell ⟨b, 1, none⟩ (.int .i64 ((p : Int) + n))).cell? ⟨b, 1, none⟩ = some (.int .i64 ((p : Int) + n)) := by rw [h2.c1]; congr 2
  have hsl := slice_str Tryz.prog 9 Tryz.underlying9 s p (p + n) (p : Int) ((p : Int) + n) rfl (by omega) (by omega) hp
  go_quiet (fail)
  go_wp2
  go_ret2
  exact ⟨rfl, h2.keep0 (gb_drewN _ _ _), gb_trans (gb_weak hg _) (gb_trans (gb_set _ _ _ _ _) (gb_drewN _ _ _))⟩
end Go.Proofs.YtliiooldlooagaaGreatDoor
