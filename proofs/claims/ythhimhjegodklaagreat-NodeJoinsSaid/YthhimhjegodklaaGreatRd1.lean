/-
  What the Reader's small calls (New, Place, Left, fault, take) answer and leave, over this seat's translation; conditions: the Reader's block is there with its text and its place, and the place is not behind the text's end.
-/
import Derived.Test.YthhimhjegodklaaGreatBase
import Derived.Outline
namespace Go.Proofs.YthhimhjegodklaaGreat
open Go.RowKit

/-- A Reader's block: the text, the place. -/
def Rd (w : World) (b : Nat) (s : ByteArray) (p : Nat) : Prop := Blk w b 86 #[.string s, .int .i64 p]
/-- A Fault's block. -/
def Ft (w : World) (b : Nat) (c p : Int) : Prop := Blk w b 80 #[.int .i64 c, .int .i64 p]
theorem Rd.c0 {w : World} {b : Nat} {s : ByteArray} {p : Nat} (h : Rd w b s p) : w.cell? ⟨b, 0, none⟩ = some (.string s) := Blk.cell h 0 rfl
theorem Rd.c1 {w : World} {b : Nat} {s : ByteArray} {p : Nat} (h : Rd w b s p) : w.cell? ⟨b, 1, none⟩ = some (.int .i64 p) := Blk.cell h 1 rfl
theorem Rd.keep0 {w w' : World} {b : Nat} {s : ByteArray} {p : Nat} (h : Rd w b s p) (g : w.grownBy w' none) : Rd w' b s p := Blk.keep0 h g
theorem Rd.keep {w w' : World} {b : Nat} {s : ByteArray} {p : Nat} {r : Option Nat} (h : Rd w b s p) (g : w.grownBy w' r) (hr : some b ≠ r) : Rd w' b s p := Blk.keep h g hr
theorem Rd.lt {w : World} {b : Nat} {s : ByteArray} {p : Nat} (h : Rd w b s p) : b < w.heap.size := Blk.lt h
theorem Ft.keep0 {w w' : World} {b : Nat} {c p : Int} (h : Ft w b c p) (g : w.grownBy w' none) : Ft w' b c p := Blk.keep0 h g
theorem Ft.keep {w w' : World} {b : Nat} {c p : Int} {r : Option Nat} (h : Ft w b c p) (g : w.grownBy w' r) (hr : some b ≠ r) : Ft w' b c p := Blk.keep h g hr
theorem Ft.lt {w : World} {b : Nat} {c p : Int} (h : Ft w b c p) : b < w.heap.size := Blk.lt h

theorem new_any (s : ByteArray) (w : World) :
    Calls Tryz.prog 33 #[.string s] w fun e w' => e = .returned (.pointer (some ⟨w.heap.size, 0, none⟩)) ∧ w' = w.alloc (.cells #[.string s, .int .i64 0] 86) := by
  go_enter Tryz.func33, Tryz.ntmps33
  go_wp2
  go_ret
  exact ⟨rfl, rfl⟩

theorem place_any (b : Nat) (s : ByteArray) (p : Nat) (w : World) (h : Rd w b s p) :
    Calls Tryz.prog 67 #[.pointer (some ⟨b, 0, none⟩)] w fun e w' => e = .returned (.int .i64 p) ∧ w = w' := by
  have h1 := h.c1
  clear h
  go_enter Tryz.func67, Tryz.ntmps67
  go_wp2
  go_ret
  exact ⟨rfl, rfl⟩
theorem place_nil (w : World) :
    Calls Tryz.prog 67 #[.pointer none] w fun e w' => e = .returned (.int .i64 0) ∧ w = w' := by
  go_enter Tryz.func67, Tryz.ntmps67
  go_wp2
  go_ret
  exact ⟨rfl, rfl⟩
theorem left_any (b : Nat) (s : ByteArray) (p : Nat) (w : World) (h : Rd w b s p) (hp : p ≤ s.size) (hs : s.size ≤ 9223372036854775807) :
    Calls Tryz.prog 54 #[.pointer (some ⟨b, 0, none⟩)] w fun e w' => e = .returned (.int .i64 ((s.size : Int) - p)) ∧ w.grownBy w' none ∧ w'.heap = w.heap := by
  have h0 := h.c0
  have h1 := h.c1
  clear h
  go_enter Tryz.func54, Tryz.ntmps54
  go_wp2
  go_quiet (fail)
  go_wp2
  go_ret
  exact ⟨rfl, gb_drewN _ _ _, by simp⟩
theorem left_nil (w : World) :
    Calls Tryz.prog 54 #[.pointer none] w fun e w' => e = .returned (.int .i64 0) ∧ w = w' := by
  go_enter Tryz.func54, Tryz.ntmps54
  go_wp2
  go_ret
  exact ⟨rfl, rfl⟩
theorem fault_any (b : Nat) (s : ByteArray) (p : Nat) (c : Int) (w : World) (h : Rd w b s p) :
    Calls Tryz.prog 53 #[.pointer (some ⟨b, 0, none⟩), .int .i64 c] w fun e w' => e = .returned (.iface 78 (.pointer (some ⟨w.heap.size, 0, none⟩))) ∧ w' = w.alloc (.cells #[.int .i64 c, .int .i64 p] 80) := by
  have h1 := h.c1
  clear h
  go_enter Tryz.func53, Tryz.ntmps53
  go_wp2
  go_ret
  exact ⟨rfl, rfl⟩
theorem fault_nil (c : Int) (w : World) :
    Calls Tryz.prog 53 #[.pointer none, .int .i64 c] w fun e w' => e = .returned (.iface 78 (.pointer (some ⟨w.heap.size, 0, none⟩))) ∧ w' = w.alloc (.cells #[.int .i64 c, .int .i64 0] 80) := by
  go_enter Tryz.func53, Tryz.ntmps53
  go_wp2
  go_ret
  exact ⟨rfl, rfl⟩
end Go.Proofs.YthhimhjegodklaaGreat

