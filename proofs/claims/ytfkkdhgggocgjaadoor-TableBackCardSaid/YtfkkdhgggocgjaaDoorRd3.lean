/-
  What the Reader's Text and End answer and leave, over this seat's translation; conditions: the Reader's block is there (or the Reader is nil), its place is not behind the text's end, the text is no longer than a machine's numbers tell.
-/
import Derived.Test.YtfkkdhgggocgjaaDoorNx
namespace Go.Proofs.YtfkkdhgggocgjaaDoor
open Go.RowKit

/-- A value beside a new Fault; nothing that was there has turned. -/
def Faulted (w : World) (v : Value) (c p : Int) (e : Ending) (w' : World) : Prop :=
  ∃ a : Nat, e = .returned (.tuple #[v, .iface 67 (.pointer (some ⟨a, 0, none⟩))]) ∧ w.heap.size ≤ a ∧ Ft w' a c p ∧ w.grownBy w' none

theorem end_nil (w : World) :
    Calls Tryd.prog 58 #[.pointer none] w fun e w' => e = .returned (.iface 67 (.pointer (some ⟨w.heap.size, 0, none⟩))) ∧ Ft w' w.heap.size 1 0 ∧ w.grownBy w' none := by
  go_enter Tryd.func58, Tryd.ntmps58
  go_wp2_with (go_at_call 61; refine (fault_nil _ _).mono ?_; rintro e w' ⟨rfl, rfl⟩)
  go_ret
  exact ⟨rfl, Blk.mk _ _ _, gb_alloc _ _ _⟩
theorem end_all (b : Nat) (s : ByteArray) (p : Nat) (w : World) (h : Rd w b s p) (hp : p = s.size) (hs : s.size ≤ 9223372036854775807) :
    Calls Tryd.prog 58 #[.pointer (some ⟨b, 0, none⟩)] w fun e w' => e = .returned .nilIface ∧ w.grownBy w' none := by
  have h1 : ¬ (0 < (s.size : Int) - p) := by omega
  have h2 : p ≤ s.size := by omega
  clear hp
  go_enter Tryd.func58, Tryd.ntmps58
  go_wp2_with (go_at_call 52; refine (left_any b s p _ h h2 hs).mono ?_; rintro e w1 ⟨rfl, hg, hh⟩; clear hh)
  go_ret
  exact ⟨rfl, hg⟩
theorem end_left (b : Nat) (s : ByteArray) (p : Nat) (w : World) (h : Rd w b s p) (hp : p < s.size) (hs : s.size ≤ 9223372036854775807) :
    Calls Tryd.prog 58 #[.pointer (some ⟨b, 0, none⟩)] w fun e w' => e = .returned (.iface 67 (.pointer (some ⟨w.heap.size, 0, none⟩))) ∧ Ft w' w.heap.size 4 p ∧ w.grownBy w' none := by
  have h1 : 0 < (s.size : Int) - p := by omega
  go_enter Tryd.func58, Tryd.ntmps58
  go_wp2_with (first | (go_at_call 52; refine (left_any b s p _ h (by omega) hs).mono ?_; rintro e w1 ⟨rfl, hg, hh⟩; have hz := Lib.hid (congrArg Array.size hh); clear hh) | (go_at_call 61; refine (fault_any b s p _ _ (h.keep0 hg)).mono ?_; rintro e w' ⟨rfl, rfl⟩))
  go_ret
  rw [← hz.out]
  exact ⟨rfl, Blk.mk _ _ _, gb_trans hg (gb_alloc _ _ _)⟩
end Go.Proofs.YtfkkdhgggocgjaaDoor

