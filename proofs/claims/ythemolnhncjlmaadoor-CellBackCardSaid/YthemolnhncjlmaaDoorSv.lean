/-
  The law's helpers: the chapter's examples all hold (works), and a text that is doubled so often (long), over this seat's translation; conditions: none beside the reach.
-/
import Derived.Test.YthemolnhncjlmaaDoorSw
import Derived.Test.YthemolnhncjlmaaDoorSj
namespace Go.Proofs.YthemolnhncjlmaaDoor
open Go.RowKit

theorem of_lit (s : ByteArray) (v : Int) (hs : s.size ≤ 140737488351232) (hv : ((moreN 1 s.data.toList : Nat) : Int) = v) (w : World) :
    Calls Tryd.prog 15 #[.string s] w fun e w' => e = .returned (.int .u32 v) ∧ Below w.heap.size w w' := by
  subst hv; exact of_any s w hs
theorem more_lit (n : Nat) (s : ByteArray) (z v : Int) (hz : z = (n : Int)) (hn : n < 4294967296) (hs : s.size ≤ 140737488351232) (hv : ((moreN n s.data.toList : Nat) : Int) = v) (w : World) :
    Calls Tryd.prog 28 #[.int .u32 z, .string s] w fun e w' => e = .returned (.int .u32 v) ∧ Below w.heap.size w w' := by
  subst hz hv; exact more_any n s w hn hs
theorem bchain {w a b : World} (h : Below w.heap.size w a) (k : Below a.heap.size a b) : Below w.heap.size w b := h.trans (k.mono h.size)
theorem lit_nil : ((moreN 1 (⟨#[]⟩ : ByteArray).data.toList : Nat) : Int) = 1 := by decide
theorem lit_a : ((moreN 1 (⟨#[97]⟩ : ByteArray).data.toList : Nat) : Int) = 6422626 := by decide
theorem lit_abc : ((moreN 1 (⟨#[97, 98, 99]⟩ : ByteArray).data.toList : Nat) : Int) = 38600999 := by decide
theorem lit_wiki : ((moreN 1 (⟨#[87, 105, 107, 105, 112, 101, 100, 105, 97]⟩ : ByteArray).data.toList : Nat) : Int) = 300286872 := by decide
theorem lit_ab : ((moreN 1 (⟨#[97, 98]⟩ : ByteArray).data.toList : Nat) : Int) = 19267780 := by decide
theorem lit_c : ((moreN 1 (⟨#[99]⟩ : ByteArray).data.toList : Nat) : Int) = 6553700 := by decide
theorem lit_more : ((moreN 19267780 (⟨#[99]⟩ : ByteArray).data.toList : Nat) : Int) = 38600999 := by decide
theorem lit_join : ((joinN 19267780 6553700 (1 : Int).toNat : Nat) : Int) = 38600999 := by decide

def SomeText (w : World) (e : Ending) (w' : World) : Prop := ∃ t : ByteArray, e = .returned (.string t) ∧ t.size ≤ 32000 ∧ w = w'
def LongAt (k : Nat) (v : Value) : Prop := ∃ t : ByteArray, v = .string t ∧ t.size ≤ 4000 * 2 ^ k
end Go.Proofs.YthemolnhncjlmaaDoor

