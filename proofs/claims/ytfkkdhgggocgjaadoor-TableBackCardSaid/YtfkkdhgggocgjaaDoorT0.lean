/-
  A slice whose cells are known, and what an append leaves of other blocks; no conditions beside those that each law states.
-/
import Derived.RangeFuncNested
import Derived.RangeFuncBound
import Derived.RangeFuncCalls
import Derived.RangeFuncLeaves
import Derived.RangeFuncBox
import Derived.Shelf.Abstract
import Derived.Shelf.RegionOpen
import Derived.OwnWalkIn
import Derived.TacticsInMore
import Derived.LoopNIn
import Derived.LoopIn
import Derived.IntWalk
import Derived.WalkLawsBesides
import Derived.WalkSpells
import Derived.Test.YtfkkdhgggocgjaaDoorPut
import Derived.Test.YtfkkdhgggocgjaaDoorRd3
import Derived.Test.YtfkkdhgggocgjaaDoorLawIs
namespace Go.Proofs.YtfkkdhgggocgjaaDoor
open Go.RowKit

/-- A slice of n elements, k cells each, whose cells are these. -/
def Sl (k : Nat) (w : World) (v : Value) (n : Nat) (cs : List Value) : Prop :=
  ∃ (ao : Option Addr) (cap : Nat), v = .slice ao n cap ∧ n ≤ cap ∧ cs.length = n * k ∧ (ao = none → n = 0 ∧ cap = 0) ∧ ∀ a, ao = some a → ∀ j u, cs[j]? = some u → w.cell? (a.add j) = some u
theorem Sl.nil (k : Nat) (w : World) : Sl k w (.slice none 0 0) 0 [] := ⟨none, 0, rfl, Nat.le_refl _, by simp, fun _ => ⟨rfl, rfl⟩, fun _ e => by cases e⟩
theorem Sl.keep0 {k : Nat} {w w' : World} {v : Value} {n : Nat} {cs : List Value} (h : Sl k w v n cs) (g : w.grownBy w' none) : Sl k w' v n cs := by
  obtain ⟨ao, cap, h1, h2, h3, h4, h5⟩ := h
  exact ⟨ao, cap, h1, h2, h3, h4, fun a e j u hj => g.cell (h5 a e j u hj) (by simp)⟩
theorem Sl.of_owns {w : World} {base : Nat} {e : TypeId} {k : Nat} {v : Value} {n : Nat} {cs : List Value} (h : w.ownsRow base e k v n cs) : Sl k w v n cs := by
  have hl := h.1
  rcases h.2 with ⟨rfl, hn⟩ | ⟨g, cap, cur, rfl, hb, hh, hc, hm, hs, ht⟩
  · subst hn
    exact ⟨none, 0, rfl, Nat.le_refl _, hl, fun _ => ⟨rfl, rfl⟩, fun _ e => by cases e⟩
  · refine ⟨some ⟨g, 0, none⟩, cap, rfl, hc, hl, (fun e => by cases e), ?_⟩
    intro a e j u hj
    cases e
    exact h.cells (g := g) rfl j u hj
/-- What a non-empty one reads as, cell by cell. -/
theorem Sl.some {k : Nat} {w : World} {v : Value} {n : Nat} {cs : List Value} (h : Sl k w v n cs) (hn : 0 < n) : ∃ a cap, v = .slice (some a) n cap ∧ n ≤ cap ∧ ∀ j u, cs[j]? = some u → w.cell? (a.add j) = some u := by
  obtain ⟨ao, cap, rfl, h2, h3, h4, h5⟩ := h
  cases ao with
  | none => have := (h4 rfl).1; omega
  | some a => exact ⟨a, cap, rfl, h2, h5 a rfl⟩
theorem gb_own2 {W w w' : World} {base : Nat} {e : TypeId} {size : Nat} {v : Value} {n : Nat} {xs : List Value} (hg : W.grownBy w none) (ho : w.ownsRow base e size v n xs) (hb : W.heap.size ≤ base) (h2 : w.grownBy w' v.ownBlock) : W.grownBy w' none := by
  refine ⟨h2.os.trans hg.os, h2.tape.trans hg.tape, h2.output.trans hg.output, Nat.le_trans hg.size h2.size, ?_⟩
  intro k hk _
  rw [← hg.block k hk (by simp)]
  refine h2.block k (Nat.lt_of_lt_of_le hk hg.size) ?_
  intro e
  have := (ho.lt k e.symm).1
  omega
theorem own_far {w : World} {base b : Nat} {e : TypeId} {size : Nat} {v : Value} {n : Nat} {xs : List Value} (ho : w.ownsRow base e size v n xs) (hb : b < base) : some b ≠ v.ownBlock := by
  intro h
  have := (ho.lt b h.symm).1
  omega
/-- What an append of new cells leaves of a block ahead of the row. -/
theorem blk_app {w w' : World} {base b : Nat} {e t : TypeId} {cs : Array Value} {size : Nat} {v : Value} {n : Nat} {xs : List Value} {o : Obj} (h : Blk w b t cs) (ho : w.ownsRow base e size v n xs) (hb : b < base) (g : (w.alloc o).grownBy w' v.ownBlock) : Blk w' b t cs :=
  (h.keep0 (gb_alloc w o none)).keep g (own_far ho hb)
theorem gb_app {W w w' : World} {base : Nat} {e : TypeId} {size : Nat} {v : Value} {n : Nat} {xs : List Value} {o : Obj} (hg : W.grownBy w none) (ho : w.ownsRow base e size v n xs) (hb : W.heap.size ≤ base) (g : (w.alloc o).grownBy w' v.ownBlock) : W.grownBy w' none :=
  gb_own2 (gb_trans hg (gb_alloc w o none)) (ho.alloc _) hb g
/-- A store into a block ahead of the row leaves the row. -/
theorem own_set {w : World} {base b k : Nat} {e : TypeId} {size : Nat} {v : Value} {n : Nat} {xs : List Value} (ho : w.ownsRow base e size v n xs) (hb : b < base) (u : Value) : (w.setCell ⟨b, k, none⟩ u).ownsRow base e size v n xs :=
  ho.kept (gb_set w b k none u) (Or.inr (fun h => own_far ho hb h.symm))
/-- Bools, bytes, numbers, texts as cells. -/
def bools (l : List Bool) : List Value := l.map Value.bool
def bytesC (l : List UInt8) : List Value := l.map fun c => .int .u8 (c.toNat : Nat)
def intsC (l : List Nat) : List Value := l.map fun n => .int .i64 (n : Nat)
def strsC (l : List ByteArray) : List Value := l.map Value.string
def Bls (w : World) (v : Value) (l : List Bool) : Prop := Sl 1 w v l.length (bools l)
def Bts (w : World) (v : Value) (l : List UInt8) : Prop := Sl 1 w v l.length (bytesC l)
def Nts (w : World) (v : Value) (l : List Nat) : Prop := Sl 1 w v l.length (intsC l)
def Sts (w : World) (v : Value) (l : List ByteArray) : Prop := Sl 1 w v l.length (strsC l)
end Go.Proofs.YtfkkdhgggocgjaaDoor

