/-
  Small laws on memory for a seat without errors: what a call that writes one block at most leaves of the others, a block known whole, a slice whose cells are known; no conditions beside those that each law states.
-/
import Derived.WalkKit
import Derived.Lib.Hide
import Derived.OwnWalk
import Derived.Laws.AppendOwn
import Derived.Below
import Derived.Deep.QuietTactic
import Derived.BigQuiet
import Derived.Deep.RegionWith
import Derived.Test.YtliiooldlooagaaGreatDoorProg
set_option linter.unusedSimpArgs false
set_option linter.unusedVariables false
namespace Go.Proofs.YtliiooldlooagaaGreatDoor
open Go.RowKit

theorem gb_refl (w : World) (r : Option Nat) : w.grownBy w r := ⟨rfl, rfl, rfl, Nat.le_refl _, fun _ _ _ => rfl⟩
theorem gb_trans {a b c : World} {r : Option Nat} (h : a.grownBy b r) (k : b.grownBy c r) : a.grownBy c r :=
  ⟨k.os.trans h.os, k.tape.trans h.tape, k.output.trans h.output, Nat.le_trans h.size k.size, fun i hi hr => (k.block i (Nat.lt_of_lt_of_le hi h.size) hr).trans (h.block i hi hr)⟩
theorem gb_weak {a b : World} (h : a.grownBy b none) (r : Option Nat) : a.grownBy b r :=
  ⟨h.os, h.tape, h.output, h.size, fun i hi _ => h.block i hi (by simp)⟩
/-- What is written in a block that came later is no write. -/
theorem gb_later {a b : World} {r : Nat} (h : a.grownBy b (some r)) (hr : a.heap.size ≤ r) : a.grownBy b none :=
  ⟨h.os, h.tape, h.output, h.size, fun i hi _ => h.block i hi (by intro e; cases e; omega)⟩
theorem gb_step {a b c : World} {r : Nat} {q : Option Nat} (h : a.grownBy b q) (k : b.grownBy c (some r)) (hr : a.heap.size ≤ r) : a.grownBy c q :=
  ⟨k.os.trans h.os, k.tape.trans h.tape, k.output.trans h.output, Nat.le_trans h.size k.size, fun i hi hq => (k.block i (Nat.lt_of_lt_of_le hi h.size) (by intro e; cases e; omega)).trans (h.block i hi hq)⟩
theorem gb_alloc (w : World) (o : Obj) (r : Option Nat) : w.grownBy (w.alloc o) r := World.grownBy_alloc w o r
theorem gb_drewN (w : World) (n : Nat) (r : Option Nat) : w.grownBy (w.drewN n) r := by
  refine ⟨?_, ?_, ?_, ?_, ?_⟩ <;> simp [World.drewN]
theorem gb_drew (w : World) (r : Option Nat) : w.grownBy w.drew r := ⟨rfl, rfl, rfl, Nat.le_refl _, fun _ _ _ => rfl⟩
theorem gb_set (w : World) (b o : Nat) (x : Option Nat) (u : Value) : w.grownBy (w.setCell ⟨b, o, x⟩ u) (some b) :=
  ⟨rfl, rfl, rfl, by simp [World.setCell], fun k _ hk => Below.heap_setCell w ⟨b, o, x⟩ u k (by intro e; exact hk (by rw [e]))⟩
theorem gb_below {a b : World} (h : a.grownBy b none) : Below a.heap.size a b :=
  ⟨h.os, h.tape, h.output, h.size, fun k hk => h.block k hk (by simp)⟩
theorem gb_of_below {a b : World} (h : Below a.heap.size a b) : a.grownBy b none :=
  ⟨h.os, h.tape, h.output, h.size, fun k hk _ => h.block k hk⟩

theorem ne_some {a b : Nat} (h : a ≠ b) : some a ≠ some b := fun e => h (Option.some.inj e)
/-- A block of cells that may be written, whole. -/
def Blk (w : World) (b : Nat) (t : TypeId) (vs : Array Value) : Prop := w.heap[b]? = some (.cells vs t (0, 0))
theorem Blk.lt {w : World} {b : Nat} {t : TypeId} {vs : Array Value} (h : Blk w b t vs) : b < w.heap.size := by
  rcases Nat.lt_or_ge b w.heap.size with h1 | h1
  · exact h1
  · unfold Blk at h; rw [Array.getElem?_eq_none h1] at h; cases h
theorem Blk.keep {w w' : World} {b : Nat} {t : TypeId} {vs : Array Value} {r : Option Nat} (h : Blk w b t vs) (g : w.grownBy w' r) (hr : some b ≠ r) : Blk w' b t vs :=
  (g.block b h.lt hr).trans h
theorem Blk.keep0 {w w' : World} {b : Nat} {t : TypeId} {vs : Array Value} (h : Blk w b t vs) (g : w.grownBy w' none) : Blk w' b t vs := h.keep g (by simp)
theorem Blk.mk (w : World) (t : TypeId) (vs : Array Value) : Blk (w.alloc (.cells vs t)) w.heap.size t vs := heap_alloc_new w _
theorem Blk.cell {w : World} {b : Nat} {t : TypeId} {vs : Array Value} (h : Blk w b t vs) (o : Nat) {v : Value} (hv : vs[o]? = some v) : w.cell? ⟨b, o, none⟩ = some v := by
  unfold Blk at h
  simp [World.cell?, h, hv]
theorem Blk.free {w : World} {b : Nat} {t : TypeId} {vs : Array Value} (h : Blk w b t vs) (o : Nat) : w.frozen? ⟨b, o, none⟩ = false := by
  unfold Blk at h
  simp [World.frozen?, h]
theorem Blk.set {w : World} {b : Nat} {t : TypeId} {vs : Array Value} (h : Blk w b t vs) (o : Nat) (u : Value) : Blk (w.setCell ⟨b, o, none⟩ u) b t (vs.setIfInBounds o u) := by
  unfold Blk at h ⊢
  simp [World.setCell, Array.getElem?_modify, h]
/-- A slice of n elements, k cells each, whose cells are these. -/
def Sl (k : Nat) (w : World) (v : Value) (n : Nat) (cs : List Value) : Prop :=
  ∃ (ao : Option Addr) (cap : Nat), v = .slice ao n cap ∧ n ≤ cap ∧ cs.length = n * k ∧ (ao = none → n = 0 ∧ cap = 0) ∧ ∀ a, ao = some a → ∀ j u, cs[j]? = some u → w.cell? (a.add j) = some u
theorem Sl.nil (k : Nat) (w : World) : Sl k w (.slice none 0 0) 0 [] := ⟨none, 0, rfl, Nat.le_refl _, by simp, fun _ => ⟨rfl, rfl⟩, fun _ e => by cases e⟩
theorem Sl.keep0 {k : Nat} {w w' : World} {v : Value} {n : Nat} {cs : List Value} (h : Sl k w v n cs) (g : w.grownBy w' none) : Sl k w' v n cs := by
  obtain ⟨ao, cap, h1, h2, h3, h4, h5⟩ := h
  exact ⟨ao, cap, h1, h2, h3, h4, fun a e j u hj => g.cell (h5 a e j u hj) (by simp)⟩
theorem Sl.of_owns {w : World} {base : Nat} {e : TypeId} {k : Nat} {v : Value} {n : Nat} {cs : List Value} (h : w.ownsRow base e k v n cs) : Sl k w v n cs := by
  have hl := h.1
  rcases h.2 with ⟨rfl, hn⟩ | ⟨g, cap, cur, rfl, hb, hh, hc, hm, hs, ht⟩
  · subst hn
    exact ⟨none, 0, rfl, Nat.le_refl _, hl, fun _ => ⟨rfl, rfl⟩, fun _ e => by cases e⟩
  · refine ⟨some ⟨g, 0, none⟩, cap, rfl, hc, hl, (fun e => by cases e), ?_⟩
    intro a e j u hj
    cases e
    exact h.cells (g := g) rfl j u hj
/-- What a non-empty one reads as, cell by cell. -/
theorem Sl.some {k : Nat} {w : World} {v : Value} {n : Nat} {cs : List Value} (h : Sl k w v n cs) (hn : 0 < n) : ∃ a cap, v = .slice (some a) n cap ∧ n ≤ cap ∧ ∀ j u, cs[j]? = some u → w.cell? (a.add j) = some u := by
  obtain ⟨ao, cap, rfl, h2, h3, h4, h5⟩ := h
  cases ao with
  | none => have := (h4 rfl).1; omega
  | some a => exact ⟨a, cap, rfl, h2, h5 a rfl⟩
theorem owns_cast {w : World} {base : Nat} {e : TypeId} {size : Nat} {v : Value} {n m : Nat} {xs ys : List Value} (h : w.ownsRow base e size v n xs) (hn : n = m) (hx : xs = ys) : w.ownsRow base e size v m ys := by
  subst hn; subst hx; exact h
theorem gb_own2 {W w w' : World} {base : Nat} {e : TypeId} {size : Nat} {v : Value} {n : Nat} {xs : List Value} (hg : W.grownBy w none) (ho : w.ownsRow base e size v n xs) (hb : W.heap.size ≤ base) (h2 : w.grownBy w' v.ownBlock) : W.grownBy w' none := by
  refine ⟨h2.os.trans hg.os, h2.tape.trans hg.tape, h2.output.trans hg.output, Nat.le_trans hg.size h2.size, ?_⟩
  intro k hk _
  rw [← hg.block k hk (by simp)]
  refine h2.block k (Nat.lt_of_lt_of_le hk hg.size) ?_
  intro e
  have := (ho.lt k e.symm).1
  omega
theorem own_far {w : World} {base b : Nat} {e : TypeId} {size : Nat} {v : Value} {n : Nat} {xs : List Value} (ho : w.ownsRow base e size v n xs) (hb : b < base) : some b ≠ v.ownBlock := by
  intro h
  have := (ho.lt b h.symm).1
  omega
/-- What an append of new cells leaves of a block ahead of the row. -/
theorem blk_app {w w' : World} {base b : Nat} {e t : TypeId} {cs : Array Value} {size : Nat} {v : Value} {n : Nat} {xs : List Value} {o : Obj} (h : Blk w b t cs) (ho : w.ownsRow base e size v n xs) (hb : b < base) (g : (w.alloc o).grownBy w' v.ownBlock) : Blk w' b t cs :=
  (h.keep0 (gb_alloc w o none)).keep g (own_far ho hb)
theorem gb_app {W w w' : World} {base : Nat} {e : TypeId} {size : Nat} {v : Value} {n : Nat} {xs : List Value} {o : Obj} (hg : W.grownBy w none) (ho : w.ownsRow base e size v n xs) (hb : W.heap.size ≤ base) (g : (w.alloc o).grownBy w' v.ownBlock) : W.grownBy w' none :=
  gb_own2 (gb_trans hg (gb_alloc w o none)) (ho.alloc _) hb g
/-- A store into a block ahead of the row leaves the row. -/
theorem own_set {w : World} {base b k : Nat} {e : TypeId} {size : Nat} {v : Value} {n : Nat} {xs : List Value} (ho : w.ownsRow base e size v n xs) (hb : b < base) (u : Value) : (w.setCell ⟨b, k, none⟩ u).ownsRow base e size v n xs :=
  ho.kept (gb_set w b k none u) (Or.inr (fun h => own_far ho hb h.symm))
/-- Bools, bytes, numbers, texts as cells. -/
def bools (l : List Bool) : List Value := l.map Value.bool
def bytesC (l : List UInt8) : List Value := l.map fun c => .int .u8 (c.toNat : Nat)
def intsC (l : List Nat) : List Value := l.map fun n => .int .i64 (n : Nat)
def strsC (l : List ByteArray) : List Value := l.map Value.string
def Bls (w : World) (v : Value) (l : List Bool) : Prop := Sl 1 w v l.length (bools l)
def Bts (w : World) (v : Value) (l : List UInt8) : Prop := Sl 1 w v l.length (bytesC l)
def Nts (w : World) (v : Value) (l : List Nat) : Prop := Sl 1 w v l.length (intsC l)
def Sts (w : World) (v : Value) (l : List ByteArray) : Prop := Sl 1 w v l.length (strsC l)
/-- A fate that has come back, new. -/
def FateGot (w : World) (came : List Bool) (torn at_ : Int) (e : Ending) (w' : World) : Prop :=
  ∃ v, e = .returned (.agg #[v, .int .i64 torn, .int .i64 at_]) ∧ Bls w' v came ∧ w.grownBy w' none
end Go.Proofs.YtliiooldlooagaaGreatDoor
