/-
  Laws on slices of bytes for this seat: a slice that reads as given bytes, appends of one byte to it (with a new array) and to a row of the call's own, its text; no conditions beside those that each law states.
-/
import Derived.Test.YthhimhjegodklaaGreatLawIs
import Derived.ArgAppend
import Derived.Lib.AppendStr
import Derived.Laws.IdiomStrings
import Derived.Laws.BytesArg
import Derived.WalkSpells
namespace Go.Proofs.YthhimhjegodklaaGreat
open Go.RowKit

/-- Bytes as cells. -/
def bcells (l : List UInt8) : List Value := l.map fun c => Value.int .u8 (c.toNat : Int)
theorem bcells_length (l : List UInt8) : (bcells l).length = l.length := by simp [bcells]
theorem bcells_append (l r : List UInt8) : bcells (l ++ r) = bcells l ++ bcells r := by simp [bcells]
/-- A slice that reads as these bytes. -/
def Bs (w : World) (v : Value) (l : List UInt8) : Prop :=
  ∃ (ao : Option Addr) (cap : Nat), v = .slice ao l.length cap ∧ l.length ≤ cap ∧ (ao = none → l.length = 0 ∧ cap = 0) ∧ ∀ a, ao = some a → ∀ j u, (bcells l)[j]? = some u → w.cell? (a.add j) = some u
/-- The digits of a number to the base 256, so many, the highest first. -/
def digits : Nat → Nat → List UInt8
  | _, 0 => []
  | n, k + 1 => digits (n / 256) k ++ [UInt8.ofNat (n % 256)]
theorem digits_length (k : Nat) : ∀ n, (digits n k).length = k := by
  induction k with
  | zero => intro n; rfl
  | succ k ih => intro n; simp [digits, ih]
/-- What is returned is a slice of the call's own that reads as these bytes; nothing that was there has turned. -/
def Laid (w : World) (l : List UInt8) (e : Ending) (w' : World) : Prop :=
  ∃ v', e = .returned v' ∧ w'.ownsRow w.heap.size 5 1 v' l.length (bcells l) ∧ w.grownBy w' none

theorem Bs.nil (w : World) : Bs w (.slice none 0 0) [] := ⟨none, 0, rfl, Nat.le_refl _, fun _ => ⟨rfl, rfl⟩, fun _ h => by cases h⟩
theorem Bs.of_owns {w : World} {base : Nat} {v : Value} {l : List UInt8} (h : w.ownsRow base 5 1 v l.length (bcells l)) : Bs w v l := by
  rcases h.2 with ⟨rfl, hn⟩ | ⟨g, cap, cur, rfl, hb, hh, hc, hm, hs, ht⟩
  · exact ⟨none, 0, by rw [hn], by omega, fun _ => ⟨hn, rfl⟩, fun _ e => by cases e⟩
  · refine ⟨some ⟨g, 0, none⟩, cap, rfl, hc, (fun e => by cases e), ?_⟩
    intro a e j u hj
    cases e
    exact h.cells (g := g) rfl j u hj
theorem Bs.keep0 {w w' : World} {v : Value} {l : List UInt8} (h : Bs w v l) (g : w.grownBy w' none) : Bs w' v l := by
  obtain ⟨ao, cap, h1, h2, h3, h4⟩ := h
  exact ⟨ao, cap, h1, h2, h3, fun a e j u hj => g.cell (h4 a e j u hj) (by simp)⟩

theorem Tryz.info8 : (Tryz.prog.info? 5).map (fun i => (i.zero, i.size, i.bytes)) = some (some (.int .u8 0), 1, 1) := by kernel_rfl

theorem cell_new (w : World) (x : Value) (t : TypeId) : ∀ j u, [x][j]? = some u → (w.alloc (.cells #[x] t)).cell? ((⟨w.heap.size, 0, none⟩ : Addr).add j) = some u := by
  intro j u hj
  obtain rfl : j = 0 := by
    have := (List.getElem?_eq_some_iff.1 hj).1
    simpa using this
  have hx : x = u := by simpa using hj
  subst hx
  simp [Addr.add]
/-- One byte appended to a slice that is full: a new array. -/
theorem app_first {ops : Array Oper} {rest : List Oper} {o : Oper} {a : Act} {Q : Exit → Act → World → Prop} (w : World) (z : Int) (s x : Operand) (l : List UInt8) (ao : Option Addr) (hgd : o.guard = none)
    (ho : o.op = .call { callee := .builtin .append, args := #[s, x], argTypes := #[28, 28] })
    (hs : a.eval s = .slice ao l.length l.length) (hx : a.eval x = .slice (some ⟨w.heap.size, 0, none⟩) 1 1)
    (hnil : ao = none → l.length = 0) (hcell : ∀ a, ao = some a → ∀ j u, (bcells l)[j]? = some u → w.cell? (a.add j) = some u) (hl : l.length ≤ 1000000)
    (h : ∀ v' w', w'.ownsRow w.heap.size 5 1 v' (l.length + 1) (bcells l ++ [.int .u8 z]) → w.grownBy w' none → wpList Tryz.prog ops Q rest (a.put o.dst v') w') :
    wpList Tryz.prog ops Q (o :: rest) a (w.alloc (.cells #[.int .u8 z] 5)) := by
  obtain ⟨i0, hi, hz0, hz1, hz2⟩ := info_parts Tryz.info8
  refine wpList_append_grows _ hgd s x 28 ho 5 i0 (.int .u8 0) 1 1 Tryz.underlying28 hi hz0 hz1 hz2 rfl (by decide) ao l.length l.length (bcells l) hs (fun e => ⟨hnil e, hnil e⟩) (by rw [bcells_length]; omega) ?_ ⟨w.heap.size, 0, none⟩ 1 1 [.int .u8 z] hx rfl (cell_new _ _ _) (fun u hu => by simp at hu; subst hu; rfl) (by omega) (by unfold maxLen; omega) (by omega) ?_
  · intro b e j u hj
    exact (gb_alloc w _ none).cell (hcell b e j u hj) (by simp)
  · intro v' w' h1 h2
    refine h v' w' ⟨h1.1, ?_⟩ (gb_trans (gb_alloc w _ none) h2)
    rcases h1.2 with h3 | ⟨g, cap, cur, e1, e2, e3⟩
    · exact Or.inl h3
    · exact Or.inr ⟨g, cap, cur, e1, by simp at e2; omega, e3⟩
/-- One byte appended to a row of the call's own. -/
theorem app_more {ops : Array Oper} {rest : List Oper} {o : Oper} {a : Act} {Q : Exit → Act → World → Prop} (W w : World) (z : Int) (s x : Operand) (v : Value) (n : Nat) (xs : List Value) (hgd : o.guard = none)
    (ho : o.op = .call { callee := .builtin .append, args := #[s, x], argTypes := #[28, 28] })
    (hs : a.eval s = v) (hx : a.eval x = .slice (some ⟨w.heap.size, 0, none⟩) 1 1)
    (hown : w.ownsRow W.heap.size 5 1 v n xs) (hg : W.grownBy w none) (hl : n ≤ 1000100)
    (h : ∀ v' w', w'.ownsRow W.heap.size 5 1 v' (n + 1) (xs ++ [.int .u8 z]) → W.grownBy w' none → wpList Tryz.prog ops Q rest (a.put o.dst v') w') :
    wpList Tryz.prog ops Q (o :: rest) a (w.alloc (.cells #[.int .u8 z] 5)) := by
  obtain ⟨i0, hi, hz0, hz1, hz2⟩ := info_parts Tryz.info8
  refine wpList_append_own _ hgd s x 28 ho W.heap.size 5 i0 (.int .u8 0) 1 1 Tryz.underlying28 hi hz0 hz1 hz2 rfl (by decide) v n xs hs (hown.alloc _) ⟨w.heap.size, 0, none⟩ 1 1 [.int .u8 z] hx rfl (cell_new _ _ _) (fun u hu => by simp at hu; subst hu; rfl) (by unfold maxLen; omega) (by omega) (by have := hg.size; simp; omega) ?_
  intro v' w' h1 h2 _
  refine h v' w' h1 ⟨h2.os.trans hg.os, h2.tape.trans hg.tape, h2.output.trans hg.output, ?_, ?_⟩
  · have := hg.size; have := h2.size; simp at this; omega
  · intro k hk _
    have hsz := hg.size
    have e1 : (w.alloc (.cells #[.int .u8 z] 5)).heap[k]? = W.heap[k]? := by
      rw [Below.heap_alloc _ _ _ (by omega)]; exact hg.block k hk (by simp)
    rw [← e1]
    refine h2.block k (by simp; omega) ?_
    intro e
    have := (hown.lt k e.symm).1
    omega
end Go.Proofs.YthhimhjegodklaaGreat

