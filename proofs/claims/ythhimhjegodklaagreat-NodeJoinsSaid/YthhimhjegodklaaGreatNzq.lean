/-
  How a node's lists lie, rows that are appended to, and what both parts of a node are when joined: over this seat's translation; no conditions beside those that each law states.
-/
import Derived.Test.YthhimhjegodklaaGreatNzf
namespace Go.Proofs.YthhimhjegodklaaGreat.N11
set_option linter.unusedSimpArgs false
set_option linter.unusedVariables false
open Go.RowKit
theorem NdV.opens {w : World} {b : Bool} {x y z : Value} {n : Nd} (h : NdV w (.agg #[.bool b, x, y, z]) n) : Ces w x n.cells ∧ Sts w y n.keys ∧ Ins w z n.kids := by
  obtain ⟨x', y', z', he, h1, h2, h3⟩ := h
  cases he
  exact ⟨h1, h2, h3⟩
theorem nd_shape {w : World} {v : Value} {n : Nd} (hv : NdV w v n) : ∃ lf a1 n1 c1 a2 n2 c2 a3 n3 c3, v = .agg #[.bool lf, .slice a1 n1 c1, .slice a2 n2 c2, .slice a3 n3 c3] := by
  obtain ⟨a1, c1, a2, c2, a3, c3, rfl⟩ := NdV.parts hv
  exact ⟨_, _, _, _, _, _, _, _, _, _, rfl⟩
theorem gs_owns {W w w' : World} {base j : Nat} {e : TypeId} {size : Nat} {v : Value} {n : Nat} {xs : List Value} (hg : W.grownBy w (some j)) (ho : w.ownsRow base e size v n xs) (hb : W.heap.size ≤ base) (h2 : w.grownBy w' v.ownBlock) : W.grownBy w' (some j) := by
  refine ⟨h2.os.trans hg.os, h2.tape.trans hg.tape, h2.output.trans hg.output, Nat.le_trans hg.size h2.size, ?_⟩
  intro k hk hj
  rw [← hg.block k hk hj]
  refine h2.block k (Nat.lt_of_lt_of_le hk hg.size) ?_
  intro e
  have := (ho.lt k e.symm).1
  omega
def allQ (lf : Bool) (A B : Nd) (k : ByteArray) : Nd := ⟨lf, A.cells ++ B.cells, (if lf then A.keys else A.keys ++ [k]) ++ B.keys, A.kids ++ B.kids⟩
theorem allQ_join {A B : Nd} {lf : Bool} (k : ByteArray) (hA : A.may = true) (hB : B.may = true) (lA : A.leaf = lf) (lB : B.leaf = lf) : allQ lf A B k = joinN A B k := by
  unfold allQ joinN
  rw [lA]
  cases lf with
  | true =>
    obtain ⟨_, k1, k2, _⟩ := (may_leaf lA).1 hA
    obtain ⟨_, k3, k4, _⟩ := (may_leaf lB).1 hB
    rw [if_pos rfl, if_pos rfl, List.eq_nil_of_length_eq_zero k1, List.eq_nil_of_length_eq_zero k2, List.eq_nil_of_length_eq_zero k3, List.eq_nil_of_length_eq_zero k4]
    rfl
  | false =>
    obtain ⟨k1, _⟩ := (may_inner lA).1 hA
    obtain ⟨k3, _⟩ := (may_inner lB).1 hB
    rw [if_neg Bool.false_ne_true, if_neg Bool.false_ne_true, List.eq_nil_of_length_eq_zero k1, List.eq_nil_of_length_eq_zero k3, List.append_assoc]
    rfl
theorem RowC.keeps {w w' : World} {base : Nat} {v : Value} {l : List Ce} {r : Option Nat} (h : RowC w base v l) (g : w.grownBy w' r) (hne : v.ownBlock = none ∨ v.ownBlock ≠ r) : RowC w' base v l := World.ownsRow.kept h g hne
theorem app_on_C {X w : World} {j : Nat} {base : Nat} {v x : Value} {l r : List Ce} (hg : X.grownBy w (some j)) (hb : X.heap.size ≤ base) (h : RowC w base v l) (hx : Ces w x r) (hl : l.length ≤ 200001) (hr : r.length ≤ 100000) (hb2 : base ≤ w.heap.size) (ty : TypeId) :
    ∃ xo xn xc w', (Builtin.append_ #[22, 22] ty #[v, x]).run Tryz.prog w = .ok (.slice xo xn xc) w' ∧ RowC w' base (.slice xo xn xc) (l ++ r) ∧ w.grownBy w' v.ownBlock ∧ X.grownBy w' (some j) := by
  obtain ⟨v', w', h1, h2, h3⟩ := row_app_C h hx (by omega) (by omega) hb2 ty
  obtain ⟨xo, xn, xc, rfl⟩ := shape' (RowC.sl h2)
  exact ⟨xo, xn, xc, w', h1, h2, h3, gs_owns hg h hb h3⟩
theorem RowS.keeps {w w' : World} {base : Nat} {v : Value} {l : List ByteArray} {r : Option Nat} (h : RowS w base v l) (g : w.grownBy w' r) (hne : v.ownBlock = none ∨ v.ownBlock ≠ r) : RowS w' base v l := World.ownsRow.kept h g hne
theorem app_on_S {X w : World} {j : Nat} {base : Nat} {v x : Value} {l r : List ByteArray} (hg : X.grownBy w (some j)) (hb : X.heap.size ≤ base) (h : RowS w base v l) (hx : Sts w x r) (hl : l.length ≤ 200001) (hr : r.length ≤ 100000) (hb2 : base ≤ w.heap.size) (ty : TypeId) :
    ∃ xo xn xc w', (Builtin.append_ #[23, 23] ty #[v, x]).run Tryz.prog w = .ok (.slice xo xn xc) w' ∧ RowS w' base (.slice xo xn xc) (l ++ r) ∧ w.grownBy w' v.ownBlock ∧ X.grownBy w' (some j) := by
  obtain ⟨v', w', h1, h2, h3⟩ := row_app_S h hx (by omega) (by omega) hb2 ty
  obtain ⟨xo, xn, xc, rfl⟩ := shape' (RowS.sl h2)
  exact ⟨xo, xn, xc, w', h1, h2, h3, gs_owns hg h hb h3⟩
theorem RowI.keeps {w w' : World} {base : Nat} {v : Value} {l : List Int} {r : Option Nat} (h : RowI w base v l) (g : w.grownBy w' r) (hne : v.ownBlock = none ∨ v.ownBlock ≠ r) : RowI w' base v l := World.ownsRow.kept h g hne
theorem app_on_I {X w : World} {j : Nat} {base : Nat} {v x : Value} {l r : List Int} (hg : X.grownBy w (some j)) (hb : X.heap.size ≤ base) (h : RowI w base v l) (hx : Ins w x r) (hl : l.length ≤ 200001) (hr : r.length ≤ 100000) (hb2 : base ≤ w.heap.size) (ty : TypeId) :
    ∃ xo xn xc w', (Builtin.append_ #[24, 24] ty #[v, x]).run Tryz.prog w = .ok (.slice xo xn xc) w' ∧ RowI w' base (.slice xo xn xc) (l ++ r) ∧ w.grownBy w' v.ownBlock ∧ X.grownBy w' (some j) := by
  obtain ⟨v', w', h1, h2, h3⟩ := row_app_I h hx (by omega) (by omega) hb2 ty
  obtain ⟨xo, xn, xc, rfl⟩ := shape' (RowI.sl h2)
  exact ⟨xo, xn, xc, w', h1, h2, h3, gs_owns hg h hb h3⟩
end Go.Proofs.YthhimhjegodklaaGreat.N11

