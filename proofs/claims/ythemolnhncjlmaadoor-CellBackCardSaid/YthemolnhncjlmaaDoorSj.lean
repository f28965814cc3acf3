/-
  What sum.Joined tells, for every two numbers and every n, over this seat's translation; conditions: the numbers fit their kinds.
-/
import Derived.Test.YthemolnhncjlmaaDoorSf
namespace Go.Proofs.YthemolnhncjlmaaDoor
open Go.RowKit

theorem join1 (x u : Nat) : (x : Int) + 65521 - 1 + (u : Int) = ((x + 65520 + u : Nat) : Int) := by omega
theorem join_le (k x : Nat) (hx : x < 65521) : k % 65521 * (x + 65520) ≤ 9000000000 :=
  Nat.le_trans (Nat.mul_le_mul (show k % 65521 ≤ 65520 by omega) (show x + 65520 ≤ 131040 by omega)) (by decide)
theorem join_add (y v z : Nat) (hy : y < 65521) (hv : v < 65521) (hz : z ≤ 9000000000) : IntKind.u64.wrap ((y : Int) + (v : Int) + IntKind.u64.wrap (z : Int)) = ((y + v + z : Nat) : Int) := by
  rw [u64_small z (by omega), show (y : Int) + (v : Int) + (z : Int) = ((y + v + z : Nat) : Int) from by omega]
  exact u64_small _ (by omega)
theorem join2 (k x y v : Nat) (hx : x < 65521) (hy : y < 65521) (hv : v < 65521) :
    IntKind.u64.wrap ((y : Int) + (v : Int) + IntKind.u64.wrap ((k : Int) % 65521 * ((x : Int) + 65521 - 1))) = ((y + v + k % 65521 * (x + 65520) : Nat) : Int) := by
  have e1 : (k : Int) % 65521 * ((x : Int) + 65521 - 1) = ((k % 65521 * (x + 65520) : Nat) : Int) := by
    rw [show (k : Int) % 65521 = ((k % 65521 : Nat) : Int) from by omega, show (x : Int) + 65521 - 1 = ((x + 65520 : Nat) : Int) from by omega, Int.natCast_mul]
  rw [e1]
  exact join_add y v _ hy hv (join_le k x hx)
theorem join3 (a b k : Nat) : packed (left2 ((halves a).1 + 65520 + (halves b).1, (halves a).2 + (halves b).2 + k % 65521 * ((halves a).1 + 65520))) = joinN a b k := by
  have ga := halves_lt a
  have gb := halves_lt b
  unfold joinN
  generalize halves a = p at *
  generalize halves b = q at *
  obtain ⟨x, y⟩ := p
  obtain ⟨u, v⟩ := q
  simp only at ga gb
  have e : k * (x + 65520) = 65521 * (k / 65521 * (x + 65520)) + k % 65521 * (x + 65520) := by
    conv => lhs; rw [← Nat.div_add_mod k 65521]
    rw [Nat.add_mul, Nat.mul_assoc]
  obtain ⟨z, z', h1, h2⟩ : ∃ z z', k * (x + 65520) = 65521 * z + z' ∧ k % 65521 * (x + 65520) = z' := ⟨_, _, e, rfl⟩
  clear e
  refine congrArg packed ?_
  dsimp only
  rw [h1, h2]
  clear h1 h2
  simp only [left2, Prod.mk.injEq]
  constructor
  · omega
  · omega
theorem join3n (a b : Nat) : packed (left2 ((halves a).1 + 65520 + (halves b).1, (halves a).2 + (halves b).2)) = joinN a b 0 := by
  have h := join3 a b 0
  rw [Nat.zero_mod, Nat.zero_mul, Nat.add_zero] at h
  exact h

end Go.Proofs.YthemolnhncjlmaaDoor

