/-
  Plain mathematics for this seat: of two numbers of one width the lesser one has the lesser digits; condition: both numbers fit the width.
-/
import Derived.Test.YtcoedakbagbenaaDoorBs
namespace Go.Proofs.YtcoedakbagbenaaDoor
open Go.RowKit

theorem less_snoc (c d : UInt8) : ∀ p q : List UInt8, p.length = q.length → Op.bytesLess (p ++ [c]) (q ++ [d]) = (Op.bytesLess p q || (p == q && decide (c < d)))
  | [], [], _ => by simp [Op.bytesLess]
  | [], _ :: _, h => by simp at h
  | _ :: _, [], h => by simp at h
  | a :: p, b :: q, h => by
    have ih := less_snoc c d p q (by simpa using h)
    simp only [List.cons_append, Op.bytesLess, ih, List.cons_beq_cons]
    cases decide (a < b) <;> cases (a == b) <;> cases (Op.bytesLess p q) <;> cases (p == q) <;> cases decide (c < d) <;> rfl
theorem digits_less (k : Nat) : ∀ x y, x < 256 ^ k → y < 256 ^ k → Op.bytesLess (digits x k) (digits y k) = decide (x < y) ∧ (digits x k == digits y k) = (x == y) := by
  induction k with
  | zero => intro x y hx hy; simp at hx hy; subst hx; subst hy; simp [digits, Op.bytesLess]
  | succ k ih =>
    intro x y hx hy
    have e : (256 : Nat) ^ (k + 1) = 256 ^ k * 256 := Nat.pow_succ ..
    have hx' : x / 256 < 256 ^ k := by rw [Nat.div_lt_iff_lt_mul (by decide)]; omega
    have hy' : y / 256 < 256 ^ k := by rw [Nat.div_lt_iff_lt_mul (by decide)]; omega
    obtain ⟨h1, h2⟩ := ih (x / 256) (y / 256) hx' hy'
    have e1 : decide (UInt8.ofNat (x % 256) < UInt8.ofNat (y % 256)) = decide (x % 256 < y % 256) := by
      rw [decide_eq_decide, UInt8.lt_iff_toNat_lt]; simp
    have e2 : (UInt8.ofNat (x % 256) == UInt8.ofNat (y % 256)) = (x % 256 == y % 256) := by
      rw [Bool.eq_iff_iff, beq_iff_eq, beq_iff_eq, ← UInt8.toNat_inj]; simp
    simp only [digits]
    rw [less_snoc _ _ _ _ (by simp [digits_length]), h1, h2, e1]
    have e3 : (digits (x / 256) k ++ [UInt8.ofNat (x % 256)] == digits (y / 256) k ++ [UInt8.ofNat (y % 256)]) = ((digits (x / 256) k == digits (y / 256) k) && (UInt8.ofNat (x % 256) == UInt8.ofNat (y % 256))) := by
      rw [Bool.eq_iff_iff, Bool.and_eq_true, beq_iff_eq, beq_iff_eq, beq_iff_eq]
      constructor
      · intro h
        have := List.append_inj' h rfl
        exact ⟨this.1, by simpa using this.2⟩
      · rintro ⟨h, g⟩; rw [h, g]
    rw [e3, h2, e2]
    constructor
    · rw [Bool.eq_iff_iff]; simp; omega
    · rw [Bool.eq_iff_iff]; simp; omega
theorem digits_eqInt (k x y : Nat) (hx : x < 256 ^ k) (hy : y < 256 ^ k) : (digits x k == digits y k) = ((x : Int) == (y : Int)) := by
  rw [(digits_less k x y hx hy).2, Bool.eq_iff_iff]; simp; omega
end Go.Proofs.YtcoedakbagbenaaDoor
