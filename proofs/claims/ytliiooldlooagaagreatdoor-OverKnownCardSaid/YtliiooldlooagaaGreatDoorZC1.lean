/-
  Plain mathematics of layer 3 (two sums of bytes by 65521 in one number), over this seat's name: the folds, what they come to, what cutting, joining, changing and exchanging do; no conditions beside those that each law states.
-/
import Derived.WalkKit
import Derived.Lib.Hide
set_option linter.unusedSimpArgs false
set_option linter.unusedVariables false
namespace Go.Proofs.YtliiooldlooagaaGreatDoor.C7
open Go.RowKit

/-- One byte more: the lower half is raised by the byte, then the upper one by the lower one. -/
def sstep (p : Nat × Nat) (c : UInt8) : Nat × Nat := ((p.1 + c.toNat) % 65521, (p.2 + (p.1 + c.toNat) % 65521) % 65521)
def sfold (p : Nat × Nat) (l : List UInt8) : Nat × Nat := l.foldl sstep p
/-- A number's halves. -/
def halves (n : Nat) : Nat × Nat := (n % 65536 % 65521, n / 65536 % 65521)
def packed (p : Nat × Nat) : Nat := p.2 * 65536 + p.1
def moreN (n : Nat) (l : List UInt8) : Nat := packed (sfold (halves n) l)
/-- The same with no remainder taken. -/
def rstep (p : Nat × Nat) (c : UInt8) : Nat × Nat := (p.1 + c.toNat, p.2 + (p.1 + c.toNat))
def rfold (p : Nat × Nat) (l : List UInt8) : Nat × Nat := l.foldl rstep p
def left2 (p : Nat × Nat) : Nat × Nat := (p.1 % 65521, p.2 % 65521)
/-- All bytes; and all bytes, each as often as there are beginnings that hold it. -/
def lows : List UInt8 → Nat
  | [] => 0
  | c :: l => c.toNat + lows l
def highs : List UInt8 → Nat
  | [] => 0
  | c :: l => (l.length + 1) * c.toNat + highs l
def joinN (a b n : Nat) : Nat :=
  packed (((halves a).1 + (halves b).1 + 65520) % 65521, ((halves a).2 + (halves b).2 + n * ((halves a).1 + 65520)) % 65521)

theorem sfold_nil (p : Nat × Nat) : sfold p [] = p := rfl
theorem sfold_cons (p : Nat × Nat) (c : UInt8) (l : List UInt8) : sfold p (c :: l) = sfold (sstep p c) l := rfl
theorem sfold_append (p : Nat × Nat) (l r : List UInt8) : sfold p (l ++ r) = sfold (sfold p l) r := by simp [sfold, List.foldl_append]
theorem sfold_snoc (p : Nat × Nat) (l : List UInt8) (c : UInt8) : sfold p (l ++ [c]) = sstep (sfold p l) c := by rw [sfold_append]; rfl
theorem rfold_nil (p : Nat × Nat) : rfold p [] = p := rfl
theorem rfold_snoc (p : Nat × Nat) (l : List UInt8) (c : UInt8) : rfold p (l ++ [c]) = rstep (rfold p l) c := by simp [rfold, List.foldl_append]
theorem rfold_eq (l : List UInt8) : ∀ x y : Nat, rfold (x, y) l = (x + lows l, y + l.length * x + highs l) := by
  induction l with
  | nil => intro x y; simp [rfold, lows, highs]
  | cons c l ih =>
    intro x y
    have h : rfold (x, y) (c :: l) = rfold (x + c.toNat, y + (x + c.toNat)) l := rfl
    rw [h, ih]
    simp only [lows, highs, List.length_cons, Prod.mk.injEq]
    constructor
    · omega
    · rw [Nat.mul_add, Nat.add_mul, Nat.add_mul]; omega
theorem left_step (x y : Nat) (c : UInt8) : sstep (left2 (x, y)) c = left2 (rstep (x, y) c) := by
  simp only [sstep, rstep, left2, Prod.mk.injEq]
  omega
theorem left_fold (l : List UInt8) : ∀ p : Nat × Nat, sfold (left2 p) l = left2 (rfold p l) := by
  induction l with
  | nil => intro p; rfl
  | cons c l ih =>
    rintro ⟨x, y⟩
    have h : rfold (x, y) (c :: l) = rfold (rstep (x, y) c) l := rfl
    rw [h, sfold_cons, left_step, ih]
theorem left_of_lt {p : Nat × Nat} (h1 : p.1 < 65521) (h2 : p.2 < 65521) : left2 p = p := by
  obtain ⟨x, y⟩ := p
  simp only [left2, Prod.mk.injEq]
  exact ⟨Nat.mod_eq_of_lt h1, Nat.mod_eq_of_lt h2⟩
theorem halves_lt (n : Nat) : (halves n).1 < 65521 ∧ (halves n).2 < 65521 := by simp only [halves]; omega
theorem sfold_lt (l : List UInt8) : ∀ p : Nat × Nat, p.1 < 65521 → p.2 < 65521 → (sfold p l).1 < 65521 ∧ (sfold p l).2 < 65521 := by
  induction l with
  | nil => intro p h1 h2; exact ⟨h1, h2⟩
  | cons c l ih => intro p h1 h2; rw [sfold_cons]; exact ih _ (by simp only [sstep]; omega) (by simp only [sstep]; omega)
/-- A row that is taken with no remainder, and then the remainder. -/
theorem sfold_row (p : Nat × Nat) (l : List UInt8) (h1 : p.1 < 65521) (h2 : p.2 < 65521) : sfold p l = left2 (rfold p l) := by
  rw [← left_fold, left_of_lt h1 h2]
theorem lows_le (l : List UInt8) : lows l ≤ 255 * l.length := by
  induction l with
  | nil => simp [lows]
  | cons c l ih => have := c.toNat_lt; simp only [lows, List.length_cons]; omega
theorem highs_le (l : List UInt8) : highs l ≤ 255 * (l.length * l.length) := by
  induction l with
  | nil => simp [highs]
  | cons c l ih =>
    have hc := c.toNat_lt
    simp only [highs, List.length_cons]
    have h1 : (l.length + 1) * c.toNat ≤ (l.length + 1) * 255 := Nat.mul_le_mul_left _ (by omega)
    have h2 : (l.length + 1) * (l.length + 1) = l.length * l.length + 2 * l.length + 1 := by rw [Nat.mul_add, Nat.add_mul]; omega
    omega
theorem rfold_le (p : Nat × Nat) (l : List UInt8) (h1 : p.1 < 65521) (h2 : p.2 < 65521) (hl : l.length ≤ 4096) : (rfold p l).1 ≤ 2000000 ∧ (rfold p l).2 ≤ 10000000000 := by
  obtain ⟨x, y⟩ := p
  rw [rfold_eq]
  have a := lows_le l
  have b := highs_le l
  have c : l.length * l.length ≤ 4096 * 4096 := Nat.mul_le_mul hl hl
  have d : l.length * x ≤ 4096 * 65521 := Nat.mul_le_mul hl (by simp at h1; omega)
  simp only at h1 h2 ⊢
  omega
theorem packed_lt {p : Nat × Nat} (h1 : p.1 < 65521) (h2 : p.2 < 65521) : packed p < 4294967296 := by unfold packed; omega
theorem halves_packed {p : Nat × Nat} (h1 : p.1 < 65521) (h2 : p.2 < 65521) : halves (packed p) = p := by
  obtain ⟨x, y⟩ := p
  simp only [halves, packed, Prod.mk.injEq] at *
  omega
theorem moreN_lt (n : Nat) (l : List UInt8) : moreN n l < 4294967296 := by
  have h := sfold_lt l (halves n) (halves_lt n).1 (halves_lt n).2
  exact packed_lt h.1 h.2
theorem halves_moreN (n : Nat) (l : List UInt8) : halves (moreN n l) = sfold (halves n) l := by
  have h := sfold_lt l (halves n) (halves_lt n).1 (halves_lt n).2
  exact halves_packed h.1 h.2
/-- Going on from part to part. -/
theorem moreN_append (n : Nat) (l r : List UInt8) : moreN n (l ++ r) = moreN (moreN n l) r := by
  show packed (sfold (halves n) (l ++ r)) = packed (sfold (halves (moreN n l)) r)
  rw [halves_moreN, sfold_append]
theorem sfold_told (p : Nat × Nat) (l : List UInt8) (h1 : p.1 < 65521) (h2 : p.2 < 65521) : sfold p l = ((p.1 + lows l) % 65521, (p.2 + l.length * p.1 + highs l) % 65521) := by
  obtain ⟨x, y⟩ := p
  rw [sfold_row _ l h1 h2, rfold_eq]
  rfl
theorem halves_one : halves 1 = (1, 0) := by decide
/-- Joining the parts' sums. -/
theorem joinN_told (l r : List UInt8) : joinN (moreN 1 l) (moreN 1 r) r.length = moreN 1 (l ++ r) := by
  have hl := sfold_lt l (halves 1) (halves_lt 1).1 (halves_lt 1).2
  have e1 : moreN 1 (l ++ r) = packed (sfold (sfold (halves 1) l) r) := by
    rw [moreN_append]
    show packed (sfold (halves (moreN 1 l)) r) = _
    rw [halves_moreN]
  rw [e1]
  unfold joinN
  rw [halves_moreN, halves_moreN, sfold_told (sfold (halves 1) l) r hl.1 hl.2, sfold_told (halves 1) r (halves_lt 1).1 (halves_lt 1).2, halves_one]
  obtain ⟨x, y⟩ := sfold (1, 0) l
  have e : r.length * (x + 65520) = r.length * x + r.length * 65520 := Nat.mul_add ..
  refine congrArg packed (Prod.ext ?_ ?_)
  · show (x + (1 + lows r) % 65521 + 65520) % 65521 = (x + lows r) % 65521
    omega
  · show (y + (0 + r.length * 1 + highs r) % 65521 + r.length * (x + 65520)) % 65521 = (y + r.length * x + highs r) % 65521
    omega
theorem sumN_told (l : List UInt8) : moreN 1 l = packed ((1 + lows l) % 65521, (l.length + highs l) % 65521) := by
  unfold moreN
  rw [sfold_told _ l (halves_lt 1).1 (halves_lt 1).2, halves_one]
  simp
theorem lows_append (l r : List UInt8) : lows (l ++ r) = lows l + lows r := by
  induction l with
  | nil => simp [lows]
  | cons c l ih => simp only [List.cons_append, lows, ih]; omega
theorem highs_append (l r : List UInt8) : highs (l ++ r) = highs l + r.length * lows l + highs r := by
  induction l with
  | nil => simp [highs, lows]
  | cons c l ih =>
    simp only [List.cons_append, highs, lows, ih, List.length_append]
    have e1 : (l.length + r.length + 1) * c.toNat = (l.length + 1) * c.toNat + r.length * c.toNat := by rw [← Nat.add_mul]; congr 1; omega
    have e2 : r.length * (c.toNat + lows l) = r.length * c.toNat + r.length * lows l := Nat.mul_add ..
    omega
theorem packed_inj {p q : Nat × Nat} (h1 : p.1 < 65521) (h2 : q.1 < 65521) (h : packed p = packed q) : p = q := by
  obtain ⟨x, y⟩ := p
  obtain ⟨u, v⟩ := q
  simp only [packed, Prod.mk.injEq] at *
  omega
/-- One byte another one. -/
theorem sum_changed (l r : List UInt8) (c d : UInt8) : moreN 1 (l ++ c :: r) = moreN 1 (l ++ d :: r) ↔ c = d := by
  constructor
  · intro h
    rw [sumN_told, sumN_told] at h
    have h' := (Prod.mk.inj (packed_inj (by simp only; omega) (by simp only; omega) h)).1
    rw [lows_append, lows_append] at h'
    simp only [lows] at h'
    have hc := c.toNat_lt
    have hd := d.toNat_lt
    have : c.toNat = d.toNat := by omega
    exact UInt8.toNat_inj.1 this
  · rintro rfl; rfl
/-- Two neighbours exchanged. -/
theorem sum_exchanged (l r : List UInt8) (c d : UInt8) : moreN 1 (l ++ c :: d :: r) = moreN 1 (l ++ d :: c :: r) ↔ c = d := by
  constructor
  · intro h
    rw [sumN_told, sumN_told] at h
    have h' := (Prod.mk.inj (packed_inj (by simp only; omega) (by simp only; omega) h)).2
    rw [highs_append, highs_append] at h'
    simp only [highs, List.length_append, List.length_cons] at h'
    have hc := c.toNat_lt
    have hd := d.toNat_lt
    have e1 : (r.length + 1 + 1) * c.toNat = (r.length + 1) * c.toNat + c.toNat := by rw [Nat.add_mul (r.length + 1)]; omega
    have e2 : (r.length + 1 + 1) * d.toNat = (r.length + 1) * d.toNat + d.toNat := by rw [Nat.add_mul (r.length + 1)]; omega
    have : c.toNat = d.toNat := by omega
    exact UInt8.toNat_inj.1 this
  · rintro rfl; rfl
theorem lows_zeros (n : Nat) : lows (List.replicate n 0) = 0 := by
  induction n with
  | zero => rfl
  | succ n ih => simp [List.replicate_succ, lows, ih]
theorem highs_zeros (n : Nat) : highs (List.replicate n 0) = 0 := by
  induction n with
  | zero => rfl
  | succ n ih => simp [List.replicate_succ, highs, ih]
theorem sum_zeros (n : Nat) : moreN 1 (List.replicate n 0) = packed (1, n % 65521) := by
  rw [sumN_told, lows_zeros, highs_zeros]; simp

end Go.Proofs.YtliiooldlooagaaGreatDoor.C7
