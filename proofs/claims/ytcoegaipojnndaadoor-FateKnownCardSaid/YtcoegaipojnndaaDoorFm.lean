/-
  The bytes of a fate: plain mathematics (bits set one by one, read again), no conditions beside those that each law states.
-/
import Derived.Test.YtcoegaipojnndaaDoorFt7
import Derived.Test.YtcoegaipojnndaaDoorFt8
namespace Go.Proofs.YtcoegaipojnndaaDoor
open Go.RowKit

def orAt (l : List UInt8) (i : Nat) : List UInt8 := l.set (i / 8) (UInt8.ofNat ((l.getD (i / 8) 0).toNat ||| 2 ^ (i % 8)))
def addAt (l : List UInt8) (i : Nat) : List UInt8 := l.set (i / 8) (UInt8.ofNat ((l.getD (i / 8) 0).toNat + 2 ^ (i % 8)))
theorem orAt_length (l : List UInt8) (i : Nat) : (orAt l i).length = l.length := by simp [orAt]
theorem foldl_or_length (is : List Nat) : ∀ l : List UInt8, (is.foldl orAt l).length = l.length := by
  induction is with
  | nil => intro l; rfl
  | cons i is ih => intro l; rw [List.foldl_cons, ih, orAt_length]
def sizeN (n : Nat) : Nat := (n + 7) / 8
/-- The bytes of the first k. -/
def bitsTo (l : List Bool) (k : Nat) : List UInt8 := (cameTo l k).foldl orAt (List.replicate (sizeN l.length) 0)
theorem bitsTo_length (l : List Bool) (k : Nat) : (bitsTo l k).length = sizeN l.length := by
  unfold bitsTo; rw [foldl_or_length]; simp
theorem getD_set (l : List UInt8) (i j : Nat) (v : UInt8) (h : i < l.length) : (l.set i v).getD j 0 = if i = j then v else l.getD j 0 := by
  by_cases e : i = j
  · subst e; simp [List.getD, h]
  · simp [List.getD, e]
theorem byte_or_lt (c : UInt8) (r : Nat) (hr : r < 8) : c.toNat ||| 2 ^ r < 256 := by
  have h1 : c.toNat < 2 ^ 8 := c.toNat_lt
  have h2 : 2 ^ r < 2 ^ 8 := Nat.pow_lt_pow_right (by omega) hr
  exact Nat.or_lt_two_pow h1 h2
theorem u8_of (n : Nat) (h : n < 256) : (UInt8.ofNat n).toNat = n := by simp; omega
theorem orAt_bit (s : List UInt8) (i j r : Nat) (hi : i / 8 < s.length) (hr : r < 8) : ((orAt s i).getD j 0).toNat.testBit r = ((s.getD j 0).toNat.testBit r || decide (i = 8 * j + r)) := by
  unfold orAt
  rw [getD_set _ _ _ _ hi]
  by_cases e : i / 8 = j
  · rw [if_pos e]
    have hm := byte_or_lt (s.getD (i / 8) 0) (i % 8) (Nat.mod_lt _ (by omega))
    rw [u8_of _ hm, Nat.testBit_or, Nat.testBit_two_pow, e]
    congr 1
    apply decide_eq_decide.2
    omega
  · rw [if_neg e]
    have : decide (i = 8 * j + r) = false := decide_eq_false (by omega)
    rw [this]; simp
theorem bitsTo_bit (l : List Bool) (k : Nat) (hk : k ≤ l.length) : ∀ j r, r < 8 → ((bitsTo l k).getD j 0).toNat.testBit r = (decide (8 * j + r < k) && l.getD (8 * j + r) false) := by
  induction k with
  | zero =>
    intro j r _
    have : (bitsTo l 0).getD j 0 = 0 := by
      simp [bitsTo, cameTo, List.getD, List.getElem?_replicate]
      split <;> rfl
    rw [this]; simp
  | succ k ih =>
    intro j r hr
    have ih' := ih (by omega) j r hr
    cases hb : l.getD k false with
    | false =>
      have : bitsTo l (k + 1) = bitsTo l k := by unfold bitsTo; rw [cameTo_no hb]
      rw [this, ih']
      by_cases e : 8 * j + r = k
      · rw [e, hb]; simp
      · have : decide (8 * j + r < k + 1) = decide (8 * j + r < k) := decide_eq_decide.2 (by omega)
        rw [this]
    | true =>
      have : bitsTo l (k + 1) = orAt (bitsTo l k) k := by unfold bitsTo; rw [cameTo_yes hb, List.foldl_append]; rfl
      rw [this, orAt_bit _ _ _ _ (by rw [bitsTo_length]; unfold sizeN; omega) hr, ih']
      by_cases e : k = 8 * j + r
      · rw [← e, hb]; simp
      · have h1 : decide (8 * j + r < k + 1) = decide (8 * j + r < k) := decide_eq_decide.2 (by omega)
        rw [h1, decide_eq_false e]; simp
/-- What the document's own answer adds is what the program sets. -/
theorem add_or (l : List Bool) (k : Nat) (hk : k ≤ l.length) : (cameTo l k).foldl addAt (List.replicate (sizeN l.length) 0) = bitsTo l k := by
  induction k with
  | zero => rfl
  | succ k ih =>
    have ih' := ih (by omega)
    cases hb : l.getD k false with
    | false => unfold bitsTo; rw [cameTo_no hb]; exact ih'
    | true =>
      have h1 : bitsTo l (k + 1) = orAt (bitsTo l k) k := by unfold bitsTo; rw [cameTo_yes hb, List.foldl_append]; rfl
      rw [h1, cameTo_yes hb, List.foldl_append, ih']
      show addAt (bitsTo l k) k = _
      unfold addAt orAt
      have hlt : ((bitsTo l k).getD (k / 8) 0).toNat < 2 ^ (k % 8) := by
        apply Nat.lt_pow_two_of_testBit
        intro r hr
        by_cases h8 : r < 8
        · rw [bitsTo_bit l k (by omega) _ _ h8, decide_eq_false (by omega)]; rfl
        · apply Nat.testBit_lt_two_pow
          have h2 : ((bitsTo l k).getD (k / 8) 0).toNat < 2 ^ 8 := UInt8.toNat_lt _
          exact Nat.lt_of_lt_of_le h2 (Nat.pow_le_pow_right (by omega) (by omega))
      have := Nat.two_pow_add_eq_or_of_lt hlt 1
      rw [Nat.mul_one] at this
      rw [Nat.add_comm, this, Nat.or_comm]
/-- The bytes of a fate, and what is wrong with one. -/
def tailB (l : List Bool) (t a : Int) : List UInt8 := if t = -1 then [] else [UInt8.ofNat (aheadN l t), UInt8.ofNat (a.toNat / 256), UInt8.ofNat (a.toNat % 256)]
def longF (l : List Bool) (t : Int) : Bool := decide (127 < aheadN l t) || decide (4096 < l.length)
def putE (l : List Bool) (t a : Int) : Int := if mayF l t a = true then (if longF l t = true then 4 else 0) else 2
def putB (l : List Bool) (t a : Int) : List UInt8 := if mayF l t a = true then (if longF l t = true then [] else bitsTo l l.length ++ tailB l t a) else []
theorem may_cases {l : List Bool} {t a : Int} (h : mayF l t a = true) : (t = -1 ∧ a = 0) ∨ ∃ i : Nat, t = i ∧ i < l.length ∧ l.getD i false = true ∧ 0 ≤ a ∧ a ≤ 256 := by
  unfold mayF at h
  by_cases e : t = -1
  · rw [if_pos e] at h; exact .inl ⟨e, of_decide_eq_true h⟩
  · rw [if_neg e] at h
    simp only [Bool.and_eq_true, decide_eq_true_eq] at h
    obtain ⟨h1, h2, h3, h4, h5⟩ := h
    obtain ⟨i, rfl⟩ := Int.eq_ofNat_of_zero_le h1
    exact .inr ⟨i, rfl, by omega, h3, h4, h5⟩
theorem ahead_i (l : List Bool) (i : Nat) (h : i < l.length) (hb : l.getD i false = true) : aheadN l (i : Int) = (cameTo l i).length := by
  unfold aheadN; rw [if_pos ⟨by omega, by omega, hb⟩]; rfl
theorem ahead_minus (l : List Bool) : aheadN l (-1) = 0 := by unfold aheadN; rw [if_neg (by omega)]
theorem bits_or : ∀ c : Fin 256, ∀ r : Fin 8, bits BinOp.or IntKind.u8 (c.val : Int) (2 ^ r.val) = ((c.val ||| 2 ^ r.val : Nat) : Int) := by decide +kernel
end Go.Proofs.YtcoegaipojnndaaDoor

