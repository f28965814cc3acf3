/-
  A map's bytes, and its runs, as plain mathematics; no conditions beside those that each law states.
-/
import Derived.Test.YtaihcbkdbdhihaaDoorMm
namespace Go.Proofs.YtaihcbkdbdhihaaDoor

/-- The byte m of a number. -/
def byN (N m : Nat) : Nat := N / 2 ^ (8 * m) % 256
theorem byN_lt (N m : Nat) : byN N m < 256 := Nat.mod_lt _ (by decide)
theorem byN_bit (N m j : Nat) : (byN N m).testBit j = (decide (j < 8) && N.testBit (8 * m + j)) := by
  unfold byN
  rw [show (256 : Nat) = 2 ^ 8 from rfl, Nat.testBit_mod_two_pow, Nat.testBit_div_two_pow, Nat.add_comm]
theorem byte_eq {x y : Nat} (h : ∀ j, x.testBit j = y.testBit j) : x = y := Nat.eq_of_testBit_eq h
theorem wd_byte (N m : Nat) : wd N (m / 8) / 2 ^ (m % 8 * 8) % 256 = byN N m := by
  refine byte_eq fun j => ?_
  rw [show (256 : Nat) = 2 ^ 8 from rfl, Nat.testBit_mod_two_pow, Nat.testBit_div_two_pow, byN_bit, wd_bit]
  by_cases h : j < 8
  · have h1 : j + m % 8 * 8 < 64 := by omega
    have h2 : 64 * (m / 8) + (j + m % 8 * 8) = 8 * m + j := by omega
    rw [h2]; simp [h, h1]
  · simp [h]
def putF (us : List Bool) : List UInt8 := (List.range ((us.length + 7) / 8)).map fun m => UInt8.ofNat (byN (natOf us) m)
theorem putF_length (us : List Bool) : (putF us).length = (us.length + 7) / 8 := by simp [putF]
/-- The number that bytes tell, the lowest one first. -/
def leN : List UInt8 → Nat
  | [] => 0
  | c :: l => c.toNat + 256 * leN l
theorem leN_bit : ∀ (l : List UInt8) (i : Nat), (leN l).testBit i = (l.getD (i / 8) 0).toNat.testBit (i % 8)
  | [], i => by simp [leN]
  | c :: l, i => by
    have h := Nat.testBit_two_pow_mul_add (i := 8) (leN l) (by simpa using c.toNat_lt) i
    unfold leN
    rw [show c.toNat + 256 * leN l = 2 ^ 8 * leN l + c.toNat from by omega, h]
    split
    · rename_i h1
      rw [Nat.div_eq_of_lt h1, Nat.mod_eq_of_lt h1]; simp
    · rename_i h1
      obtain ⟨d, rfl⟩ : ∃ d, i = d + 8 := ⟨i - 8, by omega⟩
      rw [Nat.add_sub_cancel, leN_bit l d, show (d + 8) / 8 = d / 8 + 1 from by omega, show (d + 8) % 8 = d % 8 from by omega]
      simp
theorem u8_bit (c : UInt8) (j : Nat) (h : 8 ≤ j) : c.toNat.testBit j = false :=
  Nat.testBit_lt_two_pow (Nat.lt_of_lt_of_le (by simpa using c.toNat_lt) (Nat.pow_le_pow_right (n := 2) (i := 8) (by decide) h))
theorem leN_byte (l : List UInt8) (m : Nat) : byN (leN l) m = (l.getD m 0).toNat := by
  refine byte_eq fun j => ?_
  rw [byN_bit, leN_bit]
  by_cases h : j < 8
  · rw [show (8 * m + j) / 8 = m from by omega, show (8 * m + j) % 8 = j from by omega]; simp [h]
  · rw [u8_bit _ j (by omega)]; simp [h]
theorem leN_inj {l l' : List UInt8} (hl : l.length = l'.length) (h : leN l = leN l') : l = l' := by
  refine List.ext_getElem hl fun m h1 h2 => ?_
  have e1 := leN_byte l m
  have e2 := leN_byte l' m
  rw [h] at e1
  simp only [List.getD_eq_getElem?_getD, List.getElem?_eq_getElem h1, List.getElem?_eq_getElem h2, Option.getD_some] at e1 e2
  exact UInt8.toNat_inj.1 (e1.symm.trans e2)
theorem putF_get (us : List Bool) (m : Nat) : ((putF us).getD m 0).toNat = if m < (us.length + 7) / 8 then byN (natOf us) m else 0 := by
  unfold putF
  simp only [List.getD_eq_getElem?_getD, List.getElem?_map]
  split
  · rename_i h
    rw [List.getElem?_range h]
    simp
    exact byN_lt _ _
  · rename_i h
    rw [List.getElem?_eq_none (by simp; omega)]
    rfl
theorem leN_putF (us : List Bool) : leN (putF us) = natOf us := by
  refine Nat.eq_of_testBit_eq fun i => ?_
  rw [leN_bit, putF_get]
  split
  · rw [byN_bit, Nat.div_add_mod]
    have : i % 8 < 8 := Nat.mod_lt _ (by decide)
    simp [this]
  · rename_i h
    rw [Nat.zero_testBit, natOf_bit, List.getD_eq_getElem?_getD, List.getElem?_eq_none (by omega)]; rfl
/-- The map of n things whose bytes these are said to be. -/
def usOf (n : Nat) (l : List UInt8) : List Bool := (List.range n).map fun i => (leN l).testBit i
theorem usOf_length (n : Nat) (l : List UInt8) : (usOf n l).length = n := by simp [usOf]
theorem usOf_get (n : Nat) (l : List UInt8) (i : Nat) : (usOf n l).getD i false = (decide (i < n) && (leN l).testBit i) := by
  unfold usOf
  simp only [List.getD_eq_getElem?_getD, List.getElem?_map]
  by_cases h : i < n
  · rw [List.getElem?_range h]; simp [h]
  · rw [List.getElem?_eq_none (by simp; omega)]; simp [h]
def formOk (n : Nat) (l : List UInt8) : Bool := decide (l.length = (n + 7) / 8) && decide (natOf (usOf n l) = leN l)
theorem formOk_iff (n : Nat) (l : List UInt8) : putF (usOf n l) = l ↔ formOk n l = true := by
  unfold formOk
  rw [Bool.and_eq_true, decide_eq_true_eq, decide_eq_true_eq]
  constructor
  · intro h
    have h1 := putF_length (usOf n l)
    rw [h, usOf_length] at h1
    have h2 := leN_putF (usOf n l)
    rw [h] at h2
    exact ⟨h1, h2.symm⟩
  · rintro ⟨h1, h2⟩
    refine leN_inj (by rw [putF_length, usOf_length, h1]) ?_
    rw [leN_putF, h2]
theorem usOf_putF (us : List Bool) : usOf us.length (putF us) = us := by
  refine List.ext_getElem (usOf_length _ _) fun i h1 h2 => ?_
  have h := usOf_get us.length (putF us) i
  rw [leN_putF, natOf_bit] at h
  simp only [List.getD_eq_getElem?_getD, List.getElem?_eq_getElem h1, List.getElem?_eq_getElem h2, Option.getD_some, h2, decide_true, Bool.true_and] at h
  exact h
theorem formOk_putF (us : List Bool) : formOk us.length (putF us) = true := (formOk_iff _ _).1 (by rw [usOf_putF])
/-- One byte more. -/
theorem wd_snoc (l : List UInt8) (c : UInt8) (k : Nat) : wd (leN (l ++ [c])) k = if k = l.length / 8 then wd (leN l) k ||| c.toNat * 2 ^ (l.length % 8 * 8) else wd (leN l) k := by
  have hg : ∀ m, (l ++ [c]).getD m 0 = if m < l.length then l.getD m 0 else if m = l.length then c else 0 := by
    intro m
    simp only [List.getD_eq_getElem?_getD, List.getElem?_append]
    split
    · rfl
    · rename_i h
      split
      · rename_i h2; subst h2; simp
      · rename_i h2; rw [List.getElem?_eq_none (by simp; omega)]; rfl
  have hz : ∀ m, l.length ≤ m → l.getD m 0 = 0 := fun m h => by rw [List.getD_eq_getElem?_getD, List.getElem?_eq_none h]; rfl
  refine Nat.eq_of_testBit_eq fun j => ?_
  have hr : (if k = l.length / 8 then wd (leN l) k ||| c.toNat * 2 ^ (l.length % 8 * 8) else wd (leN l) k).testBit j = if k = l.length / 8 then ((wd (leN l) k).testBit j || (decide (l.length % 8 * 8 ≤ j) && c.toNat.testBit (j - l.length % 8 * 8))) else (wd (leN l) k).testBit j := by
    split
    · rw [Nat.testBit_or, Nat.testBit_mul_two_pow]
    · rfl
  rw [hr]
  simp only [wd_bit, leN_bit, hg]
  by_cases hj : j < 64
  · simp only [hj, decide_true, Bool.true_and]
    by_cases hm : (64 * k + j) / 8 < l.length
    · simp only [hm, if_true]
      split
      · rename_i hk
        have : ¬ (l.length % 8 * 8 ≤ j) := by omega
        simp [this]
      · rfl
    · simp only [hm, if_false]
      rw [hz _ (by omega)]
      by_cases he : (64 * k + j) / 8 = l.length
      · have hk : k = l.length / 8 := by omega
        have h1 : l.length % 8 * 8 ≤ j := by omega
        have h2 : (64 * k + j) % 8 = j - l.length % 8 * 8 := by omega
        rw [if_pos he, if_pos hk, h2]
        simp [h1]
      · rw [if_neg he]
        split
        · rename_i hk
          by_cases h1 : l.length % 8 * 8 ≤ j
          · rw [u8_bit c _ (by omega)]; simp
          · simp [h1]
        · simp
  · simp only [hj, decide_false, Bool.false_and]
    split
    · rename_i hk
      by_cases h1 : l.length % 8 * 8 ≤ j
      · rw [u8_bit c _ (by omega)]; simp
      · simp [h1]
    · rfl
theorem shl_lt (c : UInt8) (m : Nat) : c.toNat * 2 ^ (m % 8 * 8) < 18446744073709551616 := by
  have h1 : c.toNat < 256 := c.toNat_lt
  have h2 : 2 ^ (m % 8 * 8) ≤ 2 ^ 56 := Nat.pow_le_pow_right (by decide) (by omega)
  calc c.toNat * 2 ^ (m % 8 * 8) ≤ 255 * 2 ^ 56 := Nat.mul_le_mul (by omega) h2
    _ < _ := by decide
theorem wd_nil (k : Nat) : wd (leN []) k = 0 := wd_zero k

/-- The document's way to the bytes, thing by thing. -/
def putTo (us : List Bool) (i : Nat) : List UInt8 := (List.range ((us.length + 7) / 8)).map fun m => UInt8.ofNat (byN (natOf (us.take i)) m)
theorem putTo_length (us : List Bool) (i : Nat) : (putTo us i).length = (us.length + 7) / 8 := by simp [putTo]
theorem putTo_zero (us : List Bool) : putTo us 0 = List.replicate ((us.length + 7) / 8) 0 := by
  unfold putTo
  rw [List.take_zero, List.eq_replicate_iff]
  refine ⟨by simp, fun b hb => ?_⟩
  obtain ⟨m, _, rfl⟩ := List.mem_map.1 hb
  simp [byN, natOf]
theorem putTo_all (us : List Bool) : putTo us us.length = putF us := by unfold putTo putF; rw [List.take_length]
theorem take_getD (us : List Bool) (i j : Nat) : (us.take i).getD j false = (decide (j < i) && us.getD j false) := by
  simp only [List.getD_eq_getElem?_getD, List.getElem?_take]
  by_cases h : j < i <;> simp [h]
theorem natOf_take_false (us : List Bool) (i : Nat) (h : us.getD i false = false) : natOf (us.take (i + 1)) = natOf (us.take i) := by
  refine Nat.eq_of_testBit_eq fun j => ?_
  rw [natOf_bit, natOf_bit, take_getD, take_getD]
  by_cases e : j = i
  · subst e; rw [h]; simp
  · have : (j < i + 1) ↔ (j < i) := by omega
    simp [this]
theorem putTo_false (us : List Bool) (i : Nat) (h : us.getD i false = false) : putTo us (i + 1) = putTo us i := by unfold putTo; rw [natOf_take_false us i h]
theorem byN_take (us : List Bool) (i m : Nat) (h : us.getD i false = true) : byN (natOf (us.take (i + 1))) m = if m = i / 8 then byN (natOf (us.take i)) m + 2 ^ (i % 8) else byN (natOf (us.take i)) m := by
  have hlow : byN (natOf (us.take i)) (i / 8) < 2 ^ (i % 8) := by
    refine Nat.lt_pow_two_of_testBit _ fun j hj => ?_
    rw [byN_bit, natOf_bit, take_getD]
    by_cases h8 : j < 8
    · have : ¬ (8 * (i / 8) + j < i) := by omega
      simp [this]
    · simp [h8]
  refine byte_eq fun j => ?_
  have hr : (if m = i / 8 then byN (natOf (us.take i)) m + 2 ^ (i % 8) else byN (natOf (us.take i)) m).testBit j = if m = i / 8 then (decide (i % 8 = j) || (byN (natOf (us.take i)) m).testBit j) else (byN (natOf (us.take i)) m).testBit j := by
    split
    · rename_i hm
      subst hm
      have h1 := Nat.two_pow_add_eq_or_of_lt hlow 1
      rw [Nat.mul_one] at h1
      rw [Nat.add_comm, h1, Nat.testBit_or, Nat.testBit_two_pow]
    · rfl
  rw [hr, byN_bit, byN_bit, natOf_bit, natOf_bit, take_getD, take_getD]
  by_cases h8 : j < 8
  · simp only [h8, decide_true, Bool.true_and]
    by_cases hm : m = i / 8
    · rw [if_pos hm]
      by_cases hj : i % 8 = j
      · have : 8 * m + j = i := by omega
        rw [this, h]; simp [hj]
      · have : (8 * m + j < i + 1) ↔ (8 * m + j < i) := by omega
        simp [this, hj]
    · rw [if_neg hm]
      have : (8 * m + j < i + 1) ↔ (8 * m + j < i) := by omega
      simp [this]
  · simp only [h8, decide_false, Bool.false_and, Bool.or_false]
    split
    · have : ¬ (i % 8 = j) := by omega
      simp [this]
    · rfl
theorem putTo_at (us : List Bool) (i m : Nat) (hm : m < (us.length + 7) / 8) : (putTo us i)[m]? = some (UInt8.ofNat (byN (natOf (us.take i)) m)) := by
  unfold putTo
  rw [List.getElem?_map, List.getElem?_range hm]; rfl
theorem putTo_true (us : List Bool) (i : Nat) (hi : i < us.length) (h : us.getD i false = true) :
    byN (natOf (us.take i)) (i / 8) + 2 ^ (i % 8) < 256 ∧ putTo us (i + 1) = (putTo us i).set (i / 8) (UInt8.ofNat (byN (natOf (us.take i)) (i / 8) + 2 ^ (i % 8))) := by
  have h1 := byN_take us i (i / 8) h
  rw [if_pos rfl] at h1
  refine ⟨by rw [← h1]; exact byN_lt _ _, ?_⟩
  rw [← h1]
  refine List.ext_getElem? fun m => ?_
  rw [List.getElem?_set]
  rcases Nat.lt_or_ge m ((us.length + 7) / 8) with hm | hm
  · rw [putTo_at us (i + 1) m hm, putTo_at us i m hm, putTo_length]
    split
    · rename_i e; subst e; rw [if_pos hm]
    · rename_i e
      rw [byN_take us i m h, if_neg (fun x => e x.symm)]
  · rw [List.getElem?_eq_none (by rw [putTo_length]; exact hm), List.getElem?_eq_none (by rw [putTo_length]; exact hm), if_neg (by omega)]

/-- The program's way to the bytes, byte by byte. -/
def putUp (us : List Bool) (k : Nat) : List UInt8 := (List.range ((us.length + 7) / 8)).map fun m => if m < k then UInt8.ofNat (byN (natOf us) m) else 0
theorem putUp_length (us : List Bool) (k : Nat) : (putUp us k).length = (us.length + 7) / 8 := by simp [putUp]
theorem putUp_zero (us : List Bool) : putUp us 0 = List.replicate ((us.length + 7) / 8) 0 := by
  unfold putUp
  rw [List.eq_replicate_iff]
  refine ⟨by simp, fun b hb => ?_⟩
  obtain ⟨m, _, rfl⟩ := List.mem_map.1 hb
  simp
theorem putUp_all (us : List Bool) : putUp us ((us.length + 7) / 8) = putF us := by
  unfold putUp putF
  refine List.map_congr_left fun m hm => ?_
  rw [if_pos (List.mem_range.1 hm)]
theorem putUp_succ (us : List Bool) (k : Nat) : putUp us (k + 1) = (putUp us k).set k (UInt8.ofNat (byN (natOf us) k)) := by
  refine List.ext_getElem? fun m => ?_
  rw [List.getElem?_set]
  unfold putUp
  rw [List.getElem?_map, List.getElem?_map]
  rcases Nat.lt_or_ge m ((us.length + 7) / 8) with hm | hm
  · rw [List.getElem?_range hm]
    by_cases e : k = m
    · subst e; simp [hm]
    · rw [if_neg e]
      have : (m < k + 1) ↔ (m < k) := by omega
      simp [this]
  · rw [List.getElem?_eq_none (by simpa using hm)]
    by_cases e : k = m
    · subst e; rw [if_pos rfl, if_neg (by simpa using hm)]; rfl
    · rw [if_neg e]; rfl
end Go.Proofs.YtaihcbkdbdhihaaDoor
