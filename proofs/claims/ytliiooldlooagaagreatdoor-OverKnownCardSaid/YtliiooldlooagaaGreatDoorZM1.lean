/-
  Texts of one layer, one behind the other, each with its own sentence; conditions: those that each law states.
-/
import Derived.Lib.TrailingZeros
set_option linter.unusedSimpArgs false
set_option linter.unusedVariables false

/-
  Which of some things are used, as plain mathematics: the bits of a number, its words and bytes, the next one, how many there are; no conditions beside those that each law states.
-/
namespace Go.Proofs.YtliiooldlooagaaGreatDoor.M6

/-- The number whose bits these are, the lowest one first. -/
def natOf : List Bool → Nat
  | [] => 0
  | b :: l => b.toNat + 2 * natOf l
theorem natOf_cons (b : Bool) (l : List Bool) : natOf (b :: l) = b.toNat + 2 * natOf l := rfl
theorem natOf_bit : ∀ (l : List Bool) (i : Nat), (natOf l).testBit i = l.getD i false
  | [], i => by simp [natOf]
  | b :: l, 0 => by
    rw [Nat.testBit_zero]
    unfold natOf
    cases b <;> simp <;> omega
  | b :: l, i + 1 => by
    rw [Nat.testBit_succ]
    have h : natOf (b :: l) / 2 = natOf l := by rw [natOf_cons]; have hb : b.toNat ≤ 1 := by { cases b <;> simp }; omega
    rw [h, natOf_bit l i]
    simp
theorem natOf_lt : ∀ l : List Bool, natOf l < 2 ^ l.length
  | [] => by simp [natOf]
  | b :: l => by
    have := natOf_lt l
    rw [natOf_cons, List.length_cons, Nat.pow_succ]
    have hb : b.toNat ≤ 1 := by cases b <;> simp
    omega
theorem natOf_eq {l : List Bool} {N : Nat} (h : ∀ i, N.testBit i = l.getD i false) : N = natOf l :=
  Nat.eq_of_testBit_eq fun i => by rw [h, natOf_bit]
theorem getD_set (l : List Bool) (i j : Nat) (b : Bool) (hi : i < l.length) : (l.set i b).getD j false = if j = i then b else l.getD j false := by
  simp only [List.getD_eq_getElem?_getD, List.getElem?_set]
  by_cases h : i = j
  · subst h; simp [hi]
  · rw [if_neg h, if_neg (fun e => h e.symm)]
theorem natOf_turn (l : List Bool) (i : Nat) (hi : i < l.length) : natOf l ^^^ 2 ^ i = natOf (l.set i (!l.getD i false)) := by
  refine natOf_eq fun j => ?_
  rw [Nat.testBit_xor, natOf_bit, Nat.testBit_two_pow, getD_set _ _ _ _ hi]
  by_cases h : j = i
  · subst h; simp
  · rw [if_neg h, decide_eq_false (fun e => h e.symm), Bool.xor_false]
theorem natOf_replicate (n : Nat) : natOf (List.replicate n false) = 0 := by
  symm
  refine natOf_eq fun i => ?_
  simp [List.getD_eq_getElem?_getD, List.getElem?_replicate]
  split <;> rfl

/-- The word k of a number. -/
def wd (N k : Nat) : Nat := N / 2 ^ (64 * k) % 2 ^ 64
theorem wd_bit (N k j : Nat) : (wd N k).testBit j = (decide (j < 64) && N.testBit (64 * k + j)) := by
  unfold wd
  rw [Nat.testBit_mod_two_pow, Nat.testBit_div_two_pow, Nat.add_comm]
theorem wd_lt (N k : Nat) : wd N k < 18446744073709551616 := Nat.mod_lt _ (by decide)
theorem wd_zero (k : Nat) : wd 0 k = 0 := by unfold wd; simp
theorem bit_of_div (x s : Nat) : (x / 2 ^ s) &&& 1 = (x.testBit s).toNat := by
  rw [Nat.and_one_is_mod, Nat.toNat_testBit]
theorem wd_set (N i : Nat) : (wd N (i / 64) / 2 ^ (i % 64)) &&& 1 = (N.testBit i).toNat := by
  rw [bit_of_div, wd_bit]
  have h1 : i % 64 < 64 := Nat.mod_lt _ (by decide)
  have h2 : 64 * (i / 64) + i % 64 = i := Nat.div_add_mod i 64
  rw [h2]; simp [h1]
theorem wd_turn (N i k : Nat) : wd (N ^^^ 2 ^ i) k = if k = i / 64 then wd N k ^^^ 2 ^ (i % 64) else wd N k := by
  have h1 : i % 64 < 64 := Nat.mod_lt _ (by decide)
  have h2 : 64 * (i / 64) + i % 64 = i := Nat.div_add_mod i 64
  refine Nat.eq_of_testBit_eq fun j => ?_
  split
  · rename_i h
    subst h
    rw [wd_bit, Nat.testBit_xor, Nat.testBit_xor, wd_bit, Nat.testBit_two_pow, Nat.testBit_two_pow]
    by_cases hj : j < 64
    · simp only [hj, decide_true, Bool.true_and]
      congr 1
      simp; omega
    · simp only [hj, decide_false, Bool.false_and]
      have : ¬ (i % 64 = j) := by omega
      simp [this]
  · rename_i h
    rw [wd_bit, wd_bit, Nat.testBit_xor, Nat.testBit_two_pow]
    by_cases hj : j < 64
    · have : ¬ (i = 64 * k + j) := by omega
      simp [this]
    · simp [hj]
theorem xor_lt64 {a b : Nat} (ha : a < 18446744073709551616) (hb : b < 18446744073709551616) : a ^^^ b < 18446744073709551616 := Nat.xor_lt_two_pow (n := 64) ha hb
theorem pow_lt64 (i : Nat) : 2 ^ (i % 64) < 18446744073709551616 := by
  have h1 : i % 64 < 64 := Nat.mod_lt _ (by decide)
  exact Nat.pow_lt_pow_right (by decide) h1
/-- Numbers whose words are the same are the same. -/
theorem wd_eq {M N : Nat} (hM : ∀ i, 1024 ≤ i → M.testBit i = false) (hN : ∀ i, 1024 ≤ i → N.testBit i = false) (h : ∀ k, k < 16 → wd M k = wd N k) : M = N := by
  refine Nat.eq_of_testBit_eq fun i => ?_
  rcases Nat.lt_or_ge i 1024 with hi | hi
  · have h1 := h (i / 64) (by omega)
    have h2 := congrArg (fun x => x.testBit (i % 64)) h1
    simp only [wd_bit] at h2
    have h3 : i % 64 < 64 := Nat.mod_lt _ (by decide)
    rw [Nat.div_add_mod] at h2
    simpa [h3] using h2
  · rw [hM i hi, hN i hi]
theorem natOf_high {l : List Bool} (h : l.length ≤ 1024) : ∀ i, 1024 ≤ i → (natOf l).testBit i = false := fun i hi => by
  rw [natOf_bit, List.getD_eq_getElem?_getD, List.getElem?_eq_none (by omega)]; rfl

/-- The next thing that is used, or free, from here on; how many there are, if there is none. -/
def nextF (us : List Bool) (at_ : Nat) (used : Bool) : Nat := at_ + (us.drop at_).findIdx (fun b => b == used)
theorem nextF_is {us : List Bool} {a j : Nat} {used : Bool} (h1 : a ≤ j) (h2 : j ≤ us.length) (h3 : ∀ i, a ≤ i → i < j → us.getD i false = !used) (h4 : j < us.length → us.getD j false = used) : nextF us a used = j := by
  unfold nextF
  have hb : ∀ i (hi : i < us.length), us[i] = us.getD i false := fun i hi => by simp [List.getD_eq_getElem?_getD, hi]
  rcases Nat.lt_or_ge j us.length with h | h
  · have hl : j - a < (us.drop a).length := by simp; omega
    have := (List.findIdx_eq (p := fun b => b == used) hl).2 ⟨by
      simp only [List.getElem_drop, beq_iff_eq]
      rw [hb, show a + (j - a) = j from by omega]; exact h4 h, fun i hi => by
      simp only [List.getElem_drop, beq_eq_false_iff_ne]
      rw [hb, h3 (a + i) (by omega) (by omega)]
      cases used <;> simp⟩
    rw [this]; omega
  · obtain rfl : j = us.length := by omega
    have : (us.drop a).findIdx (fun b => b == used) = (us.drop a).length := by
      rw [List.findIdx_eq_length]
      intro x hx
      obtain ⟨i, hi, rfl⟩ := List.mem_iff_getElem.1 hx
      simp only [List.length_drop] at hi
      simp only [List.getElem_drop, beq_eq_false_iff_ne]
      rw [hb, h3 (a + i) (by omega) (by omega)]
      cases used <;> simp
    rw [this]; simp; omega
theorem nextF_spec (us : List Bool) (a : Nat) (used : Bool) (ha : a ≤ us.length) : a ≤ nextF us a used ∧ nextF us a used ≤ us.length ∧ (∀ i, a ≤ i → i < nextF us a used → us.getD i false = !used) ∧ (nextF us a used < us.length → us.getD (nextF us a used) false = used) := by
  have hb : ∀ i (hi : i < us.length), us[i] = us.getD i false := fun i hi => by simp [List.getD_eq_getElem?_getD, hi]
  have hl := List.findIdx_le_length (p := fun b => b == used) (xs := us.drop a)
  rw [List.length_drop] at hl
  refine ⟨by unfold nextF; omega, by unfold nextF; omega, fun i h1 h2 => ?_, fun h => ?_⟩
  · unfold nextF at h2
    have h3 : i - a < (us.drop a).findIdx (fun b => b == used) := by omega
    have := List.not_of_lt_findIdx h3
    simp only [List.getElem_drop, beq_eq_false_iff_ne] at this
    rw [hb, show a + (i - a) = i from by omega] at this
    cases used <;> simpa using this
  · unfold nextF at h ⊢
    have h3 : (us.drop a).findIdx (fun b => b == used) < (us.drop a).length := by rw [List.length_drop]; omega
    have := List.findIdx_getElem (w := h3)
    simp only [List.getElem_drop, beq_iff_eq] at this
    rwa [hb] at this
theorem ctz_bit (x : Nat) (h0 : x ≠ 0) (h : x < 2 ^ 64) : x.testBit (Lib.ctz 64 x) = true ∧ (∀ i, i < Lib.ctz 64 x → x.testBit i = false) ∧ Lib.ctz 64 x < 64 := by
  obtain ⟨m, hm, hk⟩ := Lib.ctzFrom_spec 64 x (by omega) h
  have e : Lib.ctz 64 x = Lib.ctzFrom 64 x := by simp [Lib.ctz, h0]
  rw [e]
  generalize Lib.ctzFrom 64 x = c at *
  refine ⟨?_, fun i hi => ?_, hk⟩
  · rw [hm, Nat.mul_comm, Nat.testBit_mul_two_pow]; simp [Nat.testBit_zero]
  · rw [hm, Nat.mul_comm, Nat.testBit_mul_two_pow]; simp; omega
/-- The bits of a word, or its contrary, from a place on. -/
def restF (N a : Nat) (used : Bool) : Nat := (if used then wd N (a / 64) else 18446744073709551615 - wd N (a / 64)) / 2 ^ (a % 64)
theorem restF_lt (N a : Nat) (used : Bool) : restF N a used < 18446744073709551616 := by
  unfold restF
  refine Nat.lt_of_le_of_lt (Nat.div_le_self _ _) ?_
  have := wd_lt N (a / 64)
  split <;> omega
theorem restF_bit (N a j : Nat) (used : Bool) : (restF N a used).testBit j = (decide (a % 64 + j < 64) && (N.testBit (a + j) == used)) := by
  unfold restF
  have h2 : 64 * (a / 64) + (a % 64 + j) = a + j := by have := Nat.div_add_mod a 64; omega
  rw [Nat.testBit_div_two_pow, Nat.add_comm j]
  cases used
  · have h3 : 18446744073709551615 - wd N (a / 64) = 2 ^ 64 - (wd N (a / 64) + 1) := by omega
    rw [if_neg (by simp), h3, Nat.testBit_two_pow_sub_succ (wd_lt _ _), wd_bit, h2]
    by_cases h : a % 64 + j < 64
    · simp [h]
    · simp [h]
  · rw [if_pos rfl, wd_bit, h2]
    cases N.testBit (a + j) <;> simp
theorem next_found (us : List Bool) (a0 a : Nat) (used : Bool) (h0 : a0 ≤ a) (ha : a < us.length) (hno : ∀ i, a0 ≤ i → i < a → us.getD i false = !used) (hr : restF (natOf us) a used ≠ 0) :
    a + Lib.ctz 64 (restF (natOf us) a used) = nextF us a0 used ∧ Lib.ctz 64 (restF (natOf us) a used) < 64 := by
  obtain ⟨hc1, hc2, hc3⟩ := ctz_bit _ hr (restF_lt _ _ _)
  generalize Lib.ctz 64 (restF (natOf us) a used) = c at *
  rw [restF_bit, Bool.and_eq_true, decide_eq_true_eq, beq_iff_eq, natOf_bit] at hc1
  have hlow : ∀ i, i < c → us.getD (a + i) false = !used := fun i hi => by
    have h := hc2 i hi
    rw [restF_bit, natOf_bit] at h
    have h5 : a % 64 + i < 64 := by omega
    simp only [h5, decide_true, Bool.true_and, beq_eq_false_iff_ne] at h
    cases used <;> simpa using h
  have hle : a + c ≤ us.length := by
    cases hu : used
    · rcases Nat.lt_or_ge us.length (a + c) with h | h
      · have := hlow (us.length - a) (by omega)
        rw [show a + (us.length - a) = us.length from by omega, hu] at this
        simp [List.getD_eq_getElem?_getD] at this
      · exact h
    · rcases Nat.lt_or_ge (a + c) us.length with h | h
      · omega
      · have := hc1.2
        rw [hu] at this
        simp [List.getD_eq_getElem?_getD, h] at this
  refine ⟨(nextF_is (by omega) hle (fun i h1 h2 => ?_) (fun _ => hc1.2)).symm, hc3⟩
  rcases Nat.lt_or_ge i a with h | h
  · exact hno i h1 h
  · have := hlow (i - a) (by omega)
    rwa [show a + (i - a) = i from by omega] at this
theorem next_on (us : List Bool) (a : Nat) (used : Bool) (hr : restF (natOf us) a used = 0) : ∀ i, a ≤ i → i < a + (64 - a % 64) → us.getD i false = !used := fun i h1 h2 => by
  have h := restF_bit (natOf us) a (i - a) used
  rw [hr, Nat.zero_testBit, natOf_bit, show a + (i - a) = i from by omega] at h
  have h5 : a % 64 + (i - a) < 64 := by omega
  simp only [h5, decide_true, Bool.true_and] at h
  have h := h.symm
  rw [beq_eq_false_iff_ne] at h
  cases used <;> simpa using h
theorem next_none (us : List Bool) (a0 a : Nat) (used : Bool) (h0 : a0 ≤ us.length) (ha : us.length ≤ a) (hno : ∀ i, a0 ≤ i → i < a → us.getD i false = !used) : nextF us a0 used = us.length :=
  nextF_is h0 (Nat.le_refl _) (fun i h1 h2 => hno i h1 (by omega)) (fun h => by omega)
end Go.Proofs.YtliiooldlooagaaGreatDoor.M6

/-
  A map's bytes, and its runs, as plain mathematics; no conditions beside those that each law states.
-/
namespace Go.Proofs.YtliiooldlooagaaGreatDoor.M6

/-- The byte m of a number. -/
def byN (N m : Nat) : Nat := N / 2 ^ (8 * m) % 256
theorem byN_lt (N m : Nat) : byN N m < 256 := Nat.mod_lt _ (by decide)
theorem byN_bit (N m j : Nat) : (byN N m).testBit j = (decide (j < 8) && N.testBit (8 * m + j)) := by
  unfold byN
  rw [show (256 : Nat) = 2 ^ 8 from rfl, Nat.testBit_mod_two_pow, Nat.testBit_div_two_pow, Nat.add_comm]
theorem byte_eq {x y : Nat} (h : ∀ j, x.testBit j = y.testBit j) : x = y := Nat.eq_of_testBit_eq h
theorem wd_byte (N m : Nat) : wd N (m / 8) / 2 ^ (m % 8 * 8) % 256 = byN N m := by
  refine byte_eq fun j => ?_
  rw [show (256 : Nat) = 2 ^ 8 from rfl, Nat.testBit_mod_two_pow, Nat.testBit_div_two_pow, byN_bit, wd_bit]
  by_cases h : j < 8
  · have h1 : j + m % 8 * 8 < 64 := by omega
    have h2 : 64 * (m / 8) + (j + m % 8 * 8) = 8 * m + j := by omega
    rw [h2]; simp [h, h1]
  · simp [h]
def putF (us : List Bool) : List UInt8 := (List.range ((us.length + 7) / 8)).map fun m => UInt8.ofNat (byN (natOf us) m)
theorem putF_length (us : List Bool) : (putF us).length = (us.length + 7) / 8 := by simp [putF]
/-- The number that bytes tell, the lowest one first. -/
def leN : List UInt8 → Nat
  | [] => 0
  | c :: l => c.toNat + 256 * leN l
theorem leN_bit : ∀ (l : List UInt8) (i : Nat), (leN l).testBit i = (l.getD (i / 8) 0).toNat.testBit (i % 8)
  | [], i => by simp [leN]
  | c :: l, i => by
    have h := Nat.testBit_two_pow_mul_add (i := 8) (leN l) (by simpa using c.toNat_lt) i
    unfold leN
    rw [show c.toNat + 256 * leN l = 2 ^ 8 * leN l + c.toNat from by omega, h]
    split
    · rename_i h1
      rw [Nat.div_eq_of_lt h1, Nat.mod_eq_of_lt h1]; simp
    · rename_i h1
      obtain ⟨d, rfl⟩ : ∃ d, i = d + 8 := ⟨i - 8, by omega⟩
      rw [Nat.add_sub_cancel, leN_bit l d, show (d + 8) / 8 = d / 8 + 1 from by omega, show (d + 8) % 8 = d % 8 from by omega]
      simp
theorem u8_bit (c : UInt8) (j : Nat) (h : 8 ≤ j) : c.toNat.testBit j = false :=
  Nat.testBit_lt_two_pow (Nat.lt_of_lt_of_le (by simpa using c.toNat_lt) (Nat.pow_le_pow_right (n := 2) (i := 8) (by decide) h))
theorem leN_byte (l : List UInt8) (m : Nat) : byN (leN l) m = (l.getD m 0).toNat := by
  refine byte_eq fun j => ?_
  rw [byN_bit, leN_bit]
  by_cases h : j < 8
  · rw [show (8 * m + j) / 8 = m from by omega, show (8 * m + j) % 8 = j from by omega]; simp [h]
  · rw [u8_bit _ j (by omega)]; simp [h]
theorem leN_inj {l l' : List UInt8} (hl : l.length = l'.length) (h : leN l = leN l') : l = l' := by
  refine List.ext_getElem hl fun m h1 h2 => ?_
  have e1 := leN_byte l m
  have e2 := leN_byte l' m
  rw [h] at e1
  simp only [List.getD_eq_getElem?_getD, List.getElem?_eq_getElem h1, List.getElem?_eq_getElem h2, Option.getD_some] at e1 e2
  exact UInt8.toNat_inj.1 (e1.symm.trans e2)
theorem putF_get (us : List Bool) (m : Nat) : ((putF us).getD m 0).toNat = if m < (us.length + 7) / 8 then byN (natOf us) m else 0 := by
  unfold putF
  simp only [List.getD_eq_getElem?_getD, List.getElem?_map]
  split
  · rename_i h
    rw [List.getElem?_range h]
    simp
    exact byN_lt _ _
  · rename_i h
    rw [List.getElem?_eq_none (by simp; omega)]
    rfl
theorem leN_putF (us : List Bool) : leN (putF us) = natOf us := by
  refine Nat.eq_of_testBit_eq fun i => ?_
  rw [leN_bit, putF_get]
  split
  · rw [byN_bit, Nat.div_add_mod]
    have : i % 8 < 8 := Nat.mod_lt _ (by decide)
    simp [this]
  · rename_i h
    rw [Nat.zero_testBit, natOf_bit, List.getD_eq_getElem?_getD, List.getElem?_eq_none (by omega)]; rfl
/-- The map of n things whose bytes these are said to be. -/
def usOf (n : Nat) (l : List UInt8) : List Bool := (List.range n).map fun i => (leN l).testBit i
theorem usOf_length (n : Nat) (l : List UInt8) : (usOf n l).length = n := by simp [usOf]
theorem usOf_get (n : Nat) (l : List UInt8) (i : Nat) : (usOf n l).getD i false = (decide (i < n) && (leN l).testBit i) := by
  unfold usOf
  simp only [List.getD_eq_getElem?_getD, List.getElem?_map]
  by_cases h : i < n
  · rw [List.getElem?_range h]; simp [h]
  · rw [List.getElem?_eq_none (by simp; omega)]; simp [h]
def formOk (n : Nat) (l : List UInt8) : Bool := decide (l.length = (n + 7) / 8) && decide (natOf (usOf n l) = leN l)
theorem formOk_iff (n : Nat) (l : List UInt8) : putF (usOf n l) = l ↔ formOk n l = true := by
  unfold formOk
  rw [Bool.and_eq_true, decide_eq_true_eq, decide_eq_true_eq]
  constructor
  · intro h
    have h1 := putF_length (usOf n l)
    rw [h, usOf_length] at h1
    have h2 := leN_putF (usOf n l)
    rw [h] at h2
    exact ⟨h1, h2.symm⟩
  · rintro ⟨h1, h2⟩
    refine leN_inj (by rw [putF_length, usOf_length, h1]) ?_
    rw [leN_putF, h2]
theorem usOf_putF (us : List Bool) : usOf us.length (putF us) = us := by
  refine List.ext_getElem (usOf_length _ _) fun i h1 h2 => ?_
  have h := usOf_get us.length (putF us) i
  rw [leN_putF, natOf_bit] at h
  simp only [List.getD_eq_getElem?_getD, List.getElem?_eq_getElem h1, List.getElem?_eq_getElem h2, Option.getD_some, h2, decide_true, Bool.true_and] at h
  exact h
theorem formOk_putF (us : List Bool) : formOk us.length (putF us) = true := (formOk_iff _ _).1 (by rw [usOf_putF])
/-- One byte more. -/
theorem wd_snoc (l : List UInt8) (c : UInt8) (k : Nat) : wd (leN (l ++ [c])) k = if k = l.length / 8 then wd (leN l) k ||| c.toNat * 2 ^ (l.length % 8 * 8) else wd (leN l) k := by
  have hg : ∀ m, (l ++ [c]).getD m 0 = if m < l.length then l.getD m 0 else if m = l.length then c else 0 := by
    intro m
    simp only [List.getD_eq_getElem?_getD, List.getElem?_append]
    split
    · rfl
    · rename_i h
      split
      · rename_i h2; subst h2; simp
      · rename_i h2; rw [List.getElem?_eq_none (by simp; omega)]; rfl
  have hz : ∀ m, l.length ≤ m → l.getD m 0 = 0 := fun m h => by rw [List.getD_eq_getElem?_getD, List.getElem?_eq_none h]; rfl
  refine Nat.eq_of_testBit_eq fun j => ?_
  have hr : (if k = l.length / 8 then wd (leN l) k ||| c.toNat * 2 ^ (l.length % 8 * 8) else wd (leN l) k).testBit j = if k = l.length / 8 then ((wd (leN l) k).testBit j || (decide (l.length % 8 * 8 ≤ j) && c.toNat.testBit (j - l.length % 8 * 8))) else (wd (leN l) k).testBit j := by
    split
    · rw [Nat.testBit_or, Nat.testBit_mul_two_pow]
    · rfl
  rw [hr]
  simp only [wd_bit, leN_bit, hg]
  by_cases hj : j < 64
  · simp only [hj, decide_true, Bool.true_and]
    by_cases hm : (64 * k + j) / 8 < l.length
    · simp only [hm, if_true]
      split
      · rename_i hk
        have : ¬ (l.length % 8 * 8 ≤ j) := by omega
        simp [this]
      · rfl
    · simp only [hm, if_false]
      rw [hz _ (by omega)]
      by_cases he : (64 * k + j) / 8 = l.length
      · have hk : k = l.length / 8 := by omega
        have h1 : l.length % 8 * 8 ≤ j := by omega
        have h2 : (64 * k + j) % 8 = j - l.length % 8 * 8 := by omega
        rw [if_pos he, if_pos hk, h2]
        simp [h1]
      · rw [if_neg he]
        split
        · rename_i hk
          by_cases h1 : l.length % 8 * 8 ≤ j
          · rw [u8_bit c _ (by omega)]; simp
          · simp [h1]
        · simp
  · simp only [hj, decide_false, Bool.false_and]
    split
    · rename_i hk
      by_cases h1 : l.length % 8 * 8 ≤ j
      · rw [u8_bit c _ (by omega)]; simp
      · simp [h1]
    · rfl
theorem shl_lt (c : UInt8) (m : Nat) : c.toNat * 2 ^ (m % 8 * 8) < 18446744073709551616 := by
  have h1 : c.toNat < 256 := c.toNat_lt
  have h2 : 2 ^ (m % 8 * 8) ≤ 2 ^ 56 := Nat.pow_le_pow_right (by decide) (by omega)
  calc c.toNat * 2 ^ (m % 8 * 8) ≤ 255 * 2 ^ 56 := Nat.mul_le_mul (by omega) h2
    _ < _ := by decide
theorem wd_nil (k : Nat) : wd (leN []) k = 0 := wd_zero k

/-- The document's way to the bytes, thing by thing. -/
def putTo (us : List Bool) (i : Nat) : List UInt8 := (List.range ((us.length + 7) / 8)).map fun m => UInt8.ofNat (byN (natOf (us.take i)) m)
theorem putTo_length (us : List Bool) (i : Nat) : (putTo us i).length = (us.length + 7) / 8 := by simp [putTo]
theorem putTo_zero (us : List Bool) : putTo us 0 = List.replicate ((us.length + 7) / 8) 0 := by
  unfold putTo
  rw [List.take_zero, List.eq_replicate_iff]
  refine ⟨by simp, fun b hb => ?_⟩
  obtain ⟨m, _, rfl⟩ := List.mem_map.1 hb
  simp [byN, natOf]
theorem putTo_all (us : List Bool) : putTo us us.length = putF us := by unfold putTo putF; rw [List.take_length]
theorem take_getD (us : List Bool) (i j : Nat) : (us.take i).getD j false = (decide (j < i) && us.getD j false) := by
  simp only [List.getD_eq_getElem?_getD, List.getElem?_take]
  by_cases h : j < i <;> simp [h]
theorem natOf_take_false (us : List Bool) (i : Nat) (h : us.getD i false = false) : natOf (us.take (i + 1)) = natOf (us.take i) := by
  refine Nat.eq_of_testBit_eq fun j => ?_
  rw [natOf_bit, natOf_bit, take_getD, take_getD]
  by_cases e : j = i
  · subst e; rw [h]; simp
  · have : (j < i + 1) ↔ (j < i) := by omega
    simp [this]
theorem putTo_false (us : List Bool) (i : Nat) (h : us.getD i false = false) : putTo us (i + 1) = putTo us i := by unfold putTo; rw [natOf_take_false us i h]
theorem byN_take (us : List Bool) (i m : Nat) (h : us.getD i false = true) : byN (natOf (us.take (i + 1))) m = if m = i / 8 then byN (natOf (us.take i)) m + 2 ^ (i % 8) else byN (natOf (us.take i)) m := by
  have hlow : byN (natOf (us.take i)) (i / 8) < 2 ^ (i % 8) := by
    refine Nat.lt_pow_two_of_testBit _ fun j hj => ?_
    rw [byN_bit, natOf_bit, take_getD]
    by_cases h8 : j < 8
    · have : ¬ (8 * (i / 8) + j < i) := by omega
      simp [this]
    · simp [h8]
  refine byte_eq fun j => ?_
  have hr : (if m = i / 8 then byN (natOf (us.take i)) m + 2 ^ (i % 8) else byN (natOf (us.take i)) m).testBit j = if m = i / 8 then (decide (i % 8 = j) || (byN (natOf (us.take i)) m).testBit j) else (byN (natOf (us.take i)) m).testBit j := by
    split
    · rename_i hm
      subst hm
      have h1 := Nat.two_pow_add_eq_or_of_lt hlow 1
      rw [Nat.mul_one] at h1
      rw [Nat.add_comm, h1, Nat.testBit_or, Nat.testBit_two_pow]
    · rfl
  rw [hr, byN_bit, byN_bit, natOf_bit, natOf_bit, take_getD, take_getD]
  by_cases h8 : j < 8
  · simp only [h8, decide_true, Bool.true_and]
    by_cases hm : m = i / 8
    · rw [if_pos hm]
      by_cases hj : i % 8 = j
      · have : 8 * m + j = i := by omega
        rw [this, h]; simp [hj]
      · have : (8 * m + j < i + 1) ↔ (8 * m + j < i) := by omega
        simp [this, hj]
    · rw [if_neg hm]
      have : (8 * m + j < i + 1) ↔ (8 * m + j < i) := by omega
      simp [this]
  · simp only [h8, decide_false, Bool.false_and, Bool.or_false]
    split
    · have : ¬ (i % 8 = j) := by omega
      simp [this]
    · rfl
theorem putTo_at (us : List Bool) (i m : Nat) (hm : m < (us.length + 7) / 8) : (putTo us i)[m]? = some (UInt8.ofNat (byN (natOf (us.take i)) m)) := by
  unfold putTo
  rw [List.getElem?_map, List.getElem?_range hm]; rfl
theorem putTo_true (us : List Bool) (i : Nat) (hi : i < us.length) (h : us.getD i false = true) :
    byN (natOf (us.take i)) (i / 8) + 2 ^ (i % 8) < 256 ∧ putTo us (i + 1) = (putTo us i).set (i / 8) (UInt8.ofNat (byN (natOf (us.take i)) (i / 8) + 2 ^ (i % 8))) := by
  have h1 := byN_take us i (i / 8) h
  rw [if_pos rfl] at h1
  refine ⟨by rw [← h1]; exact byN_lt _ _, ?_⟩
  rw [← h1]
  refine List.ext_getElem? fun m => ?_
  rw [List.getElem?_set]
  rcases Nat.lt_or_ge m ((us.length + 7) / 8) with hm | hm
  · rw [putTo_at us (i + 1) m hm, putTo_at us i m hm, putTo_length]
    split
    · rename_i e; subst e; rw [if_pos hm]
    · rename_i e
      rw [byN_take us i m h, if_neg (fun x => e x.symm)]
  · rw [List.getElem?_eq_none (by rw [putTo_length]; exact hm), List.getElem?_eq_none (by rw [putTo_length]; exact hm), if_neg (by omega)]

/-- The program's way to the bytes, byte by byte. -/
def putUp (us : List Bool) (k : Nat) : List UInt8 := (List.range ((us.length + 7) / 8)).map fun m => if m < k then UInt8.ofNat (byN (natOf us) m) else 0
theorem putUp_length (us : List Bool) (k : Nat) : (putUp us k).length = (us.length + 7) / 8 := by simp [putUp]
theorem putUp_zero (us : List Bool) : putUp us 0 = List.replicate ((us.length + 7) / 8) 0 := by
  unfold putUp
  rw [List.eq_replicate_iff]
  refine ⟨by simp, fun b hb => ?_⟩
  obtain ⟨m, _, rfl⟩ := List.mem_map.1 hb
  simp
theorem putUp_all (us : List Bool) : putUp us ((us.length + 7) / 8) = putF us := by
  unfold putUp putF
  refine List.map_congr_left fun m hm => ?_
  rw [if_pos (List.mem_range.1 hm)]
theorem putUp_succ (us : List Bool) (k : Nat) : putUp us (k + 1) = (putUp us k).set k (UInt8.ofNat (byN (natOf us) k)) := by
  refine List.ext_getElem? fun m => ?_
  rw [List.getElem?_set]
  unfold putUp
  rw [List.getElem?_map, List.getElem?_map]
  rcases Nat.lt_or_ge m ((us.length + 7) / 8) with hm | hm
  · rw [List.getElem?_range hm]
    by_cases e : k = m
    · subst e; simp [hm]
    · rw [if_neg e]
      have : (m < k + 1) ↔ (m < k) := by omega
      simp [this]
  · rw [List.getElem?_eq_none (by simpa using hm)]
    by_cases e : k = m
    · subst e; rw [if_pos rfl, if_neg (by simpa using hm)]; rfl
    · rw [if_neg e]; rfl
end Go.Proofs.YtliiooldlooagaaGreatDoor.M6

/-
  How many bits of a number are set, by the sums of its parts side by side, as plain mathematics; no conditions beside those that each law states.
-/
namespace Go.Proofs.YtliiooldlooagaaGreatDoor.M6

/-- How many of the first m bits are set. -/
def ones (x : Nat) : Nat → Nat
  | 0 => 0
  | m + 1 => ones x m + (x.testBit m).toNat
theorem ones_congr {x y : Nat} : ∀ {m : Nat}, (∀ i, i < m → x.testBit i = y.testBit i) → ones x m = ones y m
  | 0, _ => rfl
  | m + 1, h => by unfold ones; rw [ones_congr (fun i hi => h i (by omega)), h m (by omega)]
theorem ones_add (x a : Nat) : ∀ b, ones x (a + b) = ones x a + ones (x / 2 ^ a) b
  | 0 => rfl
  | b + 1 => by
    show ones x (a + b) + (x.testBit (a + b)).toNat = _
    rw [ones_add x a b]
    show _ = ones x a + (ones (x / 2 ^ a) b + ((x / 2 ^ a).testBit b).toNat)
    rw [Nat.testBit_div_two_pow, Nat.add_comm b a]; omega
theorem ones_le (x : Nat) : ∀ m, ones x m ≤ m
  | 0 => Nat.le_refl _
  | m + 1 => by unfold ones; have := ones_le x m; have hb : (x.testBit m).toNat ≤ 1 := by { cases x.testBit m <;> simp }; omega
theorem ones_natOf : ∀ l : List Bool, ones (natOf l) l.length = l.count true := by
  have h : ∀ (l : List Bool) (m : Nat), m ≤ l.length → ones (natOf l) m = (l.take m).count true := by
    intro l m
    induction m with
    | zero => intro _; simp [ones]
    | succ m ih =>
      intro hm
      unfold ones
      rw [ih (by omega), natOf_bit, List.take_succ_eq_append_getElem (by omega), List.count_append]
      have e : l.getD m false = l[m] := by simp [List.getD_eq_getElem?_getD, show m < l.length from by omega]
      rw [e]
      cases l[m] <;> simp
  intro l
  rw [h l _ (Nat.le_refl _), List.take_length]
theorem ones_high {x : Nat} {n : Nat} (h : ∀ i, n ≤ i → x.testBit i = false) : ∀ d, ones x (n + d) = ones x n
  | 0 => rfl
  | d + 1 => by show ones x (n + d) + (x.testBit (n + d)).toNat = _; rw [ones_high h d, h (n + d) (by omega)]; rfl
theorem ones_wd (N k : Nat) : ones N (64 * (k + 1)) = ones N (64 * k) + ones (wd N k) 64 := by
  rw [show 64 * (k + 1) = 64 * k + 64 from by omega, ones_add]
  congr 1
  refine ones_congr fun i hi => ?_
  rw [wd_bit, Nat.testBit_div_two_pow]; simp [hi, Nat.add_comm]
/-- How many things are free. -/
def leftF (us : List Bool) : Nat := us.count false
theorem count_both (us : List Bool) : us.count true + us.count false = us.length := by
  induction us with
  | nil => rfl
  | cons b l ih => cases b <;> simp <;> omega
theorem leftF_le (us : List Bool) : leftF us ≤ us.length := by have := count_both us; unfold leftF; omega
/-- What is left behind so many words. -/
def leftTo (us : List Bool) (k : Nat) : Int := us.length - (ones (natOf us) (64 * k) : Nat)
theorem leftTo_zero (us : List Bool) : leftTo us 0 = us.length := by unfold leftTo ones; simp
theorem leftTo_succ (us : List Bool) (k : Nat) : leftTo us (k + 1) = leftTo us k - (ones (wd (natOf us) k) 64 : Nat) := by unfold leftTo; rw [ones_wd]; omega
theorem leftTo_all (us : List Bool) (h : us.length ≤ 1024) : leftTo us 16 = (leftF us : Nat) := by
  unfold leftTo
  obtain ⟨d, hd⟩ : ∃ d, 64 * 16 = us.length + d := ⟨1024 - us.length, by omega⟩
  rw [hd, ones_high (n := us.length) (fun i hi => by rw [natOf_bit, List.getD_eq_getElem?_getD, List.getElem?_eq_none hi]; rfl), ones_natOf]
  have := count_both us
  unfold leftF; omega
theorem leftTo_bd (us : List Bool) (k : Nat) (hk : k ≤ 16) (h : us.length ≤ 1024) : -1024 ≤ leftTo us k ∧ leftTo us k ≤ 1024 := by
  unfold leftTo
  have := ones_le (natOf us) (64 * k)
  omega

/-- Bytes side by side. -/
def ofB : List Nat → Nat
  | [] => 0
  | b :: l => b + 256 * ofB l
theorem and_ofB {a c : Nat} (ha : a < 256) (hc : c < 256) (b d : Nat) : (a + 256 * b) &&& (c + 256 * d) = (a &&& c) + 256 * (b &&& d) := by
  have hac : a &&& c < 256 := Nat.lt_of_le_of_lt Nat.and_le_left ha
  refine Nat.eq_of_testBit_eq fun i => ?_
  have e : ∀ {x y : Nat}, x < 256 → (x + 256 * y).testBit i = if i < 8 then x.testBit i else y.testBit (i - 8) := by
    intro x y hx
    have h := Nat.testBit_two_pow_mul_add (i := 8) y (by simpa using hx) i
    rw [show x + 256 * y = 2 ^ 8 * y + x from by omega]
    exact h
  rw [Nat.testBit_and, e ha, e hc, e hac]
  split <;> rw [Nat.testBit_and]
def b1 (b : Nat) : Nat := (b / 2 &&& 85) + (b &&& 85)
def b2 (b : Nat) : Nat := (b / 4 &&& 51) + (b &&& 51)
def b3 (b : Nat) : Nat := (b / 16 + b) &&& 15
theorem byte1 : ∀ b, b < 256 → ∀ r, r < 2 → ((b / 2 + 128 * r) &&& 85) = (b / 2 &&& 85) := by decide +kernel
theorem byte2 : ∀ b, b < 256 → ∀ r, r < 4 → ((b / 4 + 64 * r) &&& 51) = (b / 4 &&& 51) := by decide +kernel
theorem byte3 : ∀ b, b < 256 → b % 16 ≤ 4 → b / 16 ≤ 4 → ∀ r, r < 5 → ((b / 16 + 16 * r + b) &&& 15) = b3 b := by decide +kernel
theorem byte_all : ∀ b, b < 256 → b1 b < 256 ∧ b2 (b1 b) < 256 ∧ b2 (b1 b) % 16 ≤ 4 ∧ b2 (b1 b) / 16 ≤ 4 ∧ b3 (b2 (b1 b)) = ones b 8 ∧ ones b 8 ≤ 8 := by decide +kernel
theorem sw1 : ∀ l : List Nat, (∀ b ∈ l, b < 256) → (ofB l / 2 &&& ofB (List.replicate l.length 85)) + (ofB l &&& ofB (List.replicate l.length 85)) = ofB (l.map b1)
  | [], _ => by simp [ofB]
  | b :: l, h => by
    have hb := h b (List.mem_cons_self ..)
    have ih := sw1 l (fun x hx => h x (List.mem_cons_of_mem _ hx))
    simp only [List.length_cons, List.replicate_succ, List.map_cons, ofB]
    have e : (b + 256 * ofB l) / 2 = (b / 2 + 128 * (ofB l % 2)) + 256 * (ofB l / 2) := by omega
    rw [e, and_ofB (by omega) (by omega), and_ofB hb (by omega), byte1 b hb _ (by omega), ← ih]
    unfold b1; omega
theorem sw2 : ∀ l : List Nat, (∀ b ∈ l, b < 256) → (ofB l / 4 &&& ofB (List.replicate l.length 51)) + (ofB l &&& ofB (List.replicate l.length 51)) = ofB (l.map b2)
  | [], _ => by simp [ofB]
  | b :: l, h => by
    have hb := h b (List.mem_cons_self ..)
    have ih := sw2 l (fun x hx => h x (List.mem_cons_of_mem _ hx))
    simp only [List.length_cons, List.replicate_succ, List.map_cons, ofB]
    have e : (b + 256 * ofB l) / 4 = (b / 4 + 64 * (ofB l % 4)) + 256 * (ofB l / 4) := by omega
    rw [e, and_ofB (by omega) (by omega), and_ofB hb (by omega), byte2 b hb _ (by omega), ← ih]
    unfold b2; omega
theorem sw3 : ∀ l : List Nat, (∀ b ∈ l, b < 256 ∧ b % 16 ≤ 4 ∧ b / 16 ≤ 4) → (ofB l / 16 + ofB l &&& ofB (List.replicate l.length 15)) = ofB (l.map b3)
  | [], _ => by simp [ofB]
  | b :: l, h => by
    obtain ⟨hb, h1, h2⟩ := h b (List.mem_cons_self ..)
    have ih := sw3 l (fun x hx => h x (List.mem_cons_of_mem _ hx))
    have hr : ofB l % 16 < 5 := by
      cases l with
      | nil => simp [ofB]
      | cons c l => have := (h c (List.mem_cons_of_mem _ (List.mem_cons_self ..))).2.1; unfold ofB; omega
    simp only [List.length_cons, List.replicate_succ, List.map_cons, ofB]
    have e : (b + 256 * ofB l) / 16 + (b + 256 * ofB l) = (b / 16 + 16 * (ofB l % 16) + b) + 256 * (ofB l / 16 + ofB l) := by omega
    rw [e, and_ofB (by omega) (by omega), byte3 b hb h1 h2 _ hr, ← ih]
theorem ones_ofB : ∀ l : List Nat, (∀ b ∈ l, b < 256) → ones (ofB l) (8 * l.length) = (l.map (ones · 8)).sum
  | [], _ => rfl
  | b :: l, h => by
    have hb := h b (List.mem_cons_self ..)
    have ih := ones_ofB l (fun x hx => h x (List.mem_cons_of_mem _ hx))
    rw [List.length_cons, show 8 * (l.length + 1) = 8 + 8 * l.length from by omega, ones_add]
    simp only [List.map_cons, List.sum_cons, ofB]
    have e1 : (b + 256 * ofB l) / 2 ^ 8 = ofB l := by show (b + 256 * ofB l) / 256 = _; omega
    rw [e1, ih]
    congr 1
    refine ones_congr fun i hi => ?_
    have h := Nat.testBit_two_pow_mul_add (i := 8) (ofB l) (by simpa using hb) i
    rw [show b + 256 * ofB l = 2 ^ 8 * ofB l + b from by omega, h, if_pos hi]
/-- The steps of the sum, one by one. -/
def p1 (x : Nat) : Nat := (x / 2 &&& 6148914691236517205) + (x &&& 6148914691236517205)
def p2 (x : Nat) : Nat := (x / 4 &&& 3689348814741910323) + (x &&& 3689348814741910323)
def p3 (x : Nat) : Nat := x / 16 + x &&& 1085102592571150095
def lastF (y : Nat) : Nat :=
  let z := y + y / 256
  let u := z + z / 65536
  (u + u / 4294967296) % 128
theorem last_sum (d0 d1 d2 d3 d4 d5 d6 d7 y : Nat) (a0 : d0 ≤ 8) (a1 : d1 ≤ 8) (a2 : d2 ≤ 8) (a3 : d3 ≤ 8) (a4 : d4 ≤ 8) (a5 : d5 ≤ 8) (a6 : d6 ≤ 8) (a7 : d7 ≤ 8)
    (hy : d0 + 256 * (d1 + 256 * (d2 + 256 * (d3 + 256 * (d4 + 256 * (d5 + 256 * (d6 + 256 * (d7 + 256 * 0))))))) = y) : lastF y = d0 + (d1 + (d2 + (d3 + (d4 + (d5 + (d6 + (d7 + 0))))))) := by
  unfold lastF
  have e1 : y / 256 = d1 + 256 * (d2 + 256 * (d3 + 256 * (d4 + 256 * (d5 + 256 * (d6 + 256 * d7))))) := by omega
  obtain ⟨z, hz⟩ : ∃ z, y + y / 256 = z := ⟨_, rfl⟩
  simp only [hz]
  have e2 : z = (d0 + d1) + 256 * ((d1 + d2) + 256 * ((d2 + d3) + 256 * ((d3 + d4) + 256 * ((d4 + d5) + 256 * ((d5 + d6) + 256 * ((d6 + d7) + 256 * d7)))))) := by omega
  clear hy hz e1
  have e3 : z / 65536 = (d2 + d3) + 256 * ((d3 + d4) + 256 * ((d4 + d5) + 256 * ((d5 + d6) + 256 * ((d6 + d7) + 256 * d7)))) := by omega
  obtain ⟨u, hu⟩ : ∃ u, z + z / 65536 = u := ⟨_, rfl⟩
  rw [hu]
  have e4 : u = (d0 + d1 + d2 + d3) + 256 * ((d1 + d2 + d3 + d4) + 256 * ((d2 + d3 + d4 + d5) + 256 * ((d3 + d4 + d5 + d6) + 256 * ((d4 + d5 + d6 + d7) + 256 * ((d5 + d6 + d7) + 256 * ((d6 + d7) + 256 * d7)))))) := by omega
  clear hu e2 e3
  have e5 : u / 4294967296 = (d4 + d5 + d6 + d7) + 256 * ((d5 + d6 + d7) + 256 * ((d6 + d7) + 256 * d7)) := by omega
  rw [e5, e4]
  omega
theorem bytes_of (x : Nat) (hx : x < 18446744073709551616) : ∃ l : List Nat, l.length = 8 ∧ ofB l = x ∧ ∀ b ∈ l, b < 256 := by
  refine ⟨[x % 256, x / 256 % 256, x / 65536 % 256, x / 16777216 % 256, x / 4294967296 % 256, x / 1099511627776 % 256, x / 281474976710656 % 256, x / 72057594037927936], rfl, ?_, ?_⟩
  · simp only [ofB]; omega
  · intro b hb
    simp only [List.mem_cons, List.not_mem_nil, or_false] at hb
    rcases hb with rfl | rfl | rfl | rfl | rfl | rfl | rfl | rfl <;> omega
theorem ofB_le {M : Nat} : ∀ l : List Nat, (∀ b ∈ l, b ≤ M) → ofB l ≤ ofB (List.replicate l.length M)
  | [], _ => Nat.le_refl _
  | b :: l, h => by
    have h1 := h b (List.mem_cons_self ..)
    have h2 := ofB_le l (fun x hx => h x (List.mem_cons_of_mem _ hx))
    simp only [List.length_cons, List.replicate_succ, ofB]; omega
theorem last_bytes : ∀ l : List Nat, l.length = 8 → (∀ b ∈ l, b ≤ 8) → lastF (ofB l) = l.sum
  | [c0, c1, c2, c3, c4, c5, c6, c7], _, h =>
    last_sum c0 c1 c2 c3 c4 c5 c6 c7 _ (h _ (by simp)) (h _ (by simp)) (h _ (by simp)) (h _ (by simp)) (h _ (by simp)) (h _ (by simp)) (h _ (by simp)) (h _ (by simp)) rfl
theorem pop_parts (x : Nat) (hx : x < 18446744073709551616) : lastF (p3 (p2 (p1 x))) = ones x 64 ∧ p1 x < 18446744073709551616 ∧ p2 (p1 x) < 18446744073709551616 ∧ p2 (p1 x) / 16 + p2 (p1 x) < 18446744073709551616 ∧ p3 (p2 (p1 x)) ≤ 578721382704613384 := by
  obtain ⟨l, hl, rfl, hb⟩ := bytes_of x hx
  have hm1 : ∀ b ∈ l.map b1, b < 256 := fun b h => by
    obtain ⟨c, hc, rfl⟩ := List.mem_map.1 h; exact (byte_all c (hb c hc)).1
  have hm2 : ∀ b ∈ (l.map b1).map b2, b < 256 ∧ b % 16 ≤ 4 ∧ b / 16 ≤ 4 := fun b h => by
    obtain ⟨c, hc, rfl⟩ := List.mem_map.1 h
    obtain ⟨d, hd, rfl⟩ := List.mem_map.1 hc
    have := byte_all d (hb d hd)
    exact ⟨this.2.1, this.2.2.1, this.2.2.2.1⟩
  have r1 : p1 (ofB l) = ofB (l.map b1) := by have := sw1 l hb; rw [hl] at this; exact this
  have r2 : p2 (ofB (l.map b1)) = ofB ((l.map b1).map b2) := by have := sw2 (l.map b1) hm1; rw [List.length_map, hl] at this; exact this
  have r3 : p3 (ofB ((l.map b1).map b2)) = ofB (((l.map b1).map b2).map b3) := by have := sw3 _ hm2; rw [List.length_map, List.length_map, hl] at this; exact this
  have hmm : ((l.map b1).map b2).map b3 = l.map (ones · 8) := by
    rw [List.map_map, List.map_map]
    refine List.map_congr_left fun b h => ?_
    exact (byte_all b (hb b h)).2.2.2.2.1
  have hm3 : ∀ b ∈ l.map (ones · 8), b ≤ 8 := fun b h => by
    obtain ⟨c, hc, rfl⟩ := List.mem_map.1 h; exact (byte_all c (hb c hc)).2.2.2.2.2
  have ho := ones_ofB l hb
  rw [hl] at ho
  have k1 := ofB_le (M := 255) (l.map b1) (fun b h => by have := hm1 b h; omega)
  have k2 := ofB_le (M := 68) ((l.map b1).map b2) (fun b h => by have := hm2 b h; omega)
  have k3 := ofB_le (M := 8) (l.map (ones · 8)) hm3
  simp only [List.length_map, hl] at k1 k2 k3
  have c1 : ofB (List.replicate 8 255) = 18446744073709551615 := by decide
  have c2 : ofB (List.replicate 8 68) = 4919131752989213764 := by decide
  have c3 : ofB (List.replicate 8 8) = 578721382704613384 := by decide
  rw [c1] at k1
  rw [c2] at k2
  rw [c3] at k3
  rw [r1, r2, r3, hmm]
  refine ⟨?_, by omega, by omega, by omega, k3⟩
  rw [last_bytes _ (by rw [List.length_map, hl]) hm3]
  exact ho.symm
theorem ones_bd (x : Nat) : ones x 64 ≤ 64 := ones_le x 64
end Go.Proofs.YtliiooldlooagaaGreatDoor.M6

/-
  A map's runs of free things, as plain mathematics; no conditions beside those that each law states.
-/
namespace Go.Proofs.YtliiooldlooagaaGreatDoor.M6

/-- The last run is one longer. -/
def bump : List (Nat × Nat) → List (Nat × Nat)
  | [] => []
  | [p] => [(p.1, p.2 + 1)]
  | p :: q :: l => p :: bump (q :: l)
theorem bump_snoc : ∀ (l : List (Nat × Nat)) (a b : Nat), bump (l ++ [(a, b)]) = l ++ [(a, b + 1)]
  | [], _, _ => rfl
  | [_], _, _ => rfl
  | p :: q :: l, a, b => by
    show p :: bump ((q :: l) ++ [(a, b)]) = _
    rw [bump_snoc (q :: l) a b]; rfl
theorem bump_length : ∀ l : List (Nat × Nat), (bump l).length = l.length
  | [] => rfl
  | [_] => rfl
  | p :: q :: l => by show (bump (q :: l)).length + 1 = _; rw [bump_length (q :: l)]; rfl
/-- The runs among the first things. -/
def runsTo (us : List Bool) : Nat → List (Nat × Nat)
  | 0 => []
  | k + 1 => if us.getD k false then runsTo us k else if 0 < k ∧ us.getD (k - 1) false = false then bump (runsTo us k) else runsTo us k ++ [(k, 1)]
def runsF (us : List Bool) : List (Nat × Nat) := runsTo us us.length
theorem runsTo_used {us : List Bool} {k : Nat} (h : us.getD k false = true) : runsTo us (k + 1) = runsTo us k := by
  show (if _ then _ else _) = _
  rw [if_pos h]
theorem runsTo_new {us : List Bool} {k : Nat} (h : us.getD k false = false) (hp : k = 0 ∨ us.getD (k - 1) false = true) : runsTo us (k + 1) = runsTo us k ++ [(k, 1)] := by
  show (if _ then _ else if _ then _ else _) = _
  rw [if_neg (by rw [h]; simp), if_neg]
  rintro ⟨h1, h2⟩
  rcases hp with rfl | h3
  · omega
  · rw [h2] at h3; cases h3
theorem runsTo_more {us : List Bool} {k : Nat} (h : us.getD k false = false) (h0 : 0 < k) (hp : us.getD (k - 1) false = false) : runsTo us (k + 1) = bump (runsTo us k) := by
  show (if _ then _ else if _ then _ else _) = _
  rw [if_neg (by rw [h]; simp), if_pos ⟨h0, hp⟩]
theorem runsTo_last {us : List Bool} : ∀ {k : Nat}, 0 < k → us.getD (k - 1) false = false → ∃ l a b, runsTo us k = l ++ [(a, b)] ∧ a + b = k ∧ 1 ≤ b
  | 0, h, _ => by omega
  | 1, _, hp => ⟨[], 0, 1, runsTo_new hp (.inl rfl), rfl, by omega⟩
  | k + 2, _, hp => by
    have hp' : us.getD (k + 1) false = false := hp
    by_cases h2 : us.getD k false = false
    · obtain ⟨l, a, b, h3, h4, h5⟩ := runsTo_last (k := k + 1) (by omega) h2
      exact ⟨l, a, b + 1, by rw [runsTo_more hp' (by omega) h2, h3, bump_snoc], by omega, by omega⟩
    · exact ⟨runsTo us (k + 1), k + 1, 1, runsTo_new hp' (.inr (by simpa using h2)), rfl, by omega⟩
theorem runsTo_run {us : List Bool} {f : Nat} (hp : f = 0 ∨ us.getD (f - 1) false = true) : ∀ d, (∀ i, f ≤ i → i ≤ f + d → us.getD i false = false) → runsTo us (f + d + 1) = runsTo us f ++ [(f, d + 1)]
  | 0, h => runsTo_new (h f (by omega) (by omega)) hp
  | d + 1, h => by
    have ih := runsTo_run hp d (fun i h1 h2 => h i h1 (by omega))
    show runsTo us (f + d + 1 + 1) = _
    rw [runsTo_more (h _ (by omega) (by omega)) (by omega) (h _ (by omega) (by omega)), ih, bump_snoc]
theorem runsTo_skip {us : List Bool} {a : Nat} : ∀ d, (∀ i, a ≤ i → i < a + d → us.getD i false = true) → runsTo us (a + d) = runsTo us a
  | 0, _ => rfl
  | d + 1, h => by
    show runsTo us (a + d + 1) = _
    rw [runsTo_used (h _ (by omega) (by omega)), runsTo_skip d (fun i h1 h2 => h i h1 (by omega))]
/-- What is told of each run. -/
theorem runsTo_bd {us : List Bool} {k : Nat} : ∀ {p : Nat × Nat}, p ∈ runsTo us k → 1 ≤ p.2 ∧ p.1 + p.2 ≤ k ∧ ∀ i, p.1 ≤ i → i < p.1 + p.2 → us.getD i false = false := by
  induction k with
  | zero => intro p h; cases h
  | succ k ih =>
    intro p h
    by_cases hu : us.getD k false = true
    · rw [runsTo_used hu] at h
      have := ih h
      exact ⟨this.1, by omega, this.2.2⟩
    · have hf : us.getD k false = false := by simpa using hu
      by_cases hp : 0 < k ∧ us.getD (k - 1) false = false
      · obtain ⟨l, a, b, h3, h4, h5⟩ := runsTo_last hp.1 hp.2
        rw [runsTo_more hf hp.1 hp.2, h3, bump_snoc] at h
        rcases List.mem_append.1 h with h6 | h6
        · have := ih (p := p) (by rw [h3]; exact List.mem_append_left _ h6)
          exact ⟨this.1, by omega, this.2.2⟩
        · rw [List.mem_singleton] at h6
          subst h6
          have := ih (p := (a, b)) (by rw [h3]; simp)
          refine ⟨by show 1 ≤ b + 1; omega, by show a + (b + 1) ≤ k + 1; omega, fun i h1 h2 => ?_⟩
          have h1' : a ≤ i := h1
          have h2' : i < a + (b + 1) := h2
          rcases Nat.lt_or_ge i k with h7 | h7
          · exact this.2.2 i h1' (by show i < a + b; omega)
          · rw [show i = k from by omega]; exact hf
      · have hp' : k = 0 ∨ us.getD (k - 1) false = true := by
          rcases Nat.eq_zero_or_pos k with h8 | h8
          · exact .inl h8
          · right
            cases h9 : us.getD (k - 1) false
            · exact absurd ⟨h8, h9⟩ hp
            · rfl
        rw [runsTo_new hf hp'] at h
        rcases List.mem_append.1 h with h6 | h6
        · have := ih h6
          exact ⟨this.1, by omega, this.2.2⟩
        · rw [List.mem_singleton] at h6
          subst h6
          refine ⟨Nat.le_refl _, by show k + 1 ≤ k + 1; omega, fun i h1 h2 => ?_⟩
          have h1' : k ≤ i := h1
          have h2' : i < k + 1 := h2
          rw [show i = k from by omega]; exact hf
theorem runsF_bd {us : List Bool} {p : Nat × Nat} (h : p ∈ runsF us) : 1 ≤ p.2 ∧ p.1 + p.2 ≤ us.length ∧ ∀ i, p.1 ≤ i → i < p.1 + p.2 → us.getD i false = false := runsTo_bd h
/-- Runs rise, and none touches the one behind it. -/
def Apart : List (Nat × Nat) → Prop
  | [] => True
  | [_] => True
  | p :: q :: l => p.1 + p.2 < q.1 ∧ Apart (q :: l)
theorem apart_snoc : ∀ {l : List (Nat × Nat)} {q : Nat × Nat}, Apart l → (∀ p ∈ l.getLast?, p.1 + p.2 < q.1) → Apart (l ++ [q])
  | [], _, _, _ => trivial
  | [p], q, _, h => ⟨h p (by simp), trivial⟩
  | p :: r :: l, q, h1, h2 => ⟨h1.1, apart_snoc (l := r :: l) h1.2 (fun x hx => h2 x (by simpa using hx))⟩
theorem apart_change : ∀ {l : List (Nat × Nat)} {a b c : Nat}, Apart (l ++ [(a, b)]) → Apart (l ++ [(a, c)])
  | [], _, _, _, _ => trivial
  | [_], _, _, _, h => ⟨h.1, trivial⟩
  | _ :: r :: l, _, _, _, h => ⟨h.1, apart_change (l := r :: l) h.2⟩
theorem runsTo_apart {us : List Bool} : ∀ k, Apart (runsTo us k)
  | 0 => trivial
  | k + 1 => by
    have ih := runsTo_apart (us := us) k
    by_cases hu : us.getD k false = true
    · rw [runsTo_used hu]; exact ih
    · have hf : us.getD k false = false := by simpa using hu
      by_cases hp : 0 < k ∧ us.getD (k - 1) false = false
      · obtain ⟨l, a, b, h3, _, _⟩ := runsTo_last hp.1 hp.2
        rw [runsTo_more hf hp.1 hp.2, h3, bump_snoc]
        rw [h3] at ih
        exact apart_change ih
      · have hp' : k = 0 ∨ us.getD (k - 1) false = true := by
          rcases Nat.eq_zero_or_pos k with h8 | h8
          · exact .inl h8
          · right
            cases h9 : us.getD (k - 1) false
            · exact absurd ⟨h8, h9⟩ hp
            · rfl
        rw [runsTo_new hf hp']
        refine apart_snoc ih fun p hpm => ?_
        show p.1 + p.2 < k
        have hm := List.mem_of_getLast? hpm
        have hb := runsTo_bd hm
        rcases hp' with h8 | h8
        · omega
        · rcases Nat.lt_or_ge (p.1 + p.2) k with h9 | h9
          · exact h9
          · have := hb.2.2 (k - 1) (by omega) (by omega)
            rw [this] at h8; cases h8
/-- How many things runs have. -/
def manyIn (l : List (Nat × Nat)) : Nat := (l.map Prod.snd).sum
theorem manyIn_snoc (l : List (Nat × Nat)) (a b : Nat) : manyIn (l ++ [(a, b)]) = manyIn l + b := by simp [manyIn]
theorem runsTo_many {us : List Bool} : ∀ k, k ≤ us.length → manyIn (runsTo us k) = (us.take k).count false
  | 0, _ => by simp [runsTo, manyIn]
  | k + 1, hk => by
    have ih := runsTo_many (us := us) k (by omega)
    rw [List.take_succ_eq_append_getElem (by omega), List.count_append, ← ih]
    have e : us.getD k false = us[k] := by simp [List.getD_eq_getElem?_getD, show k < us.length from by omega]
    by_cases hu : us.getD k false = true
    · rw [runsTo_used hu, ← e, hu]; rfl
    · have hf : us.getD k false = false := by simpa using hu
      rw [← e, hf]
      by_cases hp : 0 < k ∧ us.getD (k - 1) false = false
      · obtain ⟨l, a, b, h3, _, _⟩ := runsTo_last hp.1 hp.2
        rw [runsTo_more hf hp.1 hp.2, h3, bump_snoc, manyIn_snoc, manyIn_snoc]; rfl
      · have hp' : k = 0 ∨ us.getD (k - 1) false = true := by
          rcases Nat.eq_zero_or_pos k with h8 | h8
          · exact .inl h8
          · right
            cases h9 : us.getD (k - 1) false
            · exact absurd ⟨h8, h9⟩ hp
            · rfl
        rw [runsTo_new hf hp', manyIn_snoc]; rfl
theorem runsF_many (us : List Bool) : manyIn (runsF us) = leftF us := by
  unfold runsF; rw [runsTo_many _ (Nat.le_refl _), List.take_length]; rfl
theorem runsTo_len {us : List Bool} : ∀ k, (runsTo us k).length ≤ k
  | 0 => Nat.le_refl _
  | k + 1 => by
    have ih := runsTo_len (us := us) k
    show (if _ then _ else if _ then _ else _ : List _).length ≤ _
    split
    · omega
    · split
      · rw [bump_length]; omega
      · simp; omega
theorem runsF_len (us : List Bool) : (runsF us).length ≤ us.length := runsTo_len _
theorem runsF_full {us : List Bool} (h : ∀ i, i < us.length → us.getD i false = true) : runsF us = [] := by
  unfold runsF
  have := runsTo_skip (us := us) (a := 0) us.length (fun i _ h2 => h i (by omega))
  rw [Nat.zero_add] at this
  exact this
end Go.Proofs.YtliiooldlooagaaGreatDoor.M6
