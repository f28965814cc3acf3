/-
  Which of some things are used, as plain mathematics: the bits of a number, its words and bytes, the next one, how many there are; no conditions beside those that each law states.
-/
import Derived.Lib.TrailingZeros
namespace Go.Proofs.YtaihcbkdbdhihaaDoor

/-- The number whose bits these are, the lowest one first. -/
def natOf : List Bool → Nat
  | [] => 0
  | b :: l => b.toNat + 2 * natOf l
theorem natOf_cons (b : Bool) (l : List Bool) : natOf (b :: l) = b.toNat + 2 * natOf l := rfl
theorem natOf_bit : ∀ (l : List Bool) (i : Nat), (natOf l).testBit i = l.getD i false
  | [], i => by simp [natOf]
  | b :: l, 0 => by
    rw [Nat.testBit_zero]
    unfold natOf
    cases b <;> simp <;> omega
  | b :: l, i + 1 => by
    rw [Nat.testBit_succ]
    have h : natOf (b :: l) / 2 = natOf l := by rw [natOf_cons]; have hb : b.toNat ≤ 1 := by { cases b <;> simp }; omega
    rw [h, natOf_bit l i]
    simp
theorem natOf_lt : ∀ l : List Bool, natOf l < 2 ^ l.length
  | [] => by simp [natOf]
  | b :: l => by
    have := natOf_lt l
    rw [natOf_cons, List.length_cons, Nat.pow_succ]
    have hb : b.toNat ≤ 1 := by cases b <;> simp
    omega
theorem natOf_eq {l : List Bool} {N : Nat} (h : ∀ i, N.testBit i = l.getD i false) : N = natOf l :=
  Nat.eq_of_testBit_eq fun i => by rw [h, natOf_bit]
theorem getD_set (l : List Bool) (i j : Nat) (b : Bool) (hi : i < l.length) : (l.set i b).getD j false = if j = i then b else l.getD j false := by
  simp only [List.getD_eq_getElem?_getD, List.getElem?_set]
  by_cases h : i = j
  · subst h; simp [hi]
  · rw [if_neg h, if_neg (fun e => h e.symm)]
theorem natOf_turn (l : List Bool) (i : Nat) (hi : i < l.length) : natOf l ^^^ 2 ^ i = natOf (l.set i (!l.getD i false)) := by
  refine natOf_eq fun j => ?_
  rw [Nat.testBit_xor, natOf_bit, Nat.testBit_two_pow, getD_set _ _ _ _ hi]
  by_cases h : j = i
  · subst h; simp
  · rw [if_neg h, decide_eq_false (fun e => h e.symm), Bool.xor_false]
theorem natOf_replicate (n : Nat) : natOf (List.replicate n false) = 0 := by
  symm
  refine natOf_eq fun i => ?_
  simp [List.getD_eq_getElem?_getD, List.getElem?_replicate]
  split <;> rfl

/-- The word k of a number. -/
def wd (N k : Nat) : Nat := N / 2 ^ (64 * k) % 2 ^ 64
theorem wd_bit (N k j : Nat) : (wd N k).testBit j = (decide (j < 64) && N.testBit (64 * k + j)) := by
  unfold wd
  rw [Nat.testBit_mod_two_pow, Nat.testBit_div_two_pow, Nat.add_comm]
theorem wd_lt (N k : Nat) : wd N k < 18446744073709551616 := Nat.mod_lt _ (by decide)
theorem wd_zero (k : Nat) : wd 0 k = 0 := by unfold wd; simp
theorem bit_of_div (x s : Nat) : (x / 2 ^ s) &&& 1 = (x.testBit s).toNat := by
  rw [Nat.and_one_is_mod, Nat.toNat_testBit]
theorem wd_set (N i : Nat) : (wd N (i / 64) / 2 ^ (i % 64)) &&& 1 = (N.testBit i).toNat := by
  rw [bit_of_div, wd_bit]
  have h1 : i % 64 < 64 := Nat.mod_lt _ (by decide)
  have h2 : 64 * (i / 64) + i % 64 = i := Nat.div_add_mod i 64
  rw [h2]; simp [h1]
theorem wd_turn (N i k : Nat) : wd (N ^^^ 2 ^ i) k = if k = i / 64 then wd N k ^^^ 2 ^ (i % 64) else wd N k := by
  have h1 : i % 64 < 64 := Nat.mod_lt _ (by decide)
  have h2 : 64 * (i / 64) + i % 64 = i := Nat.div_add_mod i 64
  refine Nat.eq_of_testBit_eq fun j => ?_
  split
  · rename_i h
    subst h
    rw [wd_bit, Nat.testBit_xor, Nat.testBit_xor, wd_bit, Nat.testBit_two_pow, Nat.testBit_two_pow]
    by_cases hj : j < 64
    · simp only [hj, decide_true, Bool.true_and]
      congr 1
      simp; omega
    · simp only [hj, decide_false, Bool.false_and]
      have : ¬ (i % 64 = j) := by omega
      simp [this]
  · rename_i h
    rw [wd_bit, wd_bit, Nat.testBit_xor, Nat.testBit_two_pow]
    by_cases hj : j < 64
    · have : ¬ (i = 64 * k + j) := by omega
      simp [this]
    · simp [hj]
theorem xor_lt64 {a b : Nat} (ha : a < 18446744073709551616) (hb : b < 18446744073709551616) : a ^^^ b < 18446744073709551616 := Nat.xor_lt_two_pow (n := 64) ha hb
theorem pow_lt64 (i : Nat) : 2 ^ (i % 64) < 18446744073709551616 := by
  have h1 : i % 64 < 64 := Nat.mod_lt _ (by decide)
  exact Nat.pow_lt_pow_right (by decide) h1
/-- Numbers whose words are the same are the same. -/
theorem wd_eq {M N : Nat} (hM : ∀ i, 1024 ≤ i → M.testBit i = false) (hN : ∀ i, 1024 ≤ i → N.testBit i = false) (h : ∀ k, k < 16 → wd M k = wd N k) : M = N := by
  refine Nat.eq_of_testBit_eq fun i => ?_
  rcases Nat.lt_or_ge i 1024 with hi | hi
  · have h1 := h (i / 64) (by omega)
    have h2 := congrArg (fun x => x.testBit (i % 64)) h1
    simp only [wd_bit] at h2
    have h3 : i % 64 < 64 := Nat.mod_lt _ (by decide)
    rw [Nat.div_add_mod] at h2
    simpa [h3] using h2
  · rw [hM i hi, hN i hi]
theorem natOf_high {l : List Bool} (h : l.length ≤ 1024) : ∀ i, 1024 ≤ i → (natOf l).testBit i = false := fun i hi => by
  rw [natOf_bit, List.getD_eq_getElem?_getD, List.getElem?_eq_none (by omega)]; rfl

/-- The next thing that is used, or free, from here on; how many there are, if there is none. -/
def nextF (us : List Bool) (at_ : Nat) (used : Bool) : Nat := at_ + (us.drop at_).findIdx (fun b => b == used)
theorem nextF_is {us : List Bool} {a j : Nat} {used : Bool} (h1 : a ≤ j) (h2 : j ≤ us.length) (h3 : ∀ i, a ≤ i → i < j → us.getD i false = !used) (h4 : j < us.length → us.getD j false = used) : nextF us a used = j := by
  unfold nextF
  have hb : ∀ i (hi : i < us.length), us[i] = us.getD i false := fun i hi => by simp [List.getD_eq_getElem?_getD, hi]
  rcases Nat.lt_or_ge j us.length with h | h
  · have hl : j - a < (us.drop a).length := by simp; omega
    have := (List.findIdx_eq (p := fun b => b == used) hl).2 ⟨by
      simp only [List.getElem_drop, beq_iff_eq]
      rw [hb, show a + (j - a) = j from by omega]; exact h4 h, fun i hi => by
      simp only [List.getElem_drop, beq_eq_false_iff_ne]
      rw [hb, h3 (a + i) (by omega) (by omega)]
      cases used <;> simp⟩
    rw [this]; omega
  · obtain rfl : j = us.length := by omega
    have : (us.drop a).findIdx (fun b => b == used) = (us.drop a).length := by
      rw [List.findIdx_eq_length]
      intro x hx
      obtain ⟨i, hi, rfl⟩ := List.mem_iff_getElem.1 hx
      simp only [List.length_drop] at hi
      simp only [List.getElem_drop, beq_eq_false_iff_ne]
      rw [hb, h3 (a + i) (by omega) (by omega)]
      cases used <;> simp
    rw [this]; simp; omega
theorem nextF_spec (us : List Bool) (a : Nat) (used : Bool) (ha : a ≤ us.length) : a ≤ nextF us a used ∧ nextF us a used ≤ us.length ∧ (∀ i, a ≤ i → i < nextF us a used → us.getD i false = !used) ∧ (nextF us a used < us.length → us.getD (nextF us a used) false = used) := by
  have hb : ∀ i (hi : i < us.length), us[i] = us.getD i false := fun i hi => by simp [List.getD_eq_getElem?_getD, hi]
  have hl := List.findIdx_le_length (p := fun b => b == used) (xs := us.drop a)
  rw [List.length_drop] at hl
  refine ⟨by unfold nextF; omega, by unfold nextF; omega, fun i h1 h2 => ?_, fun h => ?_⟩
  · unfold nextF at h2
    have h3 : i - a < (us.drop a).findIdx (fun b => b == used) := by omega
    have := List.not_of_lt_findIdx h3
    simp only [List.getElem_drop, beq_eq_false_iff_ne] at this
    rw [hb, show a + (i - a) = i from by omega] at this
    cases used <;> simpa using this
  · unfold nextF at h ⊢
    have h3 : (us.drop a).findIdx (fun b => b == used) < (us.drop a).length := by rw [List.length_drop]; omega
    have := List.findIdx_getElem (w := h3)
    simp only [List.getElem_drop, beq_iff_eq] at this
    rwa [hb] at this
theorem ctz_bit (x : Nat) (h0 : x ≠ 0) (h : x < 2 ^ 64) : x.testBit (Lib.ctz 64 x) = true ∧ (∀ i, i < Lib.ctz 64 x → x.testBit i = false) ∧ Lib.ctz 64 x < 64 := by
  obtain ⟨m, hm, hk⟩ := Lib.ctzFrom_spec 64 x (by omega) h
  have e : Lib.ctz 64 x = Lib.ctzFrom 64 x := by simp [Lib.ctz, h0]
  rw [e]
  generalize Lib.ctzFrom 64 x = c at *
  refine ⟨?_, fun i hi => ?_, hk⟩
  · rw [hm, Nat.mul_comm, Nat.testBit_mul_two_pow]; simp [Nat.testBit_zero]
  · rw [hm, Nat.mul_comm, Nat.testBit_mul_two_pow]; simp; omega
/-- The bits of a word, or its contrary, from a place on. -/
def restF (N a : Nat) (used : Bool) : Nat := (if used then wd N (a / 64) else 18446744073709551615 - wd N (a / 64)) / 2 ^ (a % 64)
theorem restF_lt (N a : Nat) (used : Bool) : restF N a used < 18446744073709551616 := by
  unfold restF
  refine Nat.lt_of_le_of_lt (Nat.div_le_self _ _) ?_
  have := wd_lt N (a / 64)
  split <;> omega
theorem restF_bit (N a j : Nat) (used : Bool) : (restF N a used).testBit j = (decide (a % 64 + j < 64) && (N.testBit (a + j) == used)) := by
  unfold restF
  have h2 : 64 * (a / 64) + (a % 64 + j) = a + j := by have := Nat.div_add_mod a 64; omega
  rw [Nat.testBit_div_two_pow, Nat.add_comm j]
  cases used
  · have h3 : 18446744073709551615 - wd N (a / 64) = 2 ^ 64 - (wd N (a / 64) + 1) := by omega
    rw [if_neg (by simp), h3, Nat.testBit_two_pow_sub_succ (wd_lt _ _), wd_bit, h2]
    by_cases h : a % 64 + j < 64
    · simp [h]
    · simp [h]
  · rw [if_pos rfl, wd_bit, h2]
    cases N.testBit (a + j) <;> simp
theorem next_found (us : List Bool) (a0 a : Nat) (used : Bool) (h0 : a0 ≤ a) (ha : a < us.length) (hno : ∀ i, a0 ≤ i → i < a → us.getD i false = !used) (hr : restF (natOf us) a used ≠ 0) :
    a + Lib.ctz 64 (restF (natOf us) a used) = nextF us a0 used ∧ Lib.ctz 64 (restF (natOf us) a used) < 64 := by
  obtain ⟨hc1, hc2, hc3⟩ := ctz_bit _ hr (restF_lt _ _ _)
  generalize Lib.ctz 64 (restF (natOf us) a used) = c at *
  rw [restF_bit, Bool.and_eq_true, decide_eq_true_eq, beq_iff_eq, natOf_bit] at hc1
  have hlow : ∀ i, i < c → us.getD (a + i) false = !used := fun i hi => by
    have h := hc2 i hi
    rw [restF_bit, natOf_bit] at h
    have h5 : a % 64 + i < 64 := by omega
    simp only [h5, decide_true, Bool.true_and, beq_eq_false_iff_ne] at h
    cases used <;> simpa using h
  have hle : a + c ≤ us.length := by
    cases hu : used
    · rcases Nat.lt_or_ge us.length (a + c) with h | h
      · have := hlow (us.length - a) (by omega)
        rw [show a + (us.length - a) = us.length from by omega, hu] at this
        simp [List.getD_eq_getElem?_getD] at this
      · exact h
    · rcases Nat.lt_or_ge (a + c) us.length with h | h
      · omega
      · have := hc1.2
        rw [hu] at this
        simp [List.getD_eq_getElem?_getD, h] at this
  refine ⟨(nextF_is (by omega) hle (fun i h1 h2 => ?_) (fun _ => hc1.2)).symm, hc3⟩
  rcases Nat.lt_or_ge i a with h | h
  · exact hno i h1 h
  · have := hlow (i - a) (by omega)
    rwa [show a + (i - a) = i from by omega] at this
theorem next_on (us : List Bool) (a : Nat) (used : Bool) (hr : restF (natOf us) a used = 0) : ∀ i, a ≤ i → i < a + (64 - a % 64) → us.getD i false = !used := fun i h1 h2 => by
  have h := restF_bit (natOf us) a (i - a) used
  rw [hr, Nat.zero_testBit, natOf_bit, show a + (i - a) = i from by omega] at h
  have h5 : a % 64 + (i - a) < 64 := by omega
  simp only [h5, decide_true, Bool.true_and] at h
  have h := h.symm
  rw [beq_eq_false_iff_ne] at h
  cases used <;> simpa using h
theorem next_none (us : List Bool) (a0 a : Nat) (used : Bool) (h0 : a0 ≤ us.length) (ha : us.length ≤ a) (hno : ∀ i, a0 ≤ i → i < a → us.getD i false = !used) : nextF us a0 used = us.length :=
  nextF_is h0 (Nat.le_refl _) (fun i h1 h2 => hno i h1 (by omega)) (fun h => by omega)
end Go.Proofs.YtaihcbkdbdhihaaDoor
