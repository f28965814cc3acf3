/-
  How many bits of a number are set, by the sums of its parts side by side, as plain mathematics; no conditions beside those that each law states.
-/
import Derived.Test.YtaihcbkdbdhihaaDoorMm
namespace Go.Proofs.YtaihcbkdbdhihaaDoor

/-- How many of the first m bits are set. -/
def ones (x : Nat) : Nat → Nat
  | 0 => 0
  | m + 1 => ones x m + (x.testBit m).toNat
theorem ones_congr {x y : Nat} : ∀ {m : Nat}, (∀ i, i < m → x.testBit i = y.testBit i) → ones x m = ones y m
  | 0, _ => rfl
  | m + 1, h => by unfold ones; rw [ones_congr (fun i hi => h i (by omega)), h m (by omega)]
theorem ones_add (x a : Nat) : ∀ b, ones x (a + b) = ones x a + ones (x / 2 ^ a) b
  | 0 => rfl
  | b + 1 => by
    show ones x (a + b) + (x.testBit (a + b)).toNat = _
    rw [ones_add x a b]
    show _ = ones x a + (ones (x / 2 ^ a) b + ((x / 2 ^ a).testBit b).toNat)
    rw [Nat.testBit_div_two_pow, Nat.add_comm b a]; omega
theorem ones_le (x : Nat) : ∀ m, ones x m ≤ m
  | 0 => Nat.le_refl _
  | m + 1 => by unfold ones; have := ones_le x m; have hb : (x.testBit m).toNat ≤ 1 := by { cases x.testBit m <;> simp }; omega
theorem ones_natOf : ∀ l : List Bool, ones (natOf l) l.length = l.count true := by
  have h : ∀ (l : List Bool) (m : Nat), m ≤ l.length → ones (natOf l) m = (l.take m).count true := by
    intro l m
    induction m with
    | zero => intro _; simp [ones]
    | succ m ih =>
      intro hm
      unfold ones
      rw [ih (by omega), natOf_bit, List.take_succ_eq_append_getElem (by omega), List.count_append]
      have e : l.getD m false = l[m] := by simp [List.getD_eq_getElem?_getD, show m < l.length from by omega]
      rw [e]
      cases l[m] <;> simp
  intro l
  rw [h l _ (Nat.le_refl _), List.take_length]
theorem ones_high {x : Nat} {n : Nat} (h : ∀ i, n ≤ i → x.testBit i = false) : ∀ d, ones x (n + d) = ones x n
  | 0 => rfl
  | d + 1 => by show ones x (n + d) + (x.testBit (n + d)).toNat = _; rw [ones_high h d, h (n + d) (by omega)]; rfl
theorem ones_wd (N k : Nat) : ones N (64 * (k + 1)) = ones N (64 * k) + ones (wd N k) 64 := by
  rw [show 64 * (k + 1) = 64 * k + 64 from by omega, ones_add]
  congr 1
  refine ones_congr fun i hi => ?_
  rw [wd_bit, Nat.testBit_div_two_pow]; simp [hi, Nat.add_comm]
/-- How many things are free. -/
def leftF (us : List Bool) : Nat := us.count false
theorem count_both (us : List Bool) : us.count true + us.count false = us.length := by
  induction us with
  | nil => rfl
  | cons b l ih => cases b <;> simp <;> omega
theorem leftF_le (us : List Bool) : leftF us ≤ us.length := by have := count_both us; unfold leftF; omega
/-- What is left behind so many words. -/
def leftTo (us : List Bool) (k : Nat) : Int := us.length - (ones (natOf us) (64 * k) : Nat)
theorem leftTo_zero (us : List Bool) : leftTo us 0 = us.length := by unfold leftTo ones; simp
theorem leftTo_succ (us : List Bool) (k : Nat) : leftTo us (k + 1) = leftTo us k - (ones (wd (natOf us) k) 64 : Nat) := by unfold leftTo; rw [ones_wd]; omega
theorem leftTo_all (us : List Bool) (h : us.length ≤ 1024) : leftTo us 16 = (leftF us : Nat) := by
  unfold leftTo
  obtain ⟨d, hd⟩ : ∃ d, 64 * 16 = us.length + d := ⟨1024 - us.length, by omega⟩
  rw [hd, ones_high (n := us.length) (fun i hi => by rw [natOf_bit, List.getD_eq_getElem?_getD, List.getElem?_eq_none hi]; rfl), ones_natOf]
  have := count_both us
  unfold leftF; omega
theorem leftTo_bd (us : List Bool) (k : Nat) (hk : k ≤ 16) (h : us.length ≤ 1024) : -1024 ≤ leftTo us k ∧ leftTo us k ≤ 1024 := by
  unfold leftTo
  have := ones_le (natOf us) (64 * k)
  omega

/-- Bytes side by side. -/
def ofB : List Nat → Nat
  | [] => 0
  | b :: l => b + 256 * ofB l
theorem and_ofB {a c : Nat} (ha : a < 256) (hc : c < 256) (b d : Nat) : (a + 256 * b) &&& (c + 256 * d) = (a &&& c) + 256 * (b &&& d) := by
  have hac : a &&& c < 256 := Nat.lt_of_le_of_lt Nat.and_le_left ha
  refine Nat.eq_of_testBit_eq fun i => ?_
  have e : ∀ {x y : Nat}, x < 256 → (x + 256 * y).testBit i = if i < 8 then x.testBit i else y.testBit (i - 8) := by
    intro x y hx
    have h := Nat.testBit_two_pow_mul_add (i := 8) y (by simpa using hx) i
    rw [show x + 256 * y = 2 ^ 8 * y + x from by omega]
    exact h
  rw [Nat.testBit_and, e ha, e hc, e hac]
  split <;> rw [Nat.testBit_and]
def b1 (b : Nat) : Nat := (b / 2 &&& 85) + (b &&& 85)
def b2 (b : Nat) : Nat := (b / 4 &&& 51) + (b &&& 51)
def b3 (b : Nat) : Nat := (b / 16 + b) &&& 15
theorem byte1 : ∀ b, b < 256 → ∀ r, r < 2 → ((b / 2 + 128 * r) &&& 85) = (b / 2 &&& 85) := by decide +kernel
theorem byte2 : ∀ b, b < 256 → ∀ r, r < 4 → ((b / 4 + 64 * r) &&& 51) = (b / 4 &&& 51) := by decide +kernel
theorem byte3 : ∀ b, b < 256 → b % 16 ≤ 4 → b / 16 ≤ 4 → ∀ r, r < 5 → ((b / 16 + 16 * r + b) &&& 15) = b3 b := by decide +kernel
theorem byte_all : ∀ b, b < 256 → b1 b < 256 ∧ b2 (b1 b) < 256 ∧ b2 (b1 b) % 16 ≤ 4 ∧ b2 (b1 b) / 16 ≤ 4 ∧ b3 (b2 (b1 b)) = ones b 8 ∧ ones b 8 ≤ 8 := by decide +kernel
theorem sw1 : ∀ l : List Nat, (∀ b ∈ l, b < 256) → (ofB l / 2 &&& ofB (List.replicate l.length 85)) + (ofB l &&& ofB (List.replicate l.length 85)) = ofB (l.map b1)
  | [], _ => by simp [ofB]
  | b :: l, h => by
    have hb := h b (List.mem_cons_self ..)
    have ih := sw1 l (fun x hx => h x (List.mem_cons_of_mem _ hx))
    simp only [List.length_cons, List.replicate_succ, List.map_cons, ofB]
    have e : (b + 256 * ofB l) / 2 = (b / 2 + 128 * (ofB l % 2)) + 256 * (ofB l / 2) := by omega
    rw [e, and_ofB (by omega) (by omega), and_ofB hb (by omega), byte1 b hb _ (by omega), ← ih]
    unfold b1; omega
theorem sw2 : ∀ l : List Nat, (∀ b ∈ l, b < 256) → (ofB l / 4 &&& ofB (List.replicate l.length 51)) + (ofB l &&& ofB (List.replicate l.length 51)) = ofB (l.map b2)
  | [], _ => by simp [ofB]
  | b :: l, h => by
    have hb := h b (List.mem_cons_self ..)
    have ih := sw2 l (fun x hx => h x (List.mem_cons_of_mem _ hx))
    simp only [List.length_cons, List.replicate_succ, List.map_cons, ofB]
    have e : (b + 256 * ofB l) / 4 = (b / 4 + 64 * (ofB l % 4)) + 256 * (ofB l / 4) := by omega
    rw [e, and_ofB (by omega) (by omega), and_ofB hb (by omega), byte2 b hb _ (by omega), ← ih]
    unfold b2; omega
theorem sw3 : ∀ l : List Nat, (∀ b ∈ l, b < 256 ∧ b % 16 ≤ 4 ∧ b / 16 ≤ 4) → (ofB l / 16 + ofB l &&& ofB (List.replicate l.length 15)) = ofB (l.map b3)
  | [], _ => by simp [ofB]
  | b :: l, h => by
    obtain ⟨hb, h1, h2⟩ := h b (List.mem_cons_self ..)
    have ih := sw3 l (fun x hx => h x (List.mem_cons_of_mem _ hx))
    have hr : ofB l % 16 < 5 := by
      cases l with
      | nil => simp [ofB]
      | cons c l => have := (h c (List.mem_cons_of_mem _ (List.mem_cons_self ..))).2.1; unfold ofB; omega
    simp only [List.length_cons, List.replicate_succ, List.map_cons, ofB]
    have e : (b + 256 * ofB l) / 16 + (b + 256 * ofB l) = (b / 16 + 16 * (ofB l % 16) + b) + 256 * (ofB l / 16 + ofB l) := by omega
    rw [e, and_ofB (by omega) (by omega), byte3 b hb h1 h2 _ hr, ← ih]
theorem ones_ofB : ∀ l : List Nat, (∀ b ∈ l, b < 256) → ones (ofB l) (8 * l.length) = (l.map (ones · 8)).sum
  | [], _ => rfl
  | b :: l, h => by
    have hb := h b (List.mem_cons_self ..)
    have ih := ones_ofB l (fun x hx => h x (List.mem_cons_of_mem _ hx))
    rw [List.length_cons, show 8 * (l.length + 1) = 8 + 8 * l.length from by omega, ones_add]
    simp only [List.map_cons, List.sum_cons, ofB]
    have e1 : (b + 256 * ofB l) / 2 ^ 8 = ofB l := by show (b + 256 * ofB l) / 256 = _; omega
    rw [e1, ih]
    congr 1
    refine ones_congr fun i hi => ?_
    have h := Nat.testBit_two_pow_mul_add (i := 8) (ofB l) (by simpa using hb) i
    rw [show b + 256 * ofB l = 2 ^ 8 * ofB l + b from by omega, h, if_pos hi]
/-- The steps of the sum, one by one. -/
def p1 (x : Nat) : Nat := (x / 2 &&& 6148914691236517205) + (x &&& 6148914691236517205)
def p2 (x : Nat) : Nat := (x / 4 &&& 3689348814741910323) + (x &&& 3689348814741910323)
def p3 (x : Nat) : Nat := x / 16 + x &&& 1085102592571150095
def lastF (y : Nat) : Nat :=
  let z := y + y / 256
  let u := z + z / 65536
  (u + u / 4294967296) % 128
theorem last_sum (d0 d1 d2 d3 d4 d5 d6 d7 y : Nat) (a0 : d0 ≤ 8) (a1 : d1 ≤ 8) (a2 : d2 ≤ 8) (a3 : d3 ≤ 8) (a4 : d4 ≤ 8) (a5 : d5 ≤ 8) (a6 : d6 ≤ 8) (a7 : d7 ≤ 8)
    (hy : d0 + 256 * (d1 + 256 * (d2 + 256 * (d3 + 256 * (d4 + 256 * (d5 + 256 * (d6 + 256 * (d7 + 256 * 0))))))) = y) : lastF y = d0 + (d1 + (d2 + (d3 + (d4 + (d5 + (d6 + (d7 + 0))))))) := by
  unfold lastF
  have e1 : y / 256 = d1 + 256 * (d2 + 256 * (d3 + 256 * (d4 + 256 * (d5 + 256 * (d6 + 256 * d7))))) := by omega
  obtain ⟨z, hz⟩ : ∃ z, y + y / 256 = z := ⟨_, rfl⟩
  simp only [hz]
  have e2 : z = (d0 + d1) + 256 * ((d1 + d2) + 256 * ((d2 + d3) + 256 * ((d3 + d4) + 256 * ((d4 + d5) + 256 * ((d5 + d6) + 256 * ((d6 + d7) + 256 * d7)))))) := by omega
  clear hy hz e1
  have e3 : z / 65536 = (d2 + d3) + 256 * ((d3 + d4) + 256 * ((d4 + d5) + 256 * ((d5 + d6) + 256 * ((d6 + d7) + 256 * d7)))) := by omega
  obtain ⟨u, hu⟩ : ∃ u, z + z / 65536 = u := ⟨_, rfl⟩
  rw [hu]
  have e4 : u = (d0 + d1 + d2 + d3) + 256 * ((d1 + d2 + d3 + d4) + 256 * ((d2 + d3 + d4 + d5) + 256 * ((d3 + d4 + d5 + d6) + 256 * ((d4 + d5 + d6 + d7) + 256 * ((d5 + d6 + d7) + 256 * ((d6 + d7) + 256 * d7)))))) := by omega
  clear hu e2 e3
  have e5 : u / 4294967296 = (d4 + d5 + d6 + d7) + 256 * ((d5 + d6 + d7) + 256 * ((d6 + d7) + 256 * d7)) := by omega
  rw [e5, e4]
  omega
theorem bytes_of (x : Nat) (hx : x < 18446744073709551616) : ∃ l : List Nat, l.length = 8 ∧ ofB l = x ∧ ∀ b ∈ l, b < 256 := by
  refine ⟨[x % 256, x / 256 % 256, x / 65536 % 256, x / 16777216 % 256, x / 4294967296 % 256, x / 1099511627776 % 256, x / 281474976710656 % 256, x / 72057594037927936], rfl, ?_, ?_⟩
  · simp only [ofB]; omega
  · intro b hb
    simp only [List.mem_cons, List.not_mem_nil, or_false] at hb
    rcases hb with rfl | rfl | rfl | rfl | rfl | rfl | rfl | rfl <;> omega
theorem ofB_le {M : Nat} : ∀ l : List Nat, (∀ b ∈ l, b ≤ M) → ofB l ≤ ofB (List.replicate l.length M)
  | [], _ => Nat.le_refl _
  | b :: l, h => by
    have h1 := h b (List.mem_cons_self ..)
    have h2 := ofB_le l (fun x hx => h x (List.mem_cons_of_mem _ hx))
    simp only [List.length_cons, List.replicate_succ, ofB]; omega
theorem last_bytes : ∀ l : List Nat, l.length = 8 → (∀ b ∈ l, b ≤ 8) → lastF (ofB l) = l.sum
  | [c0, c1, c2, c3, c4, c5, c6, c7], _, h =>
    last_sum c0 c1 c2 c3 c4 c5 c6 c7 _ (h _ (by simp)) (h _ (by simp)) (h _ (by simp)) (h _ (by simp)) (h _ (by simp)) (h _ (by simp)) (h _ (by simp)) (h _ (by simp)) rfl
theorem pop_parts (x : Nat) (hx : x < 18446744073709551616) : lastF (p3 (p2 (p1 x))) = ones x 64 ∧ p1 x < 18446744073709551616 ∧ p2 (p1 x) < 18446744073709551616 ∧ p2 (p1 x) / 16 + p2 (p1 x) < 18446744073709551616 ∧ p3 (p2 (p1 x)) ≤ 578721382704613384 := by
  obtain ⟨l, hl, rfl, hb⟩ := bytes_of x hx
  have hm1 : ∀ b ∈ l.map b1, b < 256 := fun b h => by
    obtain ⟨c, hc, rfl⟩ := List.mem_map.1 h; exact (byte_all c (hb c hc)).1
  have hm2 : ∀ b ∈ (l.map b1).map b2, b < 256 ∧ b % 16 ≤ 4 ∧ b / 16 ≤ 4 := fun b h => by
    obtain ⟨c, hc, rfl⟩ := List.mem_map.1 h
    obtain ⟨d, hd, rfl⟩ := List.mem_map.1 hc
    have := byte_all d (hb d hd)
    exact ⟨this.2.1, this.2.2.1, this.2.2.2.1⟩
  have r1 : p1 (ofB l) = ofB (l.map b1) := by have := sw1 l hb; rw [hl] at this; exact this
  have r2 : p2 (ofB (l.map b1)) = ofB ((l.map b1).map b2) := by have := sw2 (l.map b1) hm1; rw [List.length_map, hl] at this; exact this
  have r3 : p3 (ofB ((l.map b1).map b2)) = ofB (((l.map b1).map b2).map b3) := by have := sw3 _ hm2; rw [List.length_map, List.length_map, hl] at this; exact this
  have hmm : ((l.map b1).map b2).map b3 = l.map (ones · 8) := by
    rw [List.map_map, List.map_map]
    refine List.map_congr_left fun b h => ?_
    exact (byte_all b (hb b h)).2.2.2.2.1
  have hm3 : ∀ b ∈ l.map (ones · 8), b ≤ 8 := fun b h => by
    obtain ⟨c, hc, rfl⟩ := List.mem_map.1 h; exact (byte_all c (hb c hc)).2.2.2.2.2
  have ho := ones_ofB l hb
  rw [hl] at ho
  have k1 := ofB_le (M := 255) (l.map b1) (fun b h => by have := hm1 b h; omega)
  have k2 := ofB_le (M := 68) ((l.map b1).map b2) (fun b h => by have := hm2 b h; omega)
  have k3 := ofB_le (M := 8) (l.map (ones · 8)) hm3
  simp only [List.length_map, hl] at k1 k2 k3
  have c1 : ofB (List.replicate 8 255) = 18446744073709551615 := by decide
  have c2 : ofB (List.replicate 8 68) = 4919131752989213764 := by decide
  have c3 : ofB (List.replicate 8 8) = 578721382704613384 := by decide
  rw [c1] at k1
  rw [c2] at k2
  rw [c3] at k3
  rw [r1, r2, r3, hmm]
  refine ⟨?_, by omega, by omega, by omega, k3⟩
  rw [last_bytes _ (by rw [List.length_map, hl]) hm3]
  exact ho.symm
theorem ones_bd (x : Nat) : ones x 64 ≤ 64 := ones_le x 64
end Go.Proofs.YtaihcbkdbdhihaaDoor
