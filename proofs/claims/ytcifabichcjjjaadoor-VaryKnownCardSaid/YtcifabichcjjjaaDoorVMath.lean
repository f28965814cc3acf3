/-
  Plain mathematics for layer 2: fields come back from their bytes, and bytes that are read are those of what is read; no program is named here; conditions: those that each law states.
-/
import Derived.Test.YtcifabichcjjjaaDoorVPutA
namespace Go.Proofs.YtcifabichcjjjaaDoor
open Go.RowKit

theorem bitLen_bounds : ∀ (f n : Nat), n < 2 ^ f → n < 2 ^ Lib.bitLenAux f n ∧ (n ≠ 0 → 1 ≤ Lib.bitLenAux f n ∧ 2 ^ (Lib.bitLenAux f n - 1) ≤ n) := by
  intro f
  induction f with
  | zero => intro n h; simp at h; subst h; simp [Lib.bitLenAux]
  | succ f ih =>
    intro n h
    by_cases h0 : n = 0
    · subst h0; simp [Lib.bitLenAux]
    · simp only [Lib.bitLenAux, if_neg h0]
      rw [Nat.pow_succ] at h
      obtain ⟨h1, h2⟩ := ih (n / 2) (by omega)
      refine ⟨?_, fun _ => ⟨by omega, ?_⟩⟩
      · rw [Nat.add_comm, Nat.pow_succ]; omega
      · rw [Nat.add_sub_cancel_left]
        by_cases h3 : n / 2 = 0
        · rw [h3]
          have : Lib.bitLenAux f 0 = 0 := by cases f <;> simp [Lib.bitLenAux]
          rw [this]; omega
        · obtain ⟨h4, h5⟩ := h2 h3
          obtain ⟨b, hb⟩ : ∃ b, Lib.bitLenAux f (n / 2) = b + 1 := ⟨Lib.bitLenAux f (n / 2) - 1, by omega⟩
          rw [hb] at h5 ⊢
          rw [Nat.add_sub_cancel] at h5
          rw [Nat.pow_succ]; omega
theorem pow256 (k : Nat) : 256 ^ k = 2 ^ (8 * k) := by rw [Nat.pow_mul]
theorem szN_lt (n : Nat) (h : n < 18446744073709551616) : n < 256 ^ szN n := by
  have h1 := (bitLen_bounds 64 n (by omega)).1
  rw [pow256]
  refine Nat.lt_of_lt_of_le h1 (Nat.pow_le_pow_right (by omega) ?_)
  show Lib.bitLen n ≤ 8 * szN n
  unfold szN; omega
theorem szN_zero : szN 0 = 0 := by decide
theorem szN_ge (n : Nat) (h : n < 18446744073709551616) (h0 : n ≠ 0) : 1 ≤ szN n ∧ 256 ^ (szN n - 1) ≤ n := by
  obtain ⟨h1, h2⟩ := (bitLen_bounds 64 n (by omega)).2 h0
  have h1' : 1 ≤ Lib.bitLen n := h1
  have h2' : 2 ^ (Lib.bitLen n - 1) ≤ n := h2
  refine ⟨by unfold szN; omega, ?_⟩
  rw [pow256]
  refine Nat.le_trans (Nat.pow_le_pow_right (by omega) ?_) h2'
  unfold szN; omega
theorem szN_eq (n k : Nat) (h : n < 18446744073709551616) (h1 : n < 256 ^ k) (h2 : k = 0 ∨ 256 ^ (k - 1) ≤ n) : szN n = k := by
  by_cases h0 : n = 0
  · subst h0
    rcases h2 with h2 | h2
    · rw [h2, szN_zero]
    · have := Nat.pow_pos (n := k - 1) (show 0 < 256 by omega); omega
  · obtain ⟨h3, h4⟩ := szN_ge n h h0
    have h5 := szN_lt n h
    have h6 : szN n - 1 < k := by
      rcases Nat.lt_or_ge (szN n - 1) k with h7 | h7
      · exact h7
      · have := Nat.pow_le_pow_right (show 0 < 256 by omega) h7; omega
    rcases h2 with h2 | h2
    · omega
    · have h8 : k - 1 < szN n := by
        rcases Nat.lt_or_ge (k - 1) (szN n) with h7 | h7
        · exact h7
        · have := Nat.pow_le_pow_right (show 0 < 256 by omega) h7; omega
      omega
theorem nat8_digits (k : Nat) : ∀ n, nat8 (digits n k) = n % 256 ^ k := by
  induction k with
  | zero => intro n; simp [digits, nat8, Nat.mod_one]
  | succ k ih =>
    intro n
    rw [digits, nat8_snoc, ih]
    have h1 : (UInt8.ofNat (n % 256)).toNat = n % 256 := by simp
    rw [h1, Nat.pow_succ, Nat.mul_comm (256 ^ k) 256, Nat.mod_mul]
    omega
theorem digits_nat8 : ∀ (n : Nat) (d : List UInt8), d.length = n → digits (nat8 d) d.length = d := by
  intro n
  induction n with
  | zero => intro d h; have := List.eq_nil_of_length_eq_zero h; subst this; rfl
  | succ n ih =>
    intro d h
    rcases List.eq_nil_or_concat d with rfl | ⟨r, c, hc⟩
    · simp at h
    · rw [List.concat_eq_append] at hc
      subst hc
      simp at h
      have hc := c.toNat_lt
      rw [nat8_snoc, List.length_append, List.length_singleton, digits, show (nat8 r * 256 + c.toNat) / 256 = nat8 r by omega, show (nat8 r * 256 + c.toNat) % 256 = c.toNat by omega, ih r h]
      simp
theorem digits_head (k : Nat) : ∀ n, (digits n (k + 1)).head? = some (UInt8.ofNat (n / 256 ^ k % 256)) := by
  induction k with
  | zero => intro n; simp [digits]
  | succ k ih =>
    intro n
    have h1 := ih (n / 256)
    rw [digits, List.head?_append, h1, Nat.div_div_eq_div_mul, Nat.pow_succ, Nat.mul_comm]
    rfl
theorem digits_head_ne (n : Nat) (h : n < 18446744073709551616) : (digits n (szN n)).head? ≠ some 0 := by
  by_cases h0 : n = 0
  · subst h0; rw [szN_zero]; simp [digits]
  · obtain ⟨h1, h2⟩ := szN_ge n h h0
    have h3 := szN_lt n h
    obtain ⟨k, hk⟩ : ∃ k, szN n = k + 1 := ⟨szN n - 1, by omega⟩
    rw [hk] at h2 h3 ⊢
    rw [Nat.add_sub_cancel] at h2
    rw [digits_head]
    intro e
    injection e with e
    have h4 : n / 256 ^ k < 256 := by rw [Nat.pow_succ, Nat.mul_comm] at h3; exact Nat.div_lt_of_lt_mul (by rw [Nat.mul_comm]; exact h3)
    have h5 : 1 ≤ n / 256 ^ k := (Nat.one_le_div_iff (Nat.pow_pos (by omega))).2 h2
    have h6 : (UInt8.ofNat (n / 256 ^ k % 256)).toNat = 0 := by rw [e]; rfl
    simp at h6
    omega
/-- A number comes back from its bytes. -/
theorem numR_numB (n : Nat) (r : List UInt8) (h : n < 18446744073709551616) : numR (numB n ++ r) = .ok (n, r) := by
  have h1 := szN_le n
  have h2 : (UInt8.ofNat (szN n)).toNat = szN n := by simp; omega
  rw [numB, List.cons_append, numR_cons, h2, if_neg (by omega), if_neg (by simp [digits_length])]
  have h3 : (digits n (szN n) ++ r).take (szN n) = digits n (szN n) := by rw [List.take_append_of_le_length (by rw [digits_length]; exact Nat.le_refl _), List.take_of_length_le (by rw [digits_length]; exact Nat.le_refl _)]
  have h4 : (digits n (szN n) ++ r).drop (szN n) = r := by rw [List.drop_append_of_le_length (by rw [digits_length]; exact Nat.le_refl _), List.drop_of_length_le (by rw [digits_length]; exact Nat.le_refl _)]; rfl
  rw [h3, h4, if_neg (digits_head_ne n h), nat8_digits, Nat.mod_eq_of_lt (szN_lt n h)]
/-- Bytes that are read as a number are those of that number. -/
theorem numB_numR {b r : List UInt8} {n : Nat} (h : numR b = .ok (n, r)) : b = numB n ++ r ∧ n < 18446744073709551616 := by
  cases b with
  | nil => cases h
  | cons k b =>
    rw [numR_cons] at h
    by_cases h1 : 8 < k.toNat
    · rw [if_pos h1] at h; cases h
    · rw [if_neg h1] at h
      by_cases h2 : b.length < k.toNat
      · rw [if_pos h2] at h; cases h
      · rw [if_neg h2] at h
        by_cases h3 : (b.take k.toNat).head? = some 0
        · rw [if_pos h3] at h; cases h
        · rw [if_neg h3] at h
          injection h with h; injection h with e1 e2
          obtain ⟨d, hd⟩ : ∃ d, d = b.take k.toNat := ⟨_, rfl⟩
          rw [← hd] at h3 e1
          have hl : d.length = k.toNat := by rw [hd]; simp; omega
          have hlt : nat8 d < 256 ^ d.length := nat8_lt d
          have h8 : (256 : Nat) ^ d.length ≤ 256 ^ 8 := Nat.pow_le_pow_right (by omega) (by omega)
          have h9 : (256 : Nat) ^ 8 = 18446744073709551616 := by decide
          have hn : nat8 d < 18446744073709551616 := by omega
          have hge : d.length = 0 ∨ 256 ^ (d.length - 1) ≤ nat8 d := by
            cases hdl : d.length with
            | zero => exact Or.inl rfl
            | succ j =>
              right
              have hh := digits_head j (nat8 d)
              rw [← hdl, digits_nat8 d.length d rfl] at hh
              rw [Nat.add_sub_cancel]
              rcases Nat.lt_or_ge (nat8 d) (256 ^ j) with h10 | h10
              · rw [Nat.div_eq_of_lt h10] at hh
                exact absurd hh h3
              · exact h10
          have hs := szN_eq (nat8 d) d.length hn hlt hge
          rw [← e1, ← e2]
          refine ⟨?_, hn⟩
          rw [numB, hs, digits_nat8 d.length d rfl, hl, hd, List.cons_append, List.take_append_drop]
          simp
/-- The rises that fields' Tags make. -/
def chain : Int → List Fd → Prop
  | _, [] => True
  | a, f :: l => refB f a = 0 ∧ f.n < 18446744073709551616 ∧ chain f.tag l
def bytesF (l : List Fd) : List UInt8 := l.flatMap fieldB
theorem bytesF_cons (f : Fd) (l : List Fd) : bytesF (f :: l) = fieldB f ++ bytesF l := rfl
theorem putGo_chain : ∀ (l : List Fd) (a : Int) (acc : List UInt8), chain a l → putGo a l acc = (acc ++ bytesF l, 0) := by
  intro l
  induction l with
  | nil => intro a acc _; simp [putGo, bytesF]
  | cons f l ih =>
    intro a acc h
    rw [putGo, if_pos h.1, ih _ _ h.2.2, bytesF_cons, List.append_assoc]
theorem chain_putGo : ∀ (l : List Fd) (a : Int) (acc : List UInt8), (∀ f ∈ l, f.n < 18446744073709551616) → (putGo a l acc).2 = 0 → chain a l := by
  intro l
  induction l with
  | nil => intro a acc _ _; trivial
  | cons f l ih =>
    intro a acc hn h
    rw [putGo] at h
    by_cases h1 : refB f a = 0
    · rw [if_pos h1] at h
      exact ⟨h1, hn f (List.mem_cons_self ..), ih _ _ (fun g hg => hn g (List.mem_cons_of_mem _ hg)) h⟩
    · rw [if_neg h1] at h; exact absurd h h1
theorem putGo_bad : ∀ (l : List Fd) (a : Int) (acc : List UInt8), (putGo a l acc).2 ≠ 0 → (putGo a l acc).1 = [] := by
  intro l
  induction l with
  | nil => intro a acc h; simp [putGo] at h
  | cons f l ih =>
    intro a acc h
    rw [putGo] at h ⊢
    by_cases h1 : refB f a = 0
    · rw [if_pos h1] at h ⊢; exact ih _ _ h
    · rw [if_neg h1]
theorem putS_bad (l : List Fd) (h : (putS l).2 ≠ 0) : (putS l).1 = [] := by
  unfold putS at h ⊢
  split at h
  · rename_i h1; rw [if_pos h1]
  · rename_i h1; rw [if_neg h1]; exact putGo_bad _ _ _ h
theorem bytes_ext (s : ByteArray) : (⟨s.data.toList.toArray⟩ : ByteArray) = s := by simp
theorem bytes_nil (s : ByteArray) (h : s.size = 0) : s = ⟨#[]⟩ := by
  apply ByteArray.ext
  have : s.data.size = 0 := h
  exact Array.eq_empty_of_size_eq_zero this
theorem lastT_snoc (l : List Fd) (f : Fd) : lastT (l ++ [f]) = f.tag := by simp [lastT]
/-- A field comes back from its bytes. -/
theorem fieldR_fieldB (f : Fd) (l : List Fd) (r : List UInt8) (hr : refB f (lastT l) = 0) (hn : f.n < 18446744073709551616) (hl : l.length ≠ 32) : ∃ h b, fieldB f ++ r = h :: b ∧ fieldR h b l = .ok (f, r) := by
  obtain ⟨h1, h2, h3, h4, h5, h6⟩ := refB_zero hr
  obtain ⟨tag, text, n, s⟩ := f
  simp only at h1 h2 h3 h4 h5 h6 hn
  cases text with
  | true =>
    have hn0 : n = 0 := h5 rfl
    subst hn0
    refine ⟨UInt8.ofNat (2 * tag + 1).toNat, (numB s.size ++ s.data.toList) ++ r, rfl, ?_⟩
    have e1 : (UInt8.ofNat (2 * tag + 1).toNat).toNat = (2 * tag + 1).toNat := by simp; omega
    have e2 : (((2 * tag + 1).toNat / 2 : Nat) : Int) = tag := by omega
    have e3 : headR tag l = 0 := by rw [headR, if_neg hl, if_neg (by omega), if_neg (by omega)]
    unfold fieldR
    rw [e1, e2, e3, if_neg (by simp), List.append_assoc, numR_numB _ _ (by omega)]
    simp only
    rw [if_pos (by omega)]
    have e4 : textR s.size (s.data.toList ++ r) = .ok (s.data.toList, r) := by
      have hsz : s.data.toList.length = s.size := by simp
      rw [textR, if_neg (by omega), if_neg (by simp), ← hsz, List.take_append_of_le_length (Nat.le_refl _), List.take_length, List.drop_append_of_le_length (Nat.le_refl _), List.drop_length]; rfl
    rw [e4]
  | false =>
    have hs0 := bytes_nil s (h6 rfl)
    subst hs0
    refine ⟨UInt8.ofNat (2 * tag).toNat, numB n ++ r, rfl, ?_⟩
    have e1 : (UInt8.ofNat (2 * tag).toNat).toNat = (2 * tag).toNat := by simp; omega
    have e2 : (((2 * tag).toNat / 2 : Nat) : Int) = tag := by omega
    have e3 : headR tag l = 0 := by rw [headR, if_neg hl, if_neg (by omega), if_neg (by omega)]
    unfold fieldR
    rw [e1, e2, e3, if_neg (by simp), numR_numB _ _ hn]
    simp only
    rw [if_neg (by omega)]
theorem headR_zero {tag : Int} {l : List Fd} (h : headR tag l = 0) : l.length ≠ 32 ∧ 1 ≤ tag ∧ tag ≤ 63 ∧ lastT l < tag := by
  unfold headR at h
  by_cases h1 : l.length = 32
  · rw [if_pos h1] at h; cases h
  · rw [if_neg h1] at h
    by_cases h2 : tag < 1 ∨ 63 < tag
    · rw [if_pos h2] at h; cases h
    · rw [if_neg h2] at h
      by_cases h3 : tag ≤ lastT l
      · rw [if_pos h3] at h; cases h
      · exact ⟨h1, by omega, by omega, by omega⟩
theorem refB_of {f : Fd} {a : Int} (h1 : 1 ≤ f.tag) (h2 : f.tag ≤ 63) (h3 : a < f.tag) (h4 : f.s.size ≤ 2000) (h5 : f.text = true → f.n = 0) (h6 : f.text = false → f.s.size = 0) : refB f a = 0 := by
  have hm : mayB f = true := by
    unfold mayB
    simp only [Bool.and_eq_true, decide_eq_true_eq]
    refine ⟨⟨h1, h2⟩, ?_⟩
    cases ht : f.text with
    | true => simp [h5 ht]
    | false => simp [h6 ht]
  rw [refB, if_neg (by rw [hm]; simp), if_neg (by omega), if_neg (by omega)]
/-- Bytes that are read as a field are those of that field. -/
theorem fieldB_fieldR {h : UInt8} {b r : List UInt8} {l : List Fd} {f : Fd} (e : fieldR h b l = .ok (f, r)) : h :: b = fieldB f ++ r ∧ refB f (lastT l) = 0 ∧ f.n < 18446744073709551616 ∧ l.length ≠ 32 := by
  have hh := h.toNat_lt
  unfold fieldR at e
  by_cases h1 : headR ((h.toNat / 2 : Nat) : Int) l = 0
  · rw [if_neg (by simpa using h1)] at e
    obtain ⟨g1, g2, g3, g4⟩ := headR_zero h1
    cases hn : numR b with
    | error c' => rw [hn] at e; cases e
    | ok p =>
      obtain ⟨n, r1⟩ := p
      rw [hn] at e
      simp only at e
      obtain ⟨hb, hn2⟩ := numB_numR hn
      by_cases h2 : h.toNat % 2 = 1
      · rw [if_pos h2] at e
        cases ht : textR n r1 with
        | error c' => rw [ht] at e; cases e
        | ok q =>
          obtain ⟨t, r2⟩ := q
          rw [ht] at e
          simp only at e
          injection e with e; injection e with e1 e2; subst e1; subst e2
          unfold textR at ht
          by_cases h3 : 2000 < n
          · rw [if_pos h3] at ht; cases ht
          · rw [if_neg h3] at ht
            by_cases h4 : r1.length < n
            · rw [if_pos h4] at ht; cases ht
            · rw [if_neg h4] at ht
              injection ht with ht; injection ht with e1 e2
              have hsz : (⟨t.toArray⟩ : ByteArray).size = n := by
                show t.toArray.size = n
                rw [← e1]; simp; omega
              have hlow : (⟨t.toArray⟩ : ByteArray).size ≤ 2000 := by rw [hsz]; omega
              refine ⟨?_, refB_of g2 g3 g4 hlow (fun _ => rfl) (fun e => by cases e), by show (0 : Nat) < _; omega, g1⟩
              unfold fieldB
              rw [if_pos rfl]
              show h :: b = UInt8.ofNat (2 * ((h.toNat / 2 : Nat) : Int) + 1).toNat :: (numB (⟨t.toArray⟩ : ByteArray).size ++ t) ++ r2
              have e3 : UInt8.ofNat (2 * ((h.toNat / 2 : Nat) : Int) + 1).toNat = h := by
                rw [← UInt8.toNat_inj]; simp; omega
              rw [e3, hsz, List.cons_append, List.append_assoc, ← e1, ← e2, List.take_append_drop, ← hb]
      · rw [if_neg h2] at e
        injection e with e; injection e with e1 e2; subst e1; subst e2
        refine ⟨?_, refB_of g2 g3 g4 (by show (0 : Nat) ≤ 2000; omega) (fun e => by cases e) (fun _ => rfl), hn2, g1⟩
        unfold fieldB
        rw [if_neg (by simp)]
        show h :: b = UInt8.ofNat (2 * ((h.toNat / 2 : Nat) : Int)).toNat :: numB n ++ r1
        have e3 : UInt8.ofNat (2 * ((h.toNat / 2 : Nat) : Int)).toNat = h := by
          rw [← UInt8.toNat_inj]; simp; omega
        rw [e3, List.cons_append, ← hb]
  · rw [if_pos (by simpa using h1)] at e; cases e
theorem fieldB_cons (f : Fd) : ∃ h b, fieldB f = h :: b := by
  unfold fieldB; split
  · exact ⟨_, _, rfl⟩
  · exact ⟨_, _, rfl⟩
theorem read_chain : ∀ (l2 : List Fd) (all : Nat) (l1 : List Fd), chain (lastT l1) l2 → l1.length + l2.length ≤ 32 → readGo all (bytesF l2).length l1 (bytesF l2) = .ok (l1 ++ l2) := by
  intro l2
  induction l2 with
  | nil => intro all l1 _ _; show readGo all 0 l1 [] = _; rw [readGo_nil]; simp
  | cons f l2 ih =>
    intro all l1 h hl
    rw [List.length_cons] at hl
    obtain ⟨hd, b, e1, e2⟩ := fieldR_fieldB f l1 (bytesF l2) h.1 h.2.1 (by omega)
    rw [bytesF_cons, e1, readGo_ok e2, ih all (l1 ++ [f]) (by rw [lastT_snoc]; exact h.2.2) (by simp; omega)]
    simp
theorem chain_read : ∀ (n : Nat) (r : List UInt8) (all : Nat) (l1 m : List Fd), r.length ≤ n → l1.length ≤ 32 → readGo all r.length l1 r = .ok m → ∃ l2, m = l1 ++ l2 ∧ r = bytesF l2 ∧ chain (lastT l1) l2 ∧ m.length ≤ 32 := by
  intro n
  induction n with
  | zero =>
    intro r all l1 m h hl e
    have : r = [] := List.eq_nil_of_length_eq_zero (by omega)
    subst this
    rw [readGo_nil] at e
    injection e with e; subst e
    exact ⟨[], by simp, rfl, trivial, hl⟩
  | succ n ih =>
    intro r all l1 m h hl e
    cases r with
    | nil =>
      rw [readGo_nil] at e
      injection e with e; subst e
      exact ⟨[], by simp, rfl, trivial, hl⟩
    | cons c r =>
      cases hf : fieldR c r l1 with
      | error cd => rw [readGo_err hf] at e; cases e
      | ok p =>
        obtain ⟨f, r'⟩ := p
        have hle := fieldR_le hf
        rw [readGo_ok hf] at e
        obtain ⟨g1, g2, g3, g4⟩ := fieldB_fieldR hf
        simp at h
        obtain ⟨l2, h1, h2, h3, h4⟩ := ih r' all (l1 ++ [f]) m (by omega) (by simp; omega) e
        refine ⟨f :: l2, by rw [h1]; simp, by rw [g1, bytesF_cons, ← h2], ⟨g2, g3, ?_⟩, h4⟩
        rw [lastT_snoc] at h3; exact h3
theorem chain_ok : ∀ (l : List Fd) (a : Int), chain a l → ∀ f ∈ l, f.ok ∧ f.s.size ≤ 2000 := by
  intro l
  induction l with
  | nil => intro a _ f hf; cases hf
  | cons g l ih =>
    intro a h f hf
    rcases List.mem_cons.1 hf with rfl | hf
    · obtain ⟨h1, h2, h3, h4, _, _⟩ := refB_zero h.1
      exact ⟨⟨by omega, by omega, h.2.1, by omega⟩, h4⟩
    · exact ih _ h.2.2 f hf
/-- Fields come back from their bytes. -/
theorem back1 (l : List Fd) (hn : ∀ f ∈ l, f.n < 18446744073709551616) (h : (putS l).2 = 0) : readS (putS l).1 = .ok l := by
  unfold putS at h ⊢
  by_cases h1 : 32 < l.length
  · rw [if_pos h1] at h; cases h
  · rw [if_neg h1] at h ⊢
    have hc := chain_putGo l 0 [] hn h
    rw [putGo_chain l 0 [] hc]
    show readGo _ _ [] (bytesF l) = _
    exact read_chain l _ [] hc (by simp; omega)
/-- Bytes that are read are those of what is read. -/
theorem back2 (s : List UInt8) (m : List Fd) (h : readS s = .ok m) : putS m = (s, 0) ∧ m.length ≤ 32 ∧ ∀ f ∈ m, f.ok ∧ f.s.size ≤ 2000 := by
  obtain ⟨l2, h1, h2, h3, h4⟩ := chain_read s.length s s.length [] m (Nat.le_refl _) (by simp) h
  simp at h1
  subst h1
  refine ⟨?_, h4, chain_ok _ _ h3⟩
  unfold putS
  rw [if_neg (by omega), putGo_chain m 0 [] h3, ← h2]
  rfl
theorem putS_length (l : List Fd) (hn : ∀ f ∈ l, f.n < 18446744073709551616) : (putS l).1.length ≤ 64320 := by
  by_cases h : (putS l).2 = 0
  · unfold putS at h ⊢
    by_cases h1 : 32 < l.length
    · rw [if_pos h1]; simp
    · rw [if_neg h1] at h ⊢
      have hc := chain_putGo l 0 [] hn h
      rw [putGo_chain l 0 [] hc]
      have key : ∀ (l : List Fd) (a : Int), chain a l → (bytesF l).length ≤ 2010 * l.length := by
        intro l
        induction l with
        | nil => intro a _; simp [bytesF]
        | cons f l ih =>
          intro a hc
          have h2 := fieldB_length f (refB_zero hc.1).2.2.2.1
          have h3 := ih _ hc.2.2
          rw [bytesF_cons, List.length_append, List.length_cons]; omega
      have := key l 0 hc
      simp; omega
  · rw [putS_bad l h]; simp
end Go.Proofs.YtcifabichcjjjaaDoor
