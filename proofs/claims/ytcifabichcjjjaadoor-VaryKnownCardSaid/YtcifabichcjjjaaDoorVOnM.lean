/-
  Plain mathematics for VaryOn: where the bytes of fields are cut; no program is named here; conditions: those that each law states.
-/
import Derived.Test.YtcifabichcjjjaaDoorVMath
namespace Go.Proofs.YtcifabichcjjjaaDoor
open Go.RowKit

theorem bytesF_append (a b : List Fd) : bytesF (a ++ b) = bytesF a ++ bytesF b := by simp [bytesF]
theorem chain_take : ∀ (l : List Fd) (a : Int) (k : Nat), chain a l → chain a (l.take k) := by
  intro l
  induction l with
  | nil => intro a k _; simp; trivial
  | cons f l ih =>
    intro a k h
    cases k with
    | zero => exact trivial
    | succ k => exact ⟨h.1, h.2.1, ih _ k h.2.2⟩
theorem refB_low {f : Fd} {a b : Int} (h : refB f a = 0) (hb : b ≤ 0) : refB f b = 0 := by
  obtain ⟨h1, h2, _, h4, h5, h6⟩ := refB_zero h
  exact refB_of h1 h2 (by omega) h4 h5 h6
theorem chain_low : ∀ (l : List Fd) (a b : Int), chain a l → b ≤ 0 → chain b l := by
  intro l a b h hb
  cases l with
  | nil => trivial
  | cons f l => exact ⟨refB_low h.1 hb, h.2.1, h.2.2⟩
theorem chain_drop : ∀ (l : List Fd) (a : Int) (k : Nat), a ≤ 0 → chain a l → ∃ b, chain b (l.drop k) := by
  intro l
  induction l with
  | nil => intro a k _ _; exact ⟨0, by simp; trivial⟩
  | cons f l ih =>
    intro a k ha h
    cases k with
    | zero => exact ⟨a, h⟩
    | succ k =>
      have h2 : chain 0 l := chain_low l f.tag 0 h.2.2 (Int.le_refl _)
      exact ih 0 k (Int.le_refl _) h2
theorem putS_of (l : List Fd) (h : chain 0 l) (hl : l.length ≤ 32) : putS l = (bytesF l, 0) := by
  rw [putS, if_neg (by omega), putGo_chain l 0 [] h]; rfl
theorem chain_of (l : List Fd) (hn : ∀ f ∈ l, f.n < 18446744073709551616) (h : (putS l).2 = 0) : chain 0 l ∧ l.length ≤ 32 ∧ (putS l).1 = bytesF l := by
  unfold putS at h ⊢
  by_cases h1 : 32 < l.length
  · rw [if_pos h1] at h; cases h
  · rw [if_neg h1] at h ⊢
    have hc := chain_putGo l 0 [] hn h
    refine ⟨hc, by omega, ?_⟩
    rw [putGo_chain l 0 [] hc]; rfl
theorem numR_cut (n j : Nat) (hj : j < (numB n).length) : numR ((numB n).take j) = .error 3 := by
  have h1 := szN_le n
  have h2 : (UInt8.ofNat (szN n)).toNat = szN n := by simp; omega
  cases j with
  | zero => rfl
  | succ j =>
    rw [numB, List.length_cons, digits_length] at hj
    rw [numB, List.take_succ_cons, numR_cons, h2, if_neg (by omega), if_pos (by simp [digits_length]; omega)]
theorem fieldR_cut (f : Fd) (l : List Fd) (hr : refB f (lastT l) = 0) (hn : f.n < 18446744073709551616) (hl : l.length ≠ 32) (j : Nat) (hj0 : 0 < j) (hj : j < (fieldB f).length) : ∃ h b, (fieldB f).take j = h :: b ∧ fieldR h b l = .error 3 := by
  obtain ⟨h1, h2, h3, h4, h5, h6⟩ := refB_zero hr
  obtain ⟨tag, text, n, s⟩ := f
  simp only at h1 h2 h3 h4 h5 h6 hn
  obtain ⟨i, rfl⟩ : ∃ i, j = i + 1 := ⟨j - 1, by omega⟩
  have e3 : headR tag l = 0 := by rw [headR, if_neg hl, if_neg (by omega), if_neg (by omega)]
  cases text with
  | true =>
    have eB : fieldB ⟨tag, true, n, s⟩ = UInt8.ofNat (2 * tag + 1).toNat :: (numB s.size ++ s.data.toList) := rfl
    rw [eB] at hj ⊢
    rw [List.take_succ_cons]
    refine ⟨_, _, rfl, ?_⟩
    have e1 : (UInt8.ofNat (2 * tag + 1).toNat).toNat = (2 * tag + 1).toNat := by simp; omega
    have e2 : (((2 * tag + 1).toNat / 2 : Nat) : Int) = tag := by omega
    unfold fieldR
    rw [e1, e2, e3, if_neg (by simp)]
    by_cases hc : i < (numB s.size).length
    · rw [List.take_append_of_le_length (by omega), numR_cut _ _ hc]
    · rw [List.take_append, List.take_of_length_le (by omega), numR_numB _ _ (by omega)]
      simp only
      rw [if_pos (by omega)]
      have hsz : s.data.toList.length = s.size := by simp
      rw [List.length_cons, List.length_append, hsz] at hj
      rw [textR, if_neg (by omega), if_pos (by rw [List.length_take]; omega)]
  | false =>
    have eB : fieldB ⟨tag, false, n, s⟩ = UInt8.ofNat (2 * tag).toNat :: numB n := rfl
    rw [eB] at hj ⊢
    rw [List.take_succ_cons]
    refine ⟨_, _, rfl, ?_⟩
    have e1 : (UInt8.ofNat (2 * tag).toNat).toNat = (2 * tag).toNat := by simp; omega
    have e2 : (((2 * tag).toNat / 2 : Nat) : Int) = tag := by omega
    unfold fieldR
    rw [List.length_cons] at hj
    rw [e1, e2, e3, if_neg (by simp), numR_cut _ _ (by omega)]
theorem readGo_skip : ∀ (l2 : List Fd) (all : Nat) (l1 : List Fd) (r : List UInt8), chain (lastT l1) l2 → l1.length + l2.length ≤ 32 → readGo all (bytesF l2 ++ r).length l1 (bytesF l2 ++ r) = readGo all r.length (l1 ++ l2) r := by
  intro l2
  induction l2 with
  | nil => intro all l1 r _ _; simp [bytesF]
  | cons f l2 ih =>
    intro all l1 r h hl
    rw [List.length_cons] at hl
    obtain ⟨hd, b, e1, e2⟩ := fieldR_fieldB f l1 (bytesF l2 ++ r) h.1 h.2.1 (by omega)
    rw [bytesF_cons, List.append_assoc, e1, readGo_ok e2, ih all (l1 ++ [f]) r (by rw [lastT_snoc]; exact h.2.2) (by simp; omega)]
    simp
theorem chain_at : ∀ (l l1 : List Fd) (k : Nat) (f : Fd), chain (lastT l1) l → l[k]? = some f → refB f (lastT (l1 ++ l.take k)) = 0 ∧ f.n < 18446744073709551616 := by
  intro l
  induction l with
  | nil => intro l1 k f _ h; simp at h
  | cons g l ih =>
    intro l1 k f hc h
    cases k with
    | zero =>
      have : g = f := by simpa using h
      subst this
      simp only [List.take_zero, List.append_nil]
      exact ⟨hc.1, hc.2.1⟩
    | succ k =>
      have h2 := ih (l1 ++ [g]) k f (by rw [lastT_snoc]; exact hc.2.2) (by simpa using h)
      simpa using h2
/-- The length of the bytes of the first k fields. -/
def lenF (l : List Fd) (k : Nat) : Nat := (bytesF (l.take k)).length
theorem lenF_step (l : List Fd) (k : Nat) (f : Fd) (h : l[k]? = some f) : lenF l (k + 1) = lenF l k + (fieldB f).length := by
  have hk : k < l.length := (List.getElem?_eq_some_iff.1 h).1
  have hf : l[k] = f := (List.getElem?_eq_some_iff.1 h).2
  rw [lenF, List.take_succ_eq_append_getElem hk, hf, bytesF_append, List.length_append]
  simp [lenF, bytesF]
theorem bytes_split (l : List Fd) (k : Nat) : bytesF l = bytesF (l.take k) ++ bytesF (l.drop k) := by rw [← bytesF_append, List.take_append_drop]
/-- Cut at a field's end: the first ones are read. -/
theorem cut_whole (l : List Fd) (k : Nat) (hc : chain 0 l) (hl : l.length ≤ 32) : readS ((bytesF l).take (lenF l k)) = .ok (l.take k) := by
  have e : (bytesF l).take (lenF l k) = bytesF (l.take k) := by rw [bytes_split l k, lenF, List.take_append_of_le_length (Nat.le_refl _), List.take_length]
  rw [e]
  exact read_chain (l.take k) _ [] (chain_take l 0 k hc) (by simp; omega)
/-- Cut elsewhere: the field that is cut is short. -/
theorem cut_within (l : List Fd) (k n : Nat) (hc : chain 0 l) (hl : l.length ≤ 32) (hk : k < l.length) (h1 : lenF l k < n) (h2 : n < lenF l (k + 1)) : readS ((bytesF l).take n) = .error (3, lenF l k) := by
  obtain ⟨f, hf⟩ : ∃ f, l[k]? = some f := ⟨l[k], List.getElem?_eq_getElem hk⟩
  obtain ⟨hr, hn⟩ := chain_at l [] k f hc hf
  rw [List.nil_append] at hr
  have h3 := lenF_step l k f hf
  have hdrop : l.drop k = f :: l.drop (k + 1) := by
    rw [List.drop_eq_getElem_cons hk, (List.getElem?_eq_some_iff.1 hf).2]
  have hlk : (l.take k).length = k := by simp; omega
  obtain ⟨h, b, e1, e2⟩ := fieldR_cut f (l.take k) hr hn (by omega) (n - lenF l k) (by omega) (by omega)
  have e : (bytesF l).take n = bytesF (l.take k) ++ h :: b := by
    rw [bytes_split l k, List.take_append, List.take_of_length_le (by rw [lenF] at h1; omega), hdrop, bytesF_cons]
    show _ ++ List.take (n - lenF l k) _ = _
    rw [List.take_append_of_le_length (by omega), e1]
  have hlen : (h :: b).length = n - lenF l k := by rw [← e1, List.length_take]; omega
  rw [e]
  unfold readS
  rw [readGo_skip (l.take k) _ [] (h :: b) (chain_take l 0 k hc) (by simp; omega), List.nil_append, readGo_err e2]
  rw [List.length_append, List.length_cons]
  have : (bytesF (l.take k)).length + (b.length + 1) - (b.length + 1) = lenF l k := by rw [lenF]; omega
  rw [this]
end Go.Proofs.YtcifabichcjjjaaDoor
