/-
  What is sealed, and what opens, as plain mathematics: the bytes ahead of the sum, the sum's bytes, the first byte that is no nought, which fault bytes have; no conditions beside those that each law states.
-/
import Derived.Test.YtliiooldlooagaaGreatDoorZC1
import Derived.Test.YtliiooldlooagaaGreatDoorZROOT8
set_option linter.unusedSimpArgs false
set_option linter.unusedVariables false
namespace Go.Proofs.YtliiooldlooagaaGreatDoor.C7
open Go.RowKit

def rep (n : Nat) : List UInt8 := List.replicate n 0
theorem rep_length (n : Nat) : (rep n).length = n := List.length_replicate
theorem rep_at (n j : Nat) (h : j < n) : (rep n)[j]? = some 0 := by unfold rep; rw [List.getElem?_replicate, if_pos h]
theorem rep_add (a b : Nat) : rep (a + b) = rep a ++ rep b := (List.replicate_append_replicate (n := a) (m := b) (a := (0 : UInt8))).symm
theorem rep_take (a b : Nat) (h : a ≤ b) : (rep b).take a = rep a := by unfold rep; rw [List.take_replicate, Nat.min_eq_left h]
theorem rep_drop (a b : Nat) : (rep b).drop a = rep (b - a) := by unfold rep; rw [List.drop_replicate]
/-- The bytes ahead of the sum. -/
def headF (k : Nat) (b : List UInt8) : List UInt8 := UInt8.ofNat k :: UInt8.ofNat b.length :: (b ++ rep (250 - b.length))
theorem headF_length (k : Nat) (b : List UInt8) (h : b.length ≤ 250) : (headF k b).length = 252 := by simp [headF, rep_length]; omega
/-- The sum's bytes. -/
def sumF (h : List UInt8) : List UInt8 := digits (moreN 1 h) 4
theorem sumF_length (h : List UInt8) : (sumF h).length = 4 := digits_length _ _
def sealF (k : Nat) (b : List UInt8) : List UInt8 := headF k b ++ sumF (headF k b)
theorem sealF_length (k : Nat) (b : List UInt8) (h : b.length ≤ 250) : (sealF k b).length = 256 := by simp [sealF, headF_length k b h, sumF_length]
/-- The number of noughts that are next. -/
def noughts : List UInt8 → Nat
  | [] => 0
  | c :: r => if c = 0 then noughts r + 1 else 0
/-- The first byte from a on, ahead of the sum, that is no nought (252, if there is none). -/
def firstAt (l : List UInt8) (a : Nat) : Nat := a + noughts ((l.take 252).drop a)
theorem noughts_le (l : List UInt8) : noughts l ≤ l.length := by
  induction l with
  | nil => exact Nat.le_refl _
  | cons c r ih => simp only [noughts, List.length_cons]; split <;> omega
theorem noughts_rep (n : Nat) : noughts (rep n) = n := by
  induction n with
  | zero => rfl
  | succ n ih =>
    have : rep (n + 1) = 0 :: rep n := List.replicate_succ
    rw [this, noughts, if_pos rfl, ih]
theorem noughts_all (l : List UInt8) (h : noughts l = l.length) : l = rep l.length := by
  induction l with
  | nil => rfl
  | cons c r ih =>
    simp only [noughts, List.length_cons] at h
    split at h
    · rename_i hc
      subst hc
      rw [List.length_cons, show rep (r.length + 1) = 0 :: rep r.length from List.replicate_succ, ← ih (by omega)]
    · omega
theorem firstAt_hit (l : List UInt8) (a : Nat) (ha : a < 252) (hl : l.length = 256) (h : l.getD a 0 ≠ 0) : firstAt l a = a := by
  unfold firstAt
  have : (l.take 252).drop a = l.getD a 0 :: (l.take 252).drop (a + 1) := by
    rw [List.drop_eq_getElem_cons (by simp; omega)]
    congr 1
    rw [List.getElem_take, List.getD_eq_getElem?_getD, List.getElem?_eq_getElem (by omega)]; rfl
  rw [this, noughts, if_neg h]; rfl
theorem firstAt_on (l : List UInt8) (a : Nat) (ha : a < 252) (hl : l.length = 256) (h : l.getD a 0 = 0) : firstAt l a = firstAt l (a + 1) := by
  unfold firstAt
  have : (l.take 252).drop a = l.getD a 0 :: (l.take 252).drop (a + 1) := by
    rw [List.drop_eq_getElem_cons (by simp; omega)]
    congr 1
    rw [List.getElem_take, List.getD_eq_getElem?_getD, List.getElem?_eq_getElem (by omega)]; rfl
  rw [this, noughts, if_pos h]; omega
theorem firstAt_end (l : List UInt8) (hl : l.length = 256) : firstAt l 252 = 252 := by
  unfold firstAt
  rw [List.drop_eq_nil_of_le (by simp; omega)]; rfl
theorem firstAt_le (l : List UInt8) (a : Nat) (ha : a ≤ 252) (hl : l.length = 256) : firstAt l a ≤ 252 := by
  unfold firstAt
  have := noughts_le ((l.take 252).drop a)
  simp at this
  omega
/-- Which fault bytes have: the code (0: none) and the place. -/
def kindF (l : List UInt8) : Nat := (l.getD 0 0).toNat
def longF (l : List UInt8) : Nat := (l.getD 1 0).toNat
def bodyF (l : List UInt8) : List UInt8 := (l.take (2 + longF l)).drop 2
def openF (l : List UInt8) : Nat × Nat :=
  if l.length ≠ 256 then (2, 0) else
  if l.drop 252 ≠ sumF (l.take 252) then (8, 252) else
  if kindF l = 0 then (6, 0) else
  if 240 < longF l then (4, 1) else
  if firstAt l (2 + longF l) < 252 then (5, firstAt l (2 + longF l)) else (0, 0)
def q0 (n : Nat) : Nat × Nat := if n = 256 then (0, 0) else (2, 0)
def q1 (l : List UInt8) : Nat × Nat := if l.drop 252 = sumF (l.take 252) then (0, 0) else (8, 252)
def q2 (l : List UInt8) : Nat × Nat := if kindF l = 0 then (6, 0) else (0, 0)
def q3 (l : List UInt8) : Nat × Nat := if 240 < longF l then (4, 1) else (0, 0)
def q4 (l : List UInt8) : Nat × Nat := if firstAt l (2 + longF l) < 252 then (5, firstAt l (2 + longF l)) else (0, 0)
/-- The first of some answers that is a fault. -/
def firstQ : List (Nat × Nat) → Nat × Nat
  | [] => (0, 0)
  | c :: r => if c.1 = 0 then firstQ r else c
theorem openF_q (l : List UInt8) (h : l.length = 256) : openF l = firstQ [q0 256, q1 l, q2 l, q3 l, q4 l] := by
  unfold openF q0 q1 q2 q3 q4
  rw [if_neg (by omega)]
  simp only [firstQ]
  by_cases h1 : l.drop 252 = sumF (l.take 252)
  · by_cases h2 : kindF l = 0
    · simp [h1, h2]
    · by_cases h3 : 240 < longF l
      · simp [h1, h2, h3]
      · by_cases h4 : firstAt l (2 + longF l) < 252
        · simp [h1, h2, h3, h4]
        · simp [h1, h2, h3, h4]
  · simp [h1]
theorem openF_short (l : List UInt8) (h : l.length ≠ 256) : openF l = (2, 0) := by unfold openF; rw [if_pos h]
theorem openF_zero (l : List UInt8) (h : (openF l).1 = 0) : openF l = (0, 0) := by
  unfold openF at h ⊢
  split at h
  · cases h
  rename_i h0
  rw [if_neg h0]
  split at h
  · cases h
  rename_i h1
  rw [if_neg h1]
  split at h
  · cases h
  rename_i h2
  rw [if_neg h2]
  split at h
  · cases h
  rename_i h3
  rw [if_neg h3]
  split at h
  · cases h
  rename_i h4
  rw [if_neg h4]
theorem longF_lt (l : List UInt8) : longF l < 256 := (l.getD 1 0).toNat_lt
theorem kindF_lt (l : List UInt8) : kindF l < 256 := (l.getD 0 0).toNat_lt

theorem u8_of (n : Nat) (h : n < 256) : (UInt8.ofNat n).toNat = n := by simp; omega
theorem head_seal (k : Nat) (b : List UInt8) (h : b.length ≤ 240) : (sealF k b).take 252 = headF k b := by
  unfold sealF
  rw [List.take_append_of_le_length (by rw [headF_length k b (by omega)]; exact Nat.le_refl _)]
  exact List.take_of_length_le (by rw [headF_length k b (by omega)]; exact Nat.le_refl _)
theorem sum_seal (k : Nat) (b : List UInt8) (h : b.length ≤ 240) : (sealF k b).drop 252 = sumF (headF k b) := by
  unfold sealF
  rw [List.drop_append_of_le_length (by rw [headF_length k b (by omega)]; exact Nat.le_refl _)]
  rw [List.drop_eq_nil_of_le (by rw [headF_length k b (by omega)]; exact Nat.le_refl _)]
  rfl
theorem kind_seal (k : Nat) (b : List UInt8) (h2 : k < 256) : kindF (sealF k b) = k := u8_of k h2
theorem long_seal (k : Nat) (b : List UInt8) (h : b.length ≤ 240) : longF (sealF k b) = b.length := u8_of b.length (by omega)
theorem body_seal (k : Nat) (b : List UInt8) (h : b.length ≤ 240) : bodyF (sealF k b) = b := by
  unfold bodyF
  rw [long_seal k b h, Nat.add_comm]
  show (UInt8.ofNat k :: UInt8.ofNat b.length :: (((b ++ rep (250 - b.length)) ++ sumF (headF k b)).take b.length)).drop 2 = b
  rw [List.drop_succ_cons, List.drop_succ_cons, List.drop_zero, List.append_assoc, List.take_append_of_le_length (Nat.le_refl _), List.take_of_length_le (Nat.le_refl _)]
theorem first_seal (k : Nat) (b : List UInt8) (h : b.length ≤ 240) : firstAt (sealF k b) (2 + b.length) = 252 := by
  unfold firstAt
  rw [head_seal k b h]
  have : (headF k b).drop (2 + b.length) = rep (250 - b.length) := by
    rw [Nat.add_comm]
    show (b ++ rep (250 - b.length)).drop b.length = _
    exact List.drop_left
  rw [this, noughts_rep]; omega
/-- What was sealed opens as it was. -/
theorem open_seal (k : Nat) (b : List UInt8) (h : b.length ≤ 240) (h1 : 1 ≤ k) (h2 : k < 256) : openF (sealF k b) = (0, 0) := by
  unfold openF
  rw [if_neg (by rw [sealF_length k b (by omega)]; decide), if_neg (by rw [head_seal k b h, sum_seal k b h]; exact fun e => e rfl), kind_seal k b h2, long_seal k b h, if_neg (by omega), if_neg (by omega), first_seal k b h, if_neg (by decide)]
/-- What opens is what would be sealed. -/
theorem seal_open (l : List UInt8) (h : openF l = (0, 0)) : l = sealF (kindF l) (bodyF l) ∧ 1 ≤ kindF l ∧ (bodyF l).length ≤ 240 := by
  unfold openF at h
  split at h
  · cases h
  rename_i h0
  split at h
  · cases h
  rename_i h1
  split at h
  · cases h
  rename_i h2
  split at h
  · cases h
  rename_i h3
  split at h
  · cases h
  rename_i h4
  have hl : l.length = 256 := by omega
  have hs : l.drop 252 = sumF (l.take 252) := by
    rcases Classical.em (l.drop 252 = sumF (l.take 252)) with e | e
    · exact e
    · exact absurd e h1
  have hn : longF l ≤ 240 := by omega
  have hf : firstAt l (2 + longF l) = 252 := by have := firstAt_le l (2 + longF l) (by omega) hl; omega
  have hb : (bodyF l).length = longF l := by simp [bodyF]; omega
  have hz : (l.take 252).drop (2 + longF l) = rep (250 - longF l) := by
    have e1 : ((l.take 252).drop (2 + longF l)).length = 250 - longF l := by simp; omega
    rw [← e1]
    refine noughts_all _ ?_
    unfold firstAt at hf
    rw [e1]; omega
  have hh : l.take 252 = headF (kindF l) (bodyF l) := by
    unfold headF
    rw [hb]
    have e2 : l.take 252 = (l.take 252).take (2 + longF l) ++ (l.take 252).drop (2 + longF l) := (List.take_append_drop _ _).symm
    rw [e2, hz, List.take_take, Nat.min_eq_left (by omega)]
    have e3 : l.take (2 + longF l) = (l.take (2 + longF l)).take 2 ++ bodyF l := (List.take_append_drop 2 _).symm
    rw [e3, List.take_take, Nat.min_eq_left (by omega)]
    match l, hl with
    | c :: d :: r, _ =>
      have k1 : UInt8.ofNat (kindF (c :: d :: r)) = c := by simp [kindF]
      have k2 : UInt8.ofNat (longF (c :: d :: r)) = d := by simp [longF]
      rw [k1, k2]; rfl
  refine ⟨?_, by omega, by omega⟩
  unfold sealF
  rw [← hh, ← hs, List.take_append_drop]
end Go.Proofs.YtliiooldlooagaaGreatDoor.C7
