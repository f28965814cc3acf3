/-
  Roots and their sectors as plain mathematics: which root may be, its bytes, what bytes are read as, which of two counts, what a torn sector is; no conditions beside those that each law states.
-/
import Derived.WalkKit
import Derived.Lib.Hide
namespace Go.Proofs.YtckkbcgolphajaaDoor
open Go.RowKit

/-- A root: the Epoch, Sectors, the Chunks. -/
structure Rt where
  e : Nat
  n : Int
  cs : List Int
theorem Rt.eq_of {a b : Rt} (h1 : a.e = b.e) (h2 : a.n = b.n) (h3 : a.cs = b.cs) : a = b := by
  cases a; cases b; simp_all
def zeroR : Rt := ⟨0, 0, [0, 0, 0, 0, 0, 0, 0, 0]⟩
def okAt (n : Int) (cs : List Int) (i : Nat) : Prop :=
  cs.getD i 0 = 0 ∨ (2 ≤ cs.getD i 0 ∧ cs.getD i 0 < n ∧ ∀ k, k < i → cs.getD k 0 ≠ cs.getD i 0)
instance (n : Int) (cs : List Int) (i : Nat) : Decidable (okAt n cs i) := by unfold okAt; infer_instance
/-- Which root may be. -/
def MayR (r : Rt) : Prop := r.e ≠ 0 ∧ 64 ≤ r.n ∧ r.n ≤ 1024 ∧ ∀ i, i < 8 → okAt r.n r.cs i
instance (r : Rt) : Decidable (MayR r) := by unfold MayR; infer_instance
/-- So many noughts; a number's bytes, the highest first; the number of bytes. -/
def zer (n : Nat) : List UInt8 := List.replicate n 0
def dg : Nat → Nat → List UInt8
  | _, 0 => []
  | n, k + 1 => dg (n / 256) k ++ [UInt8.ofNat (n % 256)]
def vl (l : List UInt8) : Nat := l.foldl (fun n c => n * 256 + c.toNat) 0
theorem by_snoc {p : List UInt8 → Prop} (h0 : p []) (h1 : ∀ l c, p l → p (l ++ [c])) (l : List UInt8) : p l := by
  have key : ∀ m : List UInt8, p m.reverse := by
    intro m
    induction m with
    | nil => exact h0
    | cons c m ih => rw [List.reverse_cons]; exact h1 _ c ih
  have := key l.reverse
  rwa [List.reverse_reverse] at this
theorem drop_at (a b : List UInt8) (n i : Nat) (h : n = a.length + i) : (a ++ b).drop n = b.drop i := by subst h; simp [List.drop_append]
theorem take_at (a b : List UInt8) (n : Nat) (h : n = a.length) : (a ++ b).take n = a := by subst h; simp
theorem zer_length (n : Nat) : (zer n).length = n := List.length_replicate
theorem zer_drop (a b : Nat) : (zer b).drop a = zer (b - a) := by unfold zer; rw [List.drop_replicate]
theorem zer_take (a b : Nat) (h : a ≤ b) : (zer b).take a = zer a := by unfold zer; rw [List.take_replicate, Nat.min_eq_left h]
theorem dg_length (k : Nat) : ∀ n, (dg n k).length = k := by
  induction k with
  | zero => intro n; rfl
  | succ k ih => intro n; simp [dg, ih]
theorem vl_snoc (l : List UInt8) (c : UInt8) : vl (l ++ [c]) = vl l * 256 + c.toNat := by simp [vl, List.foldl_append]
theorem vl_dg (k : Nat) : ∀ n, n < 256 ^ k → vl (dg n k) = n := by
  induction k with
  | zero => intro n h; simp at h; subst h; rfl
  | succ k ih =>
    intro n h
    rw [Nat.pow_succ] at h
    rw [dg, vl_snoc, ih (n / 256) (by omega)]
    have : (UInt8.ofNat (n % 256)).toNat = n % 256 := by simp
    rw [this]; omega
theorem vl_lt (l : List UInt8) : vl l < 256 ^ l.length := by
  refine by_snoc (p := fun l => vl l < 256 ^ l.length) (by decide) ?_ l
  · intro l c ih
    rw [vl_snoc, List.length_append, List.length_singleton, Nat.pow_succ]
    have := c.toNat_lt
    omega
theorem dg_vl (l : List UInt8) : dg (vl l) l.length = l := by
  refine by_snoc (p := fun l => dg (vl l) l.length = l) rfl ?_ l
  · intro l c ih
    have hc := c.toNat_lt
    rw [vl_snoc, List.length_append, List.length_singleton, dg]
    rw [show (vl l * 256 + c.toNat) / 256 = vl l by omega, show (vl l * 256 + c.toNat) % 256 = c.toNat by omega, ih]
    simp
theorem dg_inj {a b k : Nat} (ha : a < 256 ^ k) (hb : b < 256 ^ k) (h : dg a k = dg b k) : a = b := by
  rw [← vl_dg k a ha, ← vl_dg k b hb, h]
theorem dg_zero (k : Nat) : dg 0 k = zer k := by
  induction k with
  | zero => rfl
  | succ k ih =>
    rw [dg, Nat.zero_div, ih]
    unfold zer
    rw [List.replicate_succ']; rfl
/-- A root's bytes. -/
def chunksL (cs : List Int) : List UInt8 := (cs.map fun c => dg c.toNat 2).flatten
def putL (r : Rt) : List UInt8 := dg r.e 8 ++ (dg r.n.toNat 2 ++ (chunksL r.cs ++ (zer 222 ++ dg r.e 8)))
theorem chunksL_length (cs : List Int) : (chunksL cs).length = 2 * cs.length := by
  induction cs with
  | nil => rfl
  | cons c r ih => simp only [chunksL, List.map_cons, List.flatten_cons, List.length_append, dg_length, List.length_cons] at ih ⊢; omega
theorem putL_length (r : Rt) (h : r.cs.length = 8) : (putL r).length = 256 := by
  simp only [putL, List.length_append, dg_length, chunksL_length, zer_length, h]
theorem put_take (r : Rt) : (putL r).take 8 = dg r.e 8 := by
  unfold putL
  rw [List.take_append_of_le_length (by rw [dg_length]; exact Nat.le_refl _), List.take_of_length_le (by rw [dg_length]; exact Nat.le_refl _)]
theorem put_drop (r : Rt) (h : r.cs.length = 8) : (putL r).drop 248 = dg r.e 8 := by
  unfold putL
  rw [← List.append_assoc, ← List.append_assoc, ← List.append_assoc]
  rw [List.drop_append_of_le_length (by simp only [List.length_append, dg_length, chunksL_length, zer_length, h]; decide)]
  rw [List.drop_eq_nil_of_le (by simp only [List.length_append, dg_length, chunksL_length, zer_length, h]; decide)]
  rfl
/-- What bytes are read as. -/
def readR (l : List UInt8) : Rt := ⟨vl (l.take 8), (vl ((l.take 10).drop 8) : Nat), (List.range 8).map fun i => (vl ((l.take (12 + 2 * i)).drop (10 + 2 * i)) : Nat)⟩
def getF (l : List UInt8) : Rt × Nat :=
  if l = zer 256 then (zeroR, 9) else if l.length ≠ 256 then (zeroR, 5) else if MayR (readR l) ∧ putL (readR l) = l then (readR l, 0) else (zeroR, 5)
theorem chunk_at (cs : List Int) : ∀ (i : Nat), i < cs.length → ((chunksL cs).drop (2 * i)).take 2 = dg (cs.getD i 0).toNat 2 := by
  induction cs with
  | nil => intro i h; cases h
  | cons c r ih =>
    intro i h
    have e : chunksL (c :: r) = dg c.toNat 2 ++ chunksL r := by simp [chunksL]
    rw [e]
    cases i with
    | zero => rw [Nat.mul_zero, List.drop_zero, List.take_append_of_le_length (by rw [dg_length]; exact Nat.le_refl _), List.take_of_length_le (by rw [dg_length]; exact Nat.le_refl _)]; rfl
    | succ i =>
      rw [drop_at _ _ _ (2 * i) (by rw [dg_length]; omega), ih i (by simpa using h)]
      rfl
theorem may_chunk {r : Rt} (h : MayR r) (i : Nat) (hi : i < 8) : 0 ≤ r.cs.getD i 0 ∧ r.cs.getD i 0 < 1024 := by
  obtain ⟨_, _, h3, h4⟩ := h
  rcases h4 i hi with h5 | h5
  · omega
  · omega
theorem read_put (r : Rt) (h : MayR r) (hl : r.cs.length = 8) (he : r.e < 18446744073709551616) : readR (putL r) = r := by
  refine Rt.eq_of ?_ ?_ ?_
  · show vl ((putL r).take 8) = r.e
    rw [put_take]; exact vl_dg 8 _ (by simpa using he)
  · show ((vl (((putL r).take 10).drop 8) : Nat) : Int) = r.n
    have e1 : ((putL r).take 10).drop 8 = dg r.n.toNat 2 := by
      rw [List.drop_take, show 10 - 8 = 2 from rfl]
      unfold putL
      rw [drop_at _ _ 8 0 (by rw [dg_length]), List.drop_zero, take_at _ _ 2 (by rw [dg_length])]
    rw [e1, vl_dg 2 _ (by have := h.2.2.1; have := h.2.1; simp; omega)]
    have := h.2.1; omega
  · show (List.range 8).map (fun i => ((vl (((putL r).take (12 + 2 * i)).drop (10 + 2 * i)) : Nat) : Int)) = r.cs
    refine List.ext_getElem (by simp [hl]) fun i h1 h2 => ?_
    rw [List.getElem_map, List.getElem_range]
    have e1 : ((putL r).take (12 + 2 * i)).drop (10 + 2 * i) = dg (r.cs.getD i 0).toNat 2 := by
      rw [List.drop_take, show 12 + 2 * i - (10 + 2 * i) = 2 by omega, ← chunk_at r.cs i (by omega)]
      unfold putL
      rw [drop_at _ _ (10 + 2 * i) (2 + 2 * i) (by rw [dg_length]; omega), drop_at _ _ (2 + 2 * i) (2 * i) (by rw [dg_length])]
      rw [List.drop_append_of_le_length (by rw [chunksL_length]; omega), List.take_append_of_le_length (by rw [List.length_drop, chunksL_length]; omega)]
    have hc := may_chunk h i (by omega)
    rw [e1, vl_dg 2 _ (by rw [show (256 : Nat) ^ 2 = 65536 from rfl]; omega)]
    rw [show r.cs.getD i 0 = r.cs[i] by rw [List.getD_eq_getElem?_getD, List.getElem?_eq_getElem h2]; rfl] at hc ⊢
    omega
theorem read_len (l : List UInt8) : (readR l).cs.length = 8 := by simp [readR]
theorem read_e (l : List UInt8) : (readR l).e < 18446744073709551616 := by
  show vl (l.take 8) < _
  have h1 := vl_lt (l.take 8)
  have h2 : 256 ^ (l.take 8).length ≤ 256 ^ 8 := Nat.pow_le_pow_right (by decide) (by rw [List.length_take]; omega)
  have h3 : (256 : Nat) ^ 8 = 18446744073709551616 := by decide
  omega
theorem put_zero (r : Rt) (he : r.e ≠ 0) (h : r.e < 18446744073709551616) : putL r ≠ zer 256 := by
  intro e
  have e1 := congrArg (List.take 8) e
  rw [put_take, zer_take 8 256 (by decide), ← dg_zero 8] at e1
  exact he (dg_inj (k := 8) (by simpa using h) (by decide) e1)
theorem get_put (r : Rt) (h : MayR r) (hl : r.cs.length = 8) (he : r.e < 18446744073709551616) : getF (putL r) = (r, 0) := by
  unfold getF
  rw [if_neg (put_zero r h.1 he), if_neg (by rw [putL_length r hl]; exact fun e => e rfl), read_put r h hl he, if_pos ⟨h, rfl⟩]
theorem get_ok (l : List UInt8) (h : (getF l).2 = 0) : MayR (getF l).1 ∧ putL (getF l).1 = l ∧ (getF l).1.cs.length = 8 ∧ (getF l).1.e < 18446744073709551616 := by
  unfold getF at h ⊢
  split at h
  · cases h
  rename_i h1
  rw [if_neg h1]
  split at h
  · cases h
  rename_i h2
  rw [if_neg h2]
  split at h
  · rename_i h3
    rw [if_pos h3]
    exact ⟨h3.1, h3.2, read_len l, read_e l⟩
  · cases h
theorem get_cases (l : List UInt8) : (getF l).2 = 0 ∨ (getF l = (zeroR, 5)) ∨ (getF l = (zeroR, 9) ∧ l = zer 256) := by
  unfold getF
  split
  · rename_i h; exact Or.inr (Or.inr ⟨rfl, h⟩)
  · split
    · exact Or.inr (Or.inl rfl)
    · split
      · exact Or.inl rfl
      · exact Or.inr (Or.inl rfl)
end Go.Proofs.YtckkbcgolphajaaDoor
