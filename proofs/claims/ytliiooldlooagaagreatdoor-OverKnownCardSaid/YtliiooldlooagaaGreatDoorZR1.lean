/-
  Texts of one layer, one behind the other, each with its own sentence; conditions: those that each law states.
-/
import Derived.WalkKit
import Derived.Lib.Hide
set_option linter.unusedSimpArgs false
set_option linter.unusedVariables false

/-
  Roots and their sectors as plain mathematics: which root may be, its bytes, what bytes are read as, which of two counts, what a torn sector is; no conditions beside those that each law states.
-/
namespace Go.Proofs.YtliiooldlooagaaGreatDoor.R8
open Go.RowKit

/-- A root: the Epoch, Sectors, the Chunks. -/
structure Rt where
  e : Nat
  n : Int
  cs : List Int
theorem Rt.eq_of {a b : Rt} (h1 : a.e = b.e) (h2 : a.n = b.n) (h3 : a.cs = b.cs) : a = b := by
  cases a; cases b; simp_all
def zeroR : Rt := ⟨0, 0, [0, 0, 0, 0, 0, 0, 0, 0]⟩
def okAt (n : Int) (cs : List Int) (i : Nat) : Prop :=
  cs.getD i 0 = 0 ∨ (2 ≤ cs.getD i 0 ∧ cs.getD i 0 < n ∧ ∀ k, k < i → cs.getD k 0 ≠ cs.getD i 0)
instance (n : Int) (cs : List Int) (i : Nat) : Decidable (okAt n cs i) := by unfold okAt; infer_instance
/-- Which root may be. -/
def MayR (r : Rt) : Prop := r.e ≠ 0 ∧ 64 ≤ r.n ∧ r.n ≤ 1024 ∧ ∀ i, i < 8 → okAt r.n r.cs i
instance (r : Rt) : Decidable (MayR r) := by unfold MayR; infer_instance
/-- So many noughts; a number's bytes, the highest first; the number of bytes. -/
def zer (n : Nat) : List UInt8 := List.replicate n 0
def dg : Nat → Nat → List UInt8
  | _, 0 => []
  | n, k + 1 => dg (n / 256) k ++ [UInt8.ofNat (n % 256)]
def vl (l : List UInt8) : Nat := l.foldl (fun n c => n * 256 + c.toNat) 0
theorem by_snoc {p : List UInt8 → Prop} (h0 : p []) (h1 : ∀ l c, p l → p (l ++ [c])) (l : List UInt8) : p l := by
  have key : ∀ m : List UInt8, p m.reverse := by
    intro m
    induction m with
    | nil => exact h0
    | cons c m ih => rw [List.reverse_cons]; exact h1 _ c ih
  have := key l.reverse
  rwa [List.reverse_reverse] at this
theorem drop_at (a b : List UInt8) (n i : Nat) (h : n = a.length + i) : (a ++ b).drop n = b.drop i := by subst h; simp [List.drop_append]
theorem take_at (a b : List UInt8) (n : Nat) (h : n = a.length) : (a ++ b).take n = a := by subst h; simp
theorem zer_length (n : Nat) : (zer n).length = n := List.length_replicate
theorem zer_drop (a b : Nat) : (zer b).drop a = zer (b - a) := by unfold zer; rw [List.drop_replicate]
theorem zer_take (a b : Nat) (h : a ≤ b) : (zer b).take a = zer a := by unfold zer; rw [List.take_replicate, Nat.min_eq_left h]
theorem dg_length (k : Nat) : ∀ n, (dg n k).length = k := by
  induction k with
  | zero => intro n; rfl
  | succ k ih => intro n; simp [dg, ih]
theorem vl_snoc (l : List UInt8) (c : UInt8) : vl (l ++ [c]) = vl l * 256 + c.toNat := by simp [vl, List.foldl_append]
theorem vl_dg (k : Nat) : ∀ n, n < 256 ^ k → vl (dg n k) = n := by
  induction k with
  | zero => intro n h; simp at h; subst h; rfl
  | succ k ih =>
    intro n h
    rw [Nat.pow_succ] at h
    rw [dg, vl_snoc, ih (n / 256) (by omega)]
    have : (UInt8.ofNat (n % 256)).toNat = n % 256 := by simp
    rw [this]; omega
theorem vl_lt (l : List UInt8) : vl l < 256 ^ l.length := by
  refine by_snoc (p := fun l => vl l < 256 ^ l.length) (by decide) ?_ l
  · intro l c ih
    rw [vl_snoc, List.length_append, List.length_singleton, Nat.pow_succ]
    have := c.toNat_lt
    omega
theorem dg_vl (l : List UInt8) : dg (vl l) l.length = l := by
  refine by_snoc (p := fun l => dg (vl l) l.length = l) rfl ?_ l
  · intro l c ih
    have hc := c.toNat_lt
    rw [vl_snoc, List.length_append, List.length_singleton, dg]
    rw [show (vl l * 256 + c.toNat) / 256 = vl l by omega, show (vl l * 256 + c.toNat) % 256 = c.toNat by omega, ih]
    simp
theorem dg_inj {a b k : Nat} (ha : a < 256 ^ k) (hb : b < 256 ^ k) (h : dg a k = dg b k) : a = b := by
  rw [← vl_dg k a ha, ← vl_dg k b hb, h]
theorem dg_zero (k : Nat) : dg 0 k = zer k := by
  induction k with
  | zero => rfl
  | succ k ih =>
    rw [dg, Nat.zero_div, ih]
    unfold zer
    rw [List.replicate_succ']; rfl
/-- A root's bytes. -/
def chunksL (cs : List Int) : List UInt8 := (cs.map fun c => dg c.toNat 2).flatten
def putL (r : Rt) : List UInt8 := dg r.e 8 ++ (dg r.n.toNat 2 ++ (chunksL r.cs ++ (zer 222 ++ dg r.e 8)))
theorem chunksL_length (cs : List Int) : (chunksL cs).length = 2 * cs.length := by
  induction cs with
  | nil => rfl
  | cons c r ih => simp only [chunksL, List.map_cons, List.flatten_cons, List.length_append, dg_length, List.length_cons] at ih ⊢; omega
theorem putL_length (r : Rt) (h : r.cs.length = 8) : (putL r).length = 256 := by
  simp only [putL, List.length_append, dg_length, chunksL_length, zer_length, h]
theorem put_take (r : Rt) : (putL r).take 8 = dg r.e 8 := by
  unfold putL
  rw [List.take_append_of_le_length (by rw [dg_length]; exact Nat.le_refl _), List.take_of_length_le (by rw [dg_length]; exact Nat.le_refl _)]
theorem put_drop (r : Rt) (h : r.cs.length = 8) : (putL r).drop 248 = dg r.e 8 := by
  unfold putL
  rw [← List.append_assoc, ← List.append_assoc, ← List.append_assoc]
  rw [List.drop_append_of_le_length (by simp only [List.length_append, dg_length, chunksL_length, zer_length, h]; decide)]
  rw [List.drop_eq_nil_of_le (by simp only [List.length_append, dg_length, chunksL_length, zer_length, h]; decide)]
  rfl
/-- What bytes are read as. -/
def readR (l : List UInt8) : Rt := ⟨vl (l.take 8), (vl ((l.take 10).drop 8) : Nat), (List.range 8).map fun i => (vl ((l.take (12 + 2 * i)).drop (10 + 2 * i)) : Nat)⟩
def getF (l : List UInt8) : Rt × Nat :=
  if l = zer 256 then (zeroR, 9) else if l.length ≠ 256 then (zeroR, 5) else if MayR (readR l) ∧ putL (readR l) = l then (readR l, 0) else (zeroR, 5)
theorem chunk_at (cs : List Int) : ∀ (i : Nat), i < cs.length → ((chunksL cs).drop (2 * i)).take 2 = dg (cs.getD i 0).toNat 2 := by
  induction cs with
  | nil => intro i h; cases h
  | cons c r ih =>
    intro i h
    have e : chunksL (c :: r) = dg c.toNat 2 ++ chunksL r := by simp [chunksL]
    rw [e]
    cases i with
    | zero => rw [Nat.mul_zero, List.drop_zero, List.take_append_of_le_length (by rw [dg_length]; exact Nat.le_refl _), List.take_of_length_le (by rw [dg_length]; exact Nat.le_refl _)]; rfl
    | succ i =>
      rw [drop_at _ _ _ (2 * i) (by rw [dg_length]; omega), ih i (by simpa using h)]
      rfl
theorem may_chunk {r : Rt} (h : MayR r) (i : Nat) (hi : i < 8) : 0 ≤ r.cs.getD i 0 ∧ r.cs.getD i 0 < 1024 := by
  obtain ⟨_, _, h3, h4⟩ := h
  rcases h4 i hi with h5 | h5
  · omega
  · omega
theorem read_put (r : Rt) (h : MayR r) (hl : r.cs.length = 8) (he : r.e < 18446744073709551616) : readR (putL r) = r := by
  refine Rt.eq_of ?_ ?_ ?_
  · show vl ((putL r).take 8) = r.e
    rw [put_take]; exact vl_dg 8 _ (by simpa using he)
  · show ((vl (((putL r).take 10).drop 8) : Nat) : Int) = r.n
    have e1 : ((putL r).take 10).drop 8 = dg r.n.toNat 2 := by
      rw [List.drop_take, show 10 - 8 = 2 from rfl]
      unfold putL
      rw [drop_at _ _ 8 0 (by rw [dg_length]), List.drop_zero, take_at _ _ 2 (by rw [dg_length])]
    rw [e1, vl_dg 2 _ (by have := h.2.2.1; have := h.2.1; simp; omega)]
    have := h.2.1; omega
  · show (List.range 8).map (fun i => ((vl (((putL r).take (12 + 2 * i)).drop (10 + 2 * i)) : Nat) : Int)) = r.cs
    refine List.ext_getElem (by simp [hl]) fun i h1 h2 => ?_
    rw [List.getElem_map, List.getElem_range]
    have e1 : ((putL r).take (12 + 2 * i)).drop (10 + 2 * i) = dg (r.cs.getD i 0).toNat 2 := by
      rw [List.drop_take, show 12 + 2 * i - (10 + 2 * i) = 2 by omega, ← chunk_at r.cs i (by omega)]
      unfold putL
      rw [drop_at _ _ (10 + 2 * i) (2 + 2 * i) (by rw [dg_length]; omega), drop_at _ _ (2 + 2 * i) (2 * i) (by rw [dg_length])]
      rw [List.drop_append_of_le_length (by rw [chunksL_length]; omega), List.take_append_of_le_length (by rw [List.length_drop, chunksL_length]; omega)]
    have hc := may_chunk h i (by omega)
    rw [e1, vl_dg 2 _ (by rw [show (256 : Nat) ^ 2 = 65536 from rfl]; omega)]
    rw [show r.cs.getD i 0 = r.cs[i] by rw [List.getD_eq_getElem?_getD, List.getElem?_eq_getElem h2]; rfl] at hc ⊢
    omega
theorem read_len (l : List UInt8) : (readR l).cs.length = 8 := by simp [readR]
theorem read_e (l : List UInt8) : (readR l).e < 18446744073709551616 := by
  show vl (l.take 8) < _
  have h1 := vl_lt (l.take 8)
  have h2 : 256 ^ (l.take 8).length ≤ 256 ^ 8 := Nat.pow_le_pow_right (by decide) (by rw [List.length_take]; omega)
  have h3 : (256 : Nat) ^ 8 = 18446744073709551616 := by decide
  omega
theorem put_zero (r : Rt) (he : r.e ≠ 0) (h : r.e < 18446744073709551616) : putL r ≠ zer 256 := by
  intro e
  have e1 := congrArg (List.take 8) e
  rw [put_take, zer_take 8 256 (by decide), ← dg_zero 8] at e1
  exact he (dg_inj (k := 8) (by simpa using h) (by decide) e1)
theorem get_put (r : Rt) (h : MayR r) (hl : r.cs.length = 8) (he : r.e < 18446744073709551616) : getF (putL r) = (r, 0) := by
  unfold getF
  rw [if_neg (put_zero r h.1 he), if_neg (by rw [putL_length r hl]; exact fun e => e rfl), read_put r h hl he, if_pos ⟨h, rfl⟩]
theorem get_ok (l : List UInt8) (h : (getF l).2 = 0) : MayR (getF l).1 ∧ putL (getF l).1 = l ∧ (getF l).1.cs.length = 8 ∧ (getF l).1.e < 18446744073709551616 := by
  unfold getF at h ⊢
  split at h
  · cases h
  rename_i h1
  rw [if_neg h1]
  split at h
  · cases h
  rename_i h2
  rw [if_neg h2]
  split at h
  · rename_i h3
    rw [if_pos h3]
    exact ⟨h3.1, h3.2, read_len l, read_e l⟩
  · cases h
theorem get_cases (l : List UInt8) : (getF l).2 = 0 ∨ (getF l = (zeroR, 5)) ∨ (getF l = (zeroR, 9) ∧ l = zer 256) := by
  unfold getF
  split
  · rename_i h; exact Or.inr (Or.inr ⟨rfl, h⟩)
  · split
    · exact Or.inr (Or.inl rfl)
    · split
      · exact Or.inl rfl
      · exact Or.inr (Or.inl rfl)
end Go.Proofs.YtliiooldlooagaaGreatDoor.R8

/-
  What a torn sector is, and which of two counts, as plain mathematics; no conditions beside those that each law states.
-/
namespace Go.Proofs.YtliiooldlooagaaGreatDoor.R8
open Go.RowKit

/-- A root that may be, with eight chunks, its Epoch in 64 bits. -/
def Good (r : Rt) : Prop := MayR r ∧ r.cs.length = 8 ∧ r.e < 18446744073709551616
theorem get_good (l : List UInt8) (h : (getF l).2 = 0) : Good (getF l).1 ∧ putL (getF l).1 = l := by
  obtain ⟨h1, h2, h3, h4⟩ := get_ok l h
  exact ⟨⟨h1, h3, h4⟩, h2⟩
theorem Good.get {r : Rt} (h : Good r) : getF (putL r) = (r, 0) := get_put r h.1 h.2.1 h.2.2
theorem Good.len {r : Rt} (h : Good r) : (putL r).length = 256 := putL_length r h.2.1
theorem get_blank : getF (zer 256) = (zeroR, 9) := if_pos rfl
theorem two8 : (256 : Nat) ^ 8 = 18446744073709551616 := by decide
/-- The first bytes of a root's sector ahead of the others of another one with another Epoch (or noughts). -/
def torn (t b : List UInt8) (k : Nat) : List UInt8 := t.take k ++ b.drop k
theorem torn_gen (y : Rt) (hy : Good y) (b : List UInt8) (eb : Nat) (_hl : b.length = 256) (h1 : b.take 8 = dg eb 8) (h2 : b.drop 248 = dg eb 8) (he : eb < 18446744073709551616) (hne : eb ≠ y.e) (k : Nat) (hk : k ≤ 256)
    (hg : (getF (torn (putL y) b k)).2 = 0) : (k ≤ 8 ∧ torn (putL y) b k = b) ∨ (248 ≤ k ∧ torn (putL y) b k = putL y) := by
  obtain ⟨hr, hp⟩ := get_good _ hg
  have hyl := hy.len
  have a1 := put_take (getF (torn (putL y) b k)).1
  have a2 := put_drop (getF (torn (putL y) b k)).1 hr.2.1
  rw [hp] at a1 a2
  have hre := hr.2.2
  generalize (getF (torn (putL y) b k)).1.e = e at a1 a2 hre
  have htk : ((putL y).take k).length = k := by rw [List.length_take]; omega
  rcases Nat.lt_or_ge k 248 with hk1 | hk1
  · have c2 : (torn (putL y) b k).drop 248 = b.drop 248 := by
      unfold torn
      rw [drop_at _ _ 248 (248 - k) (by rw [htk]; omega), List.drop_drop]
      congr 1; omega
    rw [c2, h2] at a2
    have ee : eb = e := dg_inj (k := 8) (by rw [two8]; exact he) (by rw [two8]; exact hre) a2
    subst ee
    rcases Nat.lt_or_ge 8 k with hk2 | hk2
    · exfalso
      have c1 : (torn (putL y) b k).take 8 = (putL y).take 8 := by
        unfold torn
        rw [List.take_append_of_le_length (by rw [htk]; omega), List.take_take, Nat.min_eq_left (by omega)]
      rw [c1, put_take] at a1
      exact hne (dg_inj (k := 8) (by rw [two8]; exact hy.2.2) (by rw [two8]; exact he) a1).symm
    · refine Or.inl ⟨hk2, ?_⟩
      have c3 : (torn (putL y) b k).drop 8 = b.drop 8 := by
        unfold torn
        rw [drop_at _ _ 8 (8 - k) (by rw [htk]; omega), List.drop_drop]
        congr 1; omega
      rw [← List.take_append_drop 8 (torn (putL y) b k), a1, c3, ← h1, List.take_append_drop]
  · refine Or.inr ⟨hk1, ?_⟩
    have c1 : (torn (putL y) b k).take 248 = (putL y).take 248 := by
      unfold torn
      rw [List.take_append_of_le_length (by rw [htk]; omega), List.take_take, Nat.min_eq_left (by omega)]
    have c4 : (torn (putL y) b k).take 8 = (putL y).take 8 := by
      have := congrArg (List.take 8) c1
      rwa [List.take_take, List.take_take] at this
    rw [c4, put_take] at a1
    have ee : y.e = e := dg_inj (k := 8) (by rw [two8]; exact hy.2.2) (by rw [two8]; exact hre) a1
    rw [← List.take_append_drop 248 (torn (putL y) b k), c1, a2, ← ee, ← put_drop y hy.2.1, List.take_append_drop]
theorem torn_zero (t b : List UInt8) : torn t b 0 = b := by simp [torn]
theorem torn_all (t b : List UInt8) (h1 : t.length = 256) (h2 : b.length = 256) : torn t b 256 = t := by
  unfold torn
  rw [List.take_of_length_le (by omega), List.drop_eq_nil_of_le (by omega), List.append_nil]
/-- Two roots' sectors. -/
theorem torn_roots (x y : Rt) (hx : Good x) (hy : Good y) (hne : x.e ≠ y.e) (k : Nat) (hk : k ≤ 256) (hg : (getF (torn (putL y) (putL x) k)).2 = 0) :
    (k ≤ 8 ∧ (getF (torn (putL y) (putL x) k)).1 = x) ∨ (248 ≤ k ∧ (getF (torn (putL y) (putL x) k)).1 = y) := by
  rcases torn_gen y hy (putL x) x.e hx.len (put_take x) (put_drop x hx.2.1) hx.2.2 hne k hk hg with ⟨h1, h2⟩ | ⟨h1, h2⟩
  · exact Or.inl ⟨h1, by rw [h2, hx.get]⟩
  · exact Or.inr ⟨h1, by rw [h2, hy.get]⟩
/-- A root's sector over noughts. -/
theorem torn_blank (y : Rt) (hy : Good y) (k : Nat) (hk : k ≤ 256) : getF (torn (putL y) (zer 256) k) = (y, 0) ∨ ((getF (torn (putL y) (zer 256) k)).2 ≠ 0 ∧ (getF (torn (putL y) (zer 256) k)).1 = zeroR ∧ k < 256) := by
  by_cases hg : (getF (torn (putL y) (zer 256) k)).2 = 0
  · refine Or.inl ?_
    rcases torn_gen y hy (zer 256) 0 (zer_length _) (by rw [zer_take 8 256 (by decide), dg_zero]) (by rw [zer_drop, dg_zero]) (by decide) (fun e => hy.1.1 e.symm) k hk hg with ⟨_, h2⟩ | ⟨_, h2⟩
    · rw [h2, get_blank] at hg; cases hg
    · rw [h2, hy.get]
  · refine Or.inr ⟨hg, ?_, ?_⟩
    · rcases get_cases (torn (putL y) (zer 256) k) with h | h | h
      · exact absurd h hg
      · rw [h]
      · rw [h.1]
    · rcases Nat.lt_or_ge k 256 with h | h
      · exact h
      · obtain rfl : k = 256 := by omega
        rw [torn_all _ _ hy.len (zer_length _), hy.get] at hg
        exact absurd rfl hg
/-- Which counts. -/
def pickF (a b : List UInt8) : Rt × Int × Nat :=
  if (getF a).2 = 0 ∧ ((getF b).2 ≠ 0 ∨ (getF b).1.e ≤ (getF a).1.e) then ((getF a).1, 0, 0)
  else if (getF b).2 = 0 then ((getF b).1, 1, 0)
  else if (getF a).2 = 9 ∨ (getF b).2 = 9 then (zeroR, -1, 9)
  else (zeroR, -1, 29)
def nextR (r : Rt) : Rt := ⟨(r.e + 1) % 18446744073709551616, r.n, r.cs⟩
def nextW (which : Int) : Int := if which = 1 ∨ which = -1 then 0 else 1
theorem good_next (r : Rt) (h : Good r) (he : r.e < 18446744073709551615) : Good (nextR r) ∧ (nextR r).e = r.e + 1 := by
  have e1 : (nextR r).e = r.e + 1 := Nat.mod_eq_of_lt (by omega)
  refine ⟨⟨⟨by rw [e1]; omega, h.1.2.1, h.1.2.2.1, h.1.2.2.2⟩, h.2.1, by rw [e1]; omega⟩, e1⟩
/-- The next root over an elder one, or over noughts, in part: what the sector is. -/
theorem torn_over (x y : Rt) (b : List UInt8) (hx : Good x) (he : x.e < 18446744073709551615) (hb : b = zer 256 ∨ (Good y ∧ y.e < x.e ∧ b = putL y)) (k : Nat) (hk : k ≤ 256) :
    getF (torn (putL (nextR x)) b k) = (nextR x, 0) ∨ (k < 256 ∧ ((getF (torn (putL (nextR x)) b k)).2 ≠ 0 ∨ (getF (torn (putL (nextR x)) b k)).1.e < x.e)) := by
  obtain ⟨hn, hne⟩ := good_next x hx he
  rcases hb with rfl | ⟨hy, hlt, rfl⟩
  · rcases torn_blank (nextR x) hn k hk with h | ⟨h1, _, h3⟩
    · exact Or.inl h
    · exact Or.inr ⟨h3, Or.inl h1⟩
  · by_cases hg : (getF (torn (putL (nextR x)) (putL y) k)).2 = 0
    · rcases torn_roots y (nextR x) hy hn (by omega) k hk hg with ⟨h1, h2⟩ | ⟨_, h2⟩
      · exact Or.inr ⟨by omega, Or.inr (by rw [h2]; exact hlt)⟩
      · exact Or.inl (Prod.ext h2 hg)
    · refine Or.inr ⟨?_, Or.inl hg⟩
      rcases Nat.lt_or_ge k 256 with h | h
      · exact h
      · obtain rfl : k = 256 := by omega
        rw [torn_all _ _ hn.len hy.len, hn.get] at hg
        exact absurd rfl hg
/-- What is picked then: the one that counted is in the first sector. -/
theorem pick_over0 (x y : Rt) (b : List UInt8) (hx : Good x) (he : x.e < 18446744073709551615) (hb : b = zer 256 ∨ (Good y ∧ y.e < x.e ∧ b = putL y)) (k : Nat) (hk : k ≤ 256) :
    pickF (putL x) (torn (putL (nextR x)) b k) = (nextR x, 1, 0) ∨ (k < 256 ∧ pickF (putL x) (torn (putL (nextR x)) b k) = (x, 0, 0)) := by
  obtain ⟨hn, hne⟩ := good_next x hx he
  rcases torn_over x y b hx he hb k hk with h | ⟨h1, h2⟩
  · refine Or.inl ?_
    unfold pickF
    rw [hx.get, h, if_neg (by intro ⟨_, h3⟩; rcases h3 with h3 | h3; exact h3 rfl; have h4 : (nextR x).e ≤ x.e := h3; omega), if_pos rfl]
  · refine Or.inr ⟨h1, ?_⟩
    unfold pickF
    rw [hx.get, if_pos ⟨rfl, by rcases h2 with h2 | h2; exact Or.inl h2; exact Or.inr (Nat.le_of_lt h2)⟩]
theorem pick_over1 (x y : Rt) (b : List UInt8) (hx : Good x) (he : x.e < 18446744073709551615) (hb : b = zer 256 ∨ (Good y ∧ y.e < x.e ∧ b = putL y)) (k : Nat) (hk : k ≤ 256) :
    pickF (torn (putL (nextR x)) b k) (putL x) = (nextR x, 0, 0) ∨ (k < 256 ∧ pickF (torn (putL (nextR x)) b k) (putL x) = (x, 1, 0)) := by
  obtain ⟨hn, hne⟩ := good_next x hx he
  rcases torn_over x y b hx he hb k hk with h | ⟨h1, h2⟩
  · refine Or.inl ?_
    unfold pickF
    rw [hx.get, h, if_pos ⟨rfl, Or.inr (show x.e ≤ (nextR x).e by omega)⟩]
  · refine Or.inr ⟨h1, ?_⟩
    unfold pickF
    rw [hx.get, if_neg (by intro ⟨h3, h4⟩; rcases h4 with h4 | h4; exact h4 rfl; rcases h2 with h2 | h2; exact h2 h3; have h5 : x.e ≤ (getF (torn (putL (nextR x)) b k)).1.e := h4; omega), if_pos rfl]
theorem pick_first (u : Rt) (hu : Good u) (k : Nat) (hk : k ≤ 256) :
    pickF (torn (putL u) (zer 256) k) (zer 256) = (u, 0, 0) ∨ (k < 256 ∧ pickF (torn (putL u) (zer 256) k) (zer 256) = (zeroR, -1, 9)) := by
  rcases torn_blank u hu k hk with h | ⟨h1, _, h3⟩
  · refine Or.inl ?_
    unfold pickF
    rw [h, get_blank, if_pos ⟨rfl, Or.inl (by decide)⟩]
  · refine Or.inr ⟨h3, ?_⟩
    unfold pickF
    rw [get_blank, if_neg (fun h => h1 h.1), if_neg (by decide), if_pos (Or.inr rfl)]
end Go.Proofs.YtliiooldlooagaaGreatDoor.R8
