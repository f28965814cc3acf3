/-
  Plain mathematics of TableBack: what a change makes of pages and chunks, and what a table becomes into which chunks are loaded, over this seat's translation; conditions: those that each law states.
-/
import Derived.Test.YtfkkdhgggocgjaaDoorTs
namespace Go.Proofs.YtfkkdhgggocgjaaDoor
open Go.RowKit

/-- No page stands in sector 1. -/
def NoOne (P : List Nat) : Prop := ∀ x ∈ P, x ≠ 1
theorem noOne_new : NoOne newF.P := fun x h => by
  have := List.eq_of_mem_replicate (show x ∈ List.replicate 960 0 from h); omega
theorem noOne_set {P : List Nat} (h : NoOne P) (k v : Nat) (hv : v ≠ 1) : NoOne (P.set k v) := fun x hx => by
  rcases List.mem_or_eq_of_mem_set hx with h1 | h1
  · exact h x h1
  · rw [h1]; exact hv
theorem set_same_at {P : List Nat} {k v : Nat} (h : P.getD k 0 = v) : P.set k v = P := by
  refine List.ext_getElem? fun j => ?_
  rw [List.getElem?_set]
  split
  · rename_i e; subst e
    split
    · rename_i h2
      rw [List.getD_eq_getElem?_getD, List.getElem?_eq_getElem h2] at h
      rw [List.getElem?_eq_getElem h2, ← h]; rfl
    · rename_i h2
      exact (List.getElem?_eq_none (by omega)).symm
  · rfl
theorem putF_P (s : TB) (k v : Nat) : (putF s k v).P = s.P.set k v := by
  unfold putF
  split
  · rename_i h; exact (set_same_at h).symm
  · rfl
def textB (P : List Nat) (i : Nat) : ByteArray := ⟨(chunkF P (i : Nat)).toArray⟩
theorem textB_is (P : List Nat) {i : Nat} (h : i < 8) : textB P i = ⟨(chunkB P i).toArray⟩ := by
  unfold textB chunkF; rw [if_pos ⟨by omega, by omega⟩, Int.toNat_natCast]
/-- A chunk's text is of its own pages. -/
theorem chunkB_set (P : List Nat) (k v i : Nat) (h : k / 120 ≠ i) : chunkB (P.set k v) i = chunkB P i := by
  unfold chunkB chunkTo
  congr 1
  refine List.ext_getElem? fun j => ?_
  rw [List.getElem?_take, List.getElem?_take]
  split
  · rw [List.getElem?_drop, List.getElem?_drop, List.getElem?_set, if_neg (by omega)]
  · rfl
/-- Each chunk that is not dirty has the text that is kept of it. -/
def CI (s : TB) (C : List ByteArray) : Prop := C.length = 8 ∧ ∀ i, i < 8 → s.D.getD i false = false → C.getD i ⟨#[]⟩ = textB s.P i
theorem getD_set_off {D : List Bool} {a i : Nat} (hl : a < D.length) (h : (D.set a true).getD i false = false) : a ≠ i ∧ D.getD i false = false := by
  rw [List.getD_eq_getElem?_getD, List.getElem?_set] at h
  by_cases e : a = i
  · rw [if_pos e, if_pos hl] at h; cases h
  · rw [if_neg e] at h; exact ⟨e, by rw [List.getD_eq_getElem?_getD]; exact h⟩
theorem ci_put {s : TB} {C : List ByteArray} (hf : s.Fit) (h : CI s C) (k v : Nat) (hk : k < 960) : CI (putF s k v) C := by
  refine ⟨h.1, fun i hi hd => ?_⟩
  by_cases e : s.P.getD k 0 = v
  · have : putF s k v = s := if_pos e
    rw [this] at hd ⊢
    exact h.2 i hi hd
  · have : putF s k v = ⟨s.P.set k v, s.D.set (k / 120) true⟩ := if_neg e
    rw [this] at hd ⊢
    obtain ⟨h1, h2⟩ := getD_set_off (by rw [hf.2.1]; omega) hd
    rw [h.2 i hi h2, textB_is _ hi, textB_is _ hi, chunkB_set _ _ _ _ h1]
theorem flat_at : ∀ (l : List Nat) (k : Nat), k < l.length → ((l.flatMap fun n => digits n 2).drop (2 * k)).take 2 = digits (l.getD k 0) 2
  | [], k, h => absurd h (Nat.not_lt_zero k)
  | n :: l, 0, _ => by
    rw [List.flatMap_cons, Nat.mul_zero, List.drop_zero, List.take_append_of_le_length (by rw [digits_length]; omega), List.take_of_length_le (by rw [digits_length]; omega)]; rfl
  | n :: l, k + 1, h => by
    have ih := flat_at l k (by simpa using h)
    rw [List.flatMap_cons, List.drop_append, digits_length, List.drop_of_length_le (l := digits n 2) (by rw [digits_length]; omega), List.nil_append, show 2 * (k + 1) - 2 = 2 * k by omega, ih]; rfl
theorem nat8_two (n : Nat) (h : n < 65536) : nat8 (digits n 2) = n := by
  show ((0 * 256 + (UInt8.ofNat (n / 256 % 256)).toNat) * 256 + (UInt8.ofNat (n % 256)).toNat) = n
  simp only [UInt8.toNat_ofNat']
  omega
theorem textB_size {P : List Nat} (hP : P.length = 960) {i : Nat} (hi : i < 8) : (textB P i).size = 240 := by
  rw [textB_is P hi]
  show (chunkB P i).toArray.size = 240
  rw [List.size_toArray]
  unfold chunkB
  rw [chunkTo_length hP hi (by omega)]
theorem rowF_text {s : TB} (hf : s.Fit) {i : Nat} (hi : i < 8) : rowF (textB s.P i) = (s.P.drop (120 * i)).take 120 := by
  have hP := hf.1
  have hl : ((s.P.drop (120 * i)).take 120).length = 120 := by rw [List.length_take, List.length_drop]; omega
  refine List.ext_getElem (by rw [rowF_length, hl]) fun k h1 h2 => ?_
  have hk : k < 120 := by rw [rowF_length] at h1; exact h1
  have h3 := rowF_at (textB s.P i) hk
  rw [List.getD_eq_getElem?_getD, List.getElem?_eq_getElem h1, Option.getD_some] at h3
  rw [h3]
  have h4 := flat_at ((s.P.drop (120 * i)).take 120) k h2
  rw [List.getD_eq_getElem?_getD, List.getElem?_eq_getElem h2, Option.getD_some] at h4
  unfold valAt
  rw [textB_is s.P hi]
  have h5 : ((chunkB s.P i).drop (2 * k)).take 2 = digits (((s.P.drop (120 * i)).take 120)[k]) 2 := h4
  show nat8 (((chunkB s.P i).toArray.toList.drop (2 * k)).take 2) = _
  rw [show (chunkB s.P i).toArray.toList = chunkB s.P i from rfl, h5]
  refine nat8_two _ ?_
  have := hf.2.2 _ (List.mem_of_mem_drop (List.mem_of_mem_take (List.getElem_mem h2)))
  omega
theorem textC_text {s : TB} (hf : s.Fit) (hn : NoOne s.P) {i : Nat} (hi : i < 8) : textC (textB s.P i) = (0, 0) := by
  unfold textC
  rw [if_neg (fun h => h (textB_size hf.1 hi)), rowF_text hf hi]
  have hl : ((s.P.drop (120 * i)).take 120).length = 120 := by have := hf.1; rw [List.length_take, List.length_drop]; omega
  refine if_neg fun h => ?_
  refine badAt_none (l := (s.P.drop (120 * i)).take 120) (fun j hj => ?_) (by rw [hl]; exact h)
  rw [List.getD_eq_getElem?_getD, List.getElem?_eq_getElem hj, Option.getD_some]
  have hm := List.mem_of_mem_drop (List.mem_of_mem_take (List.getElem_mem hj))
  have h1 := hn _ hm
  have h2 := hf.2.2 _ hm
  generalize ((s.P.drop (120 * i)).take 120)[j] = x at h1 h2 ⊢
  unfold badB
  simp; omega
theorem loadC_text {s : TB} (hf : s.Fit) (hn : NoOne s.P) {i : Nat} (hi : i < 8) : (loadC (i : Nat) (textB s.P i)).1 = 0 := by
  unfold loadC
  rw [if_pos ⟨by omega, by omega⟩, textC_text hf hn hi]
/-- A new table, into which the first chunks were loaded. -/
def uF (P : List Nat) (i : Nat) : TB := ⟨P.take (120 * i) ++ nots (960 - 120 * i), offs 8⟩
theorem uF_zero (P : List Nat) : uF P 0 = newF := by unfold uF newF; simp
theorem uF_all {P : List Nat} (h : P.length = 960) : uF P 8 = ⟨P, offs 8⟩ := by
  unfold uF; rw [List.take_of_length_le (by omega)]; simp [nots]
theorem offs_set (i : Nat) : (offs 8).set i false = offs 8 := by
  refine List.ext_getElem? fun j => ?_
  rw [List.getElem?_set]
  split
  · rename_i e; subst e
    split
    · rename_i h; rw [List.getElem?_eq_getElem h, List.eq_of_mem_replicate (show (offs 8)[i] ∈ List.replicate 8 false from List.getElem_mem h)]
    · rename_i h; rw [List.getElem?_eq_none (by omega)]
  · rfl
theorem uF_load {s : TB} (hf : s.Fit) (hn : NoOne s.P) {i : Nat} (hi : i < 8) : loadF (uF s.P i) (i : Nat) (textB s.P i) = uF s.P (i + 1) := by
  have hP := hf.1
  unfold loadF
  rw [if_pos (loadC_text hf hn hi), Int.toNat_natCast, rowF_text hf hi]
  unfold offF layF uF
  have h1 : (s.P.take (120 * i)).length = 120 * i := by rw [List.length_take]; omega
  congr 1
  · show (s.P.take (120 * i) ++ nots (960 - 120 * i)).take (120 * i) ++ (s.P.drop (120 * i)).take 120 ++ (s.P.take (120 * i) ++ nots (960 - 120 * i)).drop (120 * i + 120) = _
    rw [List.take_append_of_le_length (by omega), List.take_of_length_le (l := s.P.take (120 * i)) (by omega)]
    rw [List.drop_append, List.drop_of_length_le (l := s.P.take (120 * i)) (by omega), List.nil_append, h1]
    rw [show 120 * (i + 1) = 120 * i + 120 by omega, List.take_add]
    congr 1
    unfold nots
    rw [List.drop_replicate]; congr 1; omega
  · exact offs_set i
/-- What is left where the first pages are dropped. -/
def oF (P : List Nat) (k : Nat) : List Nat := nots k ++ P.drop k
theorem oF_zero (P : List Nat) : oF P 0 = P := by unfold oF; simp [nots]
theorem oF_all {P : List Nat} (h : P.length = 960) : oF P 960 = nots 960 := by unfold oF; rw [List.drop_of_length_le (by omega), List.append_nil]
theorem oF_set {P : List Nat} (h : P.length = 960) {k : Nat} (hk : k < 960) : (oF P k).set k 0 = oF P (k + 1) := by
  unfold oF
  rw [List.set_append_right _ _ (by rw [nots_length]; exact Nat.le_refl _), nots_length, Nat.sub_self, List.drop_eq_getElem_cons (show k < P.length by omega), List.set_cons_zero]
  unfold nots
  rw [List.replicate_succ', List.append_assoc]; rfl
theorem dropF_P (s : TB) (k : Nat) (hk : k < 960) : (dropF s ((k : Int) + 1)).P = s.P.set k 0 := by
  unfold dropF
  rw [getF_nat s k hk]
  split
  · rename_i h; exact (set_same_at h).symm
  · rw [putF_P]; congr 1; omega
theorem dropF_put (s : TB) (k : Nat) (hk : k < 960) : dropF s ((k : Int) + 1) = putF s k 0 := by
  unfold dropF
  rw [getF_nat s k hk]
  split
  · rename_i h; exact (if_pos h).symm
  · congr 1; omega
theorem setF_put (s : TB) (k v : Nat) (hk : k < 960) (h1 : 2 ≤ v) (h2 : v ≤ 1023) : setF s ((k : Int) + 1) (v : Nat) = putF s k v := by
  unfold setF
  rw [if_pos ⟨⟨by omega, by omega⟩, ⟨by omega, by omega⟩⟩]
  congr 1; omega
theorem oF_at {P : List Nat} {k : Nat} : (oF P (k + 1)).getD k 0 = 0 := by
  unfold oF
  rw [List.getD_eq_getElem?_getD, List.getElem?_append_left (by rw [nots_length]; omega), ← List.getD_eq_getElem?_getD]
  exact nots_get _ _
theorem secs_nots (n : Nat) : secsF (nots n) = [] := by
  unfold secsF nots; rw [List.filter_replicate]; simp
theorem dirty_offs : dirtyF (offs 8) = [] := by decide +kernel
theorem mem_dirty {D : List Bool} {i : Nat} (hi : i < 8) : i ∈ dirtyF D ↔ D.getD i false = true := by
  unfold dirtyF; rw [List.mem_filter, List.mem_range]; exact ⟨fun h => h.2, fun h => ⟨hi, h⟩⟩
theorem texts_more {C : List ByteArray} {P : List Nat} {k : Nat} (hl : C.length = 8) (hk : k < 8) (h : ∀ j, j < k → C.getD j ⟨#[]⟩ = textB P j) : ∀ j, j < k + 1 → (C.set k (textB P k)).getD j ⟨#[]⟩ = textB P j := by
  intro j hj
  rw [List.getD_eq_getElem?_getD, List.getElem?_set]
  by_cases e : k = j
  · subst e; rw [if_pos rfl, if_pos (by omega)]; rfl
  · rw [if_neg e, ← List.getD_eq_getElem?_getD]; exact h j (by omega)
end Go.Proofs.YtfkkdhgggocgjaaDoor

