/-
  What is left of a disk's sectors when the power went, which sectors are marked as used, and which root counts, as plain mathematics; conditions: those that each law states.
-/
import Derived.Test.YtliiooldlooagaaGreatDoorZD5
import Derived.Test.YtliiooldlooagaaGreatDoorZM2
import Derived.Test.YtliiooldlooagaaGreatDoorZR1
set_option linter.unusedSimpArgs false
set_option linter.unusedVariables false
namespace Go.Proofs.YtliiooldlooagaaGreatDoor.J10
open Go.RowKit
/-- What stands in a sector. -/
def secAt (ss : List ByteArray) (k : Nat) : ByteArray := ss.getD k D5.noS
def bytesAt (ss : List ByteArray) (k : Nat) : List UInt8 := (secAt ss k).data.toList
theorem secAt_set (ss : List ByteArray) (i k : Nat) (d : ByteArray) (hi : i < ss.length) : secAt (ss.set i d) k = if i = k then d else secAt ss k := by
  unfold secAt
  rw [List.getD_eq_getElem?_getD, List.getD_eq_getElem?_getD, List.getElem?_set]
  split
  · rename_i e; subst e; simp [hi]
  · rfl
theorem secAt_set_off (ss : List ByteArray) (i k : Nat) (d : ByteArray) (h : i ≠ k) : secAt (ss.set i d) k = secAt ss k := by
  unfold secAt
  rw [List.getD_eq_getElem?_getD, List.getD_eq_getElem?_getD, List.getElem?_set, if_neg h]
theorem secAt_size {ss : List ByteArray} (h : D5.Whole256 ss) {k : Nat} (hk : k < ss.length) : (secAt ss k).size = 256 := by
  unfold secAt
  rw [List.getD_eq_getElem?_getD, List.getElem?_eq_getElem hk]
  exact h _ (List.getElem_mem hk)
theorem step_off (ws : List (Int × ByteArray)) (t a : Int) (ss : List ByteArray) (i k : Nat) (h : ∀ x ∈ ws, x.1 ≠ (k : Int)) : secAt (D5.stepW ws t a ss i) k = secAt ss k := by
  unfold D5.stepW
  split
  · rfl
  · rename_i x hx
    split
    · rename_i hf
      have hm := h x (List.mem_of_getElem? hx)
      unfold D5.fitsB at hf
      simp only [Bool.and_eq_true, decide_eq_true_eq] at hf
      exact secAt_set_off _ _ _ _ (by omega)
    · rfl
theorem fold_off (ws : List (Int × ByteArray)) (t a : Int) (k : Nat) (h : ∀ x ∈ ws, x.1 ≠ (k : Int)) : ∀ (is : List Nat) (ss : List ByteArray), secAt (D5.foldW ws t a ss is) k = secAt ss k := by
  intro is
  induction is with
  | nil => intro ss; rfl
  | cons i is ih =>
    intro ss
    show secAt (D5.foldW ws t a (D5.stepW ws t a ss i) is) k = _
    rw [ih, step_off ws t a ss i k h]
/-- A sector to which no write waits stays as it is, whatever comes. -/
theorem boot_off (s : D5.St) (cs : List UInt8) (k : Nat) (h : ∀ x ∈ s.pend, x.1 ≠ (k : Int)) : secAt (D5.bootS s cs).secs k = secAt s.secs k := fold_off _ _ _ k h _ _
theorem cut_bytes (d had : ByteArray) (a : Int) (hd : d.size = 256) (hh : had.size = 256) : ∃ k, k ≤ 256 ∧ (D5.cutS d a had).data.toList = R8.torn d.data.toList had.data.toList k := by
  refine ⟨min (D5.clampN a) 256, Nat.min_le_right _ _, ?_⟩
  unfold D5.cutS R8.torn
  have h1 : d.data.toList.length = 256 := by rw [Array.length_toList]; exact hd
  have h2 : had.data.toList.length = 256 := by rw [Array.length_toList]; exact hh
  simp only [ByteArray.data_append, ByteArray.data_extract, Array.toList_append, Array.toList_extract, List.extract_eq_take_drop, List.drop_zero, Nat.sub_zero]
  congr 1
  · rcases Nat.le_total (D5.clampN a) 256 with h | h
    · rw [Nat.min_eq_left h]
    · rw [Nat.min_eq_right h, List.take_of_length_le (by omega), List.take_of_length_le (by omega)]
  · rcases Nat.le_total (D5.clampN a) 256 with h | h
    · rw [Nat.min_eq_left h, List.take_of_length_le (by rw [List.length_drop]; omega)]
    · rw [Nat.min_eq_right h, List.take_of_length_le (by rw [List.length_drop]; omega), List.drop_of_length_le (by omega), List.drop_of_length_le (by omega)]
/-- Where one write waits: its first bytes came, or none, or all. -/
theorem boot_one (s : D5.St) (cs : List UInt8) (k : Nat) (d : ByteArray) (hp : s.pend = [((k : Int), d)]) (hk : k < s.secs.length) (hw : D5.Whole256 s.secs) (hd : d.size = 256) :
    ∃ n, n ≤ 256 ∧ bytesAt (D5.bootS s cs).secs k = R8.torn d.data.toList (bytesAt s.secs k) n := by
  have h1 : d.data.toList.length = 256 := by rw [Array.length_toList]; exact hd
  have hs := secAt_size hw hk
  have h2 : (bytesAt s.secs k).length = 256 := by unfold bytesAt; rw [Array.length_toList]; exact hs
  unfold bytesAt at h2 ⊢
  unfold D5.bootS D5.afterF
  rw [hp]
  generalize D5.tornF cs _ = t
  generalize D5.atF cs _ = a
  generalize hb : D5.cameF cs _ = b
  have hl : b.length = 1 := by rw [← hb]; unfold D5.cameF D5.manyN; simp
  rw [hl]
  have hc : D5.cameTo b 1 = if b.getD 0 false = true then [0] else [] := by
    unfold D5.cameTo
    rw [List.range_one, List.filter_cons]
    rfl
  rw [hc]
  have hf : D5.fitsB (k : Int) d s.secs.length = true := by unfold D5.fitsB; simp [hk, hd]
  split
  · show ∃ n, n ≤ 256 ∧ (secAt (D5.stepW [((k : Int), d)] t a s.secs 0) k).data.toList = _
    have e : D5.stepW [((k : Int), d)] t a s.secs 0 = s.secs.set k (if (0 : Int) = t then D5.cutS d a (s.secs.getD k D5.noS) else d) := by
      rw [D5.stepW_yes _ _ _ _ _ _ rfl hf]; simp
    rw [e, secAt_set _ _ _ _ hk, if_pos rfl]
    split
    · exact cut_bytes d _ a hd hs
    · exact ⟨256, Nat.le_refl _, (R8.torn_all _ _ h1 h2).symm⟩
  · exact ⟨0, by omega, (R8.torn_zero _ _).symm⟩
theorem boot_none (s : D5.St) (cs : List UInt8) (h : s.pend = []) (k : Nat) : secAt (D5.bootS s cs).secs k = secAt s.secs k := boot_off s cs k (by rw [h]; intro x hx; cases hx)
/-- What lasts behind a Barrier. -/
theorem laid_off (k : Nat) : ∀ (l : List (Int × ByteArray)) (ss : List ByteArray), (∀ x ∈ l, ∃ m : Nat, x.1 = m ∧ m ≠ k) → secAt (D5.laidF l ss) k = secAt ss k := by
  intro l
  induction l with
  | nil => intro ss _; rfl
  | cons x l ih =>
    intro ss h
    show secAt (D5.laidF l (ss.set x.1.toNat x.2)) k = _
    rw [ih _ (fun y hy => h y (List.mem_cons_of_mem _ hy))]
    obtain ⟨m, e, hm⟩ := h x (List.mem_cons_self ..)
    rw [e, Int.toNat_natCast, secAt_set_off _ _ _ _ hm]
theorem laid_on (k : Nat) (d : ByteArray) : ∀ (l : List (Int × ByteArray)) (ss : List ByteArray), k < ss.length → (∀ x ∈ l, ∃ m : Nat, x.1 = m) → (l.map (·.1)).Nodup → ((k : Int), d) ∈ l → secAt (D5.laidF l ss) k = d := by
  intro l
  induction l with
  | nil => intro ss _ _ _ h; cases h
  | cons x l ih =>
    intro ss hk hn hd hm
    show secAt (D5.laidF l (ss.set x.1.toNat x.2)) k = _
    rw [List.map_cons, List.nodup_cons] at hd
    rcases List.mem_cons.1 hm with e | hm
    · subst e
      rw [laid_off k l, Int.toNat_natCast, secAt_set _ _ _ _ hk, if_pos rfl]
      intro y hy
      obtain ⟨m, e⟩ := hn y (List.mem_cons_of_mem _ hy)
      refine ⟨m, e, fun e2 => hd.1 ?_⟩
      rw [e2] at e
      exact List.mem_map.2 ⟨y, hy, e⟩
    · exact ih _ (by rw [List.length_set]; exact hk) (fun y hy => hn y (List.mem_cons_of_mem _ hy)) hd.2 hm
/-- The things of a list are marked. -/
def marks (n : Nat) (L : List Nat) : List Bool := (List.range n).map fun k => decide (k ∈ L)
theorem marks_length (n : Nat) (L : List Nat) : (marks n L).length = n := by unfold marks; simp
theorem marks_get (n : Nat) (L : List Nat) (k : Nat) : (marks n L).getD k false = decide (k < n ∧ k ∈ L) := by
  unfold marks
  rw [List.getD_eq_getElem?_getD, List.getElem?_map]
  by_cases h : k < n
  · rw [List.getElem?_range h]; simp [h]
  · rw [List.getElem?_eq_none (by simp; omega)]; simp [h]
theorem marks_nil (n : Nat) : List.replicate n false = marks n [] := by
  apply List.ext_getElem?
  intro i
  unfold marks
  rw [List.getElem?_map, List.getElem?_replicate]
  by_cases h : i < n
  · rw [List.getElem?_range h]; simp [h]
  · rw [List.getElem?_eq_none (by simp; omega)]; simp [h]
theorem ext_bool {a b : List Bool} (hl : a.length = b.length) (h : ∀ k, k < a.length → a.getD k false = b.getD k false) : a = b := by
  apply List.ext_getElem hl
  intro i h1 h2
  have := h i h1
  rw [List.getD_eq_getElem?_getD, List.getD_eq_getElem?_getD, List.getElem?_eq_getElem h1, List.getElem?_eq_getElem h2] at this
  exact this
theorem marks_set (n : Nat) (L : List Nat) (k : Nat) (hk : k < n) : (marks n L).set k true = marks n (L ++ [k]) := by
  refine ext_bool (by simp [marks_length]) fun i hi => ?_
  rw [List.length_set, marks_length] at hi
  rw [M6.getD_set _ _ _ _ (by rw [marks_length]; exact hk), marks_get, marks_get]
  by_cases e : i = k
  · subst e; simp [hk]
  · rw [if_neg e]; simp [e]
theorem marks_use (n : Nat) (L : List Nat) (k : Nat) (hk : k < n) (h : k ∉ L) : M6.useE (marks n L) (k : Int) = 0 ∧ M6.useS (marks n L) (k : Int) = marks n (L ++ [k]) := by
  have h1 : M6.lackE (marks n L) (k : Int) = 0 := M6.lackE_nat (by rw [marks_length]; exact hk)
  have h2 : M6.useE (marks n L) (k : Int) = 0 := by
    unfold M6.useE
    rw [h1, M6.hasF_nat, marks_get]
    simp [h]
  refine ⟨h2, ?_⟩
  unfold M6.useS
  rw [if_pos h2, Int.toNat_natCast, marks_set n L k hk]
theorem marks_count (n : Nat) (L : List Nat) (hd : L.Nodup) (hn : ∀ x ∈ L, x < n) : (marks n L).count true = L.length := by
  unfold marks
  rw [List.count_eq_countP, List.countP_map, List.countP_eq_length_filter]
  have hp : ((List.range n).filter ((fun x => x == true) ∘ fun k => decide (k ∈ L))).Perm L := by
    refine (List.perm_ext_iff_of_nodup ?_ hd).2 ?_
    · exact List.Pairwise.filter _ List.nodup_range
    · intro a
      simp only [List.mem_filter, List.mem_range, Function.comp_apply, beq_true, decide_eq_true_eq]
      exact ⟨fun h => h.2, fun h => ⟨hn a h, h⟩⟩
  exact hp.length_eq
theorem left_marks (n : Nat) (L : List Nat) (hd : L.Nodup) (hn : ∀ x ∈ L, x < n) : M6.leftF (marks n L) + L.length = n := by
  have h1 := M6.count_both (marks n L)
  have h2 := marks_count n L hd hn
  rw [marks_length] at h1
  unfold M6.leftF
  omega
/-- Which root counts: a root's sector, beside one of an elder root's, of noughts, or of none. -/
theorem pick_first_old (x : R8.Rt) (b : List UInt8) (hx : R8.Good x) (hb : (R8.getF b).2 ≠ 0 ∨ (R8.getF b).1.e ≤ x.e) : R8.pickF (R8.putL x) b = (x, 0, 0) := by
  unfold R8.pickF
  rw [hx.get]
  simp [hb]
theorem pick_second_old (x : R8.Rt) (b : List UInt8) (hx : R8.Good x) (hb : (R8.getF b).2 ≠ 0 ∨ (R8.getF b).1.e < x.e) : R8.pickF b (R8.putL x) = (x, 1, 0) := by
  unfold R8.pickF
  rw [hx.get]
  rcases hb with h | h
  · simp [h]
  · rw [if_neg (by rintro ⟨_, h1 | h1⟩; exact h1 rfl; exact absurd (show x.e ≤ (R8.getF b).1.e from h1) (by omega))]; simp
theorem pick_first_new (x y : R8.Rt) (b : List UInt8) (hx : R8.Good x) (hy : R8.getF b = (y, 0)) (h : x.e < y.e) : R8.pickF (R8.putL x) b = (y, 1, 0) := by
  unfold R8.pickF
  rw [hx.get, hy]
  rw [if_neg (by rintro ⟨_, h1 | h1⟩; exact h1 rfl; simp at h1; omega)]; simp
theorem pick_second_new (x y : R8.Rt) (b : List UInt8) (hx : R8.Good x) (hy : R8.getF b = (y, 0)) (h : x.e ≤ y.e) : R8.pickF b (R8.putL x) = (y, 0, 0) := by
  unfold R8.pickF
  rw [hx.get, hy]
  simp [h]
end Go.Proofs.YtliiooldlooagaaGreatDoor.J10
