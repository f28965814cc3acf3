/-
  Texts of one layer, one behind the other, each with its own sentence; conditions: those that each law states.
-/
import Derived.Test.YtliiooldlooagaaGreatDoorZC2
import Derived.Test.YtliiooldlooagaaGreatDoorZJ1
import Derived.Test.YtliiooldlooagaaGreatDoorZT4
set_option linter.unusedSimpArgs false
set_option linter.unusedVariables false

/-
  What a store is, and what a transaction has, as plain mathematics: which sectors are used, what stands in them, and what each call makes of it; conditions: those that each law states.
-/
namespace Go.Proofs.YtliiooldlooagaaGreatDoor.J10
open Go.RowKit
/-- A sealed sector. -/
def sealB (k : Nat) (b : ByteArray) : ByteArray := ⟨(C7.sealF k b.data.toList).toArray⟩
theorem sealB_size (k : Nat) (b : ByteArray) (h : b.size ≤ 240) : (sealB k b).size = 256 := by
  have hl : b.data.toList.length ≤ 250 := by rw [Array.length_toList]; exact Nat.le_trans h (by omega)
  unfold sealB
  show (C7.sealF k b.data.toList).toArray.size = 256
  rw [List.size_toArray]
  exact C7.sealF_length k b.data.toList hl
/-- Pages with their kinds and bodies; texts with their sectors. -/
abbrev Pgs := Int → Option (Nat × ByteArray)
def upd (f : Pgs) (p : Int) (v : Nat × ByteArray) : Pgs := fun q => if q = p then some v else f q
def del (f : Pgs) (p : Int) : Pgs := fun q => if q = p then none else f q
theorem upd_same (f : Pgs) (p : Int) (v : Nat × ByteArray) : upd f p v p = some v := if_pos rfl
theorem upd_off (f : Pgs) {p q : Int} (v : Nat × ByteArray) (h : q ≠ p) : upd f p v q = f q := if_neg h
theorem del_same (f : Pgs) (p : Int) : del f p p = none := if_pos rfl
theorem del_off (f : Pgs) {p q : Int} (h : q ≠ p) : del f p q = f q := if_neg h
/-- The sector of a chunk. -/
def cN (cs : List Int) (i : Nat) : Nat := (cs.getD i 0).toNat
def chunkL (cs : List Int) : List Nat := (cs.map Int.toNat).filter (· != 0)
/-- The sectors that are used. -/
def usedL (cs : List Int) (P : List Nat) : List Nat := T9.secsF P ++ ([0, 1] ++ chunkL cs)
def Dist (P : List Nat) : Prop := ∀ i j, i < P.length → j < P.length → i ≠ j → P.getD i 0 ≠ 0 → P.getD i 0 ≠ P.getD j 0
theorem getD_lt {l : List Nat} {i : Nat} (h : i < l.length) : l.getD i 0 = l[i] := by rw [List.getD_eq_getElem?_getD, List.getElem?_eq_getElem h]; rfl
theorem getD_ge {l : List Nat} {i : Nat} (h : l.length ≤ i) : l.getD i 0 = 0 := by rw [List.getD_eq_getElem?_getD, List.getElem?_eq_none h]; rfl
theorem dist_iff (P : List Nat) : (P.filter (· != 0)).Nodup ↔ Dist P := by
  unfold List.Nodup Dist
  rw [List.pairwise_filter, List.pairwise_iff_getElem]
  constructor
  · intro h i j hi hj hij h0 e
    rw [getD_lt hi, getD_lt hj] at e
    rw [getD_lt hi] at h0
    rcases Nat.lt_or_gt_of_ne hij with hl | hl
    · exact h i j hi hj hl (by simpa using h0) (by rw [← e]; simpa using h0) e
    · exact h j i hj hi hl (by rw [← e]; simpa using h0) (by simpa using h0) e.symm
  · intro h i j hi hj hij h0 _ e
    have := h i j hi hj (by omega)
    rw [getD_lt hi, getD_lt hj] at this
    exact this (by simpa using h0) e
theorem mem_nz {P : List Nat} {x : Nat} : x ∈ P.filter (· != 0) ↔ x ≠ 0 ∧ ∃ j, j < P.length ∧ P.getD j 0 = x := by
  rw [List.mem_filter]
  constructor
  · rintro ⟨h1, h2⟩
    obtain ⟨j, hj, e⟩ := List.getElem_of_mem h1
    exact ⟨by simpa using h2, j, hj, by rw [getD_lt hj]; exact e⟩
  · rintro ⟨h1, j, hj, e⟩
    rw [getD_lt hj] at e
    exact ⟨e ▸ List.getElem_mem hj, by simpa using h1⟩
theorem cN_map (cs : List Int) (i : Nat) : (cs.map Int.toNat).getD i 0 = cN cs i := by
  unfold cN
  rw [List.getD_eq_getElem?_getD, List.getElem?_map, List.getD_eq_getElem?_getD]
  cases cs[i]? <;> rfl
theorem mem_used {cs : List Int} {P : List Nat} {x : Nat} : x ∈ usedL cs P ↔ (x ≠ 0 ∧ ∃ j, j < P.length ∧ P.getD j 0 = x) ∨ x = 0 ∨ x = 1 ∨ (x ≠ 0 ∧ ∃ i, i < cs.length ∧ cN cs i = x) := by
  unfold usedL T9.secsF chunkL
  simp only [List.mem_append, mem_nz, List.mem_cons, List.not_mem_nil, or_false, List.length_map, cN_map, or_assoc]
/-- Chunks' and pages' sectors are all unlike, and none is a root's. -/
def Apart (cs : List Int) (P : List Nat) : Prop :=
  Dist P ∧ Dist (cs.map Int.toNat) ∧ (∀ j, j < P.length → P.getD j 0 ≠ 1) ∧ (∀ i, i < cs.length → cN cs i ≠ 1) ∧ ∀ j i, j < P.length → i < cs.length → P.getD j 0 ≠ 0 → P.getD j 0 ≠ cN cs i
theorem used_nodup (cs : List Int) (P : List Nat) : (usedL cs P).Nodup ↔ Apart cs P := by
  unfold usedL T9.secsF chunkL Apart
  rw [List.nodup_append, List.nodup_append, dist_iff, dist_iff]
  constructor
  · rintro ⟨h1, ⟨_, h2, h3⟩, h4⟩
    refine ⟨h1, h2, ?_, ?_, ?_⟩
    · intro j hj e
      exact h4 1 (mem_nz.2 ⟨by omega, j, hj, e⟩) 1 (by simp) rfl
    · intro i hi e
      exact h3 1 (by simp) 1 (mem_nz.2 ⟨by omega, i, by rw [List.length_map]; exact hi, by rw [cN_map]; exact e⟩) rfl
    · intro j i hj hi h0 e
      exact h4 _ (mem_nz.2 ⟨h0, j, hj, rfl⟩) _ (List.mem_append_right _ (mem_nz.2 ⟨h0, i, by rw [List.length_map]; exact hi, by rw [cN_map]; exact e.symm⟩)) rfl
  · rintro ⟨h1, h2, h3, h4, h5⟩
    refine ⟨h1, ⟨by decide, h2, ?_⟩, ?_⟩
    · intro a ha b hb e
      subst e
      obtain ⟨h0, i, hi, e⟩ := mem_nz.1 hb
      rw [List.length_map] at hi
      rw [cN_map] at e
      have ha' : a = 0 ∨ a = 1 := by simpa using ha
      rcases ha' with rfl | rfl
      · exact h0 rfl
      · exact h4 i hi e
    · intro a ha b hb e
      subst e
      obtain ⟨h0, j, hj, e⟩ := mem_nz.1 ha
      rcases List.mem_append.1 hb with hb | hb
      · have hb' : a = 0 ∨ a = 1 := by simpa using hb
        rcases hb' with rfl | rfl
        · exact h0 rfl
        · exact h3 j hj e
      · obtain ⟨_, i, hi, e2⟩ := mem_nz.1 hb
        rw [List.length_map] at hi
        rw [cN_map] at e2
        exact h5 j i hj hi (by rw [e]; exact h0) (by rw [e, e2])
/-- A page's sealed text. -/
def PageOk (V : Option (Nat × ByteArray)) (d : ByteArray) : Prop := ∃ k b, V = some (k, b) ∧ 1 ≤ k ∧ k ≤ 254 ∧ b.size ≤ 240 ∧ d = sealB k b
/-- What stands on a disk: chunks' sectors, table, used sectors, pages. -/
structure Sto (ss : List ByteArray) (cs : List Int) (t : T9.TB) (m : List Bool) (V : Pgs) : Prop where
  n1 : 64 ≤ ss.length
  n2 : ss.length ≤ 1024
  whole : D5.Whole256 ss
  fit : t.Fit
  offs : t.D = T9.offs 8
  len : cs.length = 8
  pos : ∀ i, i < 8 → 0 ≤ cs.getD i 0
  apart : Apart cs t.P
  inn : ∀ x ∈ usedL cs t.P, x < ss.length
  map : m = marks ss.length (usedL cs t.P)
  chunk : ∀ i, i < 8 → (cN cs i = 0 ∧ ∀ j, j < 960 → j / 120 = i → t.P.getD j 0 = 0) ∨ (cN cs i ≠ 0 ∧ (∃ j, j < 960 ∧ j / 120 = i ∧ t.P.getD j 0 ≠ 0) ∧ secAt ss (cN cs i) = sealB 255 (T9.textB t.P i))
  page : ∀ j : Nat, j < 960 → (t.P.getD j 0 = 0 ∧ V ((j : Int) + 1) = none) ∨ (t.P.getD j 0 ≠ 0 ∧ PageOk (V ((j : Int) + 1)) (secAt ss (t.P.getD j 0)))
  outV : ∀ p, ¬ T9.IsPage p → V p = none
/-- The sectors that are not roots' decide. -/
theorem Sto.frame {ss ss' : List ByteArray} {cs : List Int} {t : T9.TB} {m : List Bool} {V : Pgs} (h : Sto ss cs t m V) (hl : ss'.length = ss.length) (hw : D5.Whole256 ss') (he : ∀ k, 2 ≤ k → m.getD k false = true → secAt ss' k = secAt ss k) : Sto ss' cs t m V := by
  have hu : ∀ x, x ∈ usedL cs t.P → 2 ≤ x → secAt ss' x = secAt ss x := fun x hx h2 => he x h2 (by rw [h.map, marks_get]; exact decide_eq_true ⟨h.inn x hx, hx⟩)
  refine ⟨by rw [hl]; exact h.n1, by rw [hl]; exact h.n2, hw, h.fit, h.offs, h.len, h.pos, h.apart, by rw [hl]; exact h.inn, by rw [hl]; exact h.map, ?_, ?_, h.outV⟩
  · intro i hi
    rcases h.chunk i hi with h1 | ⟨h1, h2, h3⟩
    · exact .inl h1
    · refine .inr ⟨h1, h2, ?_⟩
      have h4 := h.apart.2.2.2.1 i (by rw [h.len]; exact hi)
      rw [hu _ (mem_used.2 (.inr (.inr (.inr ⟨h1, i, by rw [h.len]; exact hi, rfl⟩)))) (by omega)]
      exact h3
  · intro j hj
    rcases h.page j hj with h1 | ⟨h1, h2⟩
    · exact .inl h1
    · refine .inr ⟨h1, ?_⟩
      have hj' : j < t.P.length := by rw [h.fit.1]; exact hj
      have h4 := h.apart.2.2.1 j hj'
      rw [hu _ (mem_used.2 (.inl ⟨h1, j, hj', rfl⟩)) (by omega)]
      exact h2
theorem Sto.mget {ss : List ByteArray} {cs : List Int} {t : T9.TB} {m : List Bool} {V : Pgs} (h : Sto ss cs t m V) (k : Nat) : m.getD k false = true ↔ k ∈ usedL cs t.P := by
  rw [h.map, marks_get, decide_eq_true_eq]
  exact ⟨fun h1 => h1.2, fun h1 => ⟨h.inn k h1, h1⟩⟩
theorem Sto.mlen {ss : List ByteArray} {cs : List Int} {t : T9.TB} {m : List Bool} {V : Pgs} (h : Sto ss cs t m V) : m.length = ss.length := by rw [h.map, marks_length]
theorem Sto.m01 {ss : List ByteArray} {cs : List Int} {t : T9.TB} {m : List Bool} {V : Pgs} (h : Sto ss cs t m V) : m.getD 0 false = true ∧ m.getD 1 false = true := ⟨(h.mget 0).2 (mem_used.2 (.inr (.inl rfl))), (h.mget 1).2 (mem_used.2 (.inr (.inr (.inl rfl))))⟩
theorem Sto.mpage {ss : List ByteArray} {cs : List Int} {t : T9.TB} {m : List Bool} {V : Pgs} (h : Sto ss cs t m V) {j : Nat} (hj : j < 960) (h0 : t.P.getD j 0 ≠ 0) : m.getD (t.P.getD j 0) false = true ∧ t.P.getD j 0 < ss.length ∧ 2 ≤ t.P.getD j 0 := by
  have hj' : j < t.P.length := by rw [h.fit.1]; exact hj
  have hu : t.P.getD j 0 ∈ usedL cs t.P := mem_used.2 (.inl ⟨h0, j, hj', rfl⟩)
  have h4 := h.apart.2.2.1 j hj'
  exact ⟨(h.mget _).2 hu, h.inn _ hu, by omega⟩
/-- A transaction: its table, the sectors that are not free for it, its texts; and what its pages are. -/
structure Txi (n : Nat) (t : T9.TB) (m : List Bool) (V : Pgs) (T : T9.TB) (M : List Bool) (X V' : Pgs) : Prop where
  fit : T.Fit
  len : M.length = n
  outX : ∀ p, ¬ T9.IsPage p → X p = none
  outV : ∀ p, ¬ T9.IsPage p → V' p = none
  page : ∀ j : Nat, j < 960 → (∃ s d, X ((j : Int) + 1) = some (s, d) ∧ T.P.getD j 0 = s ∧ 2 ≤ s ∧ s < n ∧ m.getD s false = false ∧ PageOk (V' ((j : Int) + 1)) d) ∨
    (X ((j : Int) + 1) = none ∧ T.P.getD j 0 = 0 ∧ V' ((j : Int) + 1) = none) ∨
    (X ((j : Int) + 1) = none ∧ T.P.getD j 0 ≠ 0 ∧ T.P.getD j 0 = t.P.getD j 0 ∧ V' ((j : Int) + 1) = V ((j : Int) + 1))
  inj : ∀ p q s d d', X p = some (s, d) → X q = some (s, d') → p = q
  mark : ∀ k, k < n → (M.getD k false = true ↔ m.getD k false = true ∨ ∃ p d, X p = some (k, d))
  clean : ∀ i, i < 8 → T.D.getD i false = false → ∀ j : Nat, j < 960 → j / 120 = i → T.P.getD j 0 = t.P.getD j 0 ∧ X ((j : Int) + 1) = none
theorem isPage_nat {j : Nat} (h : j < 960) : T9.IsPage ((j : Int) + 1) := ⟨by omega, by omega⟩
theorem isPage_cases {p : Int} (h : T9.IsPage p) : ∃ j : Nat, j < 960 ∧ p = (j : Int) + 1 := ⟨(p - 1).toNat, by have := h.1; have := h.2; omega, by have := h.1; omega⟩
/-- The new transaction. -/
theorem Txi.new {ss : List ByteArray} {cs : List Int} {t : T9.TB} {m : List Bool} {V : Pgs} (h : Sto ss cs t m V) : Txi ss.length t m V t m (fun _ => none) V := by
  refine ⟨h.fit, h.mlen, fun _ _ => rfl, h.outV, ?_, (fun p q s d d' e => by cases e), ?_, ?_⟩
  · intro j hj
    rcases h.page j hj with ⟨h1, h2⟩ | ⟨h1, _⟩
    · exact .inr (.inl ⟨rfl, h1, h2⟩)
    · exact .inr (.inr ⟨rfl, h1, rfl, rfl⟩)
  · intro k _
    exact ⟨fun h1 => .inl h1, fun h1 => h1.elim id (fun ⟨_, _, e⟩ => by cases e)⟩
  · intro i _ _ j _ _
    exact ⟨rfl, rfl⟩
section
variable {ss : List ByteArray} {cs : List Int} {t : T9.TB} {m : List Bool} {V : Pgs} {T : T9.TB} {M : List Bool} {X V' : Pgs}
theorem getD_setN (l : List Nat) (i j v : Nat) (hi : i < l.length) : (l.set i v).getD j 0 = if i = j then v else l.getD j 0 := by
  rw [List.getD_eq_getElem?_getD, List.getD_eq_getElem?_getD, List.getElem?_set]
  split
  · rename_i e; subst e; simp [hi]
  · rfl
theorem getD_setB (l : List Bool) (i j : Nat) (v : Bool) (hi : i < l.length) : (l.set i v).getD j false = if i = j then v else l.getD j false := by
  rw [List.getD_eq_getElem?_getD, List.getD_eq_getElem?_getD, List.getElem?_set]
  split
  · rename_i e; subst e; simp [hi]
  · rfl
/-- The lowest free sector. -/
theorem Txi.low (hs : Sto ss cs t m V) (h : Txi ss.length t m V T M X V') (hk : M6.nextF M 0 false < M.length) :
    M.getD (M6.nextF M 0 false) false = false ∧ m.getD (M6.nextF M 0 false) false = false ∧ 2 ≤ M6.nextF M 0 false ∧ M6.nextF M 0 false < ss.length ∧ ∀ p d, X p ≠ some (M6.nextF M 0 false, d) := by
  have h1 := (M6.nextF_spec M 0 false (Nat.zero_le _)).2.2.2 hk
  generalize M6.nextF M 0 false = k at *
  have hk' : k < ss.length := by rw [← h.len]; exact hk
  have h2 := h.mark k hk'
  have hm : m.getD k false = false := by
    cases hb : m.getD k false
    · rfl
    · rw [h2.2 (.inl hb)] at h1; cases h1
  refine ⟨h1, hm, ?_, hk', ?_⟩
  · obtain ⟨a, b⟩ := hs.m01
    rcases k with _ | _ | k
    · rw [a] at hm; cases hm
    · rw [b] at hm; cases hm
    · omega
  · intro p d e
    rw [h2.2 (.inr ⟨p, d, e⟩)] at h1
    cases h1
/-- A page's first text. -/
theorem Txi.putNew (hs : Sto ss cs t m V) (h : Txi ss.length t m V T M X V') {j : Nat} (hj : j < 960) (hX : X ((j : Int) + 1) = none) (hk : M6.nextF M 0 false < M.length) {d : ByteArray} {v : Nat × ByteArray} (hd : PageOk (some v) d) :
    Txi ss.length t m V (T9.setF T ((j : Int) + 1) (M6.nextF M 0 false : Nat)) (M6.takeS M) (upd X ((j : Int) + 1) (M6.nextF M 0 false, d)) (upd V' ((j : Int) + 1) v) := by
  obtain ⟨l1, l2, l3, l4, l5⟩ := h.low hs hk
  have hT : M6.takeS M = M.set (M6.nextF M 0 false) true := by unfold M6.takeS; rw [if_pos hk]
  rw [hT]
  generalize M6.nextF M 0 false = k at *
  have hne : T.P.getD j 0 ≠ k := by
    rcases h.page j hj with ⟨s, d, e, _⟩ | ⟨_, e, _⟩ | ⟨_, e1, e2, _⟩
    · rw [hX] at e; cases e
    · omega
    · intro e
      have := (hs.mpage hj (by rw [← e2]; exact e1)).1
      rw [← e2, e, l2] at this
      cases this
  have hjP : j < T.P.length := by rw [h.fit.1]; exact hj
  have hS : T9.setF T ((j : Int) + 1) (k : Nat) = ⟨T.P.set j k, T.D.set (j / 120) true⟩ := by
    rw [T9.setF_put T j k hj l3 (by have := hs.n2; omega)]
    unfold T9.putF
    rw [if_neg hne]
  rw [hS]
  have hne2 : ∀ i : Nat, i ≠ j → (i : Int) + 1 ≠ (j : Int) + 1 := fun i hi => by omega
  refine ⟨?_, by rw [List.length_set]; exact h.len, ?_, ?_, ?_, ?_, ?_, ?_⟩
  · have := T9.setF_fit h.fit ((j : Int) + 1) (k : Nat)
    rwa [hS] at this
  · intro p hp
    rw [upd_off _ _ (by rintro rfl; exact hp (isPage_nat hj))]
    exact h.outX p hp
  · intro p hp
    rw [upd_off _ _ (by rintro rfl; exact hp (isPage_nat hj))]
    exact h.outV p hp
  · intro i hi
    by_cases e : i = j
    · subst e
      refine .inl ⟨k, d, upd_same .., ?_, l3, l4, l2, ?_⟩
      · rw [getD_setN _ _ _ _ hjP, if_pos rfl]
      · rw [upd_same]; exact hd
    · rw [upd_off _ _ (hne2 i e), upd_off _ _ (hne2 i e), getD_setN _ _ _ _ hjP, if_neg (fun e' => e e'.symm)]
      exact h.page i hi
  · intro p q s a b hp hq
    by_cases e : p = (j : Int) + 1 <;> by_cases e' : q = (j : Int) + 1
    · rw [e, e']
    · subst e
      rw [upd_same] at hp
      rw [upd_off _ _ e'] at hq
      injection hp with hp
      injection hp with hp _
      subst hp
      exact absurd hq (l5 _ _)
    · subst e'
      rw [upd_same] at hq
      rw [upd_off _ _ e] at hp
      injection hq with hq
      injection hq with hq _
      subst hq
      exact absurd hp (l5 _ _)
    · rw [upd_off _ _ e] at hp
      rw [upd_off _ _ e'] at hq
      exact h.inj p q s a b hp hq
  · intro i hi
    rw [getD_setB _ _ _ _ (by rw [h.len]; exact l4)]
    by_cases e : k = i
    · subst e
      rw [if_pos rfl]
      exact ⟨fun _ => .inr ⟨_, d, upd_same ..⟩, fun _ => rfl⟩
    · rw [if_neg e, h.mark i hi]
      constructor
      · rintro (h1 | ⟨p, a, h1⟩)
        · exact .inl h1
        · refine .inr ⟨p, a, ?_⟩
          rw [upd_off _ _ (by rintro rfl; rw [hX] at h1; cases h1)]
          exact h1
      · rintro (h1 | ⟨p, a, h1⟩)
        · exact .inl h1
        · by_cases e2 : p = (j : Int) + 1
          · subst e2
            rw [upd_same] at h1
            injection h1 with h1
            injection h1 with h1 _
            exact absurd h1 e
          · rw [upd_off _ _ e2] at h1
            exact .inr ⟨p, a, h1⟩
  · intro i hi hD i2 hi2 hi3
    have hjD : j / 120 < T.D.length := by rw [h.fit.2.1]; omega
    rw [getD_setB _ _ _ _ hjD] at hD
    have hne3 : j / 120 ≠ i := by intro e; rw [if_pos e] at hD; cases hD
    rw [if_neg hne3] at hD
    have e : i2 ≠ j := by rintro rfl; exact hne3 hi3
    rw [getD_setN _ _ _ _ hjP, if_neg (fun e' => e e'.symm), upd_off _ _ (hne2 i2 e)]
    exact h.clean i hi hD i2 hi2 hi3
/-- A page's text, anew. -/
theorem Txi.putOld (h : Txi ss.length t m V T M X V') {j : Nat} (hj : j < 960) {s : Nat} {d0 : ByteArray} (hX : X ((j : Int) + 1) = some (s, d0)) {d : ByteArray} {v : Nat × ByteArray} (hd : PageOk (some v) d) :
    Txi ss.length t m V T M (upd X ((j : Int) + 1) (s, d)) (upd V' ((j : Int) + 1) v) := by
  have hne2 : ∀ i : Nat, i ≠ j → (i : Int) + 1 ≠ (j : Int) + 1 := fun i hi => by omega
  refine ⟨h.fit, h.len, ?_, ?_, ?_, ?_, ?_, ?_⟩
  · intro p hp
    rw [upd_off _ _ (by rintro rfl; exact hp (isPage_nat hj))]
    exact h.outX p hp
  · intro p hp
    rw [upd_off _ _ (by rintro rfl; exact hp (isPage_nat hj))]
    exact h.outV p hp
  · intro i hi
    by_cases e : i = j
    · subst e
      rcases h.page i hi with ⟨s', d', e1, e2, e3, e4, e5, _⟩ | ⟨e1, _⟩ | ⟨e1, _⟩
      · rw [hX] at e1
        injection e1 with e1
        injection e1 with e1 _
        subst e1
        exact .inl ⟨s, d, upd_same .., e2, e3, e4, e5, by rw [upd_same]; exact hd⟩
      · rw [hX] at e1; cases e1
      · rw [hX] at e1; cases e1
    · rw [upd_off _ _ (hne2 i e), upd_off _ _ (hne2 i e)]
      exact h.page i hi
  · intro p q s' a b hp hq
    by_cases e : p = (j : Int) + 1 <;> by_cases e' : q = (j : Int) + 1
    · rw [e, e']
    · subst e
      rw [upd_same] at hp
      rw [upd_off _ _ e'] at hq
      injection hp with hp
      injection hp with hp _
      subst hp
      exact h.inj _ _ _ _ _ hX hq
    · subst e'
      rw [upd_same] at hq
      rw [upd_off _ _ e] at hp
      injection hq with hq
      injection hq with hq _
      subst hq
      exact h.inj _ _ _ _ _ hp hX
    · rw [upd_off _ _ e] at hp
      rw [upd_off _ _ e'] at hq
      exact h.inj p q s' a b hp hq
  · intro i hi
    rw [h.mark i hi]
    constructor
    · rintro (h1 | ⟨p, a, h1⟩)
      · exact .inl h1
      · by_cases e2 : p = (j : Int) + 1
        · subst e2
          rw [hX] at h1
          injection h1 with h1
          injection h1 with h1 _
          subst h1
          exact .inr ⟨_, d, upd_same ..⟩
        · exact .inr ⟨p, a, by rw [upd_off _ _ e2]; exact h1⟩
    · rintro (h1 | ⟨p, a, h1⟩)
      · exact .inl h1
      · by_cases e2 : p = (j : Int) + 1
        · subst e2
          rw [upd_same] at h1
          injection h1 with h1
          injection h1 with h1 _
          subst h1
          exact .inr ⟨_, d0, hX⟩
        · rw [upd_off _ _ e2] at h1
          exact .inr ⟨p, a, h1⟩
  · intro i hi hD i2 hi2 hi3
    have h9 := h.clean i hi hD i2 hi2 hi3
    have e : i2 ≠ j := by rintro rfl; rw [hX] at h9; cases h9.2
    rw [upd_off _ _ (hne2 i2 e)]
    exact h9
/-- A page is dropped. -/
theorem Txi.dropNew (hs : Sto ss cs t m V) (h : Txi ss.length t m V T M X V') {j : Nat} (hj : j < 960) {s : Nat} {d0 : ByteArray} (hX : X ((j : Int) + 1) = some (s, d0)) :
    M6.giveE M (s : Nat) = 0 ∧ T9.dropE T ((j : Int) + 1) = 0 ∧ Txi ss.length t m V (T9.dropF T ((j : Int) + 1)) (M6.giveS M (s : Nat)) (del X ((j : Int) + 1)) (del V' ((j : Int) + 1)) := by
  have hne2 : ∀ i : Nat, i ≠ j → (i : Int) + 1 ≠ (j : Int) + 1 := fun i hi => by omega
  have hp : T.P.getD j 0 = s ∧ 2 ≤ s ∧ s < ss.length ∧ m.getD s false = false := by
    rcases h.page j hj with ⟨s', d', e1, e2, e3, e4, e5, _⟩ | ⟨e1, _⟩ | ⟨e1, _⟩
    · rw [hX] at e1
      injection e1 with e1
      injection e1 with e1 _
      subst e1
      exact ⟨e2, e3, e4, e5⟩
    · rw [hX] at e1; cases e1
    · rw [hX] at e1; cases e1
  obtain ⟨p1, p2, p3, p4⟩ := hp
  have hjP : j < T.P.length := by rw [h.fit.1]; exact hj
  have hg : M6.giveE M (s : Nat) = 0 := by
    unfold M6.giveE
    rw [M6.lackE_nat (by rw [h.len]; exact p3), M6.hasF_nat, (h.mark s p3).2 (.inr ⟨_, _, hX⟩)]
    simp
  have hG : M6.giveS M (s : Nat) = M.set s false := by unfold M6.giveS; rw [if_pos hg, Int.toNat_natCast]
  have hget : T9.getF T ((j : Int) + 1) = s := by rw [T9.getF_nat T j hj, p1]
  have hD : T9.dropF T ((j : Int) + 1) = ⟨T.P.set j 0, T.D.set (j / 120) true⟩ := by
    rw [T9.dropF_put T j hj]
    unfold T9.putF
    rw [if_neg (by rw [p1]; omega)]
  have hE : T9.dropE T ((j : Int) + 1) = 0 := by unfold T9.dropE; rw [hget, if_neg (by omega)]
  refine ⟨hg, hE, ?_⟩
  rw [hG, hD]
  refine ⟨?_, by rw [List.length_set]; exact h.len, ?_, ?_, ?_, ?_, ?_, ?_⟩
  · have := T9.dropF_fit h.fit ((j : Int) + 1)
    rwa [hD] at this
  · intro p hp
    rw [del_off _ (by rintro rfl; exact hp (isPage_nat hj))]
    exact h.outX p hp
  · intro p hp
    rw [del_off _ (by rintro rfl; exact hp (isPage_nat hj))]
    exact h.outV p hp
  · intro i hi
    by_cases e : i = j
    · subst e
      exact .inr (.inl ⟨del_same .., by rw [getD_setN _ _ _ _ hjP, if_pos rfl], del_same ..⟩)
    · rw [del_off _ (hne2 i e), del_off _ (hne2 i e), getD_setN _ _ _ _ hjP, if_neg (fun e' => e e'.symm)]
      exact h.page i hi
  · intro p q s' a b hp hq
    have e : p ≠ (j : Int) + 1 := by rintro rfl; rw [del_same] at hp; cases hp
    have e' : q ≠ (j : Int) + 1 := by rintro rfl; rw [del_same] at hq; cases hq
    rw [del_off _ e] at hp
    rw [del_off _ e'] at hq
    exact h.inj p q s' a b hp hq
  · intro i hi
    rw [getD_setB _ _ _ _ (by rw [h.len]; exact p3)]
    by_cases e : s = i
    · subst e
      rw [if_pos rfl]
      constructor
      · intro h1; cases h1
      · rintro (h1 | ⟨p, a, h1⟩)
        · rw [p4] at h1; cases h1
        · have e : p ≠ (j : Int) + 1 := by rintro rfl; rw [del_same] at h1; cases h1
          rw [del_off _ e] at h1
          exact absurd (h.inj _ _ _ _ _ h1 hX) e
    · rw [if_neg e, h.mark i hi]
      constructor
      · rintro (h1 | ⟨p, a, h1⟩)
        · exact .inl h1
        · have e2 : p ≠ (j : Int) + 1 := by
            rintro rfl
            rw [hX] at h1
            injection h1 with h1
            injection h1 with h1 _
            exact e h1
          exact .inr ⟨p, a, by rw [del_off _ e2]; exact h1⟩
      · rintro (h1 | ⟨p, a, h1⟩)
        · exact .inl h1
        · have e2 : p ≠ (j : Int) + 1 := by rintro rfl; rw [del_same] at h1; cases h1
          rw [del_off _ e2] at h1
          exact .inr ⟨p, a, h1⟩
  · intro i hi hDd i2 hi2 hi3
    have hjD : j / 120 < T.D.length := by rw [h.fit.2.1]; omega
    rw [getD_setB _ _ _ _ hjD] at hDd
    have hne3 : j / 120 ≠ i := by intro e; rw [if_pos e] at hDd; cases hDd
    rw [if_neg hne3] at hDd
    have e : i2 ≠ j := by rintro rfl; exact hne3 hi3
    rw [getD_setN _ _ _ _ hjP, if_neg (fun e' => e e'.symm), del_off _ (hne2 i2 e)]
    exact h.clean i hi hDd i2 hi2 hi3
theorem Txi.dropOld (h : Txi ss.length t m V T M X V') {j : Nat} (hj : j < 960) (hX : X ((j : Int) + 1) = none) (h0 : T.P.getD j 0 ≠ 0) :
    T9.dropE T ((j : Int) + 1) = 0 ∧ Txi ss.length t m V (T9.dropF T ((j : Int) + 1)) M X (del V' ((j : Int) + 1)) := by
  have hne2 : ∀ i : Nat, i ≠ j → (i : Int) + 1 ≠ (j : Int) + 1 := fun i hi => by omega
  have hjP : j < T.P.length := by rw [h.fit.1]; exact hj
  have hget : T9.getF T ((j : Int) + 1) = T.P.getD j 0 := T9.getF_nat T j hj
  have hD : T9.dropF T ((j : Int) + 1) = ⟨T.P.set j 0, T.D.set (j / 120) true⟩ := by
    rw [T9.dropF_put T j hj]
    unfold T9.putF
    rw [if_neg h0]
  have hE : T9.dropE T ((j : Int) + 1) = 0 := by unfold T9.dropE; rw [hget, if_neg h0]
  refine ⟨hE, ?_⟩
  rw [hD]
  refine ⟨?_, h.len, h.outX, ?_, ?_, h.inj, h.mark, ?_⟩
  · have := T9.dropF_fit h.fit ((j : Int) + 1)
    rwa [hD] at this
  · intro p hp
    rw [del_off _ (by rintro rfl; exact hp (isPage_nat hj))]
    exact h.outV p hp
  · intro i hi
    by_cases e : i = j
    · subst e
      exact .inr (.inl ⟨hX, by rw [getD_setN _ _ _ _ hjP, if_pos rfl], del_same ..⟩)
    · rw [del_off _ (hne2 i e), getD_setN _ _ _ _ hjP, if_neg (fun e' => e e'.symm)]
      exact h.page i hi
  · intro i hi hDd i2 hi2 hi3
    have hjD : j / 120 < T.D.length := by rw [h.fit.2.1]; omega
    rw [getD_setB _ _ _ _ hjD] at hDd
    have hne3 : j / 120 ≠ i := by intro e; rw [if_pos e] at hDd; cases hDd
    rw [if_neg hne3] at hDd
    have e : i2 ≠ j := by rintro rfl; exact hne3 hi3
    rw [getD_setN _ _ _ _ hjP, if_neg (fun e' => e e'.symm)]
    exact h.clean i hi hDd i2 hi2 hi3
/-- A transaction's pages stand in sectors that are all unlike. -/
theorem Txi.dist (hs : Sto ss cs t m V) (h : Txi ss.length t m V T M X V') : Dist T.P := by
  intro i j hi hj hij h0 e
  rw [h.fit.1] at hi hj
  rcases h.page i hi with ⟨s, d, a1, a2, a3, a4, a5, _⟩ | ⟨_, a, _⟩ | ⟨a1, a2, a3, _⟩
  · rcases h.page j hj with ⟨s', d', b1, b2, b3, b4, b5, _⟩ | ⟨_, b, _⟩ | ⟨b1, b2, b3, _⟩
    · have : s = s' := by omega
      subst this
      have := h.inj _ _ _ _ _ a1 b1
      omega
    · omega
    · have := (hs.mpage hj (by rw [← b3]; exact b2)).1
      rw [← b3, ← e, a2, a5] at this
      cases this
  · exact h0 a
  · rcases h.page j hj with ⟨s', d', b1, b2, b3, b4, b5, _⟩ | ⟨_, b, _⟩ | ⟨b1, b2, b3, _⟩
    · have := (hs.mpage hi (by rw [← a3]; exact a2)).1
      rw [← a3, e, b2, b5] at this
      cases this
    · omega
    · exact hs.apart.1 i j (by rw [hs.fit.1]; exact hi) (by rw [hs.fit.1]; exact hj) hij (by rw [← a3]; exact a2) (by rw [← a3, ← b3]; exact e)
theorem Txi.lt (hs : Sto ss cs t m V) (h : Txi ss.length t m V T M X V') {j : Nat} (hj : j < 960) (h0 : T.P.getD j 0 ≠ 0) : T.P.getD j 0 < ss.length ∧ 2 ≤ T.P.getD j 0 := by
  rcases h.page j hj with ⟨s, d, a1, a2, a3, a4, a5, _⟩ | ⟨_, a, _⟩ | ⟨a1, a2, a3, _⟩
  · exact ⟨by omega, by omega⟩
  · exact absurd a h0
  · have := hs.mpage hj (by rw [← a3]; exact a2)
    rw [a3]; exact ⟨this.2.1, this.2.2⟩
/-- There is always a page among the first ones that stands nowhere. -/
theorem Txi.room (hs : Sto ss cs t m V) (h : Txi ss.length t m V T M X V') (h9 : ss.length ≤ 960) : ∃ j, j < ss.length ∧ T.P.getD j 0 = 0 := by
  apply Classical.byContradiction
  intro hno
  have hall : ∀ j, j < ss.length → T.P.getD j 0 ≠ 0 := fun j hj e => hno ⟨j, hj, e⟩
  have hn := hs.n2
  have hd := h.dist hs
  have hsub : ((List.range ss.length).map fun j => T.P.getD j 0).Nodup := by
    unfold List.Nodup
    rw [List.pairwise_map]
    refine List.Pairwise.imp_of_mem ?_ List.nodup_range
    intro a b ha hb hab
    rw [List.mem_range] at ha hb
    exact hd a b (by rw [h.fit.1]; omega) (by rw [h.fit.1]; omega) hab (hall a ha)
  have hle := List.Nodup.length_le_of_subset (l₂ := (List.range (ss.length - 2)).map (· + 2)) hsub (by
    intro x hx
    obtain ⟨j, hj, rfl⟩ := List.mem_map.1 hx
    rw [List.mem_range] at hj
    have := h.lt hs (by omega) (hall j hj)
    exact List.mem_map.2 ⟨T.P.getD j 0 - 2, List.mem_range.2 (by omega), by omega⟩)
  have := hs.n1
  simp at hle
  omega
theorem low_page {P : List Nat} (hl : P.length = 960) {n : Nat} (hn : n ≤ 960) (h : ∃ j, j < n ∧ P.getD j 0 = 0) : ∃ j, j < n ∧ P.getD j 0 = 0 ∧ T9.lowN P = j + 1 ∧ T9.lowE P = 0 := by
  obtain ⟨j, hj, h0⟩ := h
  have hex : ∃ i, i ≤ j ∧ P.getD i 0 = 0 ∧ ∀ k, k < i → P.getD k 0 ≠ 0 := by
    induction j using Nat.strongRecOn with
    | ind j ih =>
      by_cases hc : ∃ k, k < j ∧ P.getD k 0 = 0
      · obtain ⟨k, hk, h1⟩ := hc
        obtain ⟨i, hi, h2⟩ := ih k hk (by omega) h1
        exact ⟨i, by omega, h2⟩
      · exact ⟨j, Nat.le_refl _, h0, fun k hk e => hc ⟨k, hk, e⟩⟩
  obtain ⟨i, hi, h1, h2⟩ := hex
  obtain ⟨a, b⟩ := T9.low_told (by rw [hl]; omega) h1 h2
  exact ⟨i, by omega, h1, a, b⟩
end
end Go.Proofs.YtliiooldlooagaaGreatDoor.J10

/-
  What a commit lays, and what counts behind it, or behind a power that went in it, as plain mathematics; conditions: those that each law states.
-/
namespace Go.Proofs.YtliiooldlooagaaGreatDoor.J10
open Go.RowKit
/-- Does a page of a chunk stand anywhere? -/
def fillsB (P : List Nat) (i : Nat) : Bool := (List.range 120).any fun k => P.getD (120 * i + k) 0 != 0
theorem fills_yes {P : List Nat} {i : Nat} (hi : i < 8) : fillsB P i = true ↔ ∃ j, j < 960 ∧ j / 120 = i ∧ P.getD j 0 ≠ 0 := by
  unfold fillsB
  rw [List.any_eq_true]
  constructor
  · rintro ⟨k, hk, h⟩
    rw [List.mem_range] at hk
    exact ⟨120 * i + k, by omega, by omega, by simpa using h⟩
  · rintro ⟨j, hj, e, h⟩
    refine ⟨j % 120, List.mem_range.2 (by omega), ?_⟩
    rw [show 120 * i + j % 120 = j by omega]
    simpa using h
def chunkBy (P : List Nat) (i : Nat) : ByteArray := sealB 255 (T9.textB P i)
theorem chunkBy_size {P : List Nat} (hP : P.length = 960) {i : Nat} (hi : i < 8) : (chunkBy P i).size = 256 := sealB_size _ _ (by rw [T9.textB_size hP hi]; omega)
/-- What a plan has so far: chunks' sectors, the sectors that are not free, what is written of chunks. -/
structure PlanS where
  cs : List Int
  M : List Bool
  ws : List (Int × ByteArray)
def planStep (P : List Nat) (s : PlanS) (i : Nat) : Option PlanS :=
  if fillsB P i = true then
    (if M6.nextF s.M 0 false < s.M.length then some ⟨s.cs.set i (M6.nextF s.M 0 false : Nat), s.M.set (M6.nextF s.M 0 false) true, s.ws ++ [(((M6.nextF s.M 0 false : Nat) : Int), chunkBy P i)]⟩ else none)
  else some ⟨s.cs.set i 0, s.M, s.ws⟩
def planTo (P : List Nat) (s : PlanS) (l : List Nat) : Option PlanS := l.foldl (fun o i => o.bind fun s => planStep P s i) (some s)
theorem plan_nil (P : List Nat) (s : PlanS) : planTo P s [] = some s := rfl
theorem plan_snoc (P : List Nat) (s : PlanS) (l : List Nat) (i : Nat) : planTo P s (l ++ [i]) = (planTo P s l).bind fun s => planStep P s i := by
  unfold planTo; rw [List.foldl_append]; rfl
theorem fold_none (P : List Nat) : ∀ l : List Nat, l.foldl (fun o i => o.bind fun s => planStep P s i) (none : Option PlanS) = none
  | [] => rfl
  | _ :: l => fold_none P l
theorem plan_cons (P : List Nat) (s : PlanS) (i : Nat) (l : List Nat) : planTo P s (i :: l) = (planStep P s i).bind fun s => planTo P s l := by
  unfold planTo
  rw [List.foldl_cons]
  show l.foldl _ (planStep P s i) = _
  cases planStep P s i with
  | none => exact fold_none P l
  | some s' => rfl
structure PlanI (n : Nat) (P : List Nat) (cs0 : List Int) (M0 : List Bool) (D : List Nat) (s : PlanS) : Prop where
  len : s.cs.length = 8
  mlen : s.M.length = n
  old : ∀ i, i < 8 → i ∉ D → s.cs.getD i 0 = cs0.getD i 0
  new : ∀ i, i < 8 → i ∈ D → (fillsB P i = false ∧ s.cs.getD i 0 = 0) ∨ (fillsB P i = true ∧ ∃ c : Nat, s.cs.getD i 0 = c ∧ c < n ∧ M0.getD c false = false ∧ s.M.getD c false = true ∧ ((c : Int), chunkBy P i) ∈ s.ws)
  up : ∀ c, M0.getD c false = true → s.M.getD c false = true
  ws : ∀ x ∈ s.ws, ∃ c : Nat, x.1 = c ∧ c < n ∧ M0.getD c false = false ∧ s.M.getD c false = true ∧ x.2.size = 256
  nd : (s.ws.map (·.1)).Nodup
  dis : ∀ i i', i < 8 → i' < 8 → i ∈ D → i' ∈ D → i ≠ i' → s.cs.getD i 0 ≠ 0 → s.cs.getD i 0 ≠ s.cs.getD i' 0
theorem getD_setI (l : List Int) (i j : Nat) (v : Int) (hi : i < l.length) : (l.set i v).getD j 0 = if i = j then v else l.getD j 0 := by
  rw [List.getD_eq_getElem?_getD, List.getD_eq_getElem?_getD, List.getElem?_set]
  split
  · rename_i e; subst e; simp [hi]
  · rfl
theorem PlanI.step {n : Nat} {P : List Nat} {cs0 : List Int} {M0 : List Bool} {D : List Nat} {s s' : PlanS} (hP : P.length = 960) (hl0 : M0.length = n) (h : PlanI n P cs0 M0 D s) {i : Nat} (hi : i < 8) (hiD : i ∉ D) (e : planStep P s i = some s') : PlanI n P cs0 M0 (D ++ [i]) s' := by
  have hmem : ∀ k, k ∈ D ++ [i] ↔ k ∈ D ∨ k = i := fun k => by simp
  have hlen : i < s.cs.length := by rw [h.len]; exact hi
  unfold planStep at e
  cases hf : fillsB P i with
  | false =>
    rw [hf, if_neg (by decide)] at e
    injection e with e
    subst e
    refine ⟨by rw [List.length_set]; exact h.len, h.mlen, ?_, ?_, h.up, h.ws, h.nd, ?_⟩
    · intro k hk hkD
      rw [hmem] at hkD
      rw [getD_setI _ _ _ _ hlen, if_neg (fun e => hkD (.inr e.symm))]
      exact h.old k hk (fun e => hkD (.inl e))
    · intro k hk hkD
      by_cases e : i = k
      · subst e
        exact .inl ⟨hf, by rw [getD_setI _ _ _ _ hlen, if_pos rfl]⟩
      · rw [getD_setI _ _ _ _ hlen, if_neg e]
        rcases (hmem k).1 hkD with h1 | h1
        · exact h.new k hk h1
        · exact absurd h1.symm e
    · intro a b ha hb haD hbD hab h0
      rw [getD_setI _ _ _ _ hlen] at h0 ⊢
      rw [getD_setI _ _ _ _ hlen]
      by_cases ea : i = a
      · rw [if_pos ea] at h0; exact absurd rfl h0
      · rw [if_neg ea] at h0 ⊢
        by_cases eb : i = b
        · rw [if_pos eb]; exact h0
        · rw [if_neg eb]
          exact h.dis a b ha hb (((hmem a).1 haD).resolve_right (fun e => ea e.symm)) (((hmem b).1 hbD).resolve_right (fun e => eb e.symm)) hab h0
  | true =>
    rw [hf, if_pos rfl] at e
    split at e
    · rename_i hk
      injection e with e
      have h1 := (M6.nextF_spec s.M 0 false (Nat.zero_le _)).2.2.2 hk
      generalize M6.nextF s.M 0 false = c at *
      subst e
      rw [h.mlen] at hk
      have h0 : M0.getD c false = false := by
        cases hb : M0.getD c false
        · rfl
        · rw [h.up c hb] at h1; cases h1
      have hset : ∀ k, (s.M.set c true).getD k false = if c = k then true else s.M.getD k false := fun k => getD_setB _ _ _ _ (by rw [h.mlen]; exact hk)
      have hup : ∀ k, s.M.getD k false = true → (s.M.set c true).getD k false = true := fun k hk => by rw [hset]; split <;> simp_all
      refine ⟨by rw [List.length_set]; exact h.len, by rw [List.length_set]; exact h.mlen, ?_, ?_, fun k hk => hup k (h.up k hk), ?_, ?_, ?_⟩
      · intro k hk hkD
        rw [hmem] at hkD
        rw [getD_setI _ _ _ _ hlen, if_neg (fun e => hkD (.inr e.symm))]
        exact h.old k hk (fun e => hkD (.inl e))
      · intro k hk2 hkD
        by_cases e : i = k
        · subst e
          refine .inr ⟨hf, c, by rw [getD_setI _ _ _ _ hlen, if_pos rfl], hk, h0, by rw [hset, if_pos rfl], by simp⟩
        · rw [getD_setI _ _ _ _ hlen, if_neg e]
          rcases (hmem k).1 hkD with h9 | h9
          · rcases h.new k hk2 h9 with h8 | ⟨a, b, b1, b2, b3, b4, b5⟩
            · exact .inl h8
            · exact .inr ⟨a, b, b1, b2, b3, hup _ b4, List.mem_append_left _ b5⟩
          · exact absurd h9.symm e
      · intro x hx
        rcases List.mem_append.1 hx with hx | hx
        · obtain ⟨a, b1, b2, b3, b4, b5⟩ := h.ws x hx
          exact ⟨a, b1, b2, b3, hup _ b4, b5⟩
        · obtain rfl := List.mem_singleton.1 hx
          exact ⟨c, rfl, hk, h0, by rw [hset, if_pos rfl], chunkBy_size hP hi⟩
      · rw [List.map_append, List.nodup_append]
        refine ⟨h.nd, by simp, ?_⟩
        intro a ha b hb e
        subst e
        obtain ⟨x, hx, rfl⟩ := List.mem_map.1 ha
        obtain ⟨c', e1, _, _, e4, _⟩ := h.ws x hx
        have e5 : x.1 = (c : Int) := by simpa using hb
        have : c' = c := by omega
        subst this
        rw [h1] at e4; cases e4
      · intro a b ha hb haD hbD hab h9
        have hfresh : ∀ k, k < 8 → k ∈ D → s.cs.getD k 0 ≠ 0 → s.cs.getD k 0 ≠ (c : Int) := by
          intro k hk2 hkD hk0 e
          rcases h.new k hk2 hkD with ⟨_, h8⟩ | ⟨_, c', e1, _, _, e4, _⟩
          · exact hk0 h8
          · have : c' = c := by omega
            subst this
            rw [h1] at e4; cases e4
        rw [getD_setI _ _ _ _ hlen] at h9 ⊢
        rw [getD_setI _ _ _ _ hlen]
        by_cases ea : i = a
        · rw [if_pos ea] at h9 ⊢
          have eb : i ≠ b := by omega
          rw [if_neg eb]
          intro e
          exact hfresh b hb (((hmem b).1 hbD).resolve_right (fun e => eb e.symm)) (by rw [← e]; exact h9) e.symm
        · rw [if_neg ea] at h9 ⊢
          have haD' := ((hmem a).1 haD).resolve_right (fun e => ea e.symm)
          by_cases eb : i = b
          · rw [if_pos eb]; exact hfresh a ha haD' h9
          · rw [if_neg eb]
            exact h.dis a b ha hb haD' (((hmem b).1 hbD).resolve_right (fun e => eb e.symm)) hab h9
    · cases e
theorem PlanI.all {n : Nat} {P : List Nat} {cs0 : List Int} {M0 : List Bool} (hP : P.length = 960) (hl0 : M0.length = n) : ∀ (l D : List Nat) (s s' : PlanS), PlanI n P cs0 M0 D s → (D ++ l).Nodup → (∀ i ∈ l, i < 8) → planTo P s l = some s' → PlanI n P cs0 M0 (D ++ l) s' := by
  intro l
  induction l with
  | nil =>
    intro D s s' h _ _ e
    rw [plan_nil] at e
    injection e with e
    subst e
    rw [List.append_nil]; exact h
  | cons i l ih =>
    intro D s s' h hd hl e
    rw [plan_cons] at e
    cases hs : planStep P s i with
    | none => rw [hs] at e; cases e
    | some s1 =>
      rw [hs] at e
      have hd' : (D ++ [i] ++ l).Nodup := by rw [List.append_assoc]; exact hd
      have hi : i ∉ D := by
        intro hm
        exact (List.nodup_append.1 hd).2.2 i hm i (List.mem_cons_self ..) rfl
      have := ih (D ++ [i]) s1 s' (h.step hP hl0 (hl i (List.mem_cons_self ..)) hi hs) hd' (fun k hk => hl k (List.mem_cons_of_mem _ hk)) e
      rwa [List.append_assoc] at this
theorem dirty_nodup (D : List Bool) : (T9.dirtyF D).Nodup := List.Pairwise.filter _ List.nodup_range
theorem dirty_lt (D : List Bool) : ∀ i ∈ T9.dirtyF D, i < 8 := fun i h => List.mem_range.1 (List.mem_filter.1 h).1
/-- The pages that stand, rising; the writes of their texts. -/
def pagesF (P : List Nat) : List Int := ((List.range 960).filter fun j => P.getD j 0 != 0).map fun j : Nat => (j : Int) + 1
def wrOf (X : Pgs) (p : Int) : Option (Int × ByteArray) := (X p).map fun y => ((y.1 : Int), y.2)
def wrF (P : List Nat) (X : Pgs) : List (Int × ByteArray) := (pagesF P).filterMap (wrOf X)
theorem mem_pages {P : List Nat} {p : Int} : p ∈ pagesF P ↔ ∃ j : Nat, j < 960 ∧ P.getD j 0 ≠ 0 ∧ p = (j : Int) + 1 := by
  unfold pagesF
  rw [List.mem_map]
  constructor
  · rintro ⟨j, hj, rfl⟩
    rw [List.mem_filter, List.mem_range] at hj
    exact ⟨j, hj.1, by simpa using hj.2, rfl⟩
  · rintro ⟨j, hj, h0, rfl⟩
    exact ⟨j, List.mem_filter.2 ⟨List.mem_range.2 hj, by simpa using h0⟩, rfl⟩
theorem pages_nodup (P : List Nat) : (pagesF P).Nodup := by
  unfold pagesF List.Nodup
  rw [List.pairwise_map]
  refine List.Pairwise.imp ?_ (List.Pairwise.filter _ List.nodup_range)
  intro a b h e
  omega
theorem mem_wr {P : List Nat} {X : Pgs} {x : Int × ByteArray} : x ∈ wrF P X ↔ ∃ p s, p ∈ pagesF P ∧ X p = some (s, x.2) ∧ x.1 = (s : Int) := by
  unfold wrF
  rw [List.mem_filterMap]
  constructor
  · rintro ⟨p, hp, e⟩
    unfold wrOf at e
    cases hX : X p with
    | none => rw [hX] at e; cases e
    | some y =>
      rw [hX] at e
      injection e with e
      subst e
      exact ⟨p, y.1, hp, hX, rfl⟩
  · rintro ⟨p, s, hp, e1, e2⟩
    refine ⟨p, hp, ?_⟩
    unfold wrOf
    rw [e1, Option.map_some, ← e2]
section
variable {ss : List ByteArray} {cs : List Int} {t : T9.TB} {m : List Bool} {V : Pgs} {T : T9.TB} {M : List Bool} {X V' : Pgs}
theorem Txi.texts (h : Txi ss.length t m V T M X V') {p : Int} {s : Nat} {d : ByteArray} (e : X p = some (s, d)) : ∃ j : Nat, j < 960 ∧ p = (j : Int) + 1 ∧ T.P.getD j 0 = s ∧ 2 ≤ s ∧ s < ss.length ∧ m.getD s false = false ∧ M.getD s false = true ∧ PageOk (V' p) d := by
  by_cases hp : T9.IsPage p
  · obtain ⟨j, hj, rfl⟩ := isPage_cases hp
    rcases h.page j hj with ⟨s', d', e1, e2, e3, e4, e5, e6⟩ | ⟨e1, _⟩ | ⟨e1, _⟩
    · rw [e] at e1
      injection e1 with e1
      injection e1 with a b
      subst a; subst b
      exact ⟨j, hj, rfl, e2, e3, e4, e5, (h.mark s e4).2 (.inr ⟨_, _, e⟩), e6⟩
    · rw [e] at e1; cases e1
    · rw [e] at e1; cases e1
  · rw [h.outX p hp] at e; cases e
theorem Txi.wr_mem (h : Txi ss.length t m V T M X V') {p : Int} {s : Nat} {d : ByteArray} (e : X p = some (s, d)) : ((s : Int), d) ∈ wrF T.P X := by
  obtain ⟨j, hj, hp, h1, h2, _⟩ := h.texts e
  exact mem_wr.2 ⟨p, s, mem_pages.2 ⟨j, hj, by omega, hp⟩, e, rfl⟩
theorem Txi.wr_nodup (h : Txi ss.length t m V T M X V') : ((wrF T.P X).map (·.1)).Nodup := by
  unfold wrF List.Nodup
  rw [List.pairwise_map]
  refine List.Pairwise.filterMap _ ?_ (pages_nodup T.P)
  intro p q hpq x hx y hy e
  unfold wrOf at hx hy
  cases hX : X p with
  | none => rw [hX] at hx; cases hx
  | some a =>
    cases hY : X q with
    | none => rw [hY] at hy; cases hy
    | some b =>
      rw [hX] at hx
      rw [hY] at hy
      injection hx with hx
      injection hy with hy
      subst hx; subst hy
      have e' : a.1 = b.1 := by have e2 : (a.1 : Int) = (b.1 : Int) := e; omega
      exact hpq (h.inj p q a.1 a.2 b.2 hX (by rw [hY, e']))
/-- What is written stands in sectors that were free, each once. -/
structure Wrs (n : Nat) (m : List Bool) (ws : List (Int × ByteArray)) : Prop where
  each : ∀ x ∈ ws, ∃ k : Nat, x.1 = k ∧ 2 ≤ k ∧ k < n ∧ m.getD k false = false ∧ x.2.size = 256
  nd : (ws.map (·.1)).Nodup
theorem PageOk.size {v : Option (Nat × ByteArray)} {d : ByteArray} (h : PageOk v d) : d.size = 256 := by
  obtain ⟨k, b, _, _, _, h5, rfl⟩ := h
  exact sealB_size k b h5
theorem Txi.plan (hs : Sto ss cs t m V) (h : Txi ss.length t m V T M X V') {s : PlanS} (hp : planTo T.P ⟨cs, M, []⟩ (T9.dirtyF T.D) = some s) : PlanI ss.length T.P cs M (T9.dirtyF T.D) s := by
  have h0 : PlanI ss.length T.P cs M [] ⟨cs, M, []⟩ := ⟨hs.len, h.len, fun _ _ _ => rfl, (fun i _ hi => by cases hi), fun _ h => h, (fun x hx => by cases hx), List.nodup_nil, (fun i _ _ _ hi => by cases hi)⟩
  have := PlanI.all h.fit.1 h.len (T9.dirtyF T.D) [] ⟨cs, M, []⟩ s h0 (by rw [List.nil_append]; exact dirty_nodup _) (dirty_lt _) hp
  rwa [List.nil_append] at this
theorem Txi.wrs (hs : Sto ss cs t m V) (h : Txi ss.length t m V T M X V') {s : PlanS} (hp : PlanI ss.length T.P cs M (T9.dirtyF T.D) s) : Wrs ss.length m (wrF T.P X ++ s.ws) := by
  have hM : ∀ c, c < ss.length → M.getD c false = false → m.getD c false = false ∧ 2 ≤ c := by
    intro c hc e
    have hm : m.getD c false = false := by
      cases hb : m.getD c false
      · rfl
      · rw [(h.mark c hc).2 (.inl hb)] at e; cases e
    obtain ⟨a, b⟩ := hs.m01
    rcases c with _ | _ | c
    · rw [a] at hm; cases hm
    · rw [b] at hm; cases hm
    · exact ⟨hm, by omega⟩
  refine ⟨?_, ?_⟩
  · intro x hx
    rcases List.mem_append.1 hx with hx | hx
    · obtain ⟨p, s, _, e1, e2⟩ := mem_wr.1 hx
      obtain ⟨j, hj, _, _, h2, h3, h4, _, h6⟩ := h.texts e1
      exact ⟨s, e2, h2, h3, h4, h6.size⟩
    · obtain ⟨c, e1, e2, e3, _, e5⟩ := hp.ws x hx
      obtain ⟨a, b⟩ := hM c e2 e3
      exact ⟨c, e1, b, e2, a, e5⟩
  · rw [List.map_append, List.nodup_append]
    refine ⟨h.wr_nodup, hp.nd, ?_⟩
    intro a ha b hb e
    subst e
    obtain ⟨x, hx, rfl⟩ := List.mem_map.1 ha
    obtain ⟨y, hy, e⟩ := List.mem_map.1 hb
    obtain ⟨p, s, _, e1, e2⟩ := mem_wr.1 hx
    obtain ⟨j, hj, _, _, _, _, _, h5, _⟩ := h.texts e1
    obtain ⟨c, e3, _, e4, _⟩ := hp.ws y hy
    have : c = s := by omega
    subst this
    rw [h5] at e4; cases e4
theorem chunkB_same {P Q : List Nat} (hP : P.length = 960) (hQ : Q.length = 960) {i : Nat} (hi : i < 8) (h : ∀ j, j < 960 → j / 120 = i → P.getD j 0 = Q.getD j 0) : T9.textB P i = T9.textB Q i := by
  rw [T9.textB_is P hi, T9.textB_is Q hi]
  unfold T9.chunkB T9.chunkTo
  have : (P.drop (120 * i)).take 120 = (Q.drop (120 * i)).take 120 := by
    apply List.ext_getElem?
    intro k
    by_cases hk : k < 120
    · rw [List.getElem?_take, if_pos hk, List.getElem?_take, if_pos hk, List.getElem?_drop, List.getElem?_drop]
      have := h (120 * i + k) (by omega) (by omega)
      rw [getD_lt (by omega), getD_lt (by omega)] at this
      rw [List.getElem?_eq_getElem (by omega), List.getElem?_eq_getElem (by omega), this]
    · rw [List.getElem?_take, if_neg hk, List.getElem?_take, if_neg hk]
  rw [this]
/-- What stood there still does. -/
theorem Sto.keeps (hs : Sto ss cs t m V) {ws : List (Int × ByteArray)} (hw : Wrs ss.length m ws) : Sto (D5.laidF ws ss) cs t m V := by
  refine hs.frame (D5.laidF_length _ _) (D5.laidF_whole _ (fun x hx => (hw.each x hx).elim fun _ h => h.2.2.2.2) _ hs.whole) ?_
  intro k _ hm
  refine laid_off k ws ss fun x hx => ?_
  obtain ⟨c, e, _, _, h4, _⟩ := hw.each x hx
  exact ⟨c, e, by rintro rfl; rw [hm] at h4; cases h4⟩
/-- What is laid is the transaction's. -/
theorem Sto.commit (hs : Sto ss cs t m V) (h : Txi ss.length t m V T M X V') {s : PlanS} (hp : PlanI ss.length T.P cs M (T9.dirtyF T.D) s) :
    Sto (D5.laidF (wrF T.P X ++ s.ws) ss) s.cs (T9.cleanF T) (marks ss.length (usedL s.cs T.P)) V' := by
  have hw := h.wrs hs hp
  have hlen := D5.laidF_length (wrF T.P X ++ s.ws) ss
  have hm : ∀ k, m.getD k false = true → secAt (D5.laidF (wrF T.P X ++ s.ws) ss) k = secAt ss k := by
    intro k hk
    refine laid_off k _ ss fun x hx => ?_
    obtain ⟨c, e, _, _, h4, _⟩ := hw.each x hx
    exact ⟨c, e, by rintro rfl; rw [hk] at h4; cases h4⟩
  have hon : ∀ (k : Nat) (d : ByteArray), ((k : Int), d) ∈ wrF T.P X ++ s.ws → secAt (D5.laidF (wrF T.P X ++ s.ws) ss) k = d := by
    intro k d hd
    obtain ⟨c, e, _, h3, _, _⟩ := hw.each _ hd
    have : k = c := by have e2 : (k : Int) = (c : Int) := e; omega
    subst this
    exact laid_on k d _ ss h3 (fun x hx => (hw.each x hx).elim fun c hc => ⟨c, hc.1⟩) hw.nd hd
  have hTl : T.P.length = 960 := h.fit.1
  have htl : t.P.length = 960 := hs.fit.1
  have hcl := hs.len
  have hmem : ∀ i, i < 8 → (i ∈ T9.dirtyF T.D ∨ (i ∉ T9.dirtyF T.D ∧ T.D.getD i false = false)) := by
    intro i hi
    cases hb : T.D.getD i false
    · refine .inr ⟨fun hm => ?_, rfl⟩
      rw [(T9.mem_dirty hi).1 hm] at hb; cases hb
    · exact .inl ((T9.mem_dirty hi).2 hb)
  have hMm : ∀ c, c < ss.length → m.getD c false = true → M.getD c false = true := fun c hc e => (h.mark c hc).2 (.inl e)
  have hchunk : ∀ i, i < 8 → cN cs i ≠ 0 → m.getD (cN cs i) false = true ∧ cN cs i < ss.length ∧ 2 ≤ cN cs i := by
    intro i hi h0
    have hu : cN cs i ∈ usedL cs t.P := mem_used.2 (.inr (.inr (.inr ⟨h0, i, by rw [hcl]; exact hi, rfl⟩)))
    have h1 := hs.apart.2.2.2.1 i (by rw [hcl]; exact hi)
    exact ⟨(hs.mget _).2 hu, hs.inn _ hu, by omega⟩
  -- each chunk's sector: none, an old one, or a new one
  have hc : ∀ i, i < 8 → (cN s.cs i = 0) ∨ (T.D.getD i false = false ∧ i ∉ T9.dirtyF T.D ∧ cN s.cs i = cN cs i ∧ cN cs i ≠ 0) ∨ (i ∈ T9.dirtyF T.D ∧ fillsB T.P i = true ∧ M.getD (cN s.cs i) false = false ∧ cN s.cs i < ss.length ∧ 2 ≤ cN s.cs i ∧ ((cN s.cs i : Int), chunkBy T.P i) ∈ s.ws ∧ s.cs.getD i 0 = (cN s.cs i : Int)) := by
    intro i hi
    rcases hmem i hi with h1 | ⟨h1, h2⟩
    · rcases hp.new i hi h1 with ⟨_, e⟩ | ⟨hf, c, e, e1, e2, _, e4⟩
      · left; unfold cN; rw [e]; rfl
      · have ec : cN s.cs i = c := by unfold cN; rw [e]; simp
        obtain ⟨k, ek, k2, _⟩ := hw.each _ (List.mem_append_right _ e4)
        have : c = k := by have e2 : (c : Int) = (k : Int) := ek; omega
        subst this
        refine .inr (.inr ⟨h1, hf, ?_, ?_, ?_, ?_, ?_⟩)
        all_goals rw [ec]
        · exact e2
        · exact e1
        · exact k2
        · exact e4
        · exact e
    · have e : cN s.cs i = cN cs i := by unfold cN; rw [hp.old i hi h1]
      by_cases h0 : cN cs i = 0
      · left; rw [e, h0]
      · exact .inr (.inl ⟨h2, h1, e, h0⟩)
  have hP : ∀ j, j < 960 → T.P.getD j 0 ≠ 0 → (m.getD (T.P.getD j 0) false = false ∧ M.getD (T.P.getD j 0) false = true) ∨ (T.P.getD j 0 = t.P.getD j 0 ∧ m.getD (T.P.getD j 0) false = true) := by
    intro j hj h0
    rcases h.page j hj with ⟨s', d, a1, a2, a3, a4, a5, _⟩ | ⟨_, a, _⟩ | ⟨a1, a2, a3, _⟩
    · left; rw [a2]; exact ⟨a5, (h.mark s' a4).2 (.inr ⟨_, _, a1⟩)⟩
    · exact absurd a h0
    · right
      refine ⟨a3, ?_⟩
      rw [a3]; exact (hs.mpage hj (by rw [← a3]; exact a2)).1
  have hap : Apart s.cs T.P := by
    refine ⟨h.dist hs, ?_, ?_, ?_, ?_⟩
    · intro i i' hi hi' hii h0 e
      rw [List.length_map, hp.len] at hi hi'
      rw [cN_map] at h0 e
      rw [cN_map] at e
      rcases hc i hi with h1 | ⟨h1, h1', h2, h3⟩ | ⟨h1, _, h2, h3, _, _, h6⟩
      · exact h0 h1
      · rcases hc i' hi' with g1 | ⟨g1, g1', g2, g3⟩ | ⟨g1, _, g2, g3, _⟩
        · omega
        · exact hs.apart.2.1 i i' (by rw [List.length_map, hcl]; exact hi) (by rw [List.length_map, hcl]; exact hi') hii (by rw [cN_map]; exact h3) (by rw [cN_map, cN_map]; omega)
        · have := hMm _ (hchunk i hi h3).2.1 (hchunk i hi h3).1
          rw [← e, h2, this] at g2; cases g2
      · rcases hc i' hi' with g1 | ⟨g1, g1', g2, g3⟩ | ⟨g1, _, g2, g3, _, _, g6⟩
        · omega
        · have := hMm _ (hchunk i' hi' g3).2.1 (hchunk i' hi' g3).1
          rw [e, g2, this] at h2; cases h2
        · exact hp.dis i i' hi hi' h1 g1 hii (by rw [h6]; omega) (by rw [h6, g6, e])
    · intro j hj e
      rw [hTl] at hj
      have := h.lt hs hj (by omega)
      omega
    · intro i hi e
      rw [hp.len] at hi
      rcases hc i hi with h1 | ⟨_, _, h2, h3⟩ | ⟨_, _, _, _, h5, _⟩
      · omega
      · have := hchunk i hi h3
        omega
      · omega
    · intro j i hj hi h0 e
      rw [hTl] at hj
      rw [hp.len] at hi
      rcases hc i hi with h1 | ⟨_, _, h2, h3⟩ | ⟨_, _, h2, h3, h5, _⟩
      · omega
      · rcases hP j hj h0 with ⟨a1, a2⟩ | ⟨a1, a2⟩
        · rw [e, h2, (hchunk i hi h3).1] at a1; cases a1
        · exact hs.apart.2.2.2.2 j i (by rw [htl]; exact hj) (by rw [hcl]; exact hi) (by rw [← a1]; exact h0) (by rw [← a1, e, h2])
      · rcases hP j hj h0 with ⟨a1, a2⟩ | ⟨a1, a2⟩
        · rw [e, h2] at a2; cases a2
        · rw [e] at a2
          rw [hMm _ h3 a2] at h2; cases h2
  refine ⟨by rw [hlen]; exact hs.n1, by rw [hlen]; exact hs.n2, D5.laidF_whole _ (fun x hx => (hw.each x hx).elim fun _ h => h.2.2.2.2) _ hs.whole, T9.cleanF_fit h.fit, rfl, hp.len, ?_, hap, ?_, by rw [hlen]; rfl, ?_, ?_, h.outV⟩
  · intro i hi
    rcases hmem i hi with h1 | ⟨h1, _⟩
    · rcases hp.new i hi h1 with ⟨_, e⟩ | ⟨_, c, e, _⟩
      · rw [e]; exact Int.le_refl _
      · rw [e]; omega
    · rw [hp.old i hi h1]; exact hs.pos i hi
  · intro x hx
    rw [hlen]
    rcases mem_used.1 hx with ⟨h0, j, hj, e⟩ | e | e | ⟨h0, i, hi, e⟩
    · rw [show (T9.cleanF T).P = T.P from rfl, hTl] at hj
      have e' : T.P.getD j 0 = x := e
      have := h.lt hs hj (by omega)
      omega
    · have := hs.n1; omega
    · have := hs.n1; omega
    · rw [hp.len] at hi
      rcases hc i hi with h1 | ⟨_, _, h2, h3⟩ | ⟨_, _, _, h4, _⟩
      · omega
      · have := hchunk i hi h3
        omega
      · omega
  · intro i hi
    show (cN s.cs i = 0 ∧ ∀ j, j < 960 → j / 120 = i → T.P.getD j 0 = 0) ∨ (cN s.cs i ≠ 0 ∧ (∃ j, j < 960 ∧ j / 120 = i ∧ T.P.getD j 0 ≠ 0) ∧ secAt _ (cN s.cs i) = sealB 255 (T9.textB T.P i))
    rcases hmem i hi with h1 | ⟨h1, h2⟩
    · rcases hp.new i hi h1 with ⟨hf, e⟩ | ⟨hf, c, e, e1, e2, _, e4⟩
      · left
        refine ⟨by unfold cN; rw [e]; rfl, ?_⟩
        intro j hj hji
        apply Classical.byContradiction
        intro h0
        rw [(fills_yes hi).2 ⟨j, hj, hji, h0⟩] at hf; cases hf
      · right
        have ec : cN s.cs i = c := by unfold cN; rw [e]; simp
        obtain ⟨k, ek, k2, _⟩ := hw.each _ (List.mem_append_right _ e4)
        have : c = k := by have e2 : (c : Int) = (k : Int) := ek; omega
        subst this
        refine ⟨by omega, (fills_yes hi).1 hf, ?_⟩
        rw [ec]
        exact hon c _ (List.mem_append_right _ e4)
    · have e : cN s.cs i = cN cs i := by unfold cN; rw [hp.old i hi h1]
      have hcl := h.clean i hi h2
      rw [e]
      rcases hs.chunk i hi with ⟨a, b⟩ | ⟨a, ⟨j, hj, hji, b⟩, c⟩
      · left
        exact ⟨a, fun j hj hji => by rw [(hcl j hj hji).1]; exact b j hj hji⟩
      · right
        refine ⟨a, ⟨j, hj, hji, by rw [(hcl j hj hji).1]; exact b⟩, ?_⟩
        rw [hm _ (hchunk i hi a).1, c, chunkB_same hTl htl hi (fun j hj hji => (hcl j hj hji).1)]
  · intro j hj
    show (T.P.getD j 0 = 0 ∧ _) ∨ (T.P.getD j 0 ≠ 0 ∧ PageOk _ (secAt _ (T.P.getD j 0)))
    rcases h.page j hj with ⟨s', d, a1, a2, a3, a4, a5, a6⟩ | ⟨a1, a2, a3⟩ | ⟨a1, a2, a3, a4⟩
    · right
      refine ⟨by omega, ?_⟩
      rw [a2, hon s' d (List.mem_append_left _ (h.wr_mem a1))]
      exact a6
    · exact .inl ⟨a2, a3⟩
    · right
      refine ⟨a2, ?_⟩
      have h0 : t.P.getD j 0 ≠ 0 := by rw [← a3]; exact a2
      rw [a3, hm _ (hs.mpage hj h0).1, a4]
      rcases hs.page j hj with ⟨b, _⟩ | ⟨_, b⟩
      · exact absurd b h0
      · exact b
end
end Go.Proofs.YtliiooldlooagaaGreatDoor.J10

/-
  The roots of a store: which one counts, what the next one makes of it, and what is left of both when the power went, as plain mathematics; conditions: those that each law states.
-/
namespace Go.Proofs.YtliiooldlooagaaGreatDoor.J10
open Go.RowKit
/-- The other root's sector: noughts, or that of an elder root. -/
def Elder (b : List UInt8) (x : R8.Rt) : Prop := b = R8.zer 256 ∨ ∃ y, R8.Good y ∧ y.e < x.e ∧ b = R8.putL y
def Roots (ss : List ByteArray) (r : R8.Rt) (wh : Int) : Prop :=
  (wh = -1 ∧ r = R8.zeroR ∧ bytesAt ss 0 = R8.zer 256 ∧ bytesAt ss 1 = R8.zer 256) ∨
  (wh = 0 ∧ R8.Good r ∧ r.n = ss.length ∧ bytesAt ss 0 = R8.putL r ∧ Elder (bytesAt ss 1) r) ∨
  (wh = 1 ∧ R8.Good r ∧ r.n = ss.length ∧ bytesAt ss 1 = R8.putL r ∧ Elder (bytesAt ss 0) r)
/-- What is picked of a disk's two first sectors. -/
def Picks (ss : List ByteArray) (r : R8.Rt) (wh : Int) : Prop :=
  (wh = -1 ∧ r = R8.zeroR ∧ R8.pickF (bytesAt ss 0) (bytesAt ss 1) = (R8.zeroR, -1, 9)) ∨
  (R8.Good r ∧ r.n = ss.length ∧ (wh = 0 ∨ wh = 1) ∧ R8.pickF (bytesAt ss 0) (bytesAt ss 1) = (r, wh, 0))
theorem elder_old {b : List UInt8} {x : R8.Rt} (h : Elder b x) (hx : R8.Good x) : (R8.getF b).2 ≠ 0 ∨ (R8.getF b).1.e < x.e := by
  rcases h with rfl | ⟨y, hy, he, rfl⟩
  · left; rw [R8.get_blank]; decide
  · right; rw [hy.get]; exact he
theorem Roots.picks {ss : List ByteArray} {r : R8.Rt} {wh : Int} (h : Roots ss r wh) : Picks ss r wh := by
  rcases h with ⟨h1, h2, h3, h4⟩ | ⟨rfl, h2, h3, h4, h5⟩ | ⟨rfl, h2, h3, h4, h5⟩
  · refine .inl ⟨h1, h2, ?_⟩
    rw [h3, h4]
    unfold R8.pickF
    rw [R8.get_blank]; rfl
  · refine .inr ⟨h2, h3, .inl rfl, ?_⟩
    rw [h4]
    exact pick_first_old r _ h2 ((elder_old h5 h2).imp id Nat.le_of_lt)
  · refine .inr ⟨h2, h3, .inr rfl, ?_⟩
    rw [h4]
    exact pick_second_old r _ h2 (elder_old h5 h2)
theorem Roots.frame {ss ss' : List ByteArray} {r : R8.Rt} {wh : Int} (h : Roots ss r wh) (hl : ss'.length = ss.length) (h0 : secAt ss' 0 = secAt ss 0) (h1 : secAt ss' 1 = secAt ss 1) : Roots ss' r wh := by
  unfold Roots bytesAt at *
  rw [hl, h0, h1]; exact h
theorem Roots.whichs {ss : List ByteArray} {r : R8.Rt} {wh : Int} (h : Roots ss r wh) : wh = -1 ∨ wh = 0 ∨ wh = 1 := by
  rcases h with h | h | h
  · exact .inl h.1
  · exact .inr (.inl h.1)
  · exact .inr (.inr h.1)
/-- The root of a commit, and the sector to which it goes. -/
def newR (r : R8.Rt) (n : Nat) (cs : List Int) : R8.Rt := ⟨(R8.nextR r).e, n, cs⟩
def toN (wh : Int) : Nat := if wh = 1 ∨ wh = -1 then 0 else 1
theorem toN_is (wh : Int) : R8.nextW wh = (toN wh : Nat) := by unfold R8.nextW toN; split <;> rfl
theorem newR_e (r : R8.Rt) (n : Nat) (cs : List Int) (he : r.e < 1000000) : (newR r n cs).e = r.e + 1 := by
  show (r.e + 1) % 18446744073709551616 = r.e + 1
  omega
section
variable {ss : List ByteArray} {cs : List Int} {t : T9.TB} {m : List Bool} {V : Pgs}
theorem cs_is (hs : Sto ss cs t m V) {i : Nat} (hi : i < 8) : cs.getD i 0 = (cN cs i : Int) := by
  have := hs.pos i hi
  unfold cN; omega
theorem Sto.okAt (hs : Sto ss cs t m V) {i : Nat} (hi : i < 8) : R8.okAt (ss.length : Nat) cs i := by
  have e := cs_is hs hi
  by_cases h0 : cN cs i = 0
  · left; rw [e, h0]; rfl
  · right
    have hcl := hs.len
    have hu : cN cs i ∈ usedL cs t.P := mem_used.2 (.inr (.inr (.inr ⟨h0, i, by rw [hcl]; exact hi, rfl⟩)))
    have h1 := hs.apart.2.2.2.1 i (by rw [hcl]; exact hi)
    have h2 := hs.inn _ hu
    refine ⟨by rw [e]; omega, by rw [e]; omega, ?_⟩
    intro k hk e2
    have := hs.apart.2.1 i k (by rw [List.length_map, hcl]; exact hi) (by rw [List.length_map, hcl]; omega) (by omega) (by rw [cN_map]; exact h0)
    rw [cN_map, cN_map] at this
    apply this
    unfold cN; rw [e2]
theorem newR_good (hs : Sto ss cs t m V) (r : R8.Rt) (he : r.e < 1000000) : R8.Good (newR r ss.length cs) := by
  have h1 := hs.n1
  have h2 := hs.n2
  refine ⟨⟨by rw [newR_e r _ _ he]; omega, ?_, ?_, fun i hi => hs.okAt hi⟩, hs.len, by rw [newR_e r _ _ he]; omega⟩
  · show (64 : Int) ≤ (ss.length : Nat); omega
  · show ((ss.length : Nat) : Int) ≤ 1024; omega
/-- An elder root with the new one's chunks. -/
theorem elder_good (hs : Sto ss cs t m V) {r : R8.Rt} (hr : R8.Good r) : R8.Good ⟨r.e, (ss.length : Nat), cs⟩ := by
  have h1 := hs.n1
  have h2 := hs.n2
  refine ⟨⟨hr.1.1, ?_, ?_, fun i hi => hs.okAt hi⟩, hs.len, hr.2.2⟩
  · show (64 : Int) ≤ (ss.length : Nat); omega
  · show ((ss.length : Nat) : Int) ≤ 1024; omega
theorem bytes_set (ss : List ByteArray) (i k : Nat) (d : ByteArray) (hi : i < ss.length) : bytesAt (ss.set i d) k = if i = k then d.data.toList else bytesAt ss k := by
  unfold bytesAt
  rw [secAt_set _ _ _ _ hi]
  split <;> rfl
/-- The next root is laid. -/
theorem Roots.next {ss2 : List ByteArray} {r : R8.Rt} {wh : Int} {t2 : T9.TB} {m2 : List Bool} {V2 : Pgs} (hs : Sto ss cs t2 m2 V2) (h : Roots ss r wh) (he : r.e < 1000000) (rb : ByteArray) (hrb : rb.data.toList = R8.putL (newR r ss.length cs)) : Roots (ss.set (toN wh) rb) (newR r ss.length cs) (R8.nextW wh) := by
  have hg := newR_good hs r he
  have hn := hs.n1
  have hlen : (newR r ss.length cs).n = ((ss.set (toN wh) rb).length : Nat) := by rw [List.length_set]; rfl
  have e1 := newR_e r ss.length cs he
  rcases h with ⟨rfl, h2, h3, h4⟩ | ⟨rfl, h2, h3, h4, h5⟩ | ⟨rfl, h2, h3, h4, h5⟩
  · refine .inr (.inl ⟨rfl, hg, hlen, ?_, .inl ?_⟩)
    · rw [bytes_set _ _ _ _ (by show 0 < ss.length; omega)]; exact hrb
    · rw [bytes_set _ _ _ _ (by show 0 < ss.length; omega), if_neg (by decide)]; exact h4
  · refine .inr (.inr ⟨rfl, hg, hlen, ?_, .inr ⟨r, h2, by omega, ?_⟩⟩)
    · rw [bytes_set _ _ _ _ (by show 1 < ss.length; omega)]; exact hrb
    · rw [bytes_set _ _ _ _ (by show 1 < ss.length; omega), if_neg (by decide)]; exact h4
  · refine .inr (.inl ⟨rfl, hg, hlen, ?_, .inr ⟨r, h2, by omega, ?_⟩⟩)
    · rw [bytes_set _ _ _ _ (by show 0 < ss.length; omega)]; exact hrb
    · rw [bytes_set _ _ _ _ (by show 0 < ss.length; omega), if_neg (by decide)]; exact h4
/-- The next root came in part. -/
theorem Roots.torn {ss2 : List ByteArray} {r : R8.Rt} {wh : Int} {t2 : T9.TB} {m2 : List Bool} {V2 : Pgs} (hs : Sto ss cs t2 m2 V2) (h : Roots ss r wh) (he : r.e < 1000000) (hl : ss2.length = ss.length)
    (k : Nat) (hk : k ≤ 256) (ht : bytesAt ss2 (toN wh) = R8.torn (R8.putL (newR r ss.length cs)) (bytesAt ss (toN wh)) k) (ho : secAt ss2 (1 - toN wh) = secAt ss (1 - toN wh)) : Picks ss2 r wh ∨ Picks ss2 (newR r ss.length cs) (R8.nextW wh) := by
  have hg := newR_good hs r he
  have e1 := newR_e r ss.length cs he
  have ho' : bytesAt ss2 (1 - toN wh) = bytesAt ss (1 - toN wh) := by unfold bytesAt; rw [ho]
  have hlen : (newR r ss.length cs).n = (ss2.length : Nat) := by rw [hl]; rfl
  rcases h with ⟨rfl, h2, h3, h4⟩ | ⟨rfl, h2, h3, h4, h5⟩ | ⟨rfl, h2, h3, h4, h5⟩
  · have t0 : bytesAt ss2 0 = R8.torn (R8.putL (newR r ss.length cs)) (R8.zer 256) k := by rw [← h3]; exact ht
    have t1 : bytesAt ss2 1 = R8.zer 256 := by rw [← h4]; exact ho'
    rcases R8.pick_first _ hg k hk with e | ⟨_, e⟩
    · right
      exact .inr ⟨hg, hlen, .inl rfl, by rw [t0, t1]; exact e⟩
    · left
      exact .inl ⟨rfl, h2, by rw [t0, t1]; exact e⟩
  · have t1 : bytesAt ss2 1 = R8.torn (R8.putL (newR r ss.length cs)) (bytesAt ss 1) k := ht
    have t0 : bytesAt ss2 0 = R8.putL r := by rw [← h4]; exact ho'
    have hx := elder_good hs h2
    have hb : bytesAt ss 1 = R8.zer 256 ∨ ∃ y, R8.Good y ∧ y.e < (⟨r.e, (ss.length : Nat), cs⟩ : R8.Rt).e ∧ bytesAt ss 1 = R8.putL y := h5
    have hto : R8.getF (bytesAt ss2 1) = (newR r ss.length cs, 0) ∨ (R8.getF (bytesAt ss2 1)).2 ≠ 0 ∨ (R8.getF (bytesAt ss2 1)).1.e < r.e := by
      rw [t1]
      have hh : R8.nextR ⟨r.e, (ss.length : Nat), cs⟩ = newR r ss.length cs := rfl
      rcases hb with hb | ⟨y, hy⟩
      · rcases R8.torn_over ⟨r.e, (ss.length : Nat), cs⟩ ⟨0, 0, []⟩ (bytesAt ss 1) hx (by show r.e < _; omega) (.inl hb) k hk with e | ⟨_, e⟩
        · left; rw [← hh]; exact e
        · right; rw [← hh]; exact e
      · rcases R8.torn_over ⟨r.e, (ss.length : Nat), cs⟩ y (bytesAt ss 1) hx (by show r.e < _; omega) (.inr hy) k hk with e | ⟨_, e⟩
        · left; rw [← hh]; exact e
        · right; rw [← hh]; exact e
    rcases hto with e | e
    · right
      exact .inr ⟨hg, hlen, .inr rfl, by rw [t0]; exact pick_first_new r _ _ h2 e (by omega)⟩
    · left
      exact .inr ⟨h2, by rw [hl]; exact h3, .inl rfl, by rw [t0]; exact pick_first_old r _ h2 (e.imp id Nat.le_of_lt)⟩
  · have t1 : bytesAt ss2 0 = R8.torn (R8.putL (newR r ss.length cs)) (bytesAt ss 0) k := ht
    have t0 : bytesAt ss2 1 = R8.putL r := by rw [← h4]; exact ho'
    have hx := elder_good hs h2
    have hb : bytesAt ss 0 = R8.zer 256 ∨ ∃ y, R8.Good y ∧ y.e < (⟨r.e, (ss.length : Nat), cs⟩ : R8.Rt).e ∧ bytesAt ss 0 = R8.putL y := h5
    have hto : R8.getF (bytesAt ss2 0) = (newR r ss.length cs, 0) ∨ (R8.getF (bytesAt ss2 0)).2 ≠ 0 ∨ (R8.getF (bytesAt ss2 0)).1.e < r.e := by
      rw [t1]
      have hh : R8.nextR ⟨r.e, (ss.length : Nat), cs⟩ = newR r ss.length cs := rfl
      rcases hb with hb | ⟨y, hy⟩
      · rcases R8.torn_over ⟨r.e, (ss.length : Nat), cs⟩ ⟨0, 0, []⟩ (bytesAt ss 0) hx (by show r.e < _; omega) (.inl hb) k hk with e | ⟨_, e⟩
        · left; rw [← hh]; exact e
        · right; rw [← hh]; exact e
      · rcases R8.torn_over ⟨r.e, (ss.length : Nat), cs⟩ y (bytesAt ss 0) hx (by show r.e < _; omega) (.inr hy) k hk with e | ⟨_, e⟩
        · left; rw [← hh]; exact e
        · right; rw [← hh]; exact e
    rcases hto with e | e
    · right
      exact .inr ⟨hg, hlen, .inl rfl, by rw [t0]; exact pick_second_new r _ _ h2 e (by omega)⟩
    · left
      exact .inr ⟨h2, by rw [hl]; exact h3, .inr rfl, by rw [t0]; exact pick_second_old r _ h2 e⟩
end
/-- A disk on which a commit was given up. -/
def Crashed (s0 s1 : D5.St) (ws : List (Int × ByteArray)) (tt : Nat) (rb : ByteArray) : Prop :=
  (s1.secs = s0.secs ∧ ∀ x ∈ s1.pend, x ∈ ws) ∨ (s1.secs = D5.laidF ws s0.secs ∧ (s1.pend = [] ∨ s1.pend = [((tt : Int), rb)]))
/-- A store that can be opened. -/
def Opens (ss : List ByteArray) (V : Pgs) : Prop := ∃ r wh t m, Picks ss r wh ∧ Sto ss r.cs t m V
theorem Sto.set01 {ss : List ByteArray} {cs : List Int} {t : T9.TB} {m : List Bool} {V : Pgs} (h : Sto ss cs t m V) (i : Nat) (hi : i < 2) (d : ByteArray) (hd : d.size = 256) : Sto (ss.set i d) cs t m V := by
  have hn := h.n1
  refine h.frame (List.length_set ..) ?_ (fun k hk _ => secAt_set_off _ _ _ _ (by omega))
  intro x hx
  rcases List.mem_or_eq_of_mem_set hx with hx | rfl
  · exact h.whole x hx
  · exact hd
theorem crash {s0 s1 : D5.St} {r : R8.Rt} {wh : Int} {t : T9.TB} {m : List Bool} {V : Pgs} {T : T9.TB} {M : List Bool} {X V' : Pgs} {s : PlanS} {rb : ByteArray} {N : Nat} (hs : Sto s0.secs r.cs t m V) (hr : Roots s0.secs r wh) (he : r.e < 1000000)
    (h : Txi s0.secs.length t m V T M X V') (hp : PlanI s0.secs.length T.P r.cs M (T9.dirtyF T.D) s) (hrb : rb.data.toList = R8.putL (newR r s0.secs.length s.cs))
    (hc : Crashed s0 s1 (wrF T.P X ++ s.ws) (toN wh) rb) (hok : s1.Ok N) (cs : List UInt8) : Opens (D5.bootS s1 cs).secs V ∨ Opens (D5.bootS s1 cs).secs V' := by
  have hw := h.wrs hs hp
  have hB := (hok.boot cs).whole
  have hlB : (D5.bootS s1 cs).secs.length = s1.secs.length := D5.afterF_length ..
  have hlaid := D5.laidF_length (wrF T.P X ++ s.ws) s0.secs
  have hold := hs.keeps hw
  have hnew := hs.commit h hp
  have hoff : ∀ k, k < 2 → secAt (D5.laidF (wrF T.P X ++ s.ws) s0.secs) k = secAt s0.secs k := by
    intro k hk
    refine laid_off k _ _ fun x hx => ?_
    obtain ⟨c, e, h2, _⟩ := hw.each x hx
    exact ⟨c, e, by omega⟩
  have hr1 : Roots (D5.laidF (wrF T.P X ++ s.ws) s0.secs) r wh := hr.frame hlaid (hoff 0 (by omega)) (hoff 1 (by omega))
  rcases hc with ⟨h1, h2⟩ | ⟨h1, h2⟩
  · left
    have hne : ∀ k : Nat, (k < 2 ∨ m.getD k false = true) → secAt (D5.bootS s1 cs).secs k = secAt s0.secs k := by
      intro k hk
      rw [boot_off s1 cs k, h1]
      intro x hx e
      obtain ⟨c, e1, e2, _, e4, _⟩ := hw.each x (h2 x hx)
      have : c = k := by omega
      subst this
      rcases hk with hk | hk
      · omega
      · rw [hk] at e4; cases e4
    refine ⟨r, wh, t, m, (hr.frame (by rw [hlB, h1]) (hne 0 (.inl (by omega))) (hne 1 (.inl (by omega)))).picks, ?_⟩
    exact hs.frame (by rw [hlB, h1]) hB (fun k _ hm => hne k (.inr hm))
  · rcases h2 with h2 | h2
    · left
      have hall : ∀ k, secAt (D5.bootS s1 cs).secs k = secAt s1.secs k := boot_none s1 cs h2
      refine ⟨r, wh, t, m, (hr1.frame (by rw [hlB, h1]) (by rw [hall, h1]) (by rw [hall, h1])).picks, ?_⟩
      exact hold.frame (by rw [hlB, h1]) hB (fun k _ _ => by rw [hall, h1])
    · have hto : toN wh < s1.secs.length := by
        have := hs.n1
        rw [h1, hlaid]
        unfold toN
        split <;> omega
      have hto2 : toN wh < 2 := by unfold toN; split <;> omega
      have hrl : rb.size = 256 := by
        have := (newR_good hnew r he).len
        rw [hlaid] at this
        rw [← hrb, Array.length_toList] at this
        exact this
      obtain ⟨k, hk, hb⟩ := boot_one s1 cs (toN wh) rb h2 hto hok.whole hrl
      rw [hrb, h1] at hb
      have hoth : ∀ i : Nat, i ≠ toN wh → secAt (D5.bootS s1 cs).secs i = secAt (D5.laidF (wrF T.P X ++ s.ws) s0.secs) i := by
        intro i hi
        rw [boot_off s1 cs i, h1]
        intro x hx e
        rw [h2, List.mem_singleton] at hx
        rw [hx] at e
        apply hi
        have e2 : ((toN wh : Nat) : Int) = (i : Int) := e
        omega
      have hone : 1 - toN wh ≠ toN wh := by unfold toN; split <;> omega
      have hb' : bytesAt (D5.bootS s1 cs).secs (toN wh) = R8.torn (R8.putL (newR r (D5.laidF (wrF T.P X ++ s.ws) s0.secs).length s.cs)) (bytesAt (D5.laidF (wrF T.P X ++ s.ws) s0.secs) (toN wh)) k := by rw [hlaid]; exact hb
      rcases Roots.torn hnew hr1 he (by rw [hlB, h1]) k hk hb' (hoth _ hone) with e | e
      · left
        exact ⟨r, wh, t, m, e, hold.frame (by rw [hlB, h1]) hB (fun k hk2 _ => hoth k (by omega))⟩
      · right
        exact ⟨_, _, T9.cleanF T, _, e, hnew.frame (by rw [hlB, h1]) hB (fun k hk2 _ => hoth k (by omega))⟩
end Go.Proofs.YtliiooldlooagaaGreatDoor.J10
