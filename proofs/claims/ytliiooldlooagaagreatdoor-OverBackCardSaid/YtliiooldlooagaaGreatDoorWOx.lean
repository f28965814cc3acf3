/-
  Texts that are held: their chains apart from each other, no page beside them; plain mathematics.
-/
import Derived.Test.YtliiooldlooagaaGreatDoorZO3
set_option linter.unusedSimpArgs false
set_option linter.unusedVariables false
namespace Go.Proofs.YtliiooldlooagaaGreatDoor.O12
open Go.RowKit J10
/-- Their pages. -/
def allP (H : List (List Int × ByteArray)) : List Int := H.flatMap (·.1)
theorem allP_snoc (H : List (List Int × ByteArray)) (x : List Int × ByteArray) : allP (H ++ [x]) = allP H ++ x.1 := by
  unfold allP; rw [List.flatMap_append]; simp
theorem allP_cons (H : List (List Int × ByteArray)) (x : List Int × ByteArray) : allP (x :: H) = x.1 ++ allP H := by
  unfold allP; rw [List.flatMap_cons]
theorem mem_allP {H : List (List Int × ByteArray)} {x : List Int × ByteArray} (hx : x ∈ H) {q : Int} (hq : q ∈ x.1) : q ∈ allP H := List.mem_flatMap.2 ⟨x, hx, hq⟩
/-- Texts held. -/
structure Hs (V : Pgs) (H : List (List Int × ByteArray)) : Prop where
  ch : ∀ x ∈ H, Ch V x.1 x.2.data.toList ∧ 1 ≤ x.2.size ∧ x.2.size ≤ 2000
  nd : (allP H).Nodup
  all : ∀ q, V q ≠ none ↔ q ∈ allP H
  low : Low V
theorem ch_len {V : Pgs} {ps : List Int} {s : ByteArray} (h : Ch V ps s.data.toList) : ps.length = need s.size := h.length.trans (by rw [Array.length_toList]; rfl)
theorem Hs.nil : Hs V0 [] := ⟨(fun _ h => by cases h), List.nodup_nil, fun q => ⟨fun h => absurd rfl h, fun h => by cases h⟩, low_nil⟩
theorem Hs.rng {V : Pgs} {H : List (List Int × ByteArray)} (h : Hs V H) : ∀ q ∈ allP H, 1 ≤ q ∧ q ≤ 960 := fun q hq => by
  obtain ⟨x, hx, hq⟩ := List.mem_flatMap.1 hq
  exact ((h.ch x hx).1.stands q hq).2
theorem Hs.cnt {V : Pgs} {H : List (List Int × ByteArray)} (h : Hs V H) : cntV V = (allP H).length := cntV_list h.nd h.all h.rng
theorem allP_len {V : Pgs} : ∀ {H : List (List Int × ByteArray)}, (∀ x ∈ H, Ch V x.1 x.2.data.toList ∧ 1 ≤ x.2.size ∧ x.2.size ≤ 2000) → (allP H).length ≤ 9 * H.length
  | [], _ => Nat.le_refl _
  | x :: H, h => by
    have ih := allP_len (H := H) fun y hy => h y (List.mem_cons_of_mem _ hy)
    obtain ⟨a, _, b⟩ := h x List.mem_cons_self
    have := ch_len a
    have := need_le b
    rw [allP_cons, List.length_append, List.length_cons]
    omega
theorem Hs.len {V : Pgs} {H : List (List Int × ByteArray)} (h : Hs V H) : cntV V ≤ 9 * H.length := h.cnt ▸ allP_len h.ch
theorem lowM_mem {V : Pgs} : ∀ {ps : List Int}, LowM V ps → ∀ p ∈ ps, ∀ r : Int, 1 ≤ r → r < p → V r ≠ none ∨ r ∈ ps
  | [], _, _, h => by cases h
  | a :: ps, h, p, hp => fun r h1 h2 => by
    rcases List.mem_cons.1 hp with rfl | hp
    · exact (h.1 r h1 h2).imp id (List.mem_cons_of_mem _)
    · exact (lowM_mem h.2 p hp r h1 h2).imp id (List.mem_cons_of_mem _)
/-- As many pages stand, at least, as stand below one that all stand below. -/
theorem cnt_ge {V : Pgs} {m : Nat} (hm : m ≤ 960) (h : ∀ r : Int, 1 ≤ r → r ≤ m → V r ≠ none) : m ≤ cntV V := by
  unfold cntV
  have hs : List.Sublist (List.range m) (List.range 960) := by
    have e : List.range 960 = List.range m ++ (List.range (960 - m)).map (m + ·) := by
      rw [← List.range_add, Nat.add_sub_cancel' hm]
    rw [e]
    exact List.sublist_append_left _ _
  have h1 := hs.countP_le (p := fun j : Nat => (V ((j : Int) + 1)).isSome)
  have h2 : (List.range m).countP (fun j : Nat => (V ((j : Int) + 1)).isSome) = (List.range m).length := by
    rw [List.countP_eq_length]
    intro j hj
    have := h ((j : Int) + 1) (by omega) (by have := List.mem_range.1 hj; omega)
    exact Option.isSome_iff_ne_none.2 this
  rw [List.length_range] at h2
  omega
theorem Hs.put {V W : Pgs} {H : List (List Int × ByteArray)} (h : Hs V H) {ps : List Int} {s : ByteArray} (m : Made V W ps) (l : LowM V ps) (c : Ch W ps s.data.toList) (s1 : 1 ≤ s.size) (s2 : s.size ≤ 2000) (hc : cntV W ≤ 119) : Hs W (H ++ [(ps, s)]) := by
  have off : ∀ q ∈ allP H, q ∉ ps := fun q hq hp => (h.all q).2 hq (m.new q hp).1
  have same : ∀ q ∈ allP H, W q = V q := fun q hq => m.same q (off q hq)
  have all' : ∀ q, W q ≠ none ↔ q ∈ allP H ∨ q ∈ ps := fun q => by
    by_cases hp : q ∈ ps
    · exact ⟨fun _ => .inr hp, fun _ => (c.stands q hp).1⟩
    · rw [m.same q hp, h.all q]
      exact ⟨.inl, fun e => e.resolve_right hp⟩
  refine ⟨fun x hx => ?_, ?_, fun q => ?_, fun q hq => ?_⟩
  · rcases List.mem_append.1 hx with hx | hx
    · obtain ⟨a, b⟩ := h.ch x hx
      exact ⟨a.frame fun q hq => same q (mem_allP hx hq), b⟩
    · cases List.mem_singleton.1 hx
      exact ⟨c, s1, s2⟩
  · rw [allP_snoc]
    exact List.nodup_append.2 ⟨h.nd, m.nd, fun a ha b hb e => off a ha (e ▸ hb)⟩
  · rw [allP_snoc, List.mem_append]
    exact all' q
  · rcases (all' q).1 hq with hq' | hp
    · exact h.low q ((h.all q).2 hq')
    · obtain ⟨_, q1, q2⟩ := m.new q hp
      have := cnt_ge (V := W) (m := (q - 1).toNat) (by omega) (fun r r1 r2 => (all' r).2 ((lowM_mem l q hp r r1 (by omega)).imp (fun e => (h.all r).1 e) id))
      omega
theorem Hs.drop {V : Pgs} {H : List (List Int × ByteArray)} {x : List Int × ByteArray} (h : Hs V (x :: H)) : Hs (delL V x.1) H := by
  have nd := h.nd
  rw [allP_cons, List.nodup_append] at nd
  have off : ∀ q ∈ allP H, q ∉ x.1 := fun q hq hp => nd.2.2 q hp q hq rfl
  have same : ∀ q ∈ allP H, delL V x.1 q = V q := fun q hq => if_neg (off q hq)
  refine ⟨fun y hy => ?_, nd.2.1, fun q => ?_, fun q hq => ?_⟩
  · obtain ⟨a, b⟩ := h.ch y (List.mem_cons_of_mem _ hy)
    exact ⟨a.frame fun q hq => same q (mem_allP hy hq), b⟩
  · have ha := h.all q
    rw [allP_cons, List.mem_append] at ha
    constructor
    · intro hq
      by_cases hp : q ∈ x.1
      · exact absurd (if_pos hp) hq
      · rw [show delL V x.1 q = V q from if_neg hp] at hq
        exact (ha.1 hq).resolve_left hp
    · intro hq
      rw [same q hq]
      exact ha.2 (.inr hq)
  · by_cases hp : q ∈ x.1
    · exact absurd (if_pos hp) hq
    · rw [show delL V x.1 q = V q from if_neg hp] at hq
      exact h.low q hq
/-- What its chain tells. -/
theorem ch_first {V : Pgs} {ps : List Int} {s : ByteArray} (h : Ch V ps s.data.toList) (s1 : 1 ≤ s.size) (s2 : s.size ≤ 2000) : getL V (need s.size) ((hd ps : Nat) : Int) s.size = some s.data.toList ∧ pagesL V 9 ((hd ps : Nat) : Int) = some ps ∧ 1 ≤ hd ps ∧ hd ps ≤ 960 := by
  have hl : s.data.toList.length = s.size := Array.length_toList ..
  have hne : s.data.toList ≠ [] := fun e => by rw [e] at hl; simp at hl; omega
  cases ps with
  | nil => exact absurd h hne
  | cons p ps =>
    have e := h.hd_cast (p := p) (qs := ps) rfl
    have g := Ch.get h ((hd (p :: ps) : Nat) : Int) (fun q qs e' => by cases e'; exact e)
    rw [hl] at g
    have hr := (h.stands p List.mem_cons_self).2
    exact ⟨g, by rw [e]; exact Ch.pages 9 h p ps rfl (by rw [ch_len h]; exact need_le s2), by omega, h.hd_lt⟩
theorem Hs.none {V : Pgs} (h : Hs V []) : V = V0 := funext fun q => by
  cases e : V q with
  | none => rfl
  | some x => exact absurd ((h.all q).1 (by rw [e]; exact fun e => by cases e)) (by simp [allP])
end Go.Proofs.YtliiooldlooagaaGreatDoor.O12
