/-
  Chains of pages, as plain mathematics: their bodies, what is read of them, what a Put leaves; no conditions beside those that each law states.
-/
import Derived.Test.YtliiooldlooagaaGreatDoorZJ6
set_option linter.unusedSimpArgs false
set_option linter.unusedVariables false
namespace Go.Proofs.YtliiooldlooagaaGreatDoor.O12
open Go.RowKit J10
/-- How many pages a chain of n bytes has. -/
def need (n : Nat) : Nat := (n + 237) / 238
/-- A body: the number of the next page, and a piece. -/
def bodyL (next : Nat) (piece : List UInt8) : List UInt8 := UInt8.ofNat (next / 256) :: UInt8.ofNat (next % 256) :: piece
def bodyB (next : Nat) (piece : List UInt8) : ByteArray := ⟨(bodyL next piece).toArray⟩
theorem bodyB_size (next : Nat) (piece : List UInt8) : (bodyB next piece).size = piece.length + 2 := by
  show (bodyL next piece).toArray.size = _
  rw [List.size_toArray]; rfl
theorem bodyB_list (next : Nat) (piece : List UInt8) : (bodyB next piece).data.toList = bodyL next piece := rfl
/-- What is read of a body. -/
def nxt (b : ByteArray) : Nat := (b.data.toList.getD 0 0).toNat * 256 + (b.data.toList.getD 1 0).toNat
def pce (b : ByteArray) : List UInt8 := b.data.toList.drop 2
theorem nxt_body {next : Nat} (h : next < 65536) (piece : List UInt8) : nxt (bodyB next piece) = next := by
  unfold nxt
  rw [bodyB_list]
  show (UInt8.ofNat (next / 256)).toNat * 256 + (UInt8.ofNat (next % 256)).toNat = next
  rw [UInt8.toNat_ofNat', UInt8.toNat_ofNat']
  omega
theorem pce_body (next : Nat) (piece : List UInt8) : pce (bodyB next piece) = piece := rfl
theorem nxt_lt (b : ByteArray) : nxt b < 65536 := by
  unfold nxt
  have h1 := UInt8.toNat_lt (b.data.toList.getD 0 0)
  have h2 := UInt8.toNat_lt (b.data.toList.getD 1 0)
  omega
theorem pce_length (b : ByteArray) : (pce b).length = b.size - 2 := by
  unfold pce
  rw [List.length_drop, Array.length_toList]; rfl
/-- What a page tells: the body, if it is of the kind 2. -/
def bodyAt (V : Pgs) (p : Int) : Option ByteArray := match V p with
  | some (kd, b) => if kd = 2 ∧ 2 < b.size then some b else none
  | none => none
/-- What Get tells of a chain. -/
def getL (V : Pgs) : Nat → Int → Nat → Option (List UInt8)
  | 0, _, _ => some []
  | k + 1, p, left => match bodyAt V p with
    | some b => if b.size - 2 = min left 238 ∧ (nxt b = 0 ↔ left ≤ 238) then (getL V k (nxt b) (left - 238)).map (pce b ++ ·) else none
    | none => none
/-- What Pages tells. -/
def pagesL (V : Pgs) : Nat → Int → Option (List Int)
  | 0, _ => none
  | k + 1, p => match bodyAt V p with
    | some b => if nxt b = 0 then some [p] else if b.size = 240 then (pagesL V k (nxt b)).map (p :: ·) else none
    | none => none
/-- The number of a chain's first page. -/
def hd : List Int → Nat
  | [] => 0
  | p :: _ => p.toNat
/-- A chain: its pages, and its text. -/
def Ch (V : Pgs) : List Int → List UInt8 → Prop
  | [], s => s = []
  | p :: ps, s => s ≠ [] ∧ (1 ≤ p ∧ p ≤ 960) ∧ V p = some (2, bodyB (hd ps) (s.take 238)) ∧ Ch V ps (s.drop 238)
theorem need_drop {n : Nat} (h : 0 < n) : need n = need (n - 238) + 1 := by unfold need; omega
theorem need_zero {n : Nat} : need n = 0 ↔ n = 0 := by unfold need; omega
theorem need_le {n : Nat} (h : n ≤ 2000) : need n ≤ 9 := by unfold need; omega
theorem len_pos {s : List UInt8} (h : s ≠ []) : 0 < s.length := List.length_pos_iff.2 h
theorem Ch.length : ∀ {ps : List Int} {V : Pgs} {s : List UInt8}, Ch V ps s → ps.length = need s.length
  | [], _, s, h => by rw [show s = [] from h]; rfl
  | p :: ps, V, s, ⟨h0, _, _, h⟩ => by
    have := h.length
    rw [List.length_cons, this, need_drop (len_pos h0), List.length_drop]
theorem Ch.hd_iff {ps : List Int} {V : Pgs} {s : List UInt8} (h : Ch V ps s) : hd ps = 0 ↔ s = [] := by
  cases ps with
  | nil => exact ⟨fun _ => h, fun _ => rfl⟩
  | cons p ps =>
    have h1 := h.2.1
    constructor
    · intro e
      have e' : p.toNat = 0 := e
      omega
    · intro e; exact absurd e h.1
theorem Ch.hd_lt {ps : List Int} {V : Pgs} {s : List UInt8} (h : Ch V ps s) : hd ps ≤ 960 := by
  cases ps with
  | nil => exact Nat.zero_le _
  | cons p ps => have h1 := h.2.1; show p.toNat ≤ 960; omega
theorem Ch.hd_cast {ps : List Int} {V : Pgs} {s : List UInt8} (h : Ch V ps s) {p : Int} {qs : List Int} (e : ps = p :: qs) : ((hd ps : Nat) : Int) = p := by
  subst e
  have h1 := h.2.1
  show ((p.toNat : Nat) : Int) = p
  omega
theorem Ch.bodyAt {p : Int} {ps : List Int} {V : Pgs} {s : List UInt8} (h : Ch V (p :: ps) s) : O12.bodyAt V p = some (bodyB (hd ps) (s.take 238)) := by
  have h1 := len_pos h.1
  unfold O12.bodyAt
  rw [h.2.2.1]
  show (if (2 : Nat) = 2 ∧ 2 < (bodyB (hd ps) (s.take 238)).size then _ else none) = _
  rw [if_pos ⟨rfl, by rw [bodyB_size, List.length_take]; omega⟩]
/-- What was put is got. -/
theorem Ch.get : ∀ {ps : List Int} {V : Pgs} {s : List UInt8}, Ch V ps s → ∀ p, (∀ q qs, ps = q :: qs → p = q) → getL V (need s.length) p s.length = some s
  | [], _, s, h, _, _ => by rw [show s = [] from h]; rfl
  | p :: ps, V, s, h, q, hq => by
    obtain rfl := hq p ps rfl
    have h1 := len_pos h.1
    have ht := h.2.2.2
    have hl := ht.hd_lt
    have hb := h.bodyAt
    have hz := ht.hd_iff
    have ih := ht.get (hd ps) (fun q' qs e => ht.hd_cast e)
    rw [need_drop h1]
    unfold getL
    rw [hb]
    show (if (bodyB (hd ps) (s.take 238)).size - 2 = min s.length 238 ∧ (nxt (bodyB (hd ps) (s.take 238)) = 0 ↔ s.length ≤ 238) then _ else none) = _
    rw [nxt_body (by omega), bodyB_size, List.length_take, if_pos ⟨by omega, by
      rw [hz]
      constructor
      · intro e
        have := congrArg List.length e
        rw [List.length_drop] at this
        simp at this
        omega
      · intro e; exact List.drop_eq_nil_of_le e⟩, pce_body]
    rw [List.length_drop] at ih
    rw [ih]
    show some (s.take 238 ++ s.drop 238) = some s
    rw [List.take_append_drop]
/-- Its pages are told. -/
theorem Ch.pages : ∀ {ps : List Int} {V : Pgs} {s : List UInt8} (k : Nat), Ch V ps s → ∀ p qs, ps = p :: qs → ps.length ≤ k → pagesL V k p = some ps
  | [], _, _, _, _, _, _, e, _ => by cases e
  | p :: ps, V, s, 0, h, _, _, e, hk => by simp at hk
  | p :: ps, V, s, k + 1, h, q, qs, e, hk => by
    cases e
    have h1 := len_pos h.1
    have ht := h.2.2.2
    have hl := ht.hd_lt
    have hb := h.bodyAt
    have hz := ht.hd_iff
    unfold pagesL
    rw [hb]
    show (if nxt (bodyB (hd ps) (s.take 238)) = 0 then some [p] else if (bodyB (hd ps) (s.take 238)).size = 240 then (pagesL V k (nxt (bodyB (hd ps) (s.take 238)))).map (p :: ·) else none) = _
    rw [nxt_body (by omega)]
    cases ps with
    | nil => rfl
    | cons q ps =>
      have h2 : s.drop 238 ≠ [] := ht.1
      have h3 : hd (q :: ps) ≠ 0 := fun e => h2 (hz.1 e)
      have h4 : 238 < s.length := by
        have := len_pos h2
        rw [List.length_drop] at this
        omega
      rw [if_neg h3, if_pos (by rw [bodyB_size, List.length_take]; omega), ht.pages k (hd (q :: ps)) ps (by rw [ht.hd_cast rfl]) (by simpa using hk)]
      rfl
theorem Ch.frame : ∀ {ps : List Int} {V W : Pgs} {s : List UInt8}, Ch V ps s → (∀ q ∈ ps, W q = V q) → Ch W ps s
  | [], _, _, _, h, _ => h
  | p :: ps, V, W, s, ⟨h0, h1, h2, h3⟩, he => ⟨h0, h1, (he p (List.mem_cons_self ..)).trans h2, h3.frame fun q hq => he q (List.mem_cons_of_mem _ hq)⟩
theorem Ch.stands : ∀ {ps : List Int} {V : Pgs} {s : List UInt8}, Ch V ps s → ∀ q ∈ ps, V q ≠ none ∧ 1 ≤ q ∧ q ≤ 960
  | [], _, _, _, q, hq => by cases hq
  | p :: ps, V, s, ⟨_, h1, h2, h3⟩, q, hq => by
    rcases List.mem_cons.1 hq with rfl | hq
    · exact ⟨by rw [h2]; exact fun e => (by cases e), h1⟩
    · exact h3.stands q hq
/-- One more piece, ahead. -/
theorem Ch.cons {ps : List Int} {V : Pgs} {s : List UInt8} (h : Ch V ps (s.drop 238)) (h0 : s ≠ []) {p : Int} (h1 : 1 ≤ p) (h2 : p ≤ 960) (hp : p ∉ ps) : Ch (upd V p (2, bodyB (hd ps) (s.take 238))) (p :: ps) s :=
  ⟨h0, ⟨h1, h2⟩, upd_same .., h.frame fun q hq => upd_off _ _ (fun e => hp (e ▸ hq))⟩
/-- What is made anew. -/
structure Made (V W : Pgs) (ps : List Int) : Prop where
  new : ∀ p ∈ ps, V p = none ∧ 1 ≤ p ∧ p ≤ 960
  nd : ps.Nodup
  same : ∀ q, q ∉ ps → W q = V q
theorem Made.nil (V : Pgs) : Made V V [] := ⟨(fun _ h => by cases h), List.nodup_nil, fun _ _ => rfl⟩
theorem Made.cons {V W : Pgs} {ps : List Int} (h : Made V W ps) {p : Int} (hp : W p = none) (hs : ∀ q ∈ ps, W q ≠ none) (h1 : 1 ≤ p) (h2 : p ≤ 960) (x : Nat × ByteArray) : Made V (upd W p x) (p :: ps) := by
  have hn : p ∉ ps := fun e => hs p e hp
  refine ⟨fun q hq => ?_, List.nodup_cons.2 ⟨hn, h.nd⟩, fun q hq => ?_⟩
  · rcases List.mem_cons.1 hq with rfl | hq
    · exact ⟨by rw [← h.same _ hn]; exact hp, h1, h2⟩
    · exact h.new q hq
  · rw [List.mem_cons, not_or] at hq
    rw [upd_off _ _ hq.1]
    exact h.same q hq.2
/-- Pages that are let go. -/
def delL (V : Pgs) (ps : List Int) : Pgs := fun q => if q ∈ ps then none else V q
theorem delL_nil (V : Pgs) : delL V [] = V := by funext q; unfold delL; simp
theorem delL_cons (V : Pgs) (p : Int) (ps : List Int) : delL (del V p) ps = delL V (p :: ps) := by
  funext q
  unfold delL del
  by_cases e1 : q = p <;> by_cases e2 : q ∈ ps <;> simp [e1, e2]
theorem delL_snoc (V : Pgs) (p : Int) (ps : List Int) : del (delL V ps) p = delL V (ps ++ [p]) := by
  funext q
  unfold delL del
  by_cases e1 : q = p <;> by_cases e2 : q ∈ ps <;> simp [e1, e2]
theorem Made.back {V W : Pgs} {ps : List Int} (h : Made V W ps) : delL W ps = V := by
  funext q
  unfold delL
  by_cases e : q ∈ ps
  · rw [if_pos e]; exact (h.new q e).1.symm
  · rw [if_neg e]; exact h.same q e
theorem bodyAt_some {V : Pgs} {p : Int} {b : ByteArray} (h : bodyAt V p = some b) : V p = some (2, b) ∧ 2 < b.size := by
  unfold bodyAt at h
  cases hv : V p with
  | none => rw [hv] at h; cases h
  | some x =>
    obtain ⟨kd, b'⟩ := x
    rw [hv] at h
    simp only at h
    by_cases e : kd = 2 ∧ 2 < b'.size
    · rw [if_pos e] at h
      injection h with h
      obtain ⟨rfl, e⟩ := e
      subst h
      exact ⟨rfl, e⟩
    · rw [if_neg e] at h; cases h
/-- The pages of a chain that ends are told alike, however far one goes; all stand, none twice. -/
theorem pagesL_one : ∀ {k j : Nat} {V : Pgs} {p : Int} {l m : List Int}, pagesL V k p = some l → pagesL V j p = some m → l = m
  | 0, _, _, _, _, _, h, _ => by cases h
  | _ + 1, 0, _, _, _, _, _, h => by cases h
  | k + 1, j + 1, V, p, l, m, h, h' => by
    unfold pagesL at h h'
    cases hb : bodyAt V p with
    | none => rw [hb] at h; cases h
    | some b =>
      rw [hb] at h h'
      simp only at h h'
      by_cases e : nxt b = 0
      · rw [if_pos e] at h h'
        rw [← Option.some.inj h, ← Option.some.inj h']
      · rw [if_neg e] at h h'
        by_cases e2 : b.size = 240
        · rw [if_pos e2] at h h'
          obtain ⟨a, ha, rfl⟩ := Option.map_eq_some_iff.1 h
          obtain ⟨c, hc, rfl⟩ := Option.map_eq_some_iff.1 h'
          rw [pagesL_one ha hc]
        · rw [if_neg e2] at h; cases h
theorem pagesL_tail : ∀ {k : Nat} {V : Pgs} {p : Int} {l : List Int}, pagesL V k p = some l → (∀ q ∈ l, V q ≠ none ∧ ∃ j m, pagesL V j q = some m ∧ m.length ≤ l.length) ∧ (∃ t, l = p :: t ∧ ∀ q ∈ t, ∃ j m, pagesL V j q = some m ∧ m.length ≤ t.length)
  | 0, _, _, _, h => by cases h
  | k + 1, V, p, l, h => by
    have h0 := h
    unfold pagesL at h
    cases hb : bodyAt V p with
    | none => rw [hb] at h; cases h
    | some b =>
      rw [hb] at h
      simp only at h
      have hv := (bodyAt_some hb).1
      have hv' : V p ≠ none := by rw [hv]; exact fun e => by cases e
      by_cases e : nxt b = 0
      · rw [if_pos e] at h
        have hl := (Option.some.inj h).symm
        subst hl
        refine ⟨fun q hq => ?_, [], rfl, fun q hq => by cases hq⟩
        rw [List.mem_singleton] at hq
        subst hq
        exact ⟨hv', k + 1, _, h0, Nat.le_refl _⟩
      · rw [if_neg e] at h
        by_cases e2 : b.size = 240
        · rw [if_pos e2] at h
          obtain ⟨a, ha, rfl⟩ := Option.map_eq_some_iff.1 h
          obtain ⟨i1, _⟩ := pagesL_tail ha
          refine ⟨fun q hq => ?_, a, rfl, fun q hq => (i1 q hq).2⟩
          rcases List.mem_cons.1 hq with rfl | hq
          · exact ⟨hv', k + 1, _, h0, Nat.le_refl _⟩
          · obtain ⟨z1, j, m, z2, z3⟩ := i1 q hq
            exact ⟨z1, j, m, z2, by simp; omega⟩
        · rw [if_neg e2] at h; cases h
theorem pagesL_nodup : ∀ {k : Nat} {V : Pgs} {p : Int} {l : List Int}, pagesL V k p = some l → l.Nodup
  | 0, _, _, _, h => by cases h
  | k + 1, V, p, l, h => by
    have h0 := h
    unfold pagesL at h
    cases hb : bodyAt V p with
    | none => rw [hb] at h; cases h
    | some b =>
      rw [hb] at h
      simp only at h
      by_cases e : nxt b = 0
      · rw [if_pos e] at h
        have hl := (Option.some.inj h).symm
        subst hl
        exact List.nodup_cons.2 ⟨(fun h => by cases h), List.nodup_nil⟩
      · rw [if_neg e] at h
        by_cases e2 : b.size = 240
        · rw [if_pos e2] at h
          obtain ⟨a, ha, rfl⟩ := Option.map_eq_some_iff.1 h
          refine List.nodup_cons.2 ⟨(fun hp => ?_), pagesL_nodup ha⟩
          obtain ⟨_, j, m, z2, z3⟩ := (pagesL_tail ha).1 p hp
          have := pagesL_one h0 z2
          rw [← this] at z3
          rw [List.length_cons] at z3; omega
        · rw [if_neg e2] at h; cases h
theorem pagesL_len : ∀ {k : Nat} {V : Pgs} {p : Int} {l : List Int}, pagesL V k p = some l → l.length ≤ k
  | 0, _, _, _, h => by cases h
  | k + 1, V, p, l, h => by
    unfold pagesL at h
    cases hb : bodyAt V p with
    | none => rw [hb] at h; cases h
    | some b =>
      rw [hb] at h
      simp only at h
      by_cases e : nxt b = 0
      · rw [if_pos e] at h
        rw [← Option.some.inj h]; simp
      · rw [if_neg e] at h
        by_cases e2 : b.size = 240
        · rw [if_pos e2] at h
          obtain ⟨a, ha, rfl⟩ := Option.map_eq_some_iff.1 h
          have := pagesL_len ha
          simp; omega
        · rw [if_neg e2] at h; cases h
/-- As many pages stand as are listed. -/
theorem cntV_list {V : Pgs} {l : List Int} (hn : l.Nodup) (h : ∀ q, V q ≠ none ↔ q ∈ l) (hr : ∀ q ∈ l, 1 ≤ q ∧ q ≤ 960) : cntV V = l.length := by
  have e1 : cntV V = ((List.range 960).filter fun j : Nat => (V ((j : Int) + 1)).isSome).length := by unfold cntV; rw [List.countP_eq_length_filter]
  have e2 : l.length = (l.map fun q => q.toNat - 1).length := (List.length_map ..).symm
  rw [e1, e2]
  refine List.Perm.length_eq ((List.perm_ext_iff_of_nodup (List.nodup_range.filter _) ?_).2 fun j => ?_)
  · unfold List.Nodup at hn ⊢
    rw [List.pairwise_map]
    refine List.Pairwise.imp_of_mem ?_ hn
    intro a b ha hb hab e
    have := hr a ha
    have := hr b hb
    omega
  · rw [List.mem_filter, List.mem_range, List.mem_map]
    constructor
    · rintro ⟨hj, hv⟩
      exact ⟨_, (h _).1 (Option.isSome_iff_ne_none.1 hv), by omega⟩
    · rintro ⟨q, hq, e⟩
      have hq2 := hr q hq
      have : ((j : Int) + 1) = q := by omega
      exact ⟨by omega, by rw [this]; exact Option.isSome_iff_ne_none.2 ((h q).2 hq)⟩
end Go.Proofs.YtliiooldlooagaaGreatDoor.O12
