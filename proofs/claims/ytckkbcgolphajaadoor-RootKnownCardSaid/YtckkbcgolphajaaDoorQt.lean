/-
  What a torn sector is, and which of two counts, as plain mathematics; no conditions beside those that each law states.
-/
import Derived.Test.YtckkbcgolphajaaDoorQm
namespace Go.Proofs.YtckkbcgolphajaaDoor
open Go.RowKit

/-- A root that may be, with eight chunks, its Epoch in 64 bits. -/
def Good (r : Rt) : Prop := MayR r ∧ r.cs.length = 8 ∧ r.e < 18446744073709551616
theorem get_good (l : List UInt8) (h : (getF l).2 = 0) : Good (getF l).1 ∧ putL (getF l).1 = l := by
  obtain ⟨h1, h2, h3, h4⟩ := get_ok l h
  exact ⟨⟨h1, h3, h4⟩, h2⟩
theorem Good.get {r : Rt} (h : Good r) : getF (putL r) = (r, 0) := get_put r h.1 h.2.1 h.2.2
theorem Good.len {r : Rt} (h : Good r) : (putL r).length = 256 := putL_length r h.2.1
theorem get_blank : getF (zer 256) = (zeroR, 9) := if_pos rfl
theorem two8 : (256 : Nat) ^ 8 = 18446744073709551616 := by decide
/-- The first bytes of a root's sector ahead of the others of another one with another Epoch (or noughts). -/
def torn (t b : List UInt8) (k : Nat) : List UInt8 := t.take k ++ b.drop k
theorem torn_gen (y : Rt) (hy : Good y) (b : List UInt8) (eb : Nat) (_hl : b.length = 256) (h1 : b.take 8 = dg eb 8) (h2 : b.drop 248 = dg eb 8) (he : eb < 18446744073709551616) (hne : eb ≠ y.e) (k : Nat) (hk : k ≤ 256)
    (hg : (getF (torn (putL y) b k)).2 = 0) : (k ≤ 8 ∧ torn (putL y) b k = b) ∨ (248 ≤ k ∧ torn (putL y) b k = putL y) := by
  obtain ⟨hr, hp⟩ := get_good _ hg
  have hyl := hy.len
  have a1 := put_take (getF (torn (putL y) b k)).1
  have a2 := put_drop (getF (torn (putL y) b k)).1 hr.2.1
  rw [hp] at a1 a2
  have hre := hr.2.2
  generalize (getF (torn (putL y) b k)).1.e = e at a1 a2 hre
  have htk : ((putL y).take k).length = k := by rw [List.length_take]; omega
  rcases Nat.lt_or_ge k 248 with hk1 | hk1
  · have c2 : (torn (putL y) b k).drop 248 = b.drop 248 := by
      unfold torn
      rw [drop_at _ _ 248 (248 - k) (by rw [htk]; omega), List.drop_drop]
      congr 1; omega
    rw [c2, h2] at a2
    have ee : eb = e := dg_inj (k := 8) (by rw [two8]; exact he) (by rw [two8]; exact hre) a2
    subst ee
    rcases Nat.lt_or_ge 8 k with hk2 | hk2
    · exfalso
      have c1 : (torn (putL y) b k).take 8 = (putL y).take 8 := by
        unfold torn
        rw [List.take_append_of_le_length (by rw [htk]; omega), List.take_take, Nat.min_eq_left (by omega)]
      rw [c1, put_take] at a1
      exact hne (dg_inj (k := 8) (by rw [two8]; exact hy.2.2) (by rw [two8]; exact he) a1).symm
    · refine Or.inl ⟨hk2, ?_⟩
      have c3 : (torn (putL y) b k).drop 8 = b.drop 8 := by
        unfold torn
        rw [drop_at _ _ 8 (8 - k) (by rw [htk]; omega), List.drop_drop]
        congr 1; omega
      rw [← List.take_append_drop 8 (torn (putL y) b k), a1, c3, ← h1, List.take_append_drop]
  · refine Or.inr ⟨hk1, ?_⟩
    have c1 : (torn (putL y) b k).take 248 = (putL y).take 248 := by
      unfold torn
      rw [List.take_append_of_le_length (by rw [htk]; omega), List.take_take, Nat.min_eq_left (by omega)]
    have c4 : (torn (putL y) b k).take 8 = (putL y).take 8 := by
      have := congrArg (List.take 8) c1
      rwa [List.take_take, List.take_take] at this
    rw [c4, put_take] at a1
    have ee : y.e = e := dg_inj (k := 8) (by rw [two8]; exact hy.2.2) (by rw [two8]; exact hre) a1
    rw [← List.take_append_drop 248 (torn (putL y) b k), c1, a2, ← ee, ← put_drop y hy.2.1, List.take_append_drop]
theorem torn_zero (t b : List UInt8) : torn t b 0 = b := by simp [torn]
theorem torn_all (t b : List UInt8) (h1 : t.length = 256) (h2 : b.length = 256) : torn t b 256 = t := by
  unfold torn
  rw [List.take_of_length_le (by omega), List.drop_eq_nil_of_le (by omega), List.append_nil]
/-- Two roots' sectors. -/
theorem torn_roots (x y : Rt) (hx : Good x) (hy : Good y) (hne : x.e ≠ y.e) (k : Nat) (hk : k ≤ 256) (hg : (getF (torn (putL y) (putL x) k)).2 = 0) :
    (k ≤ 8 ∧ (getF (torn (putL y) (putL x) k)).1 = x) ∨ (248 ≤ k ∧ (getF (torn (putL y) (putL x) k)).1 = y) := by
  rcases torn_gen y hy (putL x) x.e hx.len (put_take x) (put_drop x hx.2.1) hx.2.2 hne k hk hg with ⟨h1, h2⟩ | ⟨h1, h2⟩
  · exact Or.inl ⟨h1, by rw [h2, hx.get]⟩
  · exact Or.inr ⟨h1, by rw [h2, hy.get]⟩
/-- A root's sector over noughts. -/
theorem torn_blank (y : Rt) (hy : Good y) (k : Nat) (hk : k ≤ 256) : getF (torn (putL y) (zer 256) k) = (y, 0) ∨ ((getF (torn (putL y) (zer 256) k)).2 ≠ 0 ∧ (getF (torn (putL y) (zer 256) k)).1 = zeroR ∧ k < 256) := by
  by_cases hg : (getF (torn (putL y) (zer 256) k)).2 = 0
  · refine Or.inl ?_
    rcases torn_gen y hy (zer 256) 0 (zer_length _) (by rw [zer_take 8 256 (by decide), dg_zero]) (by rw [zer_drop, dg_zero]) (by decide) (fun e => hy.1.1 e.symm) k hk hg with ⟨_, h2⟩ | ⟨_, h2⟩
    · rw [h2, get_blank] at hg; cases hg
    · rw [h2, hy.get]
  · refine Or.inr ⟨hg, ?_, ?_⟩
    · rcases get_cases (torn (putL y) (zer 256) k) with h | h | h
      · exact absurd h hg
      · rw [h]
      · rw [h.1]
    · rcases Nat.lt_or_ge k 256 with h | h
      · exact h
      · obtain rfl : k = 256 := by omega
        rw [torn_all _ _ hy.len (zer_length _), hy.get] at hg
        exact absurd rfl hg
/-- Which counts. -/
def pickF (a b : List UInt8) : Rt × Int × Nat :=
  if (getF a).2 = 0 ∧ ((getF b).2 ≠ 0 ∨ (getF b).1.e ≤ (getF a).1.e) then ((getF a).1, 0, 0)
  else if (getF b).2 = 0 then ((getF b).1, 1, 0)
  else if (getF a).2 = 9 ∨ (getF b).2 = 9 then (zeroR, -1, 9)
  else (zeroR, -1, 29)
def nextR (r : Rt) : Rt := ⟨(r.e + 1) % 18446744073709551616, r.n, r.cs⟩
def nextW (which : Int) : Int := if which = 1 ∨ which = -1 then 0 else 1
theorem good_next (r : Rt) (h : Good r) (he : r.e < 18446744073709551615) : Good (nextR r) ∧ (nextR r).e = r.e + 1 := by
  have e1 : (nextR r).e = r.e + 1 := Nat.mod_eq_of_lt (by omega)
  refine ⟨⟨⟨by rw [e1]; omega, h.1.2.1, h.1.2.2.1, h.1.2.2.2⟩, h.2.1, by rw [e1]; omega⟩, e1⟩
/-- The next root over an elder one, or over noughts, in part: what the sector is. -/
theorem torn_over (x y : Rt) (b : List UInt8) (hx : Good x) (he : x.e < 18446744073709551615) (hb : b = zer 256 ∨ (Good y ∧ y.e < x.e ∧ b = putL y)) (k : Nat) (hk : k ≤ 256) :
    getF (torn (putL (nextR x)) b k) = (nextR x, 0) ∨ (k < 256 ∧ ((getF (torn (putL (nextR x)) b k)).2 ≠ 0 ∨ (getF (torn (putL (nextR x)) b k)).1.e < x.e)) := by
  obtain ⟨hn, hne⟩ := good_next x hx he
  rcases hb with rfl | ⟨hy, hlt, rfl⟩
  · rcases torn_blank (nextR x) hn k hk with h | ⟨h1, _, h3⟩
    · exact Or.inl h
    · exact Or.inr ⟨h3, Or.inl h1⟩
  · by_cases hg : (getF (torn (putL (nextR x)) (putL y) k)).2 = 0
    · rcases torn_roots y (nextR x) hy hn (by omega) k hk hg with ⟨h1, h2⟩ | ⟨_, h2⟩
      · exact Or.inr ⟨by omega, Or.inr (by rw [h2]; exact hlt)⟩
      · exact Or.inl (Prod.ext h2 hg)
    · refine Or.inr ⟨?_, Or.inl hg⟩
      rcases Nat.lt_or_ge k 256 with h | h
      · exact h
      · obtain rfl : k = 256 := by omega
        rw [torn_all _ _ hn.len hy.len, hn.get] at hg
        exact absurd rfl hg
/-- What is picked then: the one that counted is in the first sector. -/
theorem pick_over0 (x y : Rt) (b : List UInt8) (hx : Good x) (he : x.e < 18446744073709551615) (hb : b = zer 256 ∨ (Good y ∧ y.e < x.e ∧ b = putL y)) (k : Nat) (hk : k ≤ 256) :
    pickF (putL x) (torn (putL (nextR x)) b k) = (nextR x, 1, 0) ∨ (k < 256 ∧ pickF (putL x) (torn (putL (nextR x)) b k) = (x, 0, 0)) := by
  obtain ⟨hn, hne⟩ := good_next x hx he
  rcases torn_over x y b hx he hb k hk with h | ⟨h1, h2⟩
  · refine Or.inl ?_
    unfold pickF
    rw [hx.get, h, if_neg (by intro ⟨_, h3⟩; rcases h3 with h3 | h3; exact h3 rfl; have h4 : (nextR x).e ≤ x.e := h3; omega), if_pos rfl]
  · refine Or.inr ⟨h1, ?_⟩
    unfold pickF
    rw [hx.get, if_pos ⟨rfl, by rcases h2 with h2 | h2; exact Or.inl h2; exact Or.inr (Nat.le_of_lt h2)⟩]
theorem pick_over1 (x y : Rt) (b : List UInt8) (hx : Good x) (he : x.e < 18446744073709551615) (hb : b = zer 256 ∨ (Good y ∧ y.e < x.e ∧ b = putL y)) (k : Nat) (hk : k ≤ 256) :
    pickF (torn (putL (nextR x)) b k) (putL x) = (nextR x, 0, 0) ∨ (k < 256 ∧ pickF (torn (putL (nextR x)) b k) (putL x) = (x, 1, 0)) := by
  obtain ⟨hn, hne⟩ := good_next x hx he
  rcases torn_over x y b hx he hb k hk with h | ⟨h1, h2⟩
  · refine Or.inl ?_
    unfold pickF
    rw [hx.get, h, if_pos ⟨rfl, Or.inr (show x.e ≤ (nextR x).e by omega)⟩]
  · refine Or.inr ⟨h1, ?_⟩
    unfold pickF
    rw [hx.get, if_neg (by intro ⟨h3, h4⟩; rcases h4 with h4 | h4; exact h4 rfl; rcases h2 with h2 | h2; exact h2 h3; have h5 : x.e ≤ (getF (torn (putL (nextR x)) b k)).1.e := h4; omega), if_pos rfl]
theorem pick_first (u : Rt) (hu : Good u) (k : Nat) (hk : k ≤ 256) :
    pickF (torn (putL u) (zer 256) k) (zer 256) = (u, 0, 0) ∨ (k < 256 ∧ pickF (torn (putL u) (zer 256) k) (zer 256) = (zeroR, -1, 9)) := by
  rcases torn_blank u hu k hk with h | ⟨h1, _, h3⟩
  · refine Or.inl ?_
    unfold pickF
    rw [h, get_blank, if_pos ⟨rfl, Or.inl (by decide)⟩]
  · refine Or.inr ⟨h3, ?_⟩
    unfold pickF
    rw [get_blank, if_neg (fun h => h1 h.1), if_neg (by decide), if_pos (Or.inr rfl)]
end Go.Proofs.YtckkbcgolphajaaDoor
