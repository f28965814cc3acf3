/-
  Plain mathematics for TableLowest: what stands where, behind so many pages that were taken and dropped; conditions: those that each law states.
-/
import Derived.Test.YtfkkdhgggocgjaaTl
namespace Go.Proofs.Ytfkkdhgggocgjaa

theorem putF_get {s : TB} (hl : s.P.length = 960) (k v j : Nat) (hk : k < 960) : (putF s k v).P.getD j 0 = if j = k then v else s.P.getD j 0 := by
  unfold putF
  by_cases he : s.P.getD k 0 = v
  · rw [if_pos he]
    by_cases hj : j = k
    · rw [if_pos hj, hj, he]
    · rw [if_neg hj]
  · rw [if_neg he]
    rw [List.getD_eq_getElem?_getD, List.getD_eq_getElem?_getD, List.getElem?_set]
    by_cases hj : j = k
    · subst hj; rw [if_pos rfl, if_pos (by omega), if_pos rfl]; rfl
    · rw [if_neg (fun e => hj e.symm), if_neg hj]
theorem dropF_get {s : TB} (hl : s.P.length = 960) (k j : Nat) (hk : k < 960) : (dropF s ((k : Int) + 1)).P.getD j 0 = if j = k then 0 else s.P.getD j 0 := by
  unfold dropF
  rw [getF_nat s k hk]
  by_cases h0 : s.P.getD k 0 = 0
  · rw [if_pos h0]
    by_cases hj : j = k
    · rw [if_pos hj, hj, h0]
    · rw [if_neg hj]
  · rw [if_neg h0, show ((k : Int) + 1 - 1).toNat = k from by omega, putF_get hl k 0 j hk]
theorem setF_get {s : TB} (hl : s.P.length = 960) (k v j : Nat) (hk : k < 960) (h1 : 2 ≤ v) (h2 : v ≤ 1023) : (setF s ((k : Int) + 1) (v : Int)).P.getD j 0 = if j = k then v else s.P.getD j 0 := by
  unfold setF
  rw [if_pos ⟨⟨by omega, by omega⟩, ⟨by omega, by omega⟩⟩, show ((k : Int) + 1 - 1).toNat = k from by omega, Int.toNat_natCast, putF_get hl k v j hk]
/-- The first m pages stand, but those that were told. -/
def UpS (g : List Nat) (m : Nat) (s : TB) : Prop := ∀ k, k < 960 → s.P.getD k 0 = if k < m ∧ toldB g k = false then k + 3 else 0
theorem up_new : UpS [] 0 newF := fun k _ => by rw [if_neg (by omega)]; exact nots_get _ _
theorem up_nil {m k : Nat} {s : TB} (h : UpS [] m s) (hk : k < 960) : s.P.getD k 0 = if k < m then k + 3 else 0 := by
  rw [h k hk]
  by_cases hm : k < m
  · rw [if_pos ⟨hm, rfl⟩, if_pos hm]
  · rw [if_neg (fun e => hm e.1), if_neg hm]
theorem up_low {m : Nat} {s : TB} (h : UpS [] m s) (hl : s.P.length = 960) (hm : m < 960) : (lowN s.P : Nat) = (m : Int) + 1 ∧ (lowE s.P : Nat) = (0 : Int) := by
  obtain ⟨h1, h2⟩ := low_told (P := s.P) (k := m) (by omega) (by rw [up_nil h hm, if_neg (by omega)]) (fun j hj => by rw [up_nil h (by omega), if_pos hj]; omega)
  rw [h1, h2]; exact ⟨by omega, rfl⟩
theorem up_setE {m : Nat} (hm : m < 960) : setE ((m : Int) + 1) (2 + ((m : Int) + 1)) = 0 := if_pos ⟨⟨by omega, by omega⟩, ⟨by omega, by omega⟩⟩
theorem up_set {m : Nat} {s : TB} (h : UpS [] m s) (hl : s.P.length = 960) (hm : m < 960) : UpS [] (m + 1) (setF s ((m : Int) + 1) (2 + ((m : Int) + 1))) := by
  intro k hk
  rw [show (2 : Int) + ((m : Int) + 1) = ((m + 3 : Nat) : Int) from by omega, setF_get hl m (m + 3) k hm (by omega) (by omega)]
  by_cases hj : k = m
  · subst hj; rw [if_pos rfl, if_pos ⟨by omega, rfl⟩]
  · rw [if_neg hj, up_nil h hk]
    by_cases hkm : k < m
    · rw [if_pos hkm, if_pos ⟨by omega, rfl⟩]
    · rw [if_neg hkm, if_neg (fun e => by omega)]
/-- What is known of the lowest page. -/
def Least (L m : Nat) (s : TB) : Prop := 1 ≤ L ∧ L ≤ m + 1 ∧ (∀ j, j + 1 < L → s.P.getD j 0 ≠ 0) ∧ (L ≤ 960 → s.P.getD (L - 1) 0 = 0)
theorem least_new {m : Nat} {s : TB} (h : UpS [] m s) (hm : m ≤ 960) : Least (m + 1) m s := by
  refine ⟨by omega, by omega, fun j hj => ?_, fun hL => ?_⟩
  · rw [up_nil h (by omega), if_pos (by omega)]; omega
  · rw [up_nil h (by omega), if_neg (by omega)]
theorem drop_up {g : List Nat} {m k x : Nat} {s : TB} (h : UpS g m s) (hl : s.P.length = 960) (hk : k < 960) (hx : x % 960 = k) : UpS (g ++ [x]) m (dropF s ((k : Int) + 1)) := by
  intro j hj
  rw [dropF_get hl k j hk, toldB_snoc, hx, h j hj]
  by_cases hjk : j = k
  · subst hjk
    rw [if_pos rfl, if_neg (by simp)]
  · rw [if_neg hjk]
    have : (k == j) = false := by simp; omega
    rw [this, Bool.or_false]
theorem drop_E0 {g : List Nat} {m k : Nat} {s : TB} (h : UpS g m s) (hk : k < 960) (h1 : k < m) (h2 : toldB g k = false) : dropE s ((k : Int) + 1) = 0 := by
  have e : s.P.getD k 0 = k + 3 := (h k hk).trans (if_pos ⟨h1, h2⟩)
  unfold dropE; rw [getF_nat s k hk, e]; exact if_neg (by omega)
theorem drop_E13 {g : List Nat} {m k : Nat} {s : TB} (h : UpS g m s) (hk : k < 960) (h1 : ¬ (k < m ∧ toldB g k = false)) : dropE s ((k : Int) + 1) = 13 := by
  have e : s.P.getD k 0 = 0 := (h k hk).trans (if_neg h1)
  unfold dropE; rw [getF_nat s k hk, e]; exact if_pos rfl
theorem least_lt {L m k : Nat} {s : TB} (h : Least L m s) (hl : s.P.length = 960) (hk : k < 960) (h1 : k < m) (h2 : k + 1 < L) : Least (k + 1) m (dropF s ((k : Int) + 1)) := by
  refine ⟨by omega, by omega, fun j hj => ?_, fun _ => ?_⟩
  · rw [dropF_get hl k j hk, if_neg (by omega)]; exact h.2.2.1 j (by omega)
  · rw [dropF_get hl k _ hk, if_pos (by omega)]
theorem least_ge {L m k : Nat} {s : TB} (h : Least L m s) (hl : s.P.length = 960) (hk : k < 960) (h2 : L ≤ k + 1) : Least L m (dropF s ((k : Int) + 1)) := by
  refine ⟨h.1, h.2.1, fun j hj => ?_, fun hL => ?_⟩
  · rw [dropF_get hl k j hk, if_neg (by omega)]; exact h.2.2.1 j hj
  · rw [dropF_get hl k _ hk]
    by_cases e : L - 1 = k
    · rw [if_pos e]
    · rw [if_neg e]; exact h.2.2.2 hL
theorem least_off {g : List Nat} {L m k : Nat} {s : TB} (hu : UpS g m s) (h : Least L m s) (hk : k < 960) (h1 : ¬ k < m) : Least L m (dropF s ((k : Int) + 1)) := by
  have : dropF s ((k : Int) + 1) = s := if_pos (by rw [getF_nat s k hk, hu k hk, if_neg (fun e => h1 e.1)])
  rw [this]; exact h
theorem least_low {L m : Nat} {s : TB} (h : Least L m s) (hl : s.P.length = 960) (hm : m ≤ 960) : if 960 < L then lowN s.P = 0 ∧ lowE s.P = 15 else lowN s.P = L ∧ lowE s.P = 0 := by
  have hL := h.2.1
  split
  · exact low_full (fun j hj => h.2.2.1 j (by omega))
  · have h1 := h.1
    obtain ⟨e1, e2⟩ := low_told (P := s.P) (k := L - 1) (by omega) (h.2.2.2 (by omega)) (fun j hj => h.2.2.1 j (by omega))
    exact ⟨by omega, e2⟩
end Go.Proofs.Ytfkkdhgggocgjaa

