/-
  What the writes make of one sector: by each write, of halves, of all and of none; pure.
-/
import Derived.Test.YtefpnhckplcfgaaDoorFd3
namespace Go.Proofs.YtefpnhckplcfgaaDoor
open Go.RowKit

theorem getD_set_ba (l : List ByteArray) (i j : Nat) (v : ByteArray) (h : i < l.length) : (l.set i v).getD j noS = if i = j then v else l.getD j noS := by
  simp only [List.getD, List.getElem?_set]
  by_cases hij : i = j
  · subst hij; simp [h]
  · simp [hij]
theorem fits_iff (k : Int) (d : ByteArray) (n : Nat) : fitsB k d n = true ↔ 0 ≤ k ∧ k < (n : Int) ∧ d.size = 256 := by
  unfold fitsB; simp [Bool.and_eq_true]
theorem step_at (ws : List (Int × ByteArray)) (t a : Int) (S : List ByteArray) (i k : Nat) (hk : k < S.length) (x : Int × ByteArray) (hx : ws[i]? = some x) (h1 : x.1 = (k : Int)) (h2 : x.2.size = 256) :
    (stepW ws t a S i).getD k noS = if (i : Int) = t then cutS x.2 a (S.getD k noS) else x.2 := by
  rw [stepW_yes ws t a S i x hx ((fits_iff _ _ _).2 ⟨by omega, by omega, h2⟩)]
  have hk' : x.1.toNat = k := by omega
  rw [hk', getD_set_ba _ _ _ _ hk, if_pos rfl]
theorem step_off (ws : List (Int × ByteArray)) (t a : Int) (S : List ByteArray) (i k : Nat) (x : Int × ByteArray) (hx : ws[i]? = some x) (h : x.1 ≠ (k : Int) ∨ x.2.size ≠ 256) :
    (stepW ws t a S i).getD k noS = S.getD k noS := by
  cases hf : fitsB x.1 x.2 S.length with
  | false => rw [stepW_no ws t a S i x hx hf]
  | true =>
    obtain ⟨f1, f2, f3⟩ := (fits_iff _ _ _).1 hf
    rw [stepW_yes ws t a S i x hx hf, getD_set_ba _ _ _ _ (by omega), if_neg (by omega)]
theorem foldW_append (ws : List (Int × ByteArray)) (t a : Int) (S : List ByteArray) (p q : List Nat) : foldW ws t a S (p ++ q) = foldW ws t a (foldW ws t a S p) q := by
  unfold foldW; rw [List.foldl_append]
theorem came_all (N k : Nat) (h : k ≤ N) : cameTo (List.replicate N true) k = List.range k := by
  unfold cameTo
  rw [List.filter_eq_self]
  intro i hi
  have := List.mem_range.1 hi
  have h1 : i < N := by omega
  simp [List.getD, h1]
theorem after_all (ss : List ByteArray) (ws : List (Int × ByteArray)) (N : Nat) (t a : Int) : afterF ss ws (List.replicate N true) t a = foldW ws t a ss (List.range N) := by
  unfold afterF; rw [List.length_replicate, came_all N N (Nat.le_refl _)]
theorem after_none (ss : List ByteArray) (ws : List (Int × ByteArray)) (b : List Bool) (t a : Int) (h : ∀ i, b.getD i false = false) : afterF ss ws b t a = ss := by
  unfold afterF cameTo
  rw [List.filter_eq_nil_iff.2 (fun i _ => by rw [h i]; decide)]
  rfl
theorem foldW_take (ws : List (Int × ByteArray)) (a : Int) (m : Nat) (S : List ByteArray) : ∀ k, k ≤ m → foldW (ws.take m) (-1) a S (List.range k) = foldW ws (-1) a S (List.range k) := by
  intro k
  induction k with
  | zero => intro _; rfl
  | succ k ih =>
    intro h
    rw [List.range_succ, foldW_snoc, foldW_snoc, ih (by omega)]
    unfold stepW
    rw [List.getElem?_take_of_lt (by omega)]
theorem foldW_drop (ws : List (Int × ByteArray)) (a : Int) (m : Nat) (S : List ByteArray) : ∀ k, foldW (ws.drop m) (-1) a S (List.range k) = foldW ws (-1) a S ((List.range k).map (m + ·)) := by
  intro k
  induction k with
  | zero => rfl
  | succ k ih =>
    rw [List.range_succ, List.map_append, List.map_cons, List.map_nil, foldW_snoc, foldW_snoc, ih]
    unfold stepW
    rw [List.getElem?_drop]
    cases ws[m + k]? with
    | none => rfl
    | some x =>
      show (if _ then List.set _ _ (if _ then _ else _) else _) = (if _ then List.set _ _ (if _ then _ else _) else _)
      rw [if_neg (show ¬ ((k : Nat) : Int) = -1 by omega), if_neg (show ¬ ((m + k : Nat) : Int) = -1 by omega)]
theorem after_halves (ss : List ByteArray) (ws : List (Int × ByteArray)) (m : Nat) (hm : m ≤ ws.length) :
    afterF (afterF ss (ws.take m) (List.replicate m true) (-1) 0) (ws.drop m) (List.replicate (ws.length - m) true) (-1) 0 = foldW ws (-1) 0 ss (List.range ws.length) := by
  rw [after_all, after_all, foldW_take _ _ _ _ _ (Nat.le_refl _), foldW_drop, ← foldW_append, ← List.range_add, show m + (ws.length - m) = ws.length by omega]
/-- What is in a sector behind so many writes that came. -/
def lastF (ss : List ByteArray) (ws : List (Int × ByteArray)) (b : List Bool) (t a : Int) (k i : Nat) : ByteArray := (foldW ws t a ss (cameTo b i)).getD k noS
theorem last_zero (ss : List ByteArray) (ws : List (Int × ByteArray)) (b : List Bool) (t a : Int) (k : Nat) : lastF ss ws b t a k 0 = ss.getD k noS := rfl
theorem last_no (ss : List ByteArray) (ws : List (Int × ByteArray)) (b : List Bool) (t a : Int) (k i : Nat) (h : b.getD i false = false) : lastF ss ws b t a k (i + 1) = lastF ss ws b t a k i := by
  unfold lastF; rw [cameTo_no h]
theorem last_off (ss : List ByteArray) (ws : List (Int × ByteArray)) (b : List Bool) (t a : Int) (k i : Nat) (hb : b.getD i false = true) (x : Int × ByteArray) (hx : ws[i]? = some x) (h : x.1 ≠ (k : Int) ∨ x.2.size ≠ 256) : lastF ss ws b t a k (i + 1) = lastF ss ws b t a k i := by
  unfold lastF; rw [cameTo_yes hb, foldW_snoc, step_off _ _ _ _ _ _ x hx h]
theorem last_at (ss : List ByteArray) (ws : List (Int × ByteArray)) (b : List Bool) (t a : Int) (k i : Nat) (hk : k < ss.length) (hb : b.getD i false = true) (x : Int × ByteArray) (hx : ws[i]? = some x) (h1 : x.1 = (k : Int)) (h2 : x.2.size = 256) :
    lastF ss ws b t a k (i + 1) = if (i : Int) = t then cutS x.2 a (lastF ss ws b t a k i) else x.2 := by
  unfold lastF; rw [cameTo_yes hb, foldW_snoc, step_at _ _ _ _ _ _ (by rw [foldW_length]; exact hk) x hx h1 h2]
theorem last_size (ss : List ByteArray) (ws : List (Int × ByteArray)) (b : List Bool) (t a : Int) (k i : Nat) (hs : Whole256 ss) (hk : k < ss.length) : (lastF ss ws b t a k i).size = 256 := by
  unfold lastF
  refine foldW_whole ws t a (cameTo b i) ss hs _ ?_
  rw [List.getD, List.getElem?_eq_getElem (by rw [foldW_length]; exact hk)]
  exact List.getElem_mem _
theorem last_end (ss : List ByteArray) (ws : List (Int × ByteArray)) (b : List Bool) (t a : Int) (k : Nat) : (afterF ss ws b t a).getD k noS = lastF ss ws b t a k b.length := rfl
theorem wts_cell {w : World} {ao : Option Addr} {n cap : Nat} {l : List (Int × ByteArray)} (h : Wts w (.slice ao n cap) l) {j : Nat} (hj : j < l.length) : ∃ a x, ao = some a ∧ l[j]? = some x ∧ w.cell? (a.add (j * 2)) = some (.int .i64 x.1) ∧ w.cell? (a.add (j * 2 + 1)) = some (.string x.2) := by
  obtain ⟨ao', cap', e, _, _, hn, hx⟩ := h
  injection e with e1 e2 e3
  subst e1
  cases ao with
  | none => have := (hn rfl).1; omega
  | some a =>
    have hl := List.getElem?_eq_getElem hj
    obtain ⟨q0, q1⟩ := wrC_at l j _ hl
    exact ⟨a, l[j], rfl, hl, hx a rfl _ _ q0, hx a rfl _ _ q1⟩
theorem bls_cell {w : World} {ao : Option Addr} {n cap : Nat} {l : List Bool} (h : Bls w (.slice ao n cap) l) {j : Nat} (hj : j < l.length) : ∃ a, ao = some a ∧ w.cell? (a.add j) = some (.bool (l.getD j false)) := by
  obtain ⟨ao', cap', e, _, _, hn, hx⟩ := h
  injection e with e1 e2 e3
  subst e1
  cases ao with
  | none => have := (hn rfl).1; omega
  | some a => exact ⟨a, rfl, hx a rfl j _ (by simp [bools, List.getD, hj])⟩
end Go.Proofs.YtefpnhckplcfgaaDoor
