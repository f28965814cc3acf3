/-
  Plain mathematics of tables: in which sector each page stands, which chunks are dirty, and what each call makes of it; conditions: those that each law states.
-/
import Derived.WalkKit
import Derived.Lib.Hide
set_option linter.unusedSimpArgs false
set_option linter.unusedVariables false
namespace Go.Proofs.YtliiooldlooagaaGreatDoor.T9

/-- A table: the sectors of its pages (0: none), page by page, and which chunks are dirty. -/
structure TB where
  P : List Nat
  D : List Bool
def TB.Fit (s : TB) : Prop := s.P.length = 960 ∧ s.D.length = 8 ∧ ∀ x ∈ s.P, x < 1024
def nots (n : Nat) : List Nat := List.replicate n 0
def offs (n : Nat) : List Bool := List.replicate n false
theorem nots_length (n : Nat) : (nots n).length = n := List.length_replicate ..
theorem offs_length (n : Nat) : (offs n).length = n := List.length_replicate ..
theorem nots_get (n k : Nat) : (nots n).getD k 0 = 0 := by
  unfold nots; rw [List.getD_eq_getElem?_getD, List.getElem?_replicate]; split <;> rfl
theorem offs_get (n k : Nat) : (offs n).getD k false = false := by
  unfold offs; rw [List.getD_eq_getElem?_getD, List.getElem?_replicate]; split <;> rfl
def newF : TB := ⟨nots 960, offs 8⟩
theorem newF_fit : newF.Fit := ⟨nots_length _, offs_length _, fun x h => by
  have := List.eq_of_mem_replicate (show x ∈ List.replicate 960 0 from h); omega⟩
theorem TB.Fit.lt {s : TB} (h : s.Fit) (k : Nat) : s.P.getD k 0 < 1024 := by
  rw [List.getD_eq_getElem?_getD]
  cases hk : s.P[k]? with
  | none => show (0 : Nat) < 1024; omega
  | some x => exact h.2.2 x (List.mem_of_getElem? hk)
def putF (s : TB) (k v : Nat) : TB := if s.P.getD k 0 = v then s else ⟨s.P.set k v, s.D.set (k / 120) true⟩
theorem putF_fit {s : TB} (h : s.Fit) (k v : Nat) (hv : v < 1024) : (putF s k v).Fit := by
  unfold putF
  split
  · exact h
  · refine ⟨by rw [List.length_set]; exact h.1, by rw [List.length_set]; exact h.2.1, fun x hx => ?_⟩
    rcases List.mem_or_eq_of_mem_set hx with h1 | h1
    · exact h.2.2 x h1
    · rw [h1]; exact hv
def IsPage (i : Int) : Prop := 1 ≤ i ∧ i ≤ 960
def IsSect (v : Int) : Prop := 2 ≤ v ∧ v ≤ 1023
instance (i : Int) : Decidable (IsPage i) := inferInstanceAs (Decidable (_ ∧ _))
instance (v : Int) : Decidable (IsSect v) := inferInstanceAs (Decidable (_ ∧ _))
def getF (s : TB) (i : Int) : Nat := if IsPage i then s.P.getD (i - 1).toNat 0 else 0
theorem getF_nat (s : TB) (k : Nat) (h : k < 960) : getF s ((k : Int) + 1) = s.P.getD k 0 := by
  unfold getF
  rw [if_pos (show IsPage _ from ⟨by omega, by omega⟩)]
  congr 1; omega
theorem getF_no {s : TB} {i : Int} (h : ¬ IsPage i) : getF s i = 0 := if_neg h
theorem getF_lt {s : TB} (h : s.Fit) (i : Int) : getF s i < 1024 := by
  unfold getF
  split
  · exact h.lt _
  · omega
def setE (i v : Int) : Int := if IsPage i ∧ IsSect v then 0 else 2
theorem setE_ok {k v : Nat} (hk : k < 960) (h1 : 2 ≤ v) (h2 : v ≤ 1023) : setE ((k : Int) + 1) v = 0 := if_pos ⟨⟨by omega, by omega⟩, ⟨by omega, by omega⟩⟩
def setF (s : TB) (i v : Int) : TB := if IsPage i ∧ IsSect v then putF s (i - 1).toNat v.toNat else s
def dropE (s : TB) (i : Int) : Int := if getF s i = 0 then 13 else 0
def dropF (s : TB) (i : Int) : TB := if getF s i = 0 then s else putF s (i - 1).toNat 0
theorem setF_fit {s : TB} (h : s.Fit) (i v : Int) : (setF s i v).Fit := by
  unfold setF IsSect
  split
  · exact putF_fit h _ _ (by omega)
  · exact h
theorem dropF_fit {s : TB} (h : s.Fit) (i : Int) : (dropF s i).Fit := by
  unfold dropF
  split
  · exact h
  · exact putF_fit h _ _ (by omega)
/-- The lowest page that stands nowhere, and what is told of it. -/
def lowAt (P : List Nat) : Nat := P.findIdx (· == 0)
def lowN (P : List Nat) : Nat := if lowAt P < P.length then lowAt P + 1 else 0
def lowE (P : List Nat) : Nat := if lowAt P < P.length then 0 else 15
theorem low_hit {P : List Nat} {k : Nat} (hk : k < P.length) (h : P.getD k 0 = 0) (hb : ∀ j, j < k → P.getD j 0 ≠ 0) : lowAt P = k := by
  refine (List.findIdx_eq hk).2 ⟨?_, fun j hj => ?_⟩
  · rw [List.getD_eq_getElem?_getD, List.getElem?_eq_getElem hk] at h; simpa using h
  · have h1 := hb j hj
    rw [List.getD_eq_getElem?_getD, List.getElem?_eq_getElem (by omega)] at h1; simpa using h1
theorem low_told {P : List Nat} {k : Nat} (hk : k < P.length) (h : P.getD k 0 = 0) (hb : ∀ j, j < k → P.getD j 0 ≠ 0) : lowN P = k + 1 ∧ lowE P = 0 := by
  unfold lowN lowE
  rw [low_hit hk h hb, if_pos hk, if_pos hk]; exact ⟨rfl, rfl⟩
theorem low_full {P : List Nat} (hb : ∀ j, j < P.length → P.getD j 0 ≠ 0) : lowN P = 0 ∧ lowE P = 15 := by
  have hx : ¬ lowAt P < P.length := by
    intro h
    have h1 := List.findIdx_getElem (p := (· == 0)) (w := h)
    have h2 := hb _ h
    rw [List.getD_eq_getElem?_getD, List.getElem?_eq_getElem h] at h2
    exact h2 (eq_of_beq h1)
  unfold lowN lowE
  rw [if_neg hx, if_neg hx]; exact ⟨rfl, rfl⟩
def secsF (P : List Nat) : List Nat := P.filter (· != 0)
def dirtyF (D : List Bool) : List Nat := (List.range 8).filter fun i => D.getD i false
def cleanF (s : TB) : TB := ⟨s.P, offs 8⟩
theorem cleanF_fit {s : TB} (h : s.Fit) : (cleanF s).Fit := ⟨h.1, offs_length _, h.2.2⟩
/-- All pages with their sectors, rising. -/
def allF (P : List Nat) : List (Nat × Nat) := (List.range 960).map fun k => (k + 1, P.getD k 0)
theorem allF_length (P : List Nat) : (allF P).length = 960 := by simp [allF]
theorem allF_at (P : List Nat) {k : Nat} (h : k < 960) : (allF P)[k]? = some (k + 1, P.getD k 0) := by
  unfold allF; rw [List.getElem?_map, List.getElem?_range h]; rfl
theorem allF_snoc (P : List Nat) {k : Nat} (h : k < 960) : (allF P).take (k + 1) = (allF P).take k ++ [(k + 1, P.getD k 0)] := by
  rw [List.take_add_one, allF_at P h]; rfl
theorem map_getD {α : Type} (l : List α) (d : α) : (List.range l.length).map (fun k => l.getD k d) = l := by
  refine List.ext_getElem? fun k => ?_
  rw [List.getElem?_map]
  rcases Nat.lt_or_ge k l.length with h | h
  · rw [List.getElem?_range h, List.getElem?_eq_getElem h]; simp [List.getD_eq_getElem?_getD, h]
  · rw [List.getElem?_eq_none (by simpa using h), List.getElem?_eq_none h]; rfl
theorem allF_secs {P : List Nat} (h : P.length = 960) : (allF P).map (·.2) = P := by
  unfold allF
  rw [List.map_map, ← h]
  exact map_getD P 0
end Go.Proofs.YtliiooldlooagaaGreatDoor.T9
