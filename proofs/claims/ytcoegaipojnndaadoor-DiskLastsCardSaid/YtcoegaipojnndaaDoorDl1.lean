/-
  What becomes of each sector when the power goes: one of its contents, whole, but for one sector, of which the first bytes are of one of these and the rest of another one; pure.
-/
import Derived.Test.YtcoegaipojnndaaDoorDk0
namespace Go.Proofs.YtcoegaipojnndaaDoor
open Go.RowKit

/-- The contents that a sector may have. -/
def mayK (S : List ByteArray) (ws : List (Int × ByteArray)) (k : Nat) : List ByteArray := S.getD k noS :: (ws.filter fun x => decide (x.1 = (k : Int))).map Prod.snd
theorem mayK_snoc (S : List ByteArray) (ws : List (Int × ByteArray)) (k : Nat) (x : Int × ByteArray) : mayK S (ws ++ [x]) k = if x.1 = (k : Int) then mayK S ws k ++ [x.2] else mayK S ws k := by
  unfold mayK
  rw [List.filter_append, List.map_append]
  by_cases h : x.1 = (k : Int)
  · simp [h]
  · simp [h]
theorem mayK_take (S : List ByteArray) (ws : List (Int × ByteArray)) (k i : Nat) {d : ByteArray} (h : d ∈ mayK S (ws.take i) k) : d ∈ mayK S ws k := by
  unfold mayK at h ⊢
  rcases List.mem_cons.1 h with h1 | h1
  · rw [h1]; exact List.mem_cons_self ..
  · refine List.mem_cons_of_mem _ ?_
    obtain ⟨y, hy, rfl⟩ := List.mem_map.1 h1
    have := List.mem_filter.1 hy
    exact List.mem_map.2 ⟨y, List.mem_filter.2 ⟨List.mem_of_mem_take this.1, this.2⟩, rfl⟩
theorem take_one' {α : Type} (l : List α) (k : Nat) (x : α) (h : l[k]? = some x) : l.take (k + 1) = l.take k ++ [x] := by
  rw [List.take_add_one, h]; rfl
theorem mayK_ne (S : List ByteArray) (ws : List (Int × ByteArray)) (k : Nat) : mayK S ws k ≠ [] := by unfold mayK; simp
theorem rev_ind {α : Type} (P : List α → Prop) (h0 : P []) (h : ∀ l x, P l → P (l ++ [x])) (l : List α) : P l := by
  have : ∀ n (l : List α), l.length = n → P l := by
    intro n
    induction n with
    | zero => intro l h; have := List.eq_nil_of_length_eq_zero h; subst this; exact h0
    | succ n ih =>
      intro l hl
      have hne : l ≠ [] := by intro e; subst e; cases hl
      rw [← List.dropLast_concat_getLast hne]
      exact h _ _ (ih _ (by simp [hl]))
  exact this _ l rfl
theorem mayK_last (S : List ByteArray) (ws : List (Int × ByteArray)) (k : Nat) : (mayK S ws k).getLast? = some (standF ws (S.getD k noS) (k : Int)) := by
  refine rev_ind (fun ws => (mayK S ws k).getLast? = some (standF ws (S.getD k noS) (k : Int))) rfl (fun ws x ih => ?_) ws
  show (mayK S (ws ++ [x]) k).getLast? = _
  rw [mayK_snoc, standF_snoc]
  split
  · simp
  · exact ih
/-- All pending writes have come. -/
theorem laid_stand (l : List (Int × ByteArray)) (k : Nat) : ∀ S : List ByteArray, (∀ x ∈ l, 0 ≤ x.1) → k < S.length → (laidF l S).getD k noS = standF l (S.getD k noS) (k : Int) := by
  induction l with
  | nil => intro S _ _; rfl
  | cons x l ih =>
    intro S hx hk
    show (laidF l (S.set x.1.toNat x.2)).getD k noS = standF l (if x.1 = (k : Int) then x.2 else S.getD k noS) (k : Int)
    rw [ih _ (fun y hy => hx y (List.mem_cons_of_mem _ hy)) (by rw [List.length_set]; exact hk)]
    congr 1
    have h0 := hx x (List.mem_cons_self ..)
    simp only [List.getD, List.getElem?_set]
    by_cases h : x.1 = (k : Int)
    · rw [if_pos h, if_pos (by omega), if_pos (by omega)]; rfl
    · rw [if_neg h, if_neg (by omega)]
theorem getD_set_ba (l : List ByteArray) (i j : Nat) (v : ByteArray) (h : i < l.length) : (l.set i v).getD j noS = if i = j then v else l.getD j noS := by
  simp only [List.getD, List.getElem?_set]
  by_cases hij : i = j
  · subst hij; simp [h]
  · simp [hij]
theorem fits_iff (k : Int) (d : ByteArray) (n : Nat) : fitsB k d n = true ↔ 0 ≤ k ∧ k < (n : Int) ∧ d.size = 256 := by
  unfold fitsB; simp [Bool.and_eq_true]
theorem step_at (ws : List (Int × ByteArray)) (t a : Int) (S : List ByteArray) (i k : Nat) (hk : k < S.length) (x : Int × ByteArray) (hx : ws[i]? = some x) (h1 : x.1 = (k : Int)) (h2 : x.2.size = 256) :
    (stepW ws t a S i).getD k noS = if (i : Int) = t then cutS x.2 a (S.getD k noS) else x.2 := by
  rw [stepW_yes ws t a S i x hx ((fits_iff _ _ _).2 ⟨by omega, by omega, h2⟩)]
  have hk' : x.1.toNat = k := by omega
  rw [hk', getD_set_ba _ _ _ _ hk, if_pos rfl]
theorem step_off (ws : List (Int × ByteArray)) (t a : Int) (S : List ByteArray) (i k : Nat) (x : Int × ByteArray) (hx : ws[i]? = some x) (h : x.1 ≠ (k : Int)) :
    (stepW ws t a S i).getD k noS = S.getD k noS := by
  cases hf : fitsB x.1 x.2 S.length with
  | false => rw [stepW_no ws t a S i x hx hf]
  | true =>
    obtain ⟨f1, f2, f3⟩ := (fits_iff _ _ _).1 hf
    rw [stepW_yes ws t a S i x hx hf, getD_set_ba _ _ _ _ (by omega), if_neg (by omega)]
/-- In part one of its contents, in part another one. -/
def Parted (M : List ByteArray) (s : ByteArray) : Prop := ∃ d h c, d ∈ M ∧ h ∈ M ∧ c ≤ 256 ∧ s = d.extract 0 c ++ h.extract c 256
/-- The write that is torn, if there is one, is to this sector. -/
def TornAt (ws : List (Int × ByteArray)) (t : Int) (k : Nat) : Prop := ∃ (j : Nat) (x : Int × ByteArray), (j : Int) = t ∧ ws[j]? = some x ∧ x.1 = (k : Int)
theorem torn_one {ws : List (Int × ByteArray)} {t : Int} {k k' : Nat} (h : TornAt ws t k) (h' : TornAt ws t k') : k = k' := by
  obtain ⟨j, x, h1, h2, h3⟩ := h
  obtain ⟨j', x', h1', h2', h3'⟩ := h'
  obtain rfl : j = j' := by omega
  rw [h2] at h2'
  cases h2'
  omega
theorem fold_mixed (S : List ByteArray) (ws : List (Int × ByteArray)) (b : List Bool) (t a : Int) (k : Nat) (hk : k < S.length) (hw : ∀ x ∈ ws, x.2.size = 256) : ∀ i,
    ((foldW ws t a S (cameTo b i)).getD k noS ∈ mayK S (ws.take i) k) ∨ (Parted (mayK S (ws.take i) k) ((foldW ws t a S (cameTo b i)).getD k noS) ∧ ∃ (j : Nat) (x : Int × ByteArray), j < i ∧ (j : Int) = t ∧ ws[j]? = some x ∧ x.1 = (k : Int)) := by
  intro i
  induction i with
  | zero => exact .inl (List.mem_cons_self ..)
  | succ i ih =>
    have up : ∀ d, d ∈ mayK S (ws.take i) k → d ∈ mayK S (ws.take (i + 1)) k := by
      intro d hd
      have e : ws.take i = (ws.take (i + 1)).take i := by rw [List.take_take]; congr 1; omega
      rw [e] at hd
      exact mayK_take _ _ _ _ hd
    have up2 : ∀ s, ((s ∈ mayK S (ws.take i) k) ∨ (Parted (mayK S (ws.take i) k) s ∧ ∃ (j : Nat) (x : Int × ByteArray), j < i ∧ (j : Int) = t ∧ ws[j]? = some x ∧ x.1 = (k : Int))) →
        ((s ∈ mayK S (ws.take (i + 1)) k) ∨ (Parted (mayK S (ws.take (i + 1)) k) s ∧ ∃ (j : Nat) (x : Int × ByteArray), j < i + 1 ∧ (j : Int) = t ∧ ws[j]? = some x ∧ x.1 = (k : Int))) := by
      rintro s (h | ⟨⟨d, h, c, h1, h2, h3, h4⟩, j, x, h5, h6⟩)
      · exact .inl (up _ h)
      · exact .inr ⟨⟨d, h, c, up _ h1, up _ h2, h3, h4⟩, j, x, by omega, h6⟩
    cases hb : b.getD i false with
    | false => rw [cameTo_no hb]; exact up2 _ ih
    | true =>
      rw [cameTo_yes hb, foldW_snoc]
      cases hx : ws[i]? with
      | none =>
        rw [stepW_none ws t a _ i (List.getElem?_eq_none_iff.1 hx)]
        exact up2 _ ih
      | some x =>
        by_cases hxk : x.1 = (k : Int)
        · have hx2 := hw x (List.mem_of_getElem? hx)
          have hm : x.2 ∈ mayK S (ws.take (i + 1)) k := by
            rw [take_one' ws i x hx, mayK_snoc, if_pos hxk]; simp
          rw [step_at ws t a _ i k (by rw [foldW_length]; exact hk) x hx hxk hx2]
          by_cases hit : (i : Int) = t
          · rw [if_pos hit]
            rcases ih with h | ⟨_, j, y, h5, h6, _⟩
            · exact .inr ⟨⟨x.2, _, clampN a, hm, up _ h, clampN_le a, rfl⟩, i, x, by omega, hit, hx, hxk⟩
            · omega
          · rw [if_neg hit]; exact .inl hm
        · rw [step_off ws t a _ i k x hx hxk]
          exact up2 _ ih
theorem after_mixed (S : List ByteArray) (ws : List (Int × ByteArray)) (b : List Bool) (t a : Int) (k : Nat) (hk : k < S.length) (hw : ∀ x ∈ ws, x.2.size = 256) :
    ((afterF S ws b t a).getD k noS ∈ mayK S ws k) ∨ (Parted (mayK S ws k) ((afterF S ws b t a).getD k noS) ∧ TornAt ws t k) := by
  rcases fold_mixed S ws b t a k hk hw b.length with h | ⟨⟨d, h, c, h1, h2, h3, h4⟩, j, x, _, h6, h7, h8⟩
  · exact .inl (mayK_take _ _ _ _ h)
  · exact .inr ⟨⟨d, h, c, mayK_take _ _ _ _ h1, mayK_take _ _ _ _ h2, h3, h4⟩, j, x, h6, h7, h8⟩
end Go.Proofs.YtcoegaipojnndaaDoor
