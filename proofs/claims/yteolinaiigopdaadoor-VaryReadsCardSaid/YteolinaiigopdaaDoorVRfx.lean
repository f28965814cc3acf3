/-
  What the document's field answers, in the words of the plain mathematics, over this seat's translation; conditions: the place lies in the text, the text has at most a million bytes.
-/
import Derived.Test.YteolinaiigopdaaDoorVRfl
namespace Go.Proofs.YteolinaiigopdaaDoor
open Go.RowKit

/-- What the document's field answers. -/
def RFdAll (w : World) (n : Nat) (r : Except Nat (Fd × List UInt8)) (e : Ending) (w' : World) : Prop :=
  match r with | .error c => RFdErr w c e w' | .ok (f, r') => RFdGot w f (n - r'.length) e w'
theorem drop_cons (s : ByteArray) (p : Nat) (hp : p < s.size) : s.data.toList.drop p = s[p] :: s.data.toList.drop (p + 1) := by
  rw [List.drop_eq_getElem_cons (by simpa using hp)]; rfl
theorem drop_len (s : ByteArray) (p : Nat) : (s.data.toList.drop p).length = s.size - p := by simp
theorem head_take (l : List UInt8) (k : Nat) : (l.take k).head? = some 0 ↔ 0 < k ∧ l.head? = some 0 := by
  cases k with
  | zero => simp
  | succ k => cases l <;> simp
theorem res_text (s : ByteArray) (a n : Nat) : (⟨((s.data.toList.drop a).take n).toArray⟩ : ByteArray) = s.extract a (a + n) := by
  apply ByteArray.ext
  rw [ByteArray.data_extract]
  apply Array.ext'
  simp [List.take_drop]
theorem res_eq (s : ByteArray) (q k t : Nat) (x : Bool) (h6 : q + k ≤ s.size) (hk : k ≤ 8) (r : Except Nat (Fd × List UInt8))
    (hr : r = (match (if (((s.data.toList.drop q)).take k).head? = some 0 then (.error 5 : Except Nat (Nat × List UInt8)) else .ok (nat8 ((s.data.toList.drop q).take k), (s.data.toList.drop q).drop k)) with
      | .error c => .error c
      | .ok (n, r1) => if x = true then (match textR n r1 with | .error c => .error c | .ok (tx, r2) => .ok (⟨(t : Int), true, 0, ⟨tx.toArray⟩⟩, r2)) else .ok (⟨(t : Int), false, n, ⟨#[]⟩⟩, r1)))
    (w : World) (e : Ending) (w' : World) (h : RFdRes w s q k t x e w') : RFdAll w s.size r e w' := by
  subst hr
  unfold RFdRes rfdRes at h
  unfold RFdAll
  have hv : nat8 ((s.data.toList.drop q).take k) = valAt s q k := rfl
  have hd : (s.data.toList.drop q).drop k = s.data.toList.drop (q + k) := by rw [List.drop_drop]
  by_cases h0 : 0 < k ∧ (s.data.toList.drop q).head? = some 0
  · rw [if_pos h0] at h
    rw [if_pos ((head_take _ _).2 h0)]
    exact h
  · rw [if_neg h0] at h
    rw [if_neg (fun e => h0 ((head_take _ _).1 e)), hv, hd]
    simp only
    cases x with
    | false =>
      rw [if_pos rfl] at h
      simp only [Bool.false_eq_true, if_false]
      rw [drop_len, show s.size - (s.size - (q + k)) = q + k by omega]
      exact h
    | true =>
      rw [if_neg (by simp)] at h
      simp only [if_true]
      unfold textR
      by_cases h1 : 2000 < valAt s q k
      · rw [if_pos h1] at h ⊢; exact h
      · rw [if_neg h1] at h ⊢
        by_cases h2 : s.size < q + k + valAt s q k
        · rw [if_pos h2] at h
          rw [if_pos (by rw [drop_len]; omega)]
          exact h
        · rw [if_neg h2] at h
          rw [if_neg (by rw [drop_len]; omega)]
          simp only
          rw [res_text, List.drop_drop, drop_len, show s.size - (s.size - (q + k + valAt s q k)) = q + k + valAt s q k by omega]
          exact h
theorem rfield_any (s : ByteArray) (p : Nat) (l : List Fd) (w : World) (hp : p < s.size) (hs : s.size ≤ 1000000) (hl : l.length ≠ 32) :
    Calls Tryd.prog 29 #[.string s, .int .i64 p, .int .i64 (lastT l)] w (RFdAll w s.size (fieldR s[p] (s.data.toList.drop (p + 1)) l)) := by
  have hb := s[p].toNat_lt
  unfold fieldR
  by_cases ha : s[p].toNat < 2
  · rw [if_pos (by rw [headR, if_neg hl, if_pos (Or.inl (by omega))]; simp), headR, if_neg hl, if_pos (Or.inl (by omega))]
    exact rfield_lo s p _ w hp ha
  · by_cases hb2 : 127 < s[p].toNat
    · rw [if_pos (by rw [headR, if_neg hl, if_pos (Or.inr (by omega))]; simp), headR, if_neg hl, if_pos (Or.inr (by omega))]
      exact rfield_hi s p _ w hp hb2
    · by_cases hc : ((s[p].toNat / 2 : Nat) : Int) ≤ lastT l
      · rw [if_pos (by rw [headR, if_neg hl, if_neg (by omega), if_pos hc]; simp), headR, if_neg hl, if_neg (by omega), if_pos hc]
        exact rfield_order s p _ _ _ w hp (by omega) (by omega) rfl rfl hc
      · rw [if_neg (by rw [headR, if_neg hl, if_neg (by omega), if_neg hc]; simp)]
        by_cases hd : p + 1 < s.size
        · rw [drop_cons s (p + 1) hd, numR_cons]
          by_cases he : 8 < s[p + 1].toNat
          · rw [if_pos he]
            exact rfield_form s p _ _ _ w hp hs (by omega) (by omega) rfl rfl (by omega) hd he
          · rw [if_neg he]
            by_cases hf : s.size < p + 2 + s[p + 1].toNat
            · rw [if_pos (by rw [drop_len]; omega)]
              exact rfield_short s p _ _ _ w hp hs (by omega) (by omega) rfl rfl (by omega) hd (by omega) hf
            · rw [if_neg (by rw [drop_len]; omega)]
              refine (rfield_loop s p _ _ (s[p].toNat % 2 == 1) w hp hs (by omega) (by omega) rfl rfl (by omega) hd (p + 2) s[p + 1].toNat rfl rfl (by omega) (by omega)).mono ?_
              intro e w' h
              refine res_eq s (p + 2) s[p + 1].toNat (s[p].toNat / 2) (s[p].toNat % 2 == 1) (by omega) (by omega) _ ?_ w e w' h
              simp only [beq_iff_eq]
              rfl
        · have hn : s.data.toList.drop (p + 1) = [] := List.drop_of_length_le (by simp; omega)
          rw [hn]
          exact rfield_end s p _ _ _ w hp hs (by omega) (by omega) rfl rfl (by omega) (by omega)
end Go.Proofs.YteolinaiigopdaaDoor
