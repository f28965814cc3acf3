/-
  A fate comes back from its choices: plain mathematics; no conditions beside those that each law states.
-/
import Derived.Test.YtefpnhckplcfgaaDoorFm
import Derived.Test.YtefpnhckplcfgaaDoorFt6
namespace Go.Proofs.YtefpnhckplcfgaaDoor
open Go.RowKit

theorem getD_some (L : List Nat) (j : Nat) (h : j < L.length) : L[j]? = some (L.getD j 0) := by simp [List.getD, h]
theorem read_may (cs : List UInt8) (N : Nat) : mayF (cameF cs N) (tornF cs N) (atF cs N) = true := by
  unfold tornF atF
  cases hB : tornB cs N with
  | false => rfl
  | true =>
    simp only [if_true]
    have hpos : 0 < (cameTo (cameF cs N) N).length := by
      unfold tornB at hB
      simp only [Bool.and_eq_true, decide_eq_true_eq] at hB
      exact hB.2.2
    have hj := Nat.mod_lt (cs.getD ((N + 7) / 8) 0).toNat hpos
    have hidx : (cameTo (cameF cs N) N)[(cs.getD ((N + 7) / 8) 0).toNat % (cameTo (cameF cs N) N).length]? = some ((cameTo (cameF cs N) N).getD ((cs.getD ((N + 7) / 8) 0).toNat % (cameTo (cameF cs N) N).length) 0) := by
      exact getD_some _ _ hj
    obtain ⟨h1, h2, _⟩ := came_index _ _ _ _ hidx
    have hlen := cameF_length cs N
    rw [may_at _ _ _ (by rw [hlen]; exact h1) h2]
    have h4 : (256 * (cs.getD ((N + 7) / 8 + 1) 0).toNat + (cs.getD ((N + 7) / 8 + 2) 0).toNat) % 257 ≤ 256 := by omega
    generalize (256 * (cs.getD ((N + 7) / 8 + 1) 0).toNat + (cs.getD ((N + 7) / 8 + 2) 0).toNat) % 257 = x at h4
    rw [decide_eq_true (by omega), decide_eq_true (by omega)]; rfl
theorem list_of_getD (l : List Bool) : (List.range l.length).map (fun i => l.getD i false) = l := by
  apply List.ext_getElem?
  intro j
  by_cases h : j < l.length
  · simp [h, List.getD]
  · simp [h]
theorem bit_of (x r : Nat) : (x / 2 ^ r % 2 = 1) ↔ x.testBit r = true := by
  rw [Nat.testBit_eq_decide_div_mod_eq]; simp
theorem put_came (l : List Bool) (tl : List UInt8) : cameF (bitsTo l l.length ++ tl) l.length = l := by
  have e : cameF (bitsTo l l.length ++ tl) l.length = (List.range l.length).map (fun i => l.getD i false) := by
    unfold cameF
    apply List.map_congr_left
    intro i hi
    have hi' := List.mem_range.1 hi
    have hlen := bitsTo_length l l.length
    unfold sizeN at hlen
    have h1 : i / 8 < (bitsTo l l.length).length := by omega
    unfold wentB
    have h2 : (bitsTo l l.length ++ tl).getD (i / 8) 0 = (bitsTo l l.length).getD (i / 8) 0 := by
      simp [List.getD, List.getElem?_append_left h1]
    rw [h2, decide_eq_true (p := i / 8 < _) (by rw [List.length_append]; omega), Bool.true_and]
    have h3 := bitsTo_bit l l.length (Nat.le_refl _) (i / 8) (i % 8) (Nat.mod_lt _ (by omega))
    rw [show 8 * (i / 8) + i % 8 = i by omega, decide_eq_true hi', Bool.true_and] at h3
    rw [← h3]
    apply Bool.eq_iff_iff.2
    rw [decide_eq_true_eq]
    exact bit_of _ _
  rw [e]; exact list_of_getD l
/-- What is read of the choices of a fate that may be is that fate. -/
theorem put_back (l : List Bool) (t a : Int) (hm : mayF l t a = true) (hl : longF l t = false) :
    cameF (bitsTo l l.length ++ tailB l t a) l.length = l ∧ tornF (bitsTo l l.length ++ tailB l t a) l.length = t ∧ atF (bitsTo l l.length ++ tailB l t a) l.length = a := by
  have hc := put_came l (tailB l t a)
  refine ⟨hc, ?_⟩
  have hlen := bitsTo_length l l.length
  unfold sizeN at hlen
  rcases may_cases hm with ⟨rfl, rfl⟩ | ⟨i, rfl, hi, hb, h0, h1⟩
  · have hT : tornB (bitsTo l l.length ++ tailB l (-1) 0) l.length = false := by
      unfold tornB tailB
      rw [if_pos rfl, List.append_nil, decide_eq_false (by omega)]; rfl
    unfold tornF atF
    rw [hT]
    exact ⟨rfl, rfl⟩
  · obtain ⟨x, rfl⟩ := Int.eq_ofNat_of_zero_le h0
    have hA := ahead_i l i hi hb
    have hget := came_get l l.length i hi hb
    have hAl : (cameTo l i).length < (cameTo l l.length).length := (List.getElem?_eq_some_iff.1 hget).1
    have hA127 : aheadN l (i : Int) ≤ 127 := by
      unfold longF at hl
      have := (Bool.or_eq_false_iff.1 hl).1
      have := of_decide_eq_false this
      omega
    have htl : tailB l (i : Int) (x : Int) = [UInt8.ofNat (aheadN l (i : Int)), UInt8.ofNat (x / 256), UInt8.ofNat (x % 256)] := by
      unfold tailB; rw [if_neg (by omega)]; rfl
    have hg : ∀ k, (bitsTo l l.length ++ tailB l (i : Int) (x : Int)).getD ((l.length + 7) / 8 + k) 0 = (tailB l (i : Int) (x : Int)).getD k 0 := by
      intro k
      rw [← hlen, List.getD, List.getD, List.getElem?_append_right (by omega), Nat.add_sub_cancel_left]
    have g0 := hg 0
    have g1 := hg 1
    have g2 := hg 2
    rw [Nat.add_zero] at g0
    rw [htl] at g0 g1 g2
    have u0 : ([UInt8.ofNat (aheadN l (i : Int)), UInt8.ofNat (x / 256), UInt8.ofNat (x % 256)].getD 0 0).toNat = aheadN l (i : Int) := u8_of _ (by omega)
    have u1 : ([UInt8.ofNat (aheadN l (i : Int)), UInt8.ofNat (x / 256), UInt8.ofNat (x % 256)].getD 1 0).toNat = x / 256 := u8_of _ (by omega)
    have u2 : ([UInt8.ofNat (aheadN l (i : Int)), UInt8.ofNat (x / 256), UInt8.ofNat (x % 256)].getD 2 0).toNat = x % 256 := u8_of _ (by omega)
    rw [← htl] at g0 g1 g2
    rw [htl] at g0 g1 g2 hc
    rw [htl]
    have hT : tornB (bitsTo l l.length ++ [UInt8.ofNat (aheadN l (i : Int)), UInt8.ofNat (x / 256), UInt8.ofNat (x % 256)]) l.length = true := by
      unfold tornB
      rw [g0, u0, hc, decide_eq_true (by rw [List.length_append, hlen]; exact Nat.le_refl _), decide_eq_true (by omega), decide_eq_true (by omega)]; rfl
    unfold tornF atF
    rw [hT, g0, g1, g2, u0, u1, u2, hc]
    refine ⟨?_, ?_⟩
    · rw [if_pos rfl, hA, Nat.mod_eq_of_lt hAl, List.getD, hget]; rfl
    · rw [if_pos rfl]; congr 1; omega
end Go.Proofs.YtefpnhckplcfgaaDoor
