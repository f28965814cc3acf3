/-
  Which fate choices tell (fate.Read), and the whole one (fate.Whole), over this seat's translation; conditions: the table of masks reads as the program lays it, the numbers fit their kinds, the slice reads as a list of bytes.
-/
import Derived.Test.YtcoegaipojnndaaDoorFt4
namespace Go.Proofs.YtcoegaipojnndaaDoor
open Go.RowKit

/-- The first k set, the others not. -/
def firstF (f : Nat → Bool) (N k : Nat) : List Bool := (List.range N).map fun i => decide (i < k) && f i
theorem firstF_length (f : Nat → Bool) (N k : Nat) : (firstF f N k).length = N := by simp [firstF]
theorem firstF_zero (f : Nat → Bool) (N : Nat) : firstF f N 0 = List.replicate N false := by
  apply List.ext_getElem?; intro j; by_cases h : j < N <;> simp [firstF, h]
theorem firstF_all (f : Nat → Bool) (N : Nat) : firstF f N N = (List.range N).map f := by
  apply List.ext_getElem?; intro j; by_cases h : j < N <;> simp [firstF, h]
theorem firstF_set (f : Nat → Bool) (N k : Nat) : (bools (firstF f N k)).toArray.setIfInBounds k (.bool (f k)) = (bools (firstF f N (k + 1))).toArray := by
  apply Array.ext_getElem?
  intro j
  simp only [Array.getElem?_setIfInBounds, List.getElem?_toArray, bools, firstF, List.map_map, List.getElem?_map, List.size_toArray, List.length_map, List.length_range]
  by_cases hj : k = j
  · subst hj
    by_cases h : k < N <;> simp [h]
  · by_cases h : j < N
    · have : (decide (j < k + 1)) = decide (j < k) := by congr 1; apply propext; omega
      simp [hj, h, this]
    · simp [hj, h]
theorem add_lit (b j : Nat) : (⟨b, 0, none⟩ : Addr).add j = ⟨b, j, none⟩ := by
  unfold Addr.add; split
  · next h => rw [h]
  · simp
theorem firstF_at (f : Nat → Bool) (N k : Nat) (h : k < N) : (bools (firstF f N k)).toArray[k]? = some (.bool false) := by
  simp [bools, firstF, h]
theorem bls_of_blk {w : World} {b n : Nat} {l : List Bool} (h : Blk w b 4 (bools l).toArray) (hn : l.length = n) : Bls w (.slice (some ⟨b, 0, none⟩) n n) l := by
  subst hn
  refine ⟨some ⟨b, 0, none⟩, l.length, rfl, Nat.le_refl _, by simp [bools], (fun e => by cases e), ?_⟩
  intro a e j u hj
  cases e
  have := h.cell j (v := u) (by rw [List.getElem?_toArray]; exact hj)
  rw [show (⟨b, 0, none⟩ : Addr).add j = ⟨b, j, none⟩ from add_lit b j]; exact this
/-- A fate that is being filled: its list, its box, the result's box. -/
def Filling (w : World) (fb b : Nat) (f : Nat → Bool) (N k : Nat) (wr : World) : Prop :=
  Blk wr b 4 (bools (firstF f N k)).toArray ∧ Blk wr fb 25 #[.slice (some ⟨b, 0, none⟩) N N, .int .i64 (-1), .int .i64 0] ∧ Blk wr w.heap.size 25 #[.slice none 0 0, .int .i64 0, .int .i64 0] ∧ w.grownBy wr none
theorem Filling.step {w wr : World} {fb b : Nat} {f : Nat → Bool} {N k : Nat} (h : Filling w fb b f N k wr) (h1 : w.heap.size + 1 ≤ b) (h2 : b < fb) : Filling w fb b f N (k + 1) (wr.setCell ⟨b, k, none⟩ (.bool (f k))) :=
  ⟨by rw [← firstF_set]; exact h.1.set k _, h.2.1.keep (gb_set _ _ _ _ _) (ne_some (by omega)), h.2.2.1.keep (gb_set _ _ _ _ _) (ne_some (by omega)), gb_step h.2.2.2 (gb_set _ _ _ _ _) (by omega)⟩
theorem Filling.keep0 {w wr w' : World} {fb b : Nat} {f : Nat → Bool} {N k : Nat} (h : Filling w fb b f N k wr) (g : wr.grownBy w' none) : Filling w fb b f N k w' :=
  ⟨h.1.keep0 g, h.2.1.keep0 g, h.2.2.1.keep0 g, gb_trans h.2.2.2 g⟩
theorem Filling.done {w wr : World} {fb b : Nat} {f : Nat → Bool} {N : Nat} (h : Filling w fb b f N N wr) (h1 : w.heap.size + 1 ≤ b) :
    FateGot w ((List.range N).map f) (-1) 0 (.returned (.agg #[.slice (some ⟨b, 0, none⟩) N N, .int .i64 (-1), .int .i64 0])) (((wr.setCell ⟨w.heap.size, 0, none⟩ (.slice (some ⟨b, 0, none⟩) N N)).setCell ⟨w.heap.size, 1, none⟩ (.int .i64 (-1))).setCell ⟨w.heap.size, 2, none⟩ (.int .i64 0)) := by
  have hb := h.1
  rw [firstF_all] at hb
  have hne : b ≠ w.heap.size := by omega
  exact ⟨_, rfl, bls_of_blk (((hb.keep (gb_set _ _ _ _ _) (ne_some hne)).keep (gb_set _ _ _ _ _) (ne_some hne)).keep (gb_set _ _ _ _ _) (ne_some hne)) (by simp), gb_fill h.2.2.2 (Nat.le_refl _) _ _ _⟩
set_option maxRecDepth 100000 in
set_option maxHeartbeats 1000000 in
theorem whole_any (n : Int) (w : World) (h1 : -9223372036854775808 ≤ n) (h2 : n ≤ 9223372036854775807) :
    Calls Tryd.prog 12 #[.int .i64 n] w (FateGot w (List.replicate (manyN n) true) (-1) 0) := by
  have hN := manyN_le n
  have HBl := Lib.hid (blank_any n (w.alloc (.cells #[.slice none 0 0, .int .i64 0, .int .i64 0] 25)) h1 h2)
  generalize hm : manyN n = N at *
  clear hm
  go_enter Tryd.func12, Tryd.ntmps12
  go_wp2_with fail
  go_at_call 36
  (with_reducible refine HBl.out.mono ?_)
  clear HBl
  rintro e w1 ⟨b, rfl, hb, kb, g1⟩
  have r0 := (Blk.mk w 25 #[.slice none 0 0, .int .i64 0, .int .i64 0]).keep0 g1
  have g0 := gb_trans (gb_alloc w (.cells #[.slice none 0 0, .int .i64 0, .int .i64 0] 25) none) g1
  simp only [World.size_alloc] at hb
  clear g1
  have hlb := kb.lt
  have hlr := r0.lt
  have f0 := (Blk.mk w1 25 #[.slice (some ⟨b, 0, none⟩) N N, .int .i64 (-1), .int .i64 0])
  have g2 := gb_alloc w1 (.cells #[.slice (some ⟨b, 0, none⟩) N N, .int .i64 (-1), .int .i64 0] 25) none
  have hF : Filling w w1.heap.size b (fun _ => true) N 0 (w1.alloc (.cells #[.slice (some ⟨b, 0, none⟩) N N, .int .i64 (-1), .int .i64 0] 25)) :=
    ⟨by rw [firstF_zero]; exact kb.keep0 g2, f0, r0.keep0 g2, gb_trans g0 g2⟩
  clear kb r0 g0 f0 g2
  go_wp2_with fail
  generalize w1.alloc (.cells #[.slice (some ⟨b, 0, none⟩) N N, .int .i64 (-1), .int .i64 0] 25) = W0 at hF ⊢
  go_loopw [4, 10] (fun _ v wr => ∃ k : Nat, k ≤ N ∧ v = .int .i64 k ∧ Filling w w1.heap.size b (fun _ => true) N k wr) (fun _ v _ => N - (intOf v).toNat)
  case atStart => exact ⟨0, by omega, rfl, hF⟩
  case round =>
    obtain ⟨k, hk, rfl, hf⟩ := hrel
    clear hF
    have hf' := hf
    obtain ⟨kb, f0, r0, g0⟩ := hf'
    have c0 := f0.cell 0 rfl
    by_cases hlt : k < N
    · have d0 := kb.cell k (firstF_at _ N k hlt)
      have e0 := kb.free k
      have hnew : Filling w w1.heap.size b (fun _ => true) N (k + 1) (wr.setCell ⟨b, k, none⟩ (.bool true)) := hf.step (by omega) (by omega)
      clear hf kb f0 r0 g0
      go_wp2
      go_roundw
      case rel => exact ⟨k + 1, by omega, by go_num, hnew⟩
      case measure => simp [intOf]; omega
    · obtain rfl : k = N := by omega
      have c1 := f0.cell 1 rfl
      have c2 := f0.cell 2 rfl
      have r00 := r0.cell 0 rfl
      have r01 := r0.cell 1 rfl
      have r02 := r0.cell 2 rfl
      have e0 := r0.free 0
      have e1 := r0.free 1
      have e2 := r0.free 2
      have hfin := hf.done (by omega)
      rw [show (List.range k).map (fun _ => true) = List.replicate k true from by apply List.ext_getElem?; intro j; by_cases h : j < k <;> simp [h]] at hfin
      have HF := Lib.hid hfin
      clear hf hfin kb g0
      go_wp2
      exact bodyPost_ret (fate_row rfl _ _ w.heap.size _ _ _ rfl (blk_fill r0 _ _ _)) rfl HF.out
end Go.Proofs.YtcoegaipojnndaaDoor

