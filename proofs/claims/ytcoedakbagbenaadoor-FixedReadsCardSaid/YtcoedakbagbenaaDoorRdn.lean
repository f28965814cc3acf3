/-
  FixedReads' walk where no calls came in, and what a slice of numbers of 16 bits that came in reads as, over this seat's translation; condition: the variable errors.errorType holds its type's handle.
-/
import Derived.Test.YtcoedakbagbenaaDoorWorks
import Derived.Test.YtcoedakbagbenaaDoorRow
namespace Go.Proofs.YtcoedakbagbenaaDoor
open Go.ChangeShapes Go.WideShapes Go.RowKit

set_option maxRecDepth 100000 in
set_option maxHeartbeats 1000000 in
theorem reads_none (s : ByteArray) (w : World) (hd : Hd w) (hs : s.size ≤ 9223372036854775807) :
    Calls Tryd.prog 3 #[.string s, .slice none 0 0] w fun e w' => e = .returned (.bool true) ∧ w.grownBy w' none := by
  go_enter Tryd.func3, Tryd.ntmps3
  go_wp2_with (go_at_call 8; go_must (refine (new_any _ _).mono ?_; rintro e w1 ⟨rfl, rfl⟩))
  refine wp_loop_rounds 1 ?_
  rw [rounds_succ]
  go_wp2_with (go_at_call 18; go_must (refine (works_any _ (hd.keep0 (gb_trans (gb_alloc _ _ _) (gb_alloc _ _ _)))).mono ?_; rintro e w1 ⟨rfl, g1⟩))
  go_ret
  exact ⟨rfl, gb_trans (gb_trans (gb_alloc _ _ _) (gb_alloc _ _ _)) g1⟩

theorem i16_wf (z : Int) (h : (Lit.int .i16 z).wf = true) : -32768 ≤ z ∧ z ≤ 32767 := by
  have h1 : (decide (-32768 ≤ z) && decide (z ≤ 32767)) = true := h
  simpa only [Bool.and_eq_true, decide_eq_true_eq] using h1

set_option maxRecDepth 100000 in
/-- A slice of numbers of 16 bits that came in. -/
theorem open_i16 {H : Type} {enc : TypeId × Value → H} {W : World} {base : Nat} {v : Value} {d : DataW H} {ps : List MemPlace} (hval : Value.okWide Tryd.prog W .any base 22 v) (h : DataW.Trod enc Tryd.prog W 0 (fun _ => true) true 22 v d ps) :
    v = .slice none 0 0 ∨ ∃ (a : Addr) (len cap : Nat) (zs : List Int), v = .slice (some a) len cap ∧ len ≤ 9223372036854775807 ∧ (∀ i, i < len → W.cell? (a.add i) = some (.int .i16 (zs.getD i 0))) ∧ (∀ i, i < len → -32768 ≤ zs.getD i 0 ∧ zs.getD i 0 ≤ 32767) := by
  obtain ⟨a0, len, cap, rfl⟩ := okWide_slice Tryd.underlying22 hval
  obtain ⟨fuel, hf⟩ := h
  rcases open_ints Tryd.underlying22 Tryd.underlying28 (by kernel_rfl) hf with ⟨hcs, _⟩ | ⟨a, len', cap', zs, hcs, _, hl, hm, hz, _, hcell, hwz⟩
  · simp [Value.cells] at hcs
    obtain ⟨rfl, rfl, rfl⟩ := hcs
    exact Or.inl rfl
  · simp [Value.cells] at hcs
    obtain ⟨rfl, rfl, rfl⟩ := hcs
    simp only [if_true] at hz
    refine Or.inr ⟨a, len, cap, zs, rfl, by unfold maxLen at hm; omega, fun i hi => hcell i (by omega), fun i hi => ?_⟩
    have h2 : i < zs.length := by omega
    have h3 : zs.getD i 0 = zs[i] := by simp [List.getD, h2]
    rw [h3]
    exact i16_wf _ (hwz _ (List.getElem_mem h2))
end Go.Proofs.YtcoedakbagbenaaDoor
