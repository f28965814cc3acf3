/-
  SumParts: for every list of texts and doubling the statement's function returns true, and its arguments read as they did; conditions: none.
-/
import Derived.Test.YtiaaohhhdfmehaaSp
import Derived.Test.YtiaaohhhdfmehaaPRow
namespace Go.Proofs.Ytiaaohhhdfmehaa
open Go.ChangeShapes Go.WideShapes Go.ChangeMaps Go.RowKit

set_option maxRecDepth 100000 in
theorem parts_lifted (os : Os) (started : os.Started) (H : Type) (enc : TypeId × Value → H) :
    ReturnsInHanded {} Try.checked os 4 .any (Rows.sumPartsSpec.pre6 enc Try.prog Try.f4 Rows.sumPartsRow.domain false) (Rows.sumPartsSpec.post enc Try.prog Try.f4 false true false false) := by
  refine returnsInHanded_of_change (C := Try.checked) Try.own started (by kernel_rfl) Try.func4
    (ChangeSpec.witness6 (enc := enc) (C := Try.checked) false ⟨#[], #[.slice none 0 0, .int .u8 0], []⟩ 8 (by kernel_rfl) (by kernel_rfl) (by kernel_rfl) (by kernel_rfl)) ?_
  intro W base args ds gs before hval0 hW hcnd _
  have hval : ∀ (j : Nat) t v, Try.f4.params[j]? = some t → args[j]? = some v → Value.okWide Try.prog W .any base t v := hval0
  have hW' := hW
  obtain ⟨p, q, hA0, hV0, rfl, _, _⟩ := hW
  have hA : DataW.TrodAll enc Try.prog W 0 (fun _ => true) true Try.f4.params.toList args.toList ds p := hA0
  have hV : DataW.TrodVars enc Try.prog W (fun _ => true) [] gs q := hV0
  obtain ⟨rfl, rfl⟩ := trodVars_none hV
  rw [Try.params4] at hA hval
  have hlt : ∀ x ∈ p, x.block < W.heap.size := fun x hx => hW'.lt x (by simpa using hx)
  have hro : ∀ t ∈ [28, 5], Try.prog.readableRec t = true ∧ t < Try.prog.types.size := by
    intro t ht
    have hall : ([28, 5].all fun u => Try.prog.readableRec u && decide (u < Try.prog.types.size)) = true := by kernel_rfl
    have h := List.all_eq_true.1 hall t ht
    rw [Bool.and_eq_true, decide_eq_true_eq] at h
    exact h
  have hst : ∀ W', Below W.heap.size W W' → ∃ pa, DataW.TrodAll enc Try.prog W' 0 (fun b => decide (b < W.heap.size)) true [28, 5] args.toList ds pa :=
    fun W' hb => ⟨p, all_stays hb [28, 5] _ _ _ hro hA hlt⟩
  obtain ⟨v0, v1, d0, d1, p0, p1, rfl, rfl, rfl, h0, h1⟩ := trodAll_two hA
  obtain ⟨d, rfl, rfl, rfl, hwd⟩ := open_int Try.underlying5 (hval 1 5 v1 rfl rfl) h1
  obtain ⟨b, rfl, hb⟩ := nat_of_u8 d hwd
  have hwalk : Calls Try.prog 4 #[v0, .int .u8 (b : Nat)] W fun e w' => e = .returned (.bool true) ∧ Below W.heap.size W w' := by
    rcases open_texts (hval 0 28 v0 rfl rfl) h0 with rfl | ⟨a, len, cap, ss, rfl, hcap, hlen, hc, hs⟩
    · exact parts_nil b W
    · rcases Nat.eq_zero_or_pos len with rfl | hpos
      · exact parts_empty a cap b W
      · exact parts_walk a len cap ss b W hlen (block_lt (hc 0 hpos)) hc hs (by omega) (by omega)
  refine (hwalk).mono fun e W' ⟨he, hw⟩ => ?_
  subst he
  obtain ⟨pa, hpa⟩ := hst W' hw
  refine ⟨_, rfl, _, _, _, [], pa, [], hW', ?_, ?_, ?_, hw.frame _, fun h => by cases h⟩
  · exact trodAll_mk1 (shut_bool Try.underlying4 true)
  · exact hpa
  · exact rfl

theorem parts_holds : Rows.SumPartsSaid :=
  OpenClaim.holds_of_wide 4 Try.f4 rfl rfl rfl rfl rfl rfl rfl ⟨rfl, rfl, rfl, rfl, rfl⟩ rfl rfl rfl rfl rfl (by kernel_rfl) Try.func4 (by kernel_rfl)
    (of_decide_eq_true (by kernel_rfl)) (by unfold Func.isWrapper; first | (rw [if_pos (by decide +kernel)]; kernel_rfl) | (rw [if_neg (by decide +kernel)]; exact ⟨rfl, rfl⟩))
    (fun os started H enc _ => parts_lifted os started H enc)
#print axioms parts_holds
end Go.Proofs.Ytiaaohhhdfmehaa
