/-
  RootNext: for every root, whatever stood in the other sector, and every place the statement's function returns true, and its arguments read as they did; condition: the table of places of package root is laid as the program's text lays it (the card ties it).
-/
import Derived.Test.YtckkbcgolphajaaDoorQq
import Derived.Test.YtckkbcgolphajaaDoorQrow
import Derived.Test.YtckkbcgolphajaaDoorQr2
namespace Go.Proofs.YtckkbcgolphajaaDoor
open Go.ChangeShapes Go.WideShapes Go.ChangeMaps Go.RowKit

set_option maxRecDepth 100000 in
theorem rnext_lifted (os : Os) (started : os.Started) (H : Type) (enc : TypeId × Value → H) :
    ReturnsInHanded {} Tryd.checked os 7 .any (fun w args => (Rows.rootNextSpec.pre enc Tryd.prog Tryd.f7 [] false w args ∧ laidMetH Tryd.prog laid1 w) ∧ sizedMet enc Tryd.prog Tryd.f7 (OpenSpec.ofChange Rows.rootNextSpec) false w args)
      (Rows.rootNextSpec.post enc Tryd.prog Tryd.f7 false true false false) := by
  refine returnsInHanded_of_change_and (C := Tryd.checked) (X := fun w _ => laidMetH Tryd.prog laid1 w) (fun _ _ _ hh h => h.of_heap hh) Tryd.own started (by kernel_rfl) Tryd.func7
    (ChangeSpec.witness_at (enc := enc) (C := Tryd.checked) (os := os) (X := fun w _ => laidMetH Tryd.prog laid1 w) false (laidWorld os) #[.agg #[.int .u64 0, .int .u16 0, .int .u16 0, .int .u16 0, .int .u16 0, .int .u16 0, .int .u16 0, .int .u16 0, .int .u16 0, .int .u16 0, .int .u8 0], .agg #[.int .u64 0, .int .u16 0, .int .u16 0, .int .u16 0, .int .u16 0, .int .u16 0, .int .u16 0, .int .u16 0, .int .u16 0, .int .u16 0, .int .u8 0], .agg #[.int .u8 0, .int .u16 0]] 8 rfl (by kernel_rfl) (by kernel_rfl) (by kernel_rfl) (by kernel_rfl) (by kernel_rfl) (laidWorld_met os _)) ?_
  intro W base args ds gs before hval0 hW _ _ hL _
  have hval : ∀ (j : Nat) t v, Tryd.f7.params[j]? = some t → args[j]? = some v → Value.okWide Tryd.prog W .any base t v := hval0
  have hW' := hW
  obtain ⟨p, q, hA0, hV0, rfl, _, _⟩ := hW
  have hA : DataW.TrodAll enc Tryd.prog W 0 (fun _ => true) true Tryd.f7.params.toList args.toList ds p := hA0
  have hV : DataW.TrodVars enc Tryd.prog W (fun _ => true) [] gs q := hV0
  obtain ⟨rfl, rfl⟩ := trodVars_none hV
  rw [Tryd.params7] at hA hval
  have hlt : ∀ x ∈ p, x.block < W.heap.size := fun x hx => hW'.lt x (by simpa using hx)
  have hro : ∀ t ∈ [29, 29, 52], Tryd.prog.readableRec t = true ∧ t < Tryd.prog.types.size := by
    intro t ht
    have hall : ([29, 29, 52].all fun u => Tryd.prog.readableRec u && decide (u < Tryd.prog.types.size)) = true := by kernel_rfl
    have h := List.all_eq_true.1 hall t ht
    rw [Bool.and_eq_true, decide_eq_true_eq] at h
    exact h
  have hst : ∀ W', Below W.heap.size W W' → ∃ pa, DataW.TrodAll enc Tryd.prog W' 0 (fun b => decide (b < W.heap.size)) true [29, 29, 52] args.toList ds pa :=
    fun W' hb => ⟨p, all_stays hb [29, 29, 52] _ _ _ hro hA hlt⟩
  obtain ⟨v0, v1, v2, d0, d1, d2, p0, p1, p2, rfl, rfl, rfl, h0, h1, h2⟩ := trodAll_three hA
  have hg := pl_of_laid hL
  obtain ⟨e0, s0, o0, cs0, rfl, hf0⟩ := open_draft (hval 0 29 v0 rfl rfl) h0
  obtain ⟨e1, s1, o1, cs1, rfl, hf1⟩ := open_draft (hval 1 29 v1 rfl rfl) h1
  obtain ⟨how, at0, rfl, hh, ha⟩ := open_place (hval 2 52 v2 rfl rfl) h2
  refine (next_law e0 s0 o0 cs0 hf0 e1 s1 o1 cs1 hf1 how at0 hh ha W hg).mono fun e W' ⟨he, hw⟩ => ?_
  subst he
  obtain ⟨pa, hpa⟩ := hst W' (gb_below hw)
  refine ⟨_, rfl, _, _, _, [], pa, [], hW', ?_, ?_, ?_, (gb_below hw).frame _, fun h => by cases h⟩
  · exact trodAll_mk1 (shut_bool Tryd.underlying4 true)
  · exact hpa
  · exact rfl

theorem rnext_row : Rows.RootNextSaid :=
  OpenClaim.holds_of_wide 7 Tryd.f7 rfl rfl rfl rfl rfl rfl rfl ⟨rfl, rfl, rfl, rfl, rfl⟩ rfl rfl rfl rfl rfl (by kernel_rfl) Tryd.func7 (by kernel_rfl)
    (of_decide_eq_true (by kernel_rfl)) (by unfold Func.isWrapper; rw [if_neg (of_decide_eq_false (by kernel_rfl))]; exact ⟨rfl, rfl⟩)
    (fun os started H enc _ => rnext_lifted os started H enc)

theorem rnext_holds : Rows.RootNextCardSaid :=
  Claim7.holds_tied_plain_at .later [] [.data] true Rows.rootNextCard.stood.harness false
    rnext_row (fun _ h => by cases h) (by kernel_rfl) (fun _ h => by cases h) rootNext_row_tie rfl ⟨rfl, rfl⟩ (by kernel_rfl) rfl
    (fun f fn hf hfn => by
      obtain rfl : f = 7 := Option.some.inj ((show Tryd.prog.funcNamed "foyer/foyerlaw08.RootNext" = some 7 by kernel_rfl).symm.trans hf) |>.symm
      obtain rfl : fn = Tryd.f7 := (Option.some.inj (Tryd.func7.symm.trans hfn)).symm
      exact ⟨by kernel_rfl, fun j t ht => by
        rw [Tryd.params7] at ht
        have hm : t ∈ [29, 29, 52] := by simpa using Array.mem_of_getElem? ht
        have hall : ([29, 29, 52].all fun u => !Tryd.prog.wantsStandIn u) = true := by kernel_rfl
        exact (show Tryd.prog.wantsStandIn t = false by simpa using List.all_eq_true.1 hall t hm)⟩)
    (by kernel_rfl)
#print axioms rnext_holds
end Go.Proofs.YtckkbcgolphajaaDoor
