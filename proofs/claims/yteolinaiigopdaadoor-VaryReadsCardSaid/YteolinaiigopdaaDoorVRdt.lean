/-
  What a Turn that came in reads as, over this seat's translation; no conditions.
-/
import Derived.Test.YteolinaiigopdaaDoorVRds
import Derived.Test.YteolinaiigopdaaDoorVRow
import Derived.Lib.SmallJoins
namespace Go.Proofs.YteolinaiigopdaaDoor
open Go.Joins Go.ChangeShapes Go.WideShapes Go.RowKit

theorem i16_wf (n : Int) (h : (Lit.int .i16 n).wf = true) : -32768 ≤ n ∧ n ≤ 32767 := by
  have h1 : (decide (-32768 ≤ n) && decide (n ≤ 32767)) = true := h
  simp only [Bool.and_eq_true, decide_eq_true_eq] at h1
  exact h1
set_option maxRecDepth 100000 in
theorem open_turn {H : Type} {enc : TypeId × Value → H} {W : World} {base : Nat} {v : Value} {d : DataW H} {ps : List MemPlace} (hval : Value.okWide Tryd.prog W .any base 37 v) (h : DataW.Trod enc Tryd.prog W 0 (fun _ => true) true 37 v d ps) :
    ∃ (ta tb : Nat) (ts : Int), v = .agg #[.int .u16 ta, .int .u8 tb, .int .i16 ts] ∧ ta < 65536 ∧ tb < 256 ∧ -32768 ≤ ts ∧ ts ≤ 32767 := by
  obtain ⟨v0, v1, v2, y0, y1, y2, n, rfl, _, _, h0, h1, h2⟩ := open_agg3 Tryd.underlying37 (by kernel_rfl) (by kernel_rfl) hval h
  obtain ⟨a, e0, _, w0⟩ := DataW.trod_int Tryd.underlying34 h0
  obtain ⟨b, e1, _, w1⟩ := DataW.trod_int Tryd.underlying5 h1
  obtain ⟨c, e2, _, w2⟩ := DataW.trod_int Tryd.underlying35 h2
  obtain ⟨a', rfl, ha⟩ := nat_of_u16 a w0
  obtain ⟨b', rfl, hb⟩ := nat_of_u8 b w1
  have hc := i16_wf c w2
  have g0 : v0 = _ := (List.cons.inj e0).1
  have g1 : v1 = _ := (List.cons.inj e1).1
  have g2 : v2 = _ := (List.cons.inj e2).1
  subst g0; subst g1; subst g2
  exact ⟨a', b', c, rfl, ha, hb, hc.1, hc.2⟩
end Go.Proofs.YteolinaiigopdaaDoor
