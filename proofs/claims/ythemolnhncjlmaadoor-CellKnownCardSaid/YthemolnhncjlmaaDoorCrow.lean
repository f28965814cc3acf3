/-
  What a turn of a byte, and numbers that came in as arguments read as, over this seat's translation; no conditions beside.
-/
import Derived.Test.YthemolnhncjlmaaDoorRow
import Derived.Deep.Slices
import Derived.Lib.SmallJoins
namespace Go.Proofs.YthemolnhncjlmaaDoor
open Go.ChangeShapes Go.WideShapes Go.RowKit

theorem u8_wf (z : Int) (h : (Lit.int .u8 z).wf = true) : ∃ a : Nat, z = a ∧ a < 256 := by
  have h1 : (decide (0 ≤ z) && decide (z ≤ 255)) = true := h
  simp only [Bool.and_eq_true, decide_eq_true_eq] at h1
  exact ⟨z.toNat, by omega, by omega⟩
theorem u16_wf (z : Int) (h : (Lit.int .u16 z).wf = true) : ∃ a : Nat, z = a ∧ a < 65536 := by
  have h1 : (decide (0 ≤ z) && decide (z ≤ 65535)) = true := h
  simp only [Bool.and_eq_true, decide_eq_true_eq] at h1
  exact ⟨z.toNat, by omega, by omega⟩
set_option maxRecDepth 100000 in
theorem open_turn {H : Type} {enc : TypeId × Value → H} {W : World} {base : Nat} {v : Value} {d : DataW H} {ps : List MemPlace} (hval : Value.okWide Tryd.prog W .any base 35 v) (h : DataW.Trod enc Tryd.prog W 0 (fun _ => true) true 35 v d ps) :
    ∃ (p : Nat) (c : UInt8) (o : ByteArray), v = .agg #[.int .u16 (p : Nat), .int .u8 (c.toNat : Nat), .string o] ∧ p < 65536 ∧ o.size ≤ 9223372036854775807 := by
  obtain ⟨v0, v1, v2, y0, y1, y2, n, rfl, _, _, h0, h1, h2⟩ := Go.Joins.open_agg3 Tryd.underlying35 (by kernel_rfl) (by kernel_rfl) hval h
  obtain ⟨a, e0, _, w0⟩ := DataW.trod_int Tryd.underlying33 h0
  obtain ⟨b, e1, _, w1⟩ := DataW.trod_int Tryd.underlying5 h1
  obtain ⟨s, e2, _, w2⟩ := DataW.trod_string Tryd.underlying9 h2
  obtain ⟨p, rfl, hp⟩ := u16_wf a w0
  have hb := byte_wf b w1
  have g0 : v0 = _ := (List.cons.inj e0).1
  have g1 : v1 = _ := (List.cons.inj e1).1
  have g2 : v2 = _ := (List.cons.inj e2).1
  subst g0; subst g1; subst g2
  refine ⟨p, UInt8.ofNat b.toNat, s, by rw [hb], hp, ?_⟩
  unfold maxLen at w2
  omega
end Go.Proofs.YthemolnhncjlmaaDoor
