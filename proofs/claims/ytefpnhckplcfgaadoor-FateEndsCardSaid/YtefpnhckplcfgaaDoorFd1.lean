/-
  FateReads' walk: for all choices and every number of writes the statement's function returns true; condition: the table of masks reads as the program lays it.
-/
import Derived.Test.YtefpnhckplcfgaaDoorFl3
namespace Go.Proofs.YtefpnhckplcfgaaDoor
open Go.RowKit

theorem FateGot.bls {w w' : World} {came : List Bool} {t a : Int} {e : Ending} (h : FateGot w came t a e w') : ∃ v, e = .returned (.agg #[v, .int .i64 t, .int .i64 a]) ∧ Bls w' v came ∧ w.grownBy w' none := h
theorem cameF_le (cs : List UInt8) (n : Int) : (cameF cs (manyN n)).length ≤ 4096 := by rw [cameF_length]; exact manyN_le n
theorem idx2_0 (x y : Int) (w : World) : (Instr.index 23 (.agg #[.int .i64 x, .int .i64 y]) (.int .i64 0)).run Tryd.prog w = .ok (.int .i64 x) w := by kernel_rfl
theorem idx2_1 (x y : Int) (w : World) : (Instr.index 23 (.agg #[.int .i64 x, .int .i64 y]) (.int .i64 1)).run Tryd.prog w = .ok (.int .i64 y) w := by kernel_rfl
set_option maxRecDepth 100000 in
set_option maxHeartbeats 2000000 in
theorem reads_walk (vc : Value) (cs : List UInt8) (n : Int) (w : World) (hm : Masks w) (hv : Bts w vc cs) (h1 : -9223372036854775808 ≤ n) (h2 : n ≤ 9223372036854775807) :
    Calls Tryd.prog 3 #[vc, .int .i64 n] w (TrueGot w) := by
  have HM := Lib.hid hm
  have HV := Lib.hid hv
  obtain ⟨ao, ca, rfl, _, _, _, _⟩ := hv
  clear hm
  obtain ⟨r, hr⟩ : ∃ r : Int, n.tmod 40 = r := ⟨_, rfl⟩
  have hr1 : -40 < r := by rw [← hr]; exact Int.lt_tmod_of_pos n (by omega)
  have hr2 : r < 40 := by rw [← hr]; exact Int.tmod_lt_of_pos n (by omega)
  have hw : IntKind.i64.wrap r = r := IntWalk.i64_in _ (by omega)
  go_enter Tryd.func3, Tryd.ntmps3
  go_wp2_with fail
  clear hr hw
  have ix0 := idx2_0 n r
  have ix1 := idx2_1 n r
  go_loopw [6, 11] (fun _ v wr => ∃ k : Nat, k ≤ 2 ∧ v = .int .i64 k ∧ w.grownBy wr none) (fun _ v _ => 2 - (intOf v).toNat)
  case atStart => exact ⟨0, by omega, rfl, gb_refl _ _⟩
  case round =>
    obtain ⟨k, hk, rfl, hg⟩ := hrel
    have hk3 : k = 0 ∨ k = 1 ∨ k = 2 := by omega
    rcases hk3 with rfl | rfl | rfl
    · go_wp2_with (first
        | (go_at_call 10; (with_reducible refine (read_any _ cs n _ (HM.out.keep0 hg) (HV.out.keep0 hg) (by omega) (by omega)).mono ?_); rintro e w1 ⟨v1, rfl, hv1, g1⟩; have HV1 := Lib.hid hv1; replace g1 := gb_trans hg g1; clear hv1)
        | (go_at_call 11; (with_reducible refine (refRead_any _ cs n _ (HV.out.keep0 g1) (by omega) (by omega)).mono ?_); rintro e w2 ⟨v2, rfl, hv2, g2⟩; have HV2 := Lib.hid hv2; clear hv2)
        | (go_at_call 9; (with_reducible refine (same_eq v1 v2 _ _ _ _ (HV1.out.keep0 g2) HV2.out (Nat.le_trans (cameF_le cs n) (by decide))).mono ?_); rintro e w3 ⟨rfl, g3⟩; replace g3 := gb_trans (gb_trans g1 g2) g3)
        | (go_at_call 12; (with_reducible refine (whole_any n _ (by omega) (by omega)).mono ?_); rintro e w4 ⟨v4, rfl, hv4, g4⟩; have HV4 := Lib.hid hv4; clear hv4)
        | (go_at_call 13; (with_reducible refine (refWhole_any n _ (by omega) (by omega)).mono ?_); rintro e w5 ⟨v5, rfl, hv5, g5⟩; have HV5 := Lib.hid hv5; clear hv5)
        | (go_at_call 9; (with_reducible refine (same_eq v4 v5 _ _ _ _ (HV4.out.keep0 g5) HV5.out (by rw [List.length_replicate]; have := manyN_le (n); omega)).mono ?_); rintro e w6 ⟨rfl, g6⟩; replace g6 := gb_trans (gb_trans (gb_trans g3 g4) g5) g6))
      go_roundw
      case rel => exact ⟨0 + 1, by omega, by go_num, g6⟩
      case measure => simp [intOf]
    · go_wp2_with (first
        | (go_at_call 10; (with_reducible refine (read_any _ cs r _ (HM.out.keep0 hg) (HV.out.keep0 hg) (by omega) (by omega)).mono ?_); rintro e w1 ⟨v1, rfl, hv1, g1⟩; have HV1 := Lib.hid hv1; replace g1 := gb_trans hg g1; clear hv1)
        | (go_at_call 11; (with_reducible refine (refRead_any _ cs r _ (HV.out.keep0 g1) (by omega) (by omega)).mono ?_); rintro e w2 ⟨v2, rfl, hv2, g2⟩; have HV2 := Lib.hid hv2; clear hv2)
        | (go_at_call 9; (with_reducible refine (same_eq v1 v2 _ _ _ _ (HV1.out.keep0 g2) HV2.out (Nat.le_trans (cameF_le cs r) (by decide))).mono ?_); rintro e w3 ⟨rfl, g3⟩; replace g3 := gb_trans (gb_trans g1 g2) g3)
        | (go_at_call 12; (with_reducible refine (whole_any r _ (by omega) (by omega)).mono ?_); rintro e w4 ⟨v4, rfl, hv4, g4⟩; have HV4 := Lib.hid hv4; clear hv4)
        | (go_at_call 13; (with_reducible refine (refWhole_any r _ (by omega) (by omega)).mono ?_); rintro e w5 ⟨v5, rfl, hv5, g5⟩; have HV5 := Lib.hid hv5; clear hv5)
        | (go_at_call 9; (with_reducible refine (same_eq v4 v5 _ _ _ _ (HV4.out.keep0 g5) HV5.out (by rw [List.length_replicate]; have := manyN_le (r); omega)).mono ?_); rintro e w6 ⟨rfl, g6⟩; replace g6 := gb_trans (gb_trans (gb_trans g3 g4) g5) g6))
      go_roundw
      case rel => exact ⟨1 + 1, by omega, by go_num, g6⟩
      case measure => simp [intOf]
    · go_wp2_with (go_at_call 14; (with_reducible refine (works_any _ (HM.out.keep0 hg)).mono ?_); rintro e w1 ⟨rfl, g1⟩)
      go_ret
      exact ⟨rfl, gb_trans hg g1⟩
end Go.Proofs.YtefpnhckplcfgaaDoor
