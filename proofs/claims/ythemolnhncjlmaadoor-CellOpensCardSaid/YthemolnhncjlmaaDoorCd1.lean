/-
  CellSeals and CellOpens, walked: true for all arguments, over this seat's translation; condition: the variable errors.errorType holds its type's handle.
-/
import Derived.Test.YthemolnhncjlmaaDoorCw
namespace Go.Proofs.YthemolnhncjlmaaDoor
open Go.RowKit

set_option maxRecDepth 100000 in
set_option maxHeartbeats 2000000 in
theorem seals_walk (k : Int) (s : ByteArray) (w : World) (hd : Hd w) (hs : s.size ≤ 9223372036854775807) :
    Calls Tryd.prog 3 #[.int .i64 k, .string s] w (TrueGot w) := by
  have HD := Lib.hid hd
  clear hd
  by_cases h300 : 300 < s.size
  all_goals
    go_enter Tryd.func3, Tryd.ntmps3
    go_wp2_with (first
      | (go_at_call 7; (with_reducible refine (seal_any k _ _).mono ?_); rintro e w1 ⟨rfl, g1⟩)
      | (go_at_call 8; (with_reducible refine (refSeal_any k _ _).mono ?_); rintro e w2 ⟨rfl, g2⟩)
      | (go_at_call 9; (with_reducible refine (works_any _ (HD.out.keep0 (gb_trans g1 g2))).mono ?_); rintro e w3 ⟨rfl, g3⟩)
      | fail)
    go_ret
    exact ⟨rfl, gb_trans g1 (gb_trans g2 g3)⟩

theorem ref_some (t : ByteArray) (w : World) (ht : t.size ≤ 1000) : Calls Tryd.prog 12 #[.string t] w fun e w' => ∃ N : Nat, N < 4294967296 ∧ e = .returned (.int .u32 (N : Nat)) ∧ w = w' :=
  (refOf_any t w (by omega)).mono fun _ _ h => ⟨_, moreN_lt _ _, h.1, h.2⟩
set_option maxRecDepth 100000 in
set_option maxHeartbeats 2000000 in
theorem opens_walk (s : ByteArray) (w : World) (hd : Hd w) (hs : s.size ≤ 9223372036854775807) :
    Calls Tryd.prog 4 #[.string s] w (TrueGot w) := by
  have HD := Lib.hid hd
  clear hd
  obtain ⟨m, hm⟩ : ∃ m, m = 252 - s.size := ⟨_, rfl⟩
  have mk := make_bytes m (252 - (s.size : Int)) w
  have hcz := new_bytes w (rep m) m (rep_length m).symm
  have mk0 := make_bytes 0 0 w rfl (by decide)
  have hcz0 := new_bytes w (rep 0) 0 rfl
  obtain ⟨z, hz⟩ : ∃ z : ByteArray, z = ⟨(rep m).toArray⟩ := ⟨_, rfl⟩
  have hzs : z.size = m := by rw [hz]; show (rep m).toArray.size = m; rw [List.size_toArray, rep_length]
  rw [← hz] at hcz
  by_cases h252 : s.size ≤ 252
  · have hm1 : min (s.size : Int) 300 = (s.size : Int) := by omega
    have hm2 : min (s.size : Int) 252 = (s.size : Int) := by omega
    replace mk := mk (by omega) (by omega)
    have hmb : m ≤ 252 := by omega
    clear mk0 hcz0 hz hm
    go_enter Tryd.func4, Tryd.ntmps4
    go_wp2_with (first
      | (go_at_call 10; (with_reducible refine (alike_any _ _ (HD.out.keep0 (gb_alloc _ _ _))).mono ?_); rintro e w1 ⟨rfl, g1⟩)
      | (go_at_call 10; (with_reducible refine (alike_any _ _ (HD.out.keep0 (gb_trans (gb_alloc _ _ _) (gb_trans g1 g3)))).mono ?_); rintro e w4 ⟨rfl, g4⟩)
      | (go_at_call 12; (with_reducible refine (ref_some _ _ (by simp; omega)).mono ?_); rintro e w2 ⟨N, hN, rfl, rfl⟩)
      | (go_at_call 11; (with_reducible refine (bytes4 N _ hN).mono ?_); rintro e w3 ⟨t, rfl, ht, g3⟩; have hts : t.size = 4 := (by show t.data.size = 4; rw [← Array.length_toList, ht, digits_length]); clear ht)
      | (go_at_call 9; (with_reducible refine (works_any _ (HD.out.keep0 (gb_trans (gb_alloc _ _ _) (gb_trans g1 (gb_trans g3 g4))))).mono ?_); rintro e w5 ⟨rfl, g5⟩)
      | fail)
    go_ret
    exact ⟨rfl, gb_trans (gb_alloc _ _ _) (gb_trans g1 (gb_trans g3 (gb_trans g4 g5)))⟩
  clear mk hcz hz hzs hm
  obtain ⟨z0, hz0⟩ : ∃ z : ByteArray, z = ⟨(rep 0).toArray⟩ := ⟨_, rfl⟩
  have hz0s : z0.size = 0 := by rw [hz0]; rfl
  rw [← hz0] at hcz0
  clear hz0
  by_cases h300 : s.size ≤ 300
  · have hm1 : min (s.size : Int) 300 = (s.size : Int) := by omega
    have hm2 : min (s.size : Int) 252 = 252 := by omega
    have hm3 : min 252 s.size = 252 := by omega
    go_enter Tryd.func4, Tryd.ntmps4
    go_wp2_with (first
      | (go_at_call 10; (with_reducible refine (alike_any _ _ (HD.out.keep0 (gb_alloc _ _ _))).mono ?_); rintro e w1 ⟨rfl, g1⟩)
      | (go_at_call 10; (with_reducible refine (alike_any _ _ (HD.out.keep0 (gb_trans (gb_alloc _ _ _) (gb_trans g1 g3)))).mono ?_); rintro e w4 ⟨rfl, g4⟩)
      | (go_at_call 12; (with_reducible refine (ref_some _ _ (by simp; omega)).mono ?_); rintro e w2 ⟨N, hN, rfl, rfl⟩)
      | (go_at_call 11; (with_reducible refine (bytes4 N _ hN).mono ?_); rintro e w3 ⟨t, rfl, ht, g3⟩; have hts : t.size = 4 := (by show t.data.size = 4; rw [← Array.length_toList, ht, digits_length]); clear ht)
      | (go_at_call 9; (with_reducible refine (works_any _ (HD.out.keep0 (gb_trans (gb_alloc _ _ _) (gb_trans g1 (gb_trans g3 g4))))).mono ?_); rintro e w5 ⟨rfl, g5⟩)
      | fail)
    go_ret
    exact ⟨rfl, gb_trans (gb_alloc _ _ _) (gb_trans g1 (gb_trans g3 (gb_trans g4 g5)))⟩
  · have hm1 : min (s.size : Int) 300 = 300 := by omega
    have hm3 : min 300 s.size = 300 := by omega
    have hm4 : min (300 : Int) 252 = 252 := by decide
    have hm5 : min (252 : Nat) 300 = 252 := by decide
    go_enter Tryd.func4, Tryd.ntmps4
    go_wp2_with (first
      | (go_at_call 10; (with_reducible refine (alike_any _ _ (HD.out.keep0 (gb_alloc _ _ _))).mono ?_); rintro e w1 ⟨rfl, g1⟩)
      | (go_at_call 10; (with_reducible refine (alike_any _ _ (HD.out.keep0 (gb_trans (gb_alloc _ _ _) (gb_trans g1 g3)))).mono ?_); rintro e w4 ⟨rfl, g4⟩)
      | (go_at_call 12; (with_reducible refine (ref_some _ _ (by simp; omega)).mono ?_); rintro e w2 ⟨N, hN, rfl, rfl⟩)
      | (go_at_call 11; (with_reducible refine (bytes4 N _ hN).mono ?_); rintro e w3 ⟨t, rfl, ht, g3⟩; have hts : t.size = 4 := (by show t.data.size = 4; rw [← Array.length_toList, ht, digits_length]); clear ht)
      | (go_at_call 9; (with_reducible refine (works_any _ (HD.out.keep0 (gb_trans (gb_alloc _ _ _) (gb_trans g1 (gb_trans g3 g4))))).mono ?_); rintro e w5 ⟨rfl, g5⟩)
      | fail)
    go_ret
    exact ⟨rfl, gb_trans (gb_alloc _ _ _) (gb_trans g1 (gb_trans g3 (gb_trans g4 g5)))⟩
end Go.Proofs.YthemolnhncjlmaaDoor
