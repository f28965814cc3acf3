/-
  SumKnown's walk: the statement's function, which takes nothing, returns true; no conditions.
-/
import Derived.Test.YtiaaohhhdfmehaaSb
import Derived.Laws.MakeOwn
namespace Go.Proofs.Ytiaaohhhdfmehaa
open Go.RowKit

theorem Try.infoB : (Try.prog.info? 5).map (fun i => (i.zero, i.size, i.bytes)) = some (some (.int .u8 0), 1, 1) := by kernel_rfl
theorem zeros_made (W : World) (N : Nat) (z : Int) (hz : z = (N : Int)) (hN : N ≤ 100000) : ∃ (W1 : World) (S : ByteArray), (Instr.makeSlice 32 (.int .i64 z) (.int .i64 z)).run Try.prog W = .ok (.slice (some ⟨W.heap.size, 0, none⟩) N N) W1 ∧
    (convert 32 9 (.slice (some ⟨W.heap.size, 0, none⟩) N N)).run Try.prog W1 = .ok (.string S) W1 ∧ Below W.heap.size W W1 ∧ S.data.toList = List.replicate N 0 := by
  obtain ⟨i0, hi, hz0, hz1, hz2⟩ := info_parts Try.infoB
  subst hz
  refine ⟨W.alloc (.cells (madeCells (Value.int .u8 0).cells N) 5), ⟨(List.replicate N (0 : UInt8)).toArray⟩, ?_, ?_, (Below.refl _ _).alloc (Nat.le_refl _) _, by simp⟩
  · have h := run_make (P := Try.prog) W 32 5 i0 (.int .u8 0) Try.underlying32 hi hz0 .i64 .i64 (N : Int) (N : Int) (by omega) (by omega) (by rw [hz2]; omega) (by omega)
    rw [hz1, Nat.mul_one, Int.toNat_natCast] at h
    exact h
  · refine brow_str (l := List.replicate N 0) (fun j hj => ?_) N N (by simp)
    have hjl : j < N := by simpa using hj
    have hb : (W.alloc (.cells (madeCells (Value.int .u8 0).cells N) 5)).heap[W.heap.size]? = some (.cells (madeCells (Value.int .u8 0).cells N) 5 (0, 0)) := heap_alloc_new W _
    have hs1 : (Value.int .u8 0).cells = #[.int .u8 0] := rfl
    constructor
    · simp only [World.cell?, hb]
      rw [hs1]
      simp [madeCells, hjl, Nat.mod_one]
    · simp only [World.frozen?, hb]
      simp
theorem lit_zeros (S : ByteArray) (N k : Nat) (hS : S.data.toList = List.replicate N 0) (hk : k ≤ N) (v : Int) (hv : ((packed (1, k % 65521) : Nat) : Int) = v) :
    ((moreN 1 (S.extract 0 k).data.toList : Nat) : Int) = v := by
  rw [extract_list, hS, List.drop_zero, List.take_replicate, Nat.min_eq_left hk, sum_zeros, hv]
theorem lit_zeros' (S : ByteArray) (N : Nat) (hS : S.data.toList = List.replicate N 0) (v : Int) (hv : ((packed (1, N % 65521) : Nat) : Int) = v) :
    ((moreN 1 S.data.toList : Nat) : Int) = v := by
  rw [hS, sum_zeros, hv]
theorem zeros_size (S : ByteArray) (N : Nat) (hS : S.data.toList = List.replicate N 0) : S.size = N := by
  have : S.data.toList.length = N := by rw [hS]; simp
  simpa using this

theorem lit_more0 : ((moreN 4294967295 (⟨#[]⟩ : ByteArray).data.toList : Nat) : Int) = 917518 := by decide
theorem lit_ff : ((moreN 1 (⟨#[255]⟩ : ByteArray).data.toList : Nat) : Int) = 16777472 := by decide
theorem lit_ffff : ((moreN 1 (⟨#[255, 255]⟩ : ByteArray).data.toList : Nat) : Int) = 50266623 := by decide
theorem lit_j1 : ((joinN 1 1 (-5 : Int).toNat : Nat) : Int) = 1 := by decide
theorem lit_j2 : ((joinN 5 1 (3 : Int).toNat : Nat) : Int) = 786437 := by decide
theorem lit_j3 : ((joinN 0 0 (1 : Int).toNat : Nat) : Int) = 4293984240 := by decide

set_option maxRecDepth 100000 in
set_option maxHeartbeats 2000000 in
theorem known_walk (w : World) : Calls Try.prog 6 #[] w fun e w' => e = .returned (.bool true) ∧ Below w.heap.size w w' := by
  obtain ⟨W1, S, hmk, hcv, hb0, hS⟩ := zeros_made w 65521 65521 rfl (by decide)
  have hsz := zeros_size S 65521 hS
  have k0 := fun w => of_lit (S.extract 0 1) 65537 (by simp; omega) (lit_zeros S 65521 1 hS (by decide) 65537 (by decide)) w
  have k1 := fun w => of_lit (S.extract 0 65520) 4293918721 (by simp; omega) (lit_zeros S 65521 65520 hS (by decide) 4293918721 (by decide)) w
  have k2 := fun w => of_lit S 1 (by omega) (lit_zeros' S 65521 hS 1 (by decide)) w
  have k3 := fun w => more_lit 4294967295 ⟨#[]⟩ 4294967295 917518 rfl (by decide) (by decide) lit_more0 w
  have k4 := fun w => joined_lit 1 1 1 1 (-5) 1 rfl rfl (by decide) (by decide) (by decide) (by decide) lit_j1 w
  have k5 := fun w => joined_lit 5 1 5 1 3 786437 rfl rfl (by decide) (by decide) (by decide) (by decide) lit_j2 w
  have k6 := fun w => joined_lit 0 0 0 0 1 4293984240 rfl rfl (by decide) (by decide) (by decide) (by decide) lit_j3 w
  have k7 := fun w => of_lit ⟨#[255]⟩ 16777472 (by decide) lit_ff w
  have k8 := fun w => of_lit ⟨#[255, 255]⟩ 50266623 (by decide) lit_ffff w
  have H := Lib.hid (And.intro k0 (And.intro k1 (And.intro k2 (And.intro k3 (And.intro k4 (And.intro k5 (And.intro k6 (And.intro k7 k8))))))))
  have h1 : (1 : Int) ≤ (S.size : Int) := by omega
  have h2 : (65520 : Int) ≤ (S.size : Int) := by omega
  clear k0 k1 k2 k3 k4 k5 k6 k7 k8 hS hsz
  go_enter Try.func6, Try.ntmps6
  go_wp2_with (first
    | (go_at_call 12; (with_reducible refine (works_any _).mono ?_); rintro e w1 ⟨rfl, hb1⟩)
    | (go_at_call 8; first
      | ((with_reducible refine (H.out.1 _).mono ?_); rintro e w1 ⟨rfl, hb1⟩)
      | ((with_reducible refine (H.out.2.1 _).mono ?_); rintro e w1 ⟨rfl, hb1⟩)
      | ((with_reducible refine (H.out.2.2.1 _).mono ?_); rintro e w1 ⟨rfl, hb1⟩)
      | ((with_reducible refine (H.out.2.2.2.2.2.2.2.1 _).mono ?_); rintro e w1 ⟨rfl, hb1⟩)
      | ((with_reducible refine (H.out.2.2.2.2.2.2.2.2 _).mono ?_); rintro e w1 ⟨rfl, hb1⟩))
    | (go_at_call 10; (with_reducible refine (H.out.2.2.2.1 _).mono ?_); rintro e w1 ⟨rfl, hb1⟩)
    | (go_at_call 13; first
      | ((with_reducible refine (H.out.2.2.2.2.1 _).mono ?_); rintro e w1 ⟨rfl, rfl⟩)
      | ((with_reducible refine (H.out.2.2.2.2.2.1 _).mono ?_); rintro e w1 ⟨rfl, rfl⟩)
      | ((with_reducible refine (H.out.2.2.2.2.2.2.1 _).mono ?_); rintro e w1 ⟨rfl, rfl⟩)))
  go_ret
  exact ⟨rfl, by repeat (first | exact Below.refl _ _ | refine bchain ?_ (by assumption))⟩
end Go.Proofs.Ytiaaohhhdfmehaa
