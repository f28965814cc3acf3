/-
  DiskKnown's walk: the statement's function, which takes nothing, returns true; condition: the table of masks reads as the program lays it.
-/
import Derived.Test.YtcoegaipojnndaaDoorDw2
namespace Go.Proofs.YtcoegaipojnndaaDoor
open Go.RowKit Go.Maps

/-! The states of a disk of 1024 sectors that is armed with 0. -/
def z0 : St := newS 1024
def z1 : St := armS z0 0
def z2 : St := opS z1 (hasF z1 (-1))
def z3 : St := writeT z2 1024 sA
def z4 : St := barS z3
def z5 : St := writeT z4 5 sX
def z6 : St := armS z5 2
def z7 : St := bootS z6 [255, 255]
def z8 : St := barS z7
def z9 : St := barS z8
def z10 : St := armS z9 1
def z11 : St := armS z10 (-3)
def z12 : St := barS z11
def z13 : St := barS z12
theorem z0_ok : z0.Ok 0 := newS_ok 1024 (by omega)
theorem z1_ok : z1.Ok 0 := z0_ok.arms 0 (by omega)
theorem z2_ok : z2.Ok 1 := z1_ok.op _
theorem z3_ok : z3.Ok 2 := z2_ok.write 1024 sA
theorem z4_ok : z4.Ok 3 := z3_ok.bar
theorem z5_ok : z5.Ok 4 := z4_ok.write 5 sX
theorem z6_ok : z6.Ok 4 := z5_ok.arms 2 (by omega)
theorem z7_ok : z7.Ok 4 := z6_ok.boot _
theorem z8_ok : z8.Ok 5 := z7_ok.bar
theorem z9_ok : z9.Ok 6 := z8_ok.bar
theorem z10_ok : z10.Ok 6 := z9_ok.arms 1 (by omega)
theorem z11_ok : z11.Ok 6 := z10_ok.arms (-3) (by omega)
theorem z12_ok : z12.Ok 7 := z11_ok.bar
theorem z1_e : opE z1 (hasF z1 (-1)) = 2 := by decide +kernel
theorem z1_s : readS z1 (-1) = noS := by decide +kernel
theorem z2_e : opE z2 (mayW z2 1024 sA) = 2 := by decide +kernel
theorem z3_o : z3.ops = 0 := by decide +kernel
theorem z3_e : opE z3 true = 10 := by decide +kernel
theorem z4_e : opE z4 (mayW z4 5 sX) = 10 := by decide +kernel
theorem z5_f : z5.off = true := by decide +kernel
theorem z7_e : opE z7 true = 0 := by decide +kernel
theorem z8_e : opE z8 true = 0 := by decide +kernel
theorem z11_e : opE z11 true = 0 := by decide +kernel
theorem z12_e : opE z12 true = 0 := by decide +kernel
theorem z13_o : z13.ops = 4 := by decide +kernel
theorem z13_l : ((z13.secs.length : Nat) : Int) = 1024 := by decide +kernel
theorem two_bytes (w : World) : Bts (w.alloc (.cells #[.int .u8 255, .int .u8 255] 5)) (.slice (some ⟨w.heap.size, 0, none⟩) 2 2) [255, 255] := bts_lit (Blk.mk w _ _) rfl rfl
/-! A disk that is none. -/
set_option maxRecDepth 100000 in
theorem nil_arm (w : World) (n : Int) : Calls Tryd.prog 23 #[.pointer none, .int .i64 n] w fun e w' => e = .returned (.tuple #[]) ∧ w = w' := by
  go_enter Tryd.func23, Tryd.ntmps23
  go_wp2
  (try simp only [Exit.inBlock, Exit.then])
  refine bodyPost_ret (results_none rfl _ _ _) rfl ?_
  exact ⟨rfl, rfl⟩
set_option maxRecDepth 100000 in
theorem nil_boot (w : World) : Calls Tryd.prog 25 #[.pointer none, .slice none 0 0] w fun e w' => e = .returned (.tuple #[]) ∧ w = w' := by
  go_enter Tryd.func25, Tryd.ntmps25
  go_wp2
  (try simp only [Exit.inBlock, Exit.then])
  refine bodyPost_ret (results_none rfl _ _ _) rfl ?_
  exact ⟨rfl, rfl⟩
set_option maxRecDepth 100000 in
theorem nil_off (w : World) : Calls Tryd.prog 27 #[.pointer none] w fun e w' => e = .returned (.bool false) ∧ w = w' := by
  go_enter Tryd.func27, Tryd.ntmps27
  go_wp2
  go_ret
  exact ⟨rfl, rfl⟩
set_option maxRecDepth 100000 in
theorem nil_ops (w : World) : Calls Tryd.prog 28 #[.pointer none] w fun e w' => e = .returned (.int .i64 0) ∧ w = w' := by
  go_enter Tryd.func28, Tryd.ntmps28
  go_wp2
  go_ret
  exact ⟨rfl, rfl⟩
set_option maxRecDepth 100000 in
theorem nil_pending (w : World) : Calls Tryd.prog 29 #[.pointer none] w fun e w' => e = .returned (.int .i64 0) ∧ w = w' := by
  go_enter Tryd.func29, Tryd.ntmps29
  go_wp2
  go_ret
  exact ⟨rfl, rfl⟩
set_option maxRecDepth 100000 in
theorem nil_sectors (w : World) : Calls Tryd.prog 30 #[.pointer none] w fun e w' => e = .returned (.int .i64 0) ∧ w = w' := by
  go_enter Tryd.func30, Tryd.ntmps30
  go_wp2
  go_ret
  exact ⟨rfl, rfl⟩
set_option maxRecDepth 100000 in
theorem nil_read (w : World) (i : Int) : Calls Tryd.prog 16 #[.pointer none, .int .i64 i] w fun e w' => e = .returned (.tuple #[.string noS, .int .i64 1]) ∧ w.grownBy w' none := by
  go_enter Tryd.func16, Tryd.ntmps16
  go_wp2_with (first
    | (go_at_call 43; (with_reducible refine (hasSector_any _ _ _).mono ?_); rintro e w1 ⟨rfl, _, _, g1⟩)
    | (go_at_call 42; (with_reducible refine (op_nil _ _ _ _ _ rfl).mono ?_); rintro e w9 ⟨rfl, rfl⟩))
  go_ret2
  exact ⟨rfl, gb_trans g1 (gb_alloc _ _ _)⟩
set_option maxRecDepth 100000 in
theorem nil_write (w : World) (i : Int) (d : ByteArray) : Calls Tryd.prog 18 #[.pointer none, .int .i64 i, .string d] w fun e w' => e = .returned (.int .i64 1) ∧ w.grownBy w' none := by
  go_enter Tryd.func18, Tryd.ntmps18
  go_wp2_with (first
    | (go_at_call 43; (with_reducible refine (hasSector_any _ _ _).mono ?_); rintro e w1 ⟨rfl, _, _, g1⟩)
    | (go_at_call 45; (with_reducible refine (fillsSector_any _ _).mono ?_); rintro e w2 ⟨rfl, _, g2⟩)
    | (go_at_call 42; (with_reducible refine (op_nil _ _ _ _ _ rfl).mono ?_); rintro e w9 ⟨rfl, rfl⟩))
  go_ret
  exact ⟨rfl, gb_trans (gb_trans g1 g2) (gb_alloc _ _ _)⟩
set_option maxRecDepth 100000 in
theorem nil_barrier (w : World) : Calls Tryd.prog 21 #[.pointer none] w fun e w' => e = .returned (.int .i64 1) ∧ w.grownBy w' none := by
  go_enter Tryd.func21, Tryd.ntmps21
  go_wp2_with (go_at_call 42; (with_reducible refine (op_nil _ _ _ _ _ rfl).mono ?_); rintro e w9 ⟨rfl, rfl⟩)
  go_ret
  exact ⟨rfl, gb_refl _ _⟩
set_option maxRecDepth 100000 in
set_option maxHeartbeats 4000000 in
theorem dknown_walk (w : World) (hm : Masks w) : Calls Tryd.prog 6 #[] w (TrueGot w) := by
  have HM := Lib.hid hm
  have hpos := hm.lt
  clear hm
  go_enter Tryd.func6, Tryd.ntmps6
  go_wp2_with (first
    | (go_at_call 23; (with_reducible refine (nil_arm _ 1).mono ?_); rintro e w1 ⟨rfl, rfl⟩; skip)
    | (go_at_call 25; (with_reducible refine (nil_boot _).mono ?_); rintro e w1 ⟨rfl, rfl⟩; skip)
    | (go_at_call 16; (with_reducible refine (nil_read _ 0).mono ?_); rintro e w1 ⟨rfl, g1⟩; have b0 := gb_below g1)
    | (go_at_call 13; (with_reducible refine (s_new 1024 1024 _ w.heap.size rfl b0.size (by omega) (by omega) z0 rfl).mono ?_); rintro e w2 ⟨p, rfl, hP0, b1⟩; replace b0 := b0.trans b1)
    | (go_at_call 13; (with_reducible refine (dnew_no 63 _ (by omega)).mono ?_); rintro e w3 ⟨rfl, g3⟩; have hP0a := hP0.keep0 g3; replace b0 := b0.trans (gb_base g3 (Nat.le_trans (Nat.le_refl _) b0.size)))
    | (go_at_call 13; (with_reducible refine (dnew_no 1025 _ (by omega)).mono ?_); rintro e w4 ⟨rfl, g4⟩; have hP0b := hP0a.keep0 g4; replace b0 := b0.trans (gb_base g4 (Nat.le_trans (Nat.le_refl _) b0.size)))
    | (go_at_call 13; (with_reducible refine (dnew_no (-1) _ (by omega)).mono ?_); rintro e w5 ⟨rfl, g5⟩; have hP0c := hP0b.keep0 g5; replace b0 := b0.trans (gb_base g5 (Nat.le_trans (Nat.le_refl _) b0.size)))
    | (go_at_call 23; (with_reducible refine (s_arm hP0c 0 z1 rfl).mono ?_); rintro e w6 ⟨rfl, hP1, b1⟩; replace b0 := b0.trans b1)
    | (go_at_call 16; (with_reducible refine (s_read hP1 (-1) z1_ok (by omega) (by omega) 2 noS z2 z1_e z1_s rfl).mono ?_); rintro e w7 ⟨rfl, hP2, b1⟩; replace b0 := b0.trans b1)
    | (go_at_call 19; (with_reducible refine (sector5_any 97 97 _ rfl).mono ?_); rintro e w8 ⟨rfl, g8⟩; have hP2a := hP2.keep0 g8; replace b0 := b0.trans (gb_base g8 (Nat.le_trans (Nat.le_refl _) b0.size)))
    | (go_at_call 18; (with_reducible refine (s_write hP2a 1024 sA z2_ok (by omega) (by omega) 2 z3 z2_e rfl).mono ?_); rintro e w9 ⟨rfl, hP3, b1⟩; replace b0 := b0.trans b1)
    | (go_at_call 28; (with_reducible refine (s_ops hP3 0 z3_o).mono ?_); rintro e w10 ⟨rfl, hP3a, b1⟩; replace b0 := b0.trans b1)
    | (go_at_call 21; (with_reducible refine (s_barrier hP3a z3_ok (by omega) 10 z4 z3_e rfl).mono ?_); rintro e w11 ⟨rfl, hP4, b1⟩; replace b0 := b0.trans b1)
    | (go_at_call 18; (with_reducible refine (s_write hP4 5 sX z4_ok (by omega) (by omega) 10 z5 z4_e rfl).mono ?_); rintro e w12 ⟨rfl, hP5, b1⟩; replace b0 := b0.trans b1)
    | (go_at_call 27; (with_reducible refine (s_off hP5 true z5_f).mono ?_); rintro e w13 ⟨rfl, hP5a, b1⟩; replace b0 := b0.trans b1)
    | (go_at_call 23; (with_reducible refine (s_arm hP5a 2 z6 rfl).mono ?_); rintro e w14 ⟨rfl, hP6, b1⟩; replace b0 := b0.trans b1)
    | (go_at_call 25; (with_reducible refine (s_boot (hP6.keep0 (gb_alloc _ _ _)) _ [255, 255] z6_ok (by omega) (HM.out.below (b0.trans (gb_base (gb_alloc _ _ _) b0.size)) hpos) (two_bytes _) z7 rfl).mono ?_); rintro e w15 ⟨rfl, hP7, b1⟩; replace b0 := (b0.trans (gb_base (gb_alloc _ _ _) b0.size)).trans b1)
    | (go_at_call 21; (with_reducible refine (s_barrier hP7 z7_ok (by omega) 0 z8 z7_e rfl).mono ?_); rintro e w16 ⟨rfl, hP8, b1⟩; replace b0 := b0.trans b1)
    | (go_at_call 21; (with_reducible refine (s_barrier hP8 z8_ok (by omega) 0 z9 z8_e rfl).mono ?_); rintro e w17 ⟨rfl, hP9, b1⟩; replace b0 := b0.trans b1)
    | (go_at_call 23; (with_reducible refine (s_arm hP9 1 z10 rfl).mono ?_); rintro e w18 ⟨rfl, hP10, b1⟩; replace b0 := b0.trans b1)
    | (go_at_call 23; (with_reducible refine (s_arm hP10 (-3) z11 rfl).mono ?_); rintro e w19 ⟨rfl, hP11, b1⟩; replace b0 := b0.trans b1)
    | (go_at_call 21; (with_reducible refine (s_barrier hP11 z11_ok (by omega) 0 z12 z11_e rfl).mono ?_); rintro e w20 ⟨rfl, hP12, b1⟩; replace b0 := b0.trans b1)
    | (go_at_call 21; (with_reducible refine (s_barrier hP12 z12_ok (by omega) 0 z13 z12_e rfl).mono ?_); rintro e w21 ⟨rfl, hP13, b1⟩; replace b0 := b0.trans b1))
  try simp only [List.append]
  go_wp2_with (first
    | (go_at_call 15; (with_reducible refine (works5_any _ (HM.out.below b0 hpos)).mono ?_); rintro e w22 ⟨rfl, g22⟩; have hP13a := hP13.keep0 g22; replace b0 := b0.trans (gb_base g22 (Nat.le_trans (Nat.le_refl _) b0.size)))
    | (go_at_call 18; (with_reducible refine (nil_write _ 0 ⟨#[]⟩).mono ?_); rintro e w23 ⟨rfl, g23⟩; have hP13b := hP13a.keep0 g23; replace b0 := b0.trans (gb_base g23 (Nat.le_trans (Nat.le_refl _) b0.size)))
    | (go_at_call 21; (with_reducible refine (nil_barrier _).mono ?_); rintro e w24 ⟨rfl, g24⟩; have hP13c := hP13b.keep0 g24; replace b0 := b0.trans (gb_base g24 (Nat.le_trans (Nat.le_refl _) b0.size)))
    | (go_at_call 27; (with_reducible refine (nil_off _).mono ?_); rintro e w25 ⟨rfl, rfl⟩; skip)
    | (go_at_call 28; (with_reducible refine (nil_ops _).mono ?_); rintro e w26 ⟨rfl, rfl⟩; skip)
    | (go_at_call 29; (with_reducible refine (nil_pending _).mono ?_); rintro e w27 ⟨rfl, rfl⟩; skip)
    | (go_at_call 30; (with_reducible refine (nil_sectors _).mono ?_); rintro e w28 ⟨rfl, rfl⟩; skip)
    | (go_at_call 28; (with_reducible refine (s_ops hP13c 4 z13_o).mono ?_); rintro e w29 ⟨rfl, hP14, b1⟩; replace b0 := b0.trans b1)
    | (go_at_call 30; (with_reducible refine (s_sectors hP14 1024 z13_l).mono ?_); rintro e w30 ⟨rfl, hP15, b1⟩; replace b0 := b0.trans b1))
  go_ret
  exact ⟨rfl, gb_of_below b0⟩
end Go.Proofs.YtcoegaipojnndaaDoor

