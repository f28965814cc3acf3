/-
  What the statements' own 'works' answers, over this seat's translation: true; condition: the variable errors.errorType holds its type's handle.
-/
import Derived.Test.YtledflcedibfeaaDoorPut
namespace Go.Proofs.YtledflcedibfeaaDoor
open Go.RowKit

theorem laid_as {w : World} {l r : List UInt8} {e : Ending} {w' : World} (h : Laid w l e w') (hr : l = r) : Laid w r e w' := hr ▸ h
theorem wk_p8 (w : World) : Calls Tryd.prog 25 #[.slice none 0 0, .int .u8 7] w (Laid w [7]) :=
  (p8_any (.slice none 0 0) [] 7 w (Bs.nil w) (by decide) (by decide)).mono fun _ _ h => laid_as h (by decide)
theorem wk_p16 (w : World) : Calls Tryd.prog 34 #[.slice none 0 0, .int .u16 7] w (Laid w [0, 7]) :=
  (p16_any (.slice none 0 0) [] 7 w (Bs.nil w) (by decide) (by decide)).mono fun _ _ h => laid_as h (by decide)
theorem wk_p32 (w : World) : Calls Tryd.prog 35 #[.slice none 0 0, .int .u32 7] w (Laid w [0, 0, 0, 7]) :=
  (p32_any (.slice none 0 0) [] 7 w (Bs.nil w) (by decide) (by decide)).mono fun _ _ h => laid_as h (by decide)
theorem wk_p64 (w : World) : Calls Tryd.prog 26 #[.slice none 0 0, .int .u64 1099511627776] w (Laid w [0, 0, 1, 0, 0, 0, 0, 0]) :=
  (p64_any (.slice none 0 0) [] 1099511627776 w (Bs.nil w) (by decide) (by decide)).mono fun _ _ h => laid_as h (by decide)
theorem wk_pt (w : World) : Calls Tryd.prog 21 #[.slice none 0 0, .string ⟨#[97, 98]⟩] w (Laid w [2, 97, 98]) :=
  (ptext_ok (.slice none 0 0) [] ⟨#[97, 98]⟩ w (Bs.nil w) (by decide) (by decide)).mono fun _ _ h => laid_as h (by decide)
theorem wk_pt0 (w : World) : Calls Tryd.prog 21 #[.slice none 0 0, .string ⟨#[]⟩] w (Laid w [0]) :=
  (ptext_ok (.slice none 0 0) [] ⟨#[]⟩ w (Bs.nil w) (by decide) (by decide)).mono fun _ _ h => laid_as h (by decide)
theorem wk_u8 (b : Nat) (w : World) (h : Rd w b ⟨#[1, 2, 97]⟩ 0) :
    Calls Tryd.prog 23 #[.pointer (some ⟨b, 0, none⟩)] w fun e w' => e = .returned (.tuple #[.int .u8 1, .nilIface]) ∧ Rd w' b ⟨#[1, 2, 97]⟩ 1 ∧ w.grownBy w' (some b) :=
  u8_ok b ⟨#[1, 2, 97]⟩ 0 w h (by decide) (by decide)
theorem wk_t5 (b : Nat) (w : World) (h : Rd w b ⟨#[1, 2, 97]⟩ 1) :
    Calls Tryd.prog 12 #[.pointer (some ⟨b, 0, none⟩), .int .i64 5] w (Faulted w (.string ⟨#[]⟩) 3 1) :=
  text_short b ⟨#[1, 2, 97]⟩ 1 5 w h (by decide) (by decide) (by decide) (by decide) (by decide)
theorem wk_t2 (b : Nat) (w : World) (h : Rd w b ⟨#[3, 97, 98, 99]⟩ 0) :
    Calls Tryd.prog 12 #[.pointer (some ⟨b, 0, none⟩), .int .i64 2] w (Faulted w (.string ⟨#[]⟩) 4 0) :=
  text_long b ⟨#[3, 97, 98, 99]⟩ 0 2 w h (by decide) (by decide) (by decide) (by decide)
theorem wk_u16 (b : Nat) (w : World) (h : Rd w b ⟨#[3, 97, 98, 99]⟩ 0) :
    Calls Tryd.prog 27 #[.pointer (some ⟨b, 0, none⟩)] w fun e w' => e = .returned (.tuple #[.int .u16 865, .nilIface]) ∧ Rd w' b ⟨#[3, 97, 98, 99]⟩ 2 ∧ w.grownBy w' (some b) :=
  u16_ok b ⟨#[3, 97, 98, 99]⟩ 0 w h (by decide) (by decide)
theorem wk_left (b : Nat) (w : World) (h : Rd w b ⟨#[3, 97, 98, 99]⟩ 2) :
    Calls Tryd.prog 15 #[.pointer (some ⟨b, 0, none⟩)] w fun e w' => e = .returned (.int .i64 2) ∧ w.grownBy w' none :=
  (left_any b ⟨#[3, 97, 98, 99]⟩ 2 w h (by decide) (by decide)).mono fun _ _ h => ⟨h.1, h.2.1⟩

set_option maxRecDepth 100000 in
set_option maxHeartbeats 2000000 in
theorem works_any (w : World) (hd : Hd w) : Calls Tryd.prog 18 #[] w fun e w' => e = .returned (.bool true) ∧ w.grownBy w' none := by
  have h0 := hd.lt
  go_enter Tryd.func18, Tryd.ntmps18
  go_wp2_with fail
  ((with_reducible refine (new_any _ _).mono ?_); rintro e w1 ⟨rfl, hw1⟩)
  have r1 : Rd w1 w.heap.size ⟨#[1, 2, 97]⟩ 0 := by rw [hw1]; exact Blk.mk _ _ _
  have g1 : w.grownBy w1 none := by rw [hw1]; exact gb_alloc _ _ _
  have z1 : w1.heap.size = w.heap.size + 1 := by rw [hw1]; simp
  have Z1 := Lib.hid z1
  clear hw1 z1
  go_wp2_with fail
  ((with_reducible refine (new_any _ _).mono ?_); rintro e w2 ⟨rfl, hw2⟩)
  have q2 : Rd w2 w1.heap.size ⟨#[3, 97, 98, 99]⟩ 0 := by rw [hw2]; exact Blk.mk _ _ _
  have a2 : w1.grownBy w2 none := by rw [hw2]; exact gb_alloc _ _ _
  clear hw2
  have g2 := gb_trans g1 a2
  have r2 := r1.keep0 a2
  clear a2 g1 r1
  go_wp2_with fail
  ((with_reducible refine (wk_u8 _ _ r2).mono ?_); rintro e w3 ⟨rfl, r3, a3⟩)
  have q3 := q2.keep a3 (ne_some (by have := Z1.out; omega))
  have g3 := gb_step g2 a3 (Nat.le_refl _)
  clear a3 g2 r2 q2
  have q3l := q3.lt
  go_wp2_with fail
  ((with_reducible refine (wk_t5 _ _ r3).mono ?_); rintro e w4 ⟨b4, rfl, l4, f4, a4⟩)
  have q4 := q3.keep0 a4
  have g4 := gb_trans g3 a4
  have q4l := q4.lt
  clear a4 g3 q3 r3
  go_wp2_with fail
  ((with_reducible refine (wk_t2 _ _ q4).mono ?_); rintro e w5 ⟨b5, rfl, l5, f5, a5⟩)
  have q5 := q4.keep0 a5
  replace f4 := f4.keep0 a5
  have g5 := gb_trans g4 a5
  clear a5 g4 q4
  go_wp2_with fail
  ((with_reducible refine (wk_u16 _ _ q5).mono ?_); rintro e w6 ⟨rfl, q6, a6⟩)
  replace f4 := f4.keep a6 (ne_some (by omega))
  replace f5 := f5.keep a6 (ne_some (by omega))
  have g6 := gb_step g5 a6 (by have := Z1.out; omega)
  clear a6 g5 q5 Z1 l4 l5 q3l q4l
  go_wp2_with fail
  ((with_reducible refine (wk_p8 _).mono ?_); rintro e w7 ⟨v7, rfl, o7, a7⟩)
  replace f4 := f4.keep0 a7
  replace f5 := f5.keep0 a7
  have q7 := q6.keep0 a7
  have g7 := gb_trans g6 a7
  have c7 := conv_bs _ _ _ (Bs.of_owns o7)
  clear a7 g6 q6 o7
  go_wp2_with fail
  ((with_reducible refine (wk_p16 _).mono ?_); rintro e w8 ⟨v8, rfl, o8, a8⟩)
  replace f4 := f4.keep0 a8
  replace f5 := f5.keep0 a8
  have q8 := q7.keep0 a8
  have g8 := gb_trans g7 a8
  have c8 := conv_bs _ _ _ (Bs.of_owns o8)
  clear a8 g7 q7 o8
  go_wp2_with fail
  ((with_reducible refine (wk_p32 _).mono ?_); rintro e w9 ⟨v9, rfl, o9, a9⟩)
  replace f4 := f4.keep0 a9
  replace f5 := f5.keep0 a9
  have q9 := q8.keep0 a9
  have g9 := gb_trans g8 a9
  have c9 := conv_bs _ _ _ (Bs.of_owns o9)
  clear a9 g8 q8 o9
  go_wp2_with fail
  ((with_reducible refine (wk_p64 _).mono ?_); rintro e w10 ⟨v10, rfl, o10, a10⟩)
  replace f4 := f4.keep0 a10
  replace f5 := f5.keep0 a10
  have q10 := q9.keep0 a10
  have g10 := gb_trans g9 a10
  have c10 := conv_bs _ _ _ (Bs.of_owns o10)
  clear a10 g9 q9 o10
  go_wp2_with fail
  ((with_reducible refine (wk_pt _).mono ?_); rintro e w11 ⟨v11, rfl, o11, a11⟩)
  replace f4 := f4.keep0 a11
  replace f5 := f5.keep0 a11
  have q11 := q10.keep0 a11
  have g11 := gb_trans g10 a11
  have c11 := conv_bs _ _ _ (Bs.of_owns o11)
  clear a11 g10 q10 o11
  go_wp2_with fail
  ((with_reducible refine (wk_pt0 _).mono ?_); rintro e w12 ⟨v12, rfl, o12, a12⟩)
  replace f4 := f4.keep0 a12
  replace f5 := f5.keep0 a12
  have q12 := q11.keep0 a12
  have g12 := gb_trans g11 a12
  have c12 := conv_bs _ _ _ (Bs.of_owns o12)
  clear a12 g11 q11 o12
  have d12 := hd.keep0 g12
  go_wp2_with fail
  ((with_reducible refine (law_is_fault _ _ _ _ d12 f4 rfl).mono ?_); rintro e w13 ⟨rfl, a13⟩)
  replace f5 := f5.keep0 a13
  have q13 := q12.keep0 a13
  have g13 := gb_trans g12 a13
  have d13 := hd.keep0 g13
  clear d12 f4 a13 g12 q12
  go_wp2_with fail
  ((with_reducible refine (law_is_fault _ _ _ _ d13 f5 rfl).mono ?_); rintro e w14 ⟨rfl, a14⟩)
  have q14 := q13.keep0 a14
  have g14 := gb_trans g13 a14
  clear d13 f5 a14 g13 q13
  go_wp2_with fail
  ((with_reducible refine (wk_left _ _ q14).mono ?_); rintro e w15 ⟨rfl, a15⟩)
  have g15 := gb_trans g14 a15
  go_wp2
  go_ret
  exact ⟨rfl, g15⟩
end Go.Proofs.YtledflcedibfeaaDoor
