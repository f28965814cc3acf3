/-
  All calls of a map that is none; and the closed statement's walk, over this seat's translation; condition: the table of math/bits reads as the library lays it.
-/
import Derived.Test.YtaihcbkdbdhihaaDoorMl
namespace Go.Proofs.YtaihcbkdbdhihaaDoor
open Go.RowKit

theorem left_nil (w : World) : Calls Tryd.prog 21 #[.pointer none] w fun e w' => e = .returned (.int .i64 0) ∧ w = w' := by
  go_enter Tryd.func21, Tryd.ntmps21
  go_wp2
  go_ret
  exact ⟨rfl, rfl⟩
theorem take_nil (w : World) : Calls Tryd.prog 15 #[.pointer none] w fun e w' => e = .returned (.tuple #[.int .i64 (-1), .int .i64 1]) ∧ w = w' := by
  go_enter Tryd.func15, Tryd.ntmps15
  go_wp2
  go_ret2
  exact ⟨rfl, rfl⟩
theorem use_nil (i : Int) (w : World) : Calls Tryd.prog 11 #[.pointer none, .int .i64 i] w fun e w' => e = .returned (.int .i64 1) ∧ w = w' := by
  go_enter Tryd.func11, Tryd.ntmps11
  go_wp2_with (go_at_call 28; (with_reducible refine (lacks_nil _ _).mono ?_); rintro e w' ⟨rfl, rfl⟩)
  go_ret
  exact ⟨rfl, rfl⟩
theorem give_nil (i : Int) (w : World) : Calls Tryd.prog 13 #[.pointer none, .int .i64 i] w fun e w' => e = .returned (.int .i64 1) ∧ w = w' := by
  go_enter Tryd.func13, Tryd.ntmps13
  go_wp2_with (go_at_call 28; (with_reducible refine (lacks_nil _ _).mono ?_); rintro e w' ⟨rfl, rfl⟩)
  go_ret
  exact ⟨rfl, rfl⟩
theorem has_nil (i : Int) (w : World) : Calls Tryd.prog 19 #[.pointer none, .int .i64 i] w fun e w' => e = .returned (.bool false) ∧ w = w' := by
  go_enter Tryd.func19, Tryd.ntmps19
  go_wp2_with (go_at_call 28; (with_reducible refine (lacks_nil _ _).mono ?_); rintro e w' ⟨rfl, rfl⟩)
  go_ret
  exact ⟨rfl, rfl⟩
/-- A map of 1024 things, all free; with the last one used. -/
def bigF : List Bool := List.replicate 1024 false
def bigU : List Bool := bigF.set 1023 true
def z5 : List Bool := [true, false, true]
theorem bigF_len : bigF.length = 1024 := by decide +kernel
theorem bigU_len : bigU.length = 1024 := by decide +kernel
theorem k_new (w : World) : Calls Tryd.prog 8 #[.int .i64 1024] w fun e w' => e = .returned (.pointer (some ⟨w.heap.size, 0, none⟩)) ∧ PM w' w.heap.size bigF ∧ w.grownBy w' none := new_yes 1024 w (by decide) (by decide)
theorem k_new0 (w : World) : Calls Tryd.prog 8 #[.int .i64 0] w fun e w' => e = .returned (.pointer none) ∧ w = w' := new_no 0 w (by decide) (by decide) (by decide)
theorem k_new1 (w : World) : Calls Tryd.prog 8 #[.int .i64 1025] w fun e w' => e = .returned (.pointer none) ∧ w = w' := new_no 1025 w (by decide) (by decide) (by decide)
theorem k_new2 (w : World) : Calls Tryd.prog 8 #[.int .i64 (-1)] w fun e w' => e = .returned (.pointer none) ∧ w = w' := new_no (-1) w (by decide) (by decide) (by decide)
theorem k_use {us us' : List Bool} {i z : Int} (h1 : useE us i = z) (h2 : useS us i = us') (h3 : us.length = 1024) (p : Nat) (w : World) (h : PM w p us) :
    Calls Tryd.prog 11 #[.pointer (some ⟨p, 0, none⟩), .int .i64 i] w fun e w' => e = .returned (.int .i64 z) ∧ PM w' p us' ∧ w.grownBy w' (some p) := by
  subst h1 h2; exact use_any p us i w h (by omega)
theorem k_give {us us' : List Bool} {i z : Int} (h1 : giveE us i = z) (h2 : giveS us i = us') (h3 : us.length = 1024) (p : Nat) (w : World) (h : PM w p us) :
    Calls Tryd.prog 13 #[.pointer (some ⟨p, 0, none⟩), .int .i64 i] w fun e w' => e = .returned (.int .i64 z) ∧ PM w' p us' ∧ w.grownBy w' (some p) := by
  subst h1 h2; exact give_any p us i w h (by omega)
theorem k_read0 (w : World) : Calls Tryd.prog 23 #[.int .i64 0, .string ⟨#[]⟩] w fun e w' => e = .returned (.tuple #[.pointer none, .int .i64 2]) ∧ w = w' := read_arg 0 _ w (by decide) (by decide) (by decide)
theorem k_read8 (w : World) : Calls Tryd.prog 23 #[.int .i64 3, .string ⟨#[8]⟩] w fun e w' => e = .returned (.tuple #[.pointer none, .int .i64 5]) ∧ w.grownBy w' none :=
  (read_whole 3 ⟨#[8]⟩ w (by decide) (by decide) (by decide) false (by decide)).mono fun _ _ h => ⟨h.2.1 rfl, h.2.2⟩
theorem k_read5 (w : World) : Calls Tryd.prog 23 #[.int .i64 3, .string ⟨#[5]⟩] w fun e w' => e = .returned (.tuple #[.pointer (some ⟨w.heap.size, 0, none⟩), .int .i64 0]) ∧ PM w' w.heap.size z5 ∧ w.grownBy w' none :=
  (read_whole 3 ⟨#[5]⟩ w (by decide) (by decide) (by decide) true (by decide)).mono fun _ _ h => ⟨(h.1 rfl).1, (h.1 rfl).2, h.2.2⟩
theorem k_left (p : Nat) (w : World) (h : PM w p bigU) : Calls Tryd.prog 21 #[.pointer (some ⟨p, 0, none⟩)] w fun e w' => e = .returned (.int .i64 1023) ∧ w = w' := by
  have := left_any p bigU w h (by rw [bigU_len]; decide)
  rw [show leftF bigU = 1023 from by decide +kernel] at this
  exact this
theorem k_has {i : Int} {b : Bool} (h1 : hasF z5 i = b) (p : Nat) (w : World) (h : PM w p z5) : Calls Tryd.prog 19 #[.pointer (some ⟨p, 0, none⟩), .int .i64 i] w fun e w' => e = .returned (.bool b) ∧ w = w' := by
  subst h1; exact has_any p z5 i w h (by decide)
set_option maxRecDepth 100000 in
set_option maxHeartbeats 4000000 in
theorem known_walk (w : World) (hT : Tab w) : Calls Tryd.prog 7 #[] w fun e w' => e = .returned (.bool true) ∧ w.grownBy w' none := by
  have HT := Lib.hid hT
  clear hT
  have a0 : useE bigF (-1) = 2 := by decide +kernel
  have a1 : useS bigF (-1) = bigF := by decide +kernel
  have a2 : useE bigF 1024 = 2 := by decide +kernel
  have a3 : useS bigF 1024 = bigF := by decide +kernel
  have a4 : useE bigF 1023 = 0 := by decide +kernel
  have a5 : useS bigF 1023 = bigU := by decide +kernel
  have a6 : useE bigU 1023 = 12 := by decide +kernel
  have a7 : useS bigU 1023 = bigU := by decide +kernel
  have a8 : giveE bigU 1024 = 2 := by decide +kernel
  have a9 : giveS bigU 1024 = bigU := by decide +kernel
  have HA := Lib.hid (And.intro a0 (And.intro a1 (And.intro a2 (And.intro a3 (And.intro a4 (And.intro a5 (And.intro a6 (And.intro a7 (And.intro a8 a9)))))))))
  clear a0 a1 a2 a3 a4 a5 a6 a7 a8 a9
  go_enter Tryd.func7, Tryd.ntmps7
  go_wp2_with (first
    | (go_at_call 15; (with_reducible refine (take_nil _).mono ?_); rintro e w' ⟨rfl, rfl⟩)
    | (go_at_call 8; first
      | ((with_reducible refine (k_new _).mono ?_); rintro e w1 ⟨rfl, P1, g1⟩)
      | ((with_reducible refine (k_new0 _).mono ?_); rintro e w' ⟨rfl, rfl⟩)
      | ((with_reducible refine (k_new1 _).mono ?_); rintro e w' ⟨rfl, rfl⟩)
      | ((with_reducible refine (k_new2 _).mono ?_); rintro e w' ⟨rfl, rfl⟩))
    | (go_at_call 10; (with_reducible refine (works_any _ (HT.out.keep0 g1)).mono ?_); rintro e w2 ⟨rfl, g2⟩; replace P1 := P1.keep0 g2; replace g1 := gb_trans g1 g2; clear g2; have H1 := Lib.hid (And.intro P1 g1); clear P1 g1)
    | fail)
  go_at_call 11
  (with_reducible refine (k_use (us' := bigF) (z := 2) HA.out.1 HA.out.2.1 bigF_len _ _ H1.out.1).mono ?_)
  rintro e w2 ⟨rfl, P, g⟩
  have H2 := Lib.hid (And.intro P (gb_step H1.out.2 g (Nat.le_refl _)))
  clear P g
  go_wp2_with fail
  go_at_call 11
  (with_reducible refine (k_use (us' := bigF) (z := 2) HA.out.2.2.1 HA.out.2.2.2.1 bigF_len _ _ H2.out.1).mono ?_)
  rintro e w3 ⟨rfl, P, g⟩
  have H3 := Lib.hid (And.intro P (gb_step H2.out.2 g (Nat.le_refl _)))
  clear P g
  go_wp2_with fail
  go_at_call 11
  (with_reducible refine (k_use (us' := bigU) (z := 0) HA.out.2.2.2.2.1 HA.out.2.2.2.2.2.1 bigF_len _ _ H3.out.1).mono ?_)
  rintro e w4 ⟨rfl, P, g⟩
  have H4 := Lib.hid (And.intro P (gb_step H3.out.2 g (Nat.le_refl _)))
  clear P g
  go_wp2_with fail
  go_at_call 11
  (with_reducible refine (k_use (us' := bigU) (z := 12) HA.out.2.2.2.2.2.2.1 HA.out.2.2.2.2.2.2.2.1 bigU_len _ _ H4.out.1).mono ?_)
  rintro e w5 ⟨rfl, P, g⟩
  have H5 := Lib.hid (And.intro P (gb_step H4.out.2 g (Nat.le_refl _)))
  clear P g
  go_wp2_with fail
  go_at_call 13
  (with_reducible refine (k_give (us' := bigU) (z := 2) HA.out.2.2.2.2.2.2.2.2.1 HA.out.2.2.2.2.2.2.2.2.2 bigU_len _ _ H5.out.1).mono ?_)
  rintro e w6 ⟨rfl, P, g⟩
  have H6 := Lib.hid (And.intro P (gb_step H5.out.2 g (Nat.le_refl _)))
  clear P g
  go_wp2_with (first
    | (go_at_call 23; first
      | ((with_reducible refine (k_read0 _).mono ?_); rintro e w' ⟨rfl, rfl⟩)
      | ((with_reducible refine (k_read8 _).mono ?_); rintro e w7 ⟨rfl, g7⟩; have H7 := Lib.hid (And.intro (H6.out.1.keep0 g7) (gb_trans H6.out.2 g7)); clear g7)
      | ((with_reducible refine (k_read5 _).mono ?_); rintro e w8 ⟨rfl, P8, g8⟩; have H8 := Lib.hid (And.intro P8 (And.intro (H7.out.1.keep0 g8) (gb_trans H7.out.2 g8))); clear P8 g8)))
  go_wp2_with (first
    | (go_at_call 11; (with_reducible refine (use_nil _ _).mono ?_); rintro e w' ⟨rfl, rfl⟩)
    | (go_at_call 13; (with_reducible refine (give_nil _ _).mono ?_); rintro e w' ⟨rfl, rfl⟩)
    | (go_at_call 27; (with_reducible refine (len_nil _).mono ?_); rintro e w' ⟨rfl, rfl⟩)
    | (go_at_call 21; first
      | ((with_reducible refine (left_nil _).mono ?_); rintro e w' ⟨rfl, rfl⟩)
      | ((with_reducible refine (k_left _ _ H8.out.2.1).mono ?_); rintro e w' ⟨rfl, rfl⟩))
    | (go_at_call 26; (with_reducible refine (put_nil _).mono ?_); rintro e w' ⟨rfl, rfl⟩)
    | (go_at_call 17; (with_reducible refine (copy_nil _).mono ?_); rintro e w' ⟨rfl, rfl⟩)
    | (go_at_call 25; (with_reducible refine (runs_nil _).mono ?_); rintro e w' ⟨rfl, rfl⟩)
    | (go_at_call 19; first
      | ((with_reducible refine (has_nil _ _).mono ?_); rintro e w' ⟨rfl, rfl⟩)
      | ((with_reducible refine (k_has (i := 0) (b := true) (by decide) _ _ H8.out.1).mono ?_); rintro e w' ⟨rfl, rfl⟩)
      | ((with_reducible refine (k_has (i := 1) (b := false) (by decide) _ _ H8.out.1).mono ?_); rintro e w' ⟨rfl, rfl⟩)
      | ((with_reducible refine (k_has (i := 2) (b := true) (by decide) _ _ H8.out.1).mono ?_); rintro e w' ⟨rfl, rfl⟩)
      | ((with_reducible refine (k_has (i := 3) (b := false) (by decide) _ _ H8.out.1).mono ?_); rintro e w' ⟨rfl, rfl⟩)))
  go_ret
  exact ⟨rfl, H8.out.2.2⟩
end Go.Proofs.YtaihcbkdbdhihaaDoor
