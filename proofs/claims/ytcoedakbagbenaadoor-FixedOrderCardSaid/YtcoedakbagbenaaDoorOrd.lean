/-
  FixedOrder's walk, over this seat's translation: whatever two numbers of 64 bits: it returns true, and nothing that was there has turned; condition: the variable errors.errorType holds its type's handle.
-/
import Derived.Test.YtcoedakbagbenaaDoorWorks
import Derived.Test.YtcoedakbagbenaaDoorDig
namespace Go.Proofs.YtcoedakbagbenaaDoor
open Go.RowKit

theorem shlr1 (a : Nat) : IntKind.u64.wrap ((a : Int) * 72057594037927936) / 72057594037927936 = ((a % 256 : Nat) : Int) := by
  simp only [IntKind.wrap, IntKind.bits, IntKind.signed]; simp; omega
theorem shlr2 (a : Nat) : IntKind.u64.wrap ((a : Int) * 281474976710656) / 281474976710656 = ((a % 65536 : Nat) : Int) := by
  simp only [IntKind.wrap, IntKind.bits, IntKind.signed]; simp; omega
theorem shlr4 (a : Nat) : IntKind.u64.wrap ((a : Int) * 4294967296) / 4294967296 = ((a % 4294967296 : Nat) : Int) := by
  simp only [IntKind.wrap, IntKind.bits, IntKind.signed]; simp; omega
theorem put_nil1 (n : Nat) (w : World) (hn : n < 18446744073709551616) : Calls Tryd.prog 19 #[.slice none 0 0, .int .u64 n, .int .i64 1] w (Laid w (digits n 1)) :=
  (put1 (.slice none 0 0) [] n w (Bs.nil w) hn (by decide)).mono fun _ _ h => laid_as h (by simp)
theorem put_nil2 (n : Nat) (w : World) (hn : n < 18446744073709551616) : Calls Tryd.prog 19 #[.slice none 0 0, .int .u64 n, .int .i64 2] w (Laid w (digits n 2)) :=
  (put2 (.slice none 0 0) [] n w (Bs.nil w) hn (by decide)).mono fun _ _ h => laid_as h (by simp)
theorem put_nil4 (n : Nat) (w : World) (hn : n < 18446744073709551616) : Calls Tryd.prog 19 #[.slice none 0 0, .int .u64 n, .int .i64 4] w (Laid w (digits n 4)) :=
  (put4 (.slice none 0 0) [] n w (Bs.nil w) hn (by decide)).mono fun _ _ h => laid_as h (by simp)
theorem put_nil8 (n : Nat) (w : World) (hn : n < 18446744073709551616) : Calls Tryd.prog 19 #[.slice none 0 0, .int .u64 n, .int .i64 8] w (Laid w (digits n 8)) :=
  (put8 (.slice none 0 0) [] n w (Bs.nil w) hn (by decide)).mono fun _ _ h => laid_as h (by simp)

set_option maxRecDepth 100000 in
set_option maxHeartbeats 4000000 in
theorem order_walk (a b : Nat) (w : World) (hd : Hd w) (ha : a < 18446744073709551616) (hb : b < 18446744073709551616) : Calls Tryd.prog 6 #[.int .u64 a, .int .u64 b] w fun e w' => e = .returned (.bool true) ∧ w.grownBy w' none := by
  go_enter Tryd.func6, Tryd.ntmps6
  go_wp2_with fail
  go_loopw [5] (fun i wr => ∃ k : Nat, k ≤ 4 ∧ i = .int .i64 k ∧ w.grownBy wr none) (fun i _ => 4 - (intOf i).toNat)
  case atStart => exact ⟨0, by omega, rfl, gb_refl _ _⟩
  case round =>
    obtain ⟨k, hk, rfl, hg⟩ := hrel
    by_cases h4 : k = 4
    · subst h4
      have hd1 := hd.keep0 hg
      go_wp2_with (go_at_call 18; refine (works_any _ hd1).mono ?_; rintro e w1 ⟨rfl, g1⟩)
      go_ret
      exact ⟨rfl, gb_trans hg g1⟩
    by_cases h0 : k = 0
    · subst h0
      go_wp2_with fail
      go_quiet (fail)
      go_wp2_with fail
      rw [shlr1 a, shlr1 b]
      obtain ⟨x, hx⟩ : ∃ x, x = a % 256 := ⟨_, rfl⟩
      obtain ⟨y, hy⟩ : ∃ y, y = b % 256 := ⟨_, rfl⟩
      rw [← hx, ← hy]
      have hx1 : x < 256 := by omega
      have hy1 : y < 256 := by omega
      clear hx hy
      have tok1 : True := trivial
      go_region_with (first | (go_at_call 19; have _t := tok1; refine (put_nil1 x _ (by omega)).mono ?_; rintro e w1 ⟨v1, rfl, o1, g1⟩; clear tok1 _t; have b1 := Bs.of_owns o1; have c1 := conv_bs _ _ _ b1) | (go_at_call 19; refine (put_nil1 y _ (by omega)).mono ?_; rintro e w2 ⟨v2, rfl, o2, g2⟩; have c1' := conv_bs _ _ _ (b1.keep0 g2); have c2 := conv_bs _ _ _ (Bs.of_owns o2)))
      all_goals
        have F1 := (digits_less 1 x y hx1 hy1).1
        have F2 := digits_eqInt 1 x y hx1 hy1
        have F3 := digits_length 1 x
        go_wp2
        go_roundw
        case rel => exact ⟨0 + 1, by omega, rfl, gb_trans hg (gb_trans (gb_trans (gb_trans (gb_drewN _ _ _) (gb_drew _ _)) g1) g2)⟩
        case measure => simp [intOf]
    by_cases h1 : k = 1
    · subst h1
      go_wp2_with fail
      go_quiet (fail)
      go_wp2_with fail
      rw [shlr2 a, shlr2 b]
      obtain ⟨x, hx⟩ : ∃ x, x = a % 65536 := ⟨_, rfl⟩
      obtain ⟨y, hy⟩ : ∃ y, y = b % 65536 := ⟨_, rfl⟩
      rw [← hx, ← hy]
      have hx1 : x < 65536 := by omega
      have hy1 : y < 65536 := by omega
      clear hx hy
      have tok1 : True := trivial
      go_region_with (first | (go_at_call 19; have _t := tok1; refine (put_nil2 x _ (by omega)).mono ?_; rintro e w1 ⟨v1, rfl, o1, g1⟩; clear tok1 _t; have b1 := Bs.of_owns o1; have c1 := conv_bs _ _ _ b1) | (go_at_call 19; refine (put_nil2 y _ (by omega)).mono ?_; rintro e w2 ⟨v2, rfl, o2, g2⟩; have c1' := conv_bs _ _ _ (b1.keep0 g2); have c2 := conv_bs _ _ _ (Bs.of_owns o2)))
      all_goals
        have F1 := (digits_less 2 x y hx1 hy1).1
        have F2 := digits_eqInt 2 x y hx1 hy1
        have F3 := digits_length 2 x
        go_wp2
        go_roundw
        case rel => exact ⟨1 + 1, by omega, rfl, gb_trans hg (gb_trans (gb_trans (gb_trans (gb_drewN _ _ _) (gb_drew _ _)) g1) g2)⟩
        case measure => simp [intOf]
    by_cases h2 : k = 2
    · subst h2
      go_wp2_with fail
      go_quiet (fail)
      go_wp2_with fail
      rw [shlr4 a, shlr4 b]
      obtain ⟨x, hx⟩ : ∃ x, x = a % 4294967296 := ⟨_, rfl⟩
      obtain ⟨y, hy⟩ : ∃ y, y = b % 4294967296 := ⟨_, rfl⟩
      rw [← hx, ← hy]
      have hx1 : x < 4294967296 := by omega
      have hy1 : y < 4294967296 := by omega
      clear hx hy
      have tok1 : True := trivial
      go_region_with (first | (go_at_call 19; have _t := tok1; refine (put_nil4 x _ (by omega)).mono ?_; rintro e w1 ⟨v1, rfl, o1, g1⟩; clear tok1 _t; have b1 := Bs.of_owns o1; have c1 := conv_bs _ _ _ b1) | (go_at_call 19; refine (put_nil4 y _ (by omega)).mono ?_; rintro e w2 ⟨v2, rfl, o2, g2⟩; have c1' := conv_bs _ _ _ (b1.keep0 g2); have c2 := conv_bs _ _ _ (Bs.of_owns o2)))
      all_goals
        have F1 := (digits_less 4 x y hx1 hy1).1
        have F2 := digits_eqInt 4 x y hx1 hy1
        have F3 := digits_length 4 x
        go_wp2
        go_roundw
        case rel => exact ⟨2 + 1, by omega, rfl, gb_trans hg (gb_trans (gb_trans (gb_trans (gb_drewN _ _ _) (gb_drew _ _)) g1) g2)⟩
        case measure => simp [intOf]
    have h3 : k = 3 := by omega
    subst h3
    go_wp2_with fail
    go_quiet (fail)
    go_wp2_with fail
    have tok1 : True := trivial
    go_region_with (first | (go_at_call 19; have _t := tok1; refine (put_nil8 a _ (by omega)).mono ?_; rintro e w1 ⟨v1, rfl, o1, g1⟩; clear tok1 _t; have b1 := Bs.of_owns o1; have c1 := conv_bs _ _ _ b1) | (go_at_call 19; refine (put_nil8 b _ (by omega)).mono ?_; rintro e w2 ⟨v2, rfl, o2, g2⟩; have c1' := conv_bs _ _ _ (b1.keep0 g2); have c2 := conv_bs _ _ _ (Bs.of_owns o2)))
    all_goals
      have F1 := (digits_less 8 a b ha hb).1
      have F2 := digits_eqInt 8 a b ha hb
      have F3 := digits_length 8 a
      go_wp2
      go_roundw
      case rel => exact ⟨3 + 1, by omega, rfl, gb_trans hg (gb_trans (gb_trans (gb_trans (gb_drewN _ _ _) (gb_drew _ _)) g1) g2)⟩
      case measure => simp [intOf]
end Go.Proofs.YtcoedakbagbenaaDoor
