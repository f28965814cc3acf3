/-
  The law's helpers: the chapter's examples all hold (works), and a text that is doubled so often (long), over this seat's translation; conditions: none beside the reach.
-/
import Derived.Test.YtiaaohhhdfmehaaSw
import Derived.Test.YtiaaohhhdfmehaaSj
namespace Go.Proofs.Ytiaaohhhdfmehaa
open Go.RowKit

theorem of_lit (s : ByteArray) (v : Int) (hs : s.size ≤ 140737488351232) (hv : ((moreN 1 s.data.toList : Nat) : Int) = v) (w : World) :
    Calls Try.prog 8 #[.string s] w fun e w' => e = .returned (.int .u32 v) ∧ Below w.heap.size w w' := by
  subst hv; exact of_any s w hs
theorem more_lit (n : Nat) (s : ByteArray) (z v : Int) (hz : z = (n : Int)) (hn : n < 4294967296) (hs : s.size ≤ 140737488351232) (hv : ((moreN n s.data.toList : Nat) : Int) = v) (w : World) :
    Calls Try.prog 10 #[.int .u32 z, .string s] w fun e w' => e = .returned (.int .u32 v) ∧ Below w.heap.size w w' := by
  subst hz hv; exact more_any n s w hn hs
theorem joined_lit (a b : Nat) (x y n v : Int) (hx : x = (a : Int)) (hy : y = (b : Int)) (ha : a < 4294967296) (hb : b < 4294967296) (h1 : -9223372036854775808 ≤ n) (h2 : n ≤ 9223372036854775807) (hv : ((joinN a b n.toNat : Nat) : Int) = v) (w : World) :
    Calls Try.prog 13 #[.int .u32 x, .int .u32 y, .int .i64 n] w fun e w' => e = .returned (.int .u32 v) ∧ w = w' := by
  subst hx hy hv; exact joined_any a b n w ha hb h1 h2
theorem bchain {w a b : World} (h : Below w.heap.size w a) (k : Below a.heap.size a b) : Below w.heap.size w b := h.trans (k.mono h.size)
theorem lit_nil : ((moreN 1 (⟨#[]⟩ : ByteArray).data.toList : Nat) : Int) = 1 := by decide
theorem lit_a : ((moreN 1 (⟨#[97]⟩ : ByteArray).data.toList : Nat) : Int) = 6422626 := by decide
theorem lit_abc : ((moreN 1 (⟨#[97, 98, 99]⟩ : ByteArray).data.toList : Nat) : Int) = 38600999 := by decide
theorem lit_wiki : ((moreN 1 (⟨#[87, 105, 107, 105, 112, 101, 100, 105, 97]⟩ : ByteArray).data.toList : Nat) : Int) = 300286872 := by decide
theorem lit_ab : ((moreN 1 (⟨#[97, 98]⟩ : ByteArray).data.toList : Nat) : Int) = 19267780 := by decide
theorem lit_c : ((moreN 1 (⟨#[99]⟩ : ByteArray).data.toList : Nat) : Int) = 6553700 := by decide
theorem lit_more : ((moreN 19267780 (⟨#[99]⟩ : ByteArray).data.toList : Nat) : Int) = 38600999 := by decide
theorem lit_join : ((joinN 19267780 6553700 (1 : Int).toNat : Nat) : Int) = 38600999 := by decide

set_option maxHeartbeats 1000000 in
theorem works_any (w : World) : Calls Try.prog 12 #[] w fun e w' => e = .returned (.bool true) ∧ Below w.heap.size w w' := by
  have k0 := fun w => of_lit ⟨#[]⟩ 1 (by decide) lit_nil w
  have k1 := fun w => of_lit ⟨#[97]⟩ 6422626 (by decide) lit_a w
  have k2 := fun w => of_lit ⟨#[97, 98, 99]⟩ 38600999 (by decide) lit_abc w
  have k3 := fun w => of_lit ⟨#[87, 105, 107, 105, 112, 101, 100, 105, 97]⟩ 300286872 (by decide) lit_wiki w
  have k4 := fun w => of_lit ⟨#[97, 98]⟩ 19267780 (by decide) lit_ab w
  have k5 := fun w => of_lit ⟨#[99]⟩ 6553700 (by decide) lit_c w
  have k6 := fun w => more_lit 19267780 ⟨#[99]⟩ 19267780 38600999 rfl (by decide) (by decide) lit_more w
  have k7 := fun w => joined_lit 19267780 6553700 19267780 6553700 1 38600999 rfl rfl (by decide) (by decide) (by decide) (by decide) lit_join w
  have H := Lib.hid (And.intro k0 (And.intro k1 (And.intro k2 (And.intro k3 (And.intro k4 (And.intro k5 (And.intro k6 k7)))))))
  clear k0 k1 k2 k3 k4 k5 k6 k7
  go_enter Try.func12, Try.ntmps12
  go_wp2_with (first
    | (go_at_call 8; first
      | ((with_reducible refine (H.out.1 _).mono ?_); rintro e w1 ⟨rfl, hb1⟩)
      | ((with_reducible refine (H.out.2.1 _).mono ?_); rintro e w1 ⟨rfl, hb1⟩)
      | ((with_reducible refine (H.out.2.2.1 _).mono ?_); rintro e w1 ⟨rfl, hb1⟩)
      | ((with_reducible refine (H.out.2.2.2.1 _).mono ?_); rintro e w1 ⟨rfl, hb1⟩)
      | ((with_reducible refine (H.out.2.2.2.2.1 _).mono ?_); rintro e w1 ⟨rfl, hb1⟩)
      | ((with_reducible refine (H.out.2.2.2.2.2.1 _).mono ?_); rintro e w1 ⟨rfl, hb1⟩))
    | (go_at_call 10; (with_reducible refine (H.out.2.2.2.2.2.2.1 _).mono ?_); rintro e w1 ⟨rfl, hb1⟩)
    | (go_at_call 13; (with_reducible refine (H.out.2.2.2.2.2.2.2 _).mono ?_); rintro e w1 ⟨rfl, rfl⟩))
  go_ret
  exact ⟨rfl, by repeat (first | exact Below.refl _ _ | refine bchain ?_ (by assumption))⟩

def SomeText (w : World) (e : Ending) (w' : World) : Prop := ∃ t : ByteArray, e = .returned (.string t) ∧ t.size ≤ 32000 ∧ w = w'
def LongAt (k : Nat) (v : Value) : Prop := ∃ t : ByteArray, v = .string t ∧ t.size ≤ 4000 * 2 ^ k
set_option maxHeartbeats 1000000 in
theorem long_any (s : ByteArray) (d : Int) (w : World) (hs : s.size ≤ 9223372036854775807) (h0 : 0 ≤ d) (h1 : d ≤ 255) :
    Calls Try.prog 7 #[.string s, .int .u8 d] w (SomeText w) := by
  go_enter Try.func7, Try.ntmps7
  by_cases hle : s.size ≤ 4000
  all_goals
    go_wp2
    go_loop [0, 5] (fun v i => ∃ k : Nat, k ≤ 3 ∧ i = .int .i64 k ∧ LongAt k v) (fun _ i => 4 - (intOf i).toNat)
    case atStart => exact ⟨0, by omega, rfl, _, rfl, by simp; omega⟩
    case round =>
      obtain ⟨k, hk, rfl, t, rfl, ht⟩ := hrel
      have ht2 : t.size ≤ 32000 := by
        have : 2 ^ k ≤ 2 ^ 3 := Nat.pow_le_pow_right (by omega) hk
        have := Nat.mul_le_mul_left 4000 this
        omega
      have ht3 := Lib.hid ht
      clear ht
      by_cases hlt : (k : Int) < d % 4
      · go_wp2
        go_round
        case rel => exact ⟨k + 1, by omega, by go_num, _, rfl, by rw [Nat.pow_succ]; have := ht3.out; simp; omega⟩
        case measure => simp [intOf]; omega
      · go_wp2
        go_ret
        exact ⟨t, rfl, ht2, rfl⟩
end Go.Proofs.Ytiaaohhhdfmehaa
