/-
  The map's next thing, Take, Copy, New, over this seat's translation; condition: the table of math/bits reads as the library lays it.
-/
import Derived.Test.YtaihcbkdbdhihaaDoorMx
namespace Go.Proofs.YtaihcbkdbdhihaaDoor
open Go.RowKit

set_option maxHeartbeats 1000000 in
theorem next_yes (p : Nat) (us : List Bool) (a : Nat) (w : World) (h : PM w p us) (hT : Tab w) (ha : a ≤ us.length) (hn : us.length ≤ 1024) :
    Calls Tryd.prog 32 #[.pointer (some ⟨p, 0, none⟩), .int .i64 (a : Nat), .bool true] w fun e w' => e = .returned (.int .i64 (nextF us a true : Nat)) ∧ w = w' := by
  have hc := h.things
  have HP := Lib.hid h
  have HT := Lib.hid hT
  clear h hT
  go_enter Tryd.func32, Tryd.ntmps32
  go_wp2
  go_loop [1, 7, 8] (fun v _ _ => ∃ k : Nat, a ≤ k ∧ k ≤ 1088 ∧ v = .int .i64 k ∧ Hid (∀ i, a ≤ i → i < k → us.getD i false = !true)) (fun v _ _ => 2000 - (intOf v).toNat)
  case atStart => exact ⟨a, Nat.le_refl _, by omega, rfl, Lib.hid (fun i h1 h2 => by omega)⟩
  case round =>
    obtain ⟨k, hk1, hk2, rfl, hno⟩ := hrel
    by_cases hlt : k < us.length
    · have hcell := HP.out.word (k / 64) (by omega)
      have hr := restF_lt (natOf us) k true
      obtain ⟨x, hx⟩ : ∃ x, restF (natOf us) k true = x := ⟨_, rfl⟩
      have hv : ((wd (natOf us) (k / 64) : Nat) : Int) / 2 ^ (k % 64) = (x : Int) := by rw [int_div_pow, ← hx]; rfl
      rw [hx] at hr
      by_cases h0 : x = 0
      · subst h0
        have HS := Lib.hid (next_on us k true hx)
        clear hx
        have hm : k % 64 < 64 := Nat.mod_lt _ (by decide)
        go_wp2
        go_round
        case rel => exact ⟨k + (64 - k % 64), by omega, by omega, by go_num, Lib.hid (fun i h1 h2 => by
          rcases Nat.lt_or_ge i k with h3 | h3
          · exact hno.out i h1 h3
          · exact HS.out i h3 h2)⟩
        case measure => simp [intOf]; omega
      · have hf := next_found us a k true hk1 hlt hno.out (by rw [hx]; exact h0)
        rw [hx] at hf
        have HF := Lib.hid hf
        have hcz := hf.2
        have HR := Lib.hid hr
        have HZ := Lib.hid h0
        have hz : ((x : Int) != 0) = true := by simp; omega
        have hz2 : ((x : Int) == 0) = false := by simp; omega
        clear hx hf hr h0
        go_wp2_with (go_at_call 41; (with_reducible refine (tz_any x _ HR.out HZ.out HT.out).mono ?_); rintro e w' ⟨rfl, rfl⟩)
        go_ret
        exact ⟨ret_int (by have := HF.out.1; omega), rfl⟩
    · have HN := Lib.hid (next_none us a k true ha (by omega) hno.out)
      go_wp2
      go_ret
      exact ⟨ret_int (by have := HN.out; omega), rfl⟩
theorem xor_all (x : Nat) (hx : x < 18446744073709551616) : bits BinOp.xor IntKind.u64 IntKind.u64.max (x : Int) = ((18446744073709551615 - x : Nat) : Int) := by
  rw [show IntKind.u64.max = ((18446744073709551615 : Nat) : Int) from rfl, bits_xor_u64_nat _ _ (by decide) hx]
  congr 1
  refine Nat.eq_of_testBit_eq fun i => ?_
  rw [Nat.testBit_xor, show 18446744073709551615 - x = 2 ^ 64 - (x + 1) from by omega, Nat.testBit_two_pow_sub_succ hx, show 18446744073709551615 = 2 ^ 64 - 1 from rfl, Nat.testBit_two_pow_sub_one]
  by_cases h : i < 64
  · simp [h]
  · rw [Nat.testBit_lt_two_pow (Nat.lt_of_lt_of_le hx (Nat.pow_le_pow_right (n := 2) (i := 64) (by decide) (by omega)))]; simp [h]
set_option maxHeartbeats 1000000 in
theorem next_no (p : Nat) (us : List Bool) (a : Nat) (w : World) (h : PM w p us) (hT : Tab w) (ha : a ≤ us.length) (hn : us.length ≤ 1024) :
    Calls Tryd.prog 32 #[.pointer (some ⟨p, 0, none⟩), .int .i64 (a : Nat), .bool false] w fun e w' => e = .returned (.int .i64 (nextF us a false : Nat)) ∧ w = w' := by
  have hc := h.things
  have HP := Lib.hid h
  have HT := Lib.hid hT
  clear h hT
  go_enter Tryd.func32, Tryd.ntmps32
  go_wp2
  go_loop [1, 7, 8] (fun v _ _ => ∃ k : Nat, a ≤ k ∧ k ≤ 1088 ∧ v = .int .i64 k ∧ Hid (∀ i, a ≤ i → i < k → us.getD i false = !false)) (fun v _ _ => 2000 - (intOf v).toNat)
  case atStart => exact ⟨a, Nat.le_refl _, by omega, rfl, Lib.hid (fun i h1 h2 => by omega)⟩
  case round =>
    obtain ⟨k, hk1, hk2, rfl, hno⟩ := hrel
    by_cases hlt : k < us.length
    · have hcell := HP.out.word (k / 64) (by omega)
      have hr := restF_lt (natOf us) k false
      obtain ⟨x, hx⟩ : ∃ x, restF (natOf us) k false = x := ⟨_, rfl⟩
      have hv0 := xor_all (wd (natOf us) (k / 64)) (wd_lt _ _)
      have hv : ((18446744073709551615 - wd (natOf us) (k / 64) : Nat) : Int) / 2 ^ (k % 64) = (x : Int) := by rw [int_div_pow, ← hx]; rfl
      have hv1 : bits BinOp.xor IntKind.u64 (if IntKind.u64.signed = true then -1 else IntKind.u64.max) (wd (natOf us) (k / 64) : Nat) = ((18446744073709551615 - wd (natOf us) (k / 64) : Nat) : Int) := hv0
      generalize 18446744073709551615 - wd (natOf us) (k / 64) = y at hv0 hv hv1
      rw [hx] at hr
      by_cases h0 : x = 0
      · subst h0
        have HS := Lib.hid (next_on us k false hx)
        clear hx
        have hm : k % 64 < 64 := Nat.mod_lt _ (by decide)
        go_wp2
        go_round
        case rel => exact ⟨k + (64 - k % 64), by omega, by omega, by go_num, Lib.hid (fun i h1 h2 => by
          rcases Nat.lt_or_ge i k with h3 | h3
          · exact hno.out i h1 h3
          · exact HS.out i h3 h2)⟩
        case measure => simp [intOf]; omega
      · have hf := next_found us a k false hk1 hlt hno.out (by rw [hx]; exact h0)
        rw [hx] at hf
        have HF := Lib.hid hf
        have hcz := hf.2
        have HR := Lib.hid hr
        have HZ := Lib.hid h0
        have hz : ((x : Int) != 0) = true := by simp; omega
        have hz2 : ((x : Int) == 0) = false := by simp; omega
        clear hx hf hr h0
        go_wp2_with (go_at_call 41; (with_reducible refine (tz_any x _ HR.out HZ.out HT.out).mono ?_); rintro e w' ⟨rfl, rfl⟩)
        go_ret
        exact ⟨ret_int (by have := HF.out.1; omega), rfl⟩
    · have HN := Lib.hid (next_none us a k false ha (by omega) hno.out)
      go_wp2
      go_ret
      exact ⟨ret_int (by have := HN.out; omega), rfl⟩

theorem next_any (p : Nat) (us : List Bool) (a : Nat) (b : Bool) (w : World) (h : PM w p us) (hT : Tab w) (ha : a ≤ us.length) (hn : us.length ≤ 1024) :
    Calls Tryd.prog 32 #[.pointer (some ⟨p, 0, none⟩), .int .i64 (a : Nat), .bool b] w fun e w' => e = .returned (.int .i64 (nextF us a b : Nat)) ∧ w = w' := by
  cases b
  · exact next_no p us a w h hT ha hn
  · exact next_yes p us a w h hT ha hn
theorem next_zero (p : Nat) (us : List Bool) (b : Bool) (w : World) (h : PM w p us) (hT : Tab w) (hn : us.length ≤ 1024) :
    Calls Tryd.prog 32 #[.pointer (some ⟨p, 0, none⟩), .int .i64 0, .bool b] w fun e w' => e = .returned (.int .i64 (nextF us 0 b : Nat)) ∧ w = w' :=
  next_any p us 0 b w h hT (Nat.zero_le _) hn
/-- The lowest one that is free; -1, if there is none. -/
def lowF (us : List Bool) : Int := if nextF us 0 false < us.length then nextF us 0 false else -1
def takeE (us : List Bool) : Int := if nextF us 0 false < us.length then 0 else 11
def takeS (us : List Bool) : List Bool := if nextF us 0 false < us.length then us.set (nextF us 0 false) true else us
theorem takeS_length (us : List Bool) : (takeS us).length = us.length := by unfold takeS; split <;> simp
set_option maxHeartbeats 400000 in
theorem take_any (p : Nat) (us : List Bool) (w : World) (h : PM w p us) (hT : Tab w) (hn : us.length ≤ 1024) :
    Calls Tryd.prog 15 #[.pointer (some ⟨p, 0, none⟩)] w fun e w' => e = .returned (.tuple #[.int .i64 (lowF us), .int .i64 (takeE us)]) ∧ PM w' p (takeS us) ∧ w.grownBy w' (some p) := by
  have hc := h.things
  have hsp := nextF_spec us 0 false (Nat.zero_le _)
  have HN := Lib.hid (next_zero p us false w h hT hn)
  by_cases hlt : nextF us 0 false < us.length
  · have he : takeE us = 0 := if_pos hlt
    have hs : takeS us = us.set (nextF us 0 false) true := if_pos hlt
    have hl : lowF us = (nextF us 0 false : Nat) := if_pos hlt
    rw [he, hs, hl]
    obtain ⟨m, hm⟩ : ∃ m, nextF us 0 false = m := ⟨_, rfl⟩
    rw [hm] at hsp hlt HN ⊢
    have HT := Lib.hid (turn_any p us.length (natOf us) m w (by omega) h)
    have HB := Lib.hid (hsp.2.2.2 hlt)
    have hne : ((m : Int) == (us.length : Int)) = false := by simp; omega
    clear h hT hsp he hs hl hm
    go_enter Tryd.func15, Tryd.ntmps15
    go_wp2_with (first
      | (go_at_call 32; (with_reducible refine HN.out.mono ?_); rintro e w' ⟨rfl, rfl⟩)
      | (go_at_call 30; (with_reducible refine HT.out.mono ?_); rintro e w' ⟨rfl, hb1, g1⟩))
    go_ret2
    exact ⟨rfl, pm_turn true hlt HB.out hb1, g1⟩
  · have he : takeE us = 11 := if_neg hlt
    have hs : takeS us = us := if_neg hlt
    have hl : lowF us = -1 := if_neg hlt
    rw [he, hs, hl]
    have hm : nextF us 0 false = us.length := by omega
    rw [hm] at HN
    have HP := Lib.hid h
    clear h hT hsp he hs hl hm
    have hne : ((us.length : Int) == (us.length : Int)) = true := by simp
    go_enter Tryd.func15, Tryd.ntmps15
    go_wp2_with (go_at_call 32; (with_reducible refine HN.out.mono ?_); rintro e w' ⟨rfl, rfl⟩)
    go_ret2
    exact ⟨rfl, HP.out, gb_refl _ _⟩
/-- A pointer to a map, or none. -/
def newV (n : Int) (b : Nat) : Value := if 1 ≤ n ∧ n ≤ 1024 then .pointer (some ⟨b, 0, none⟩) else .pointer none
theorem words_zero : wordsC 0 = List.replicate 16 (.int .u64 0) := by
  unfold wordsC
  simp only [wd_zero]
  rfl
theorem new_no (n : Int) (w : World) (h : n < 1 ∨ 1024 < n) (h1 : -9223372036854775808 ≤ n) (h2 : n ≤ 9223372036854775807) :
    Calls Tryd.prog 8 #[.int .i64 n] w fun e w' => e = .returned (.pointer none) ∧ w = w' := by
  by_cases h3 : n < 1
  · go_enter Tryd.func8, Tryd.ntmps8
    go_wp2
    go_ret
    exact ⟨rfl, rfl⟩
  · have h4 : 1024 < n := by omega
    go_enter Tryd.func8, Tryd.ntmps8
    go_wp2
    go_ret
    exact ⟨rfl, rfl⟩
theorem new_yes (n : Nat) (w : World) (h1 : 1 ≤ n) (h2 : n ≤ 1024) :
    Calls Tryd.prog 8 #[.int .i64 (n : Nat)] w fun e w' => e = .returned (.pointer (some ⟨w.heap.size, 0, none⟩)) ∧ PM w' w.heap.size (List.replicate n false) ∧ w.grownBy w' none := by
  have hfin : PM (w.alloc (.cells #[.int .i64 (n : Nat), .int .u64 0, .int .u64 0, .int .u64 0, .int .u64 0, .int .u64 0, .int .u64 0, .int .u64 0, .int .u64 0, .int .u64 0, .int .u64 0, .int .u64 0, .int .u64 0, .int .u64 0, .int .u64 0, .int .u64 0, .int .u64 0] 59)) w.heap.size (List.replicate n false) := by
    unfold PM mapC
    rw [natOf_replicate, words_zero, List.length_replicate]
    exact Blk.mk w _ _
  have HF := Lib.hid hfin
  clear hfin
  go_enter Tryd.func8, Tryd.ntmps8
  go_wp2
  go_ret
  exact ⟨rfl, HF.out, gb_alloc _ _ _⟩
theorem copy_nil (w : World) : Calls Tryd.prog 17 #[.pointer none] w fun e w' => e = .returned (.pointer none) ∧ w = w' := by
  go_enter Tryd.func17, Tryd.ntmps17
  go_wp2
  go_ret
  exact ⟨rfl, rfl⟩
theorem sizeFor_any (n : Nat) (w : World) (h : n ≤ 2000000) : Calls Tryd.prog 36 #[.int .i64 (n : Nat)] w fun e w' => e = .returned (.int .i64 ((n + 7) / 8 : Nat)) ∧ w = w' := by
  go_enter Tryd.func36, Tryd.ntmps36
  go_wp2
  go_ret
  exact ⟨ret_int (by omega), rfl⟩
theorem shiftOf_any (n : Nat) (w : World) (h : n ≤ 2000000) : Calls Tryd.prog 40 #[.int .i64 (n : Nat)] w fun e w' => e = .returned (.int .i64 (n % 8 * 8 : Nat)) ∧ w = w' := by
  go_enter Tryd.func40, Tryd.ntmps40
  go_wp2
  go_ret
  exact ⟨ret_int (by omega), rfl⟩
end Go.Proofs.YtaihcbkdbdhihaaDoor
