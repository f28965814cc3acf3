/-
  SumParts' walk: for every list of texts the function returns true; conditions: the lengths are within the reach, the number fits.
-/
import Derived.Test.YtiaaohhhdfmehaaSv
import Derived.Deep.DeepCutAuto
import Derived.Deep.QuietTactic
import Derived.BigQuiet
namespace Go.Proofs.Ytiaaohhhdfmehaa
open Go.RowKit

/-- What holds at each round's head: what has been taken so far has the sum that both ways tell. -/
def PartsRel (w : World) (len k : Nat) (v5 v6 v7 : Value) (wr : World) : Prop :=
  ∃ A : ByteArray, k ≤ len ∧ k ≤ 10 ∧ (k = 0 → A.size = 0) ∧ A.size ≤ 32000 + 4000 * k ∧ v5 = .string A ∧ v6 = .int .u32 (moreN 1 A.data.toList : Nat) ∧ v7 = .int .u32 (moreN 1 A.data.toList : Nat) ∧ Below w.heap.size w wr

theorem cat_data (A t : ByteArray) : (A ++ t).data.toList = A.data.toList ++ t.data.toList := by simp
theorem part_sums (A t : ByteArray) (hA : A.size ≤ 100000) (ht : t.size ≤ 100000) (w : World) :
    (Calls Try.prog 10 #[.int .u32 (moreN 1 A.data.toList : Nat), .string t] w fun e w' => e = .returned (.int .u32 (moreN 1 (A ++ t).data.toList : Nat)) ∧ Below w.heap.size w w') ∧
    (Calls Try.prog 13 #[.int .u32 (moreN 1 A.data.toList : Nat), .int .u32 (moreN 1 t.data.toList : Nat), .int .i64 (t.size : Nat)] w fun e w' => e = .returned (.int .u32 (moreN 1 (A ++ t).data.toList : Nat)) ∧ w = w') ∧
    (Calls Try.prog 8 #[.string (A ++ t)] w fun e w' => e = .returned (.int .u32 (moreN 1 (A ++ t).data.toList : Nat)) ∧ Below w.heap.size w w') := by
  refine ⟨?_, ?_, of_any _ _ (by simp; omega)⟩
  · rw [cat_data, moreN_append]
    exact more_any _ t w (moreN_lt _ _) (by omega)
  · have h := joined_any (moreN 1 A.data.toList) (moreN 1 t.data.toList) (t.size : Nat) w (moreN_lt _ _) (moreN_lt _ _) (by omega) (by omega)
    rw [Int.toNat_natCast, show t.size = t.data.toList.length by simp, joinN_told] at h
    rw [cat_data]
    simpa using h

set_option maxRecDepth 100000 in
set_option maxHeartbeats 2000000 in
theorem parts_walk (a : Addr) (len cap : Nat) (ss : Nat → ByteArray) (d : Int) (w : World) (hlen : len ≤ 9223372036854775807) (ha : a.block < w.heap.size) (hc : ∀ j, j < len → w.cell? (a.add j) = some (.string (ss j))) (hs : ∀ j, j < len → (ss j).size ≤ 9223372036854775807) (h0 : 0 ≤ d) (h1 : d ≤ 255) :
    Calls Try.prog 4 #[.slice (some a) len cap, .int .u8 d] w fun e w' => e = .returned (.bool true) ∧ Below w.heap.size w w' := by
  have HC := Lib.hid hc
  have HS := Lib.hid hs
  clear hc hs
  go_enter Try.func4, Try.ntmps4
  go_wp2_with (go_at_call 12; (with_reducible refine (works_any _).mono ?_); rintro e w1 ⟨rfl, hb1⟩)
  go_loopw [5, 6, 7, 8, 9] (fun v5 v6 v7 v8 _ wr => ∃ k : Nat, v8 = .int .i64 k ∧ PartsRel w len k v5 v6 v7 wr) (fun _ _ _ v8 _ _ => 10 - (intOf v8).toNat)
  case atStart => exact ⟨0, rfl, ⟨#[]⟩, by omega, by omega, fun _ => rfl, by decide, rfl, rfl, rfl, hb1⟩
  case round =>
    obtain ⟨k, rfl, A, hk, hk10, hA0, hA, rfl, rfl, rfl, hb⟩ := hrel
    by_cases hlt : k < len
    · by_cases hlt2 : k < 10
      · have hcell := (hb.cell (show (a.add k).block < w.heap.size by unfold Addr.add; split <;> exact ha)).trans (HC.out k hlt)
        have hsz := HS.out k hlt
        generalize ss k = s at hcell hsz
        have hk2 : (k : Int) < 10 := by omega
        go_upto_region 8 with fail
        go_cut [9] (fun v wx => ∃ t : ByteArray, v = .string t ∧ t.size ≤ 4000 ∧ Below w.heap.size w wx)
        case first =>
          by_cases hle : s.size ≤ 4000
          · go_region
            go_wp2_with fail
            go_meet
            exact ⟨s, rfl, hle, hb.drew⟩
          · go_region
            go_wp2_with fail
            go_meet
            exact ⟨_, rfl, by simp; omega, hb.drew⟩
        case rest =>
          obtain ⟨t, rfl, ht, hbc⟩ := hcut
          clear hcell hsz hb
          by_cases hk0 : k = 0
          · have hk0' : ((k : Int) == 0) = true := by rw [hk0]; rfl
            go_wp2_with (go_at_call 7; (with_reducible refine (long_any t d _ (by omega) h0 h1).mono ?_); rintro e w' ⟨t2, rfl, ht2, rfl⟩)
            have K := Lib.hid (fun w => part_sums A t2 (by omega) (by omega) w)
            obtain ⟨v2, ev2⟩ : ∃ v2, ((moreN 1 (A ++ t2).data.toList : Nat) : Int) = v2 := ⟨_, rfl⟩
            rw [ev2] at K
            have hsz2 : A.size + t2.size ≤ 140000 := by omega
            have hszA : (A ++ t2).size = A.size + t2.size := by simp
            have HszA := Lib.hid hszA
            have HA0 := Lib.hid hA0
            have Hev := Lib.hid ev2
            clear hszA hA0 ev2
            go_wp2_with (first
              | (go_at_call 10; (with_reducible refine ((K.out _).1).mono ?_); rintro e w2 ⟨rfl, hb2⟩)
              | (go_at_call 8; first | ((with_reducible refine (of_any t2 _ (by omega)).mono ?_); rintro e w3 ⟨rfl, hb3⟩) | ((with_reducible refine ((K.out _).2.2).mono ?_); rintro e w4 ⟨rfl, hb4⟩))
              | (go_at_call 13; (with_reducible refine ((K.out _).2.1).mono ?_); rintro e w5 ⟨rfl, rfl⟩))
            go_roundw
            case rel => exact ⟨1, by first | rfl | go_num, A ++ t2, by omega, by omega, fun h => absurd h (by omega), by rw [HszA.out]; have := HA0.out; omega, rfl, by rw [Hev.out], by rw [Hev.out], by repeat (first | exact hbc | refine bchain ?_ (by assumption))⟩
            case measure => simp [intOf]; omega
          · have hk0' : ((k : Int) == 0) = false := beq_eq_false_iff_ne.2 (by omega)
            go_wp2_with fail
            have K := Lib.hid (fun w => part_sums A t (by omega) (by omega) w)
            obtain ⟨v2, ev2⟩ : ∃ v2, ((moreN 1 (A ++ t).data.toList : Nat) : Int) = v2 := ⟨_, rfl⟩
            rw [ev2] at K
            have hsz2 : A.size + t.size ≤ 140000 := by omega
            have hszA : (A ++ t).size = A.size + t.size := by simp
            have HszA := Lib.hid hszA
            have HA0 := Lib.hid hA0
            have Hev := Lib.hid ev2
            clear hszA hA0 ev2
            go_wp2_with (first
              | (go_at_call 10; (with_reducible refine ((K.out _).1).mono ?_); rintro e w2 ⟨rfl, hb2⟩)
              | (go_at_call 8; first | ((with_reducible refine (of_any t _ (by omega)).mono ?_); rintro e w3 ⟨rfl, hb3⟩) | ((with_reducible refine ((K.out _).2.2).mono ?_); rintro e w4 ⟨rfl, hb4⟩))
              | (go_at_call 13; (with_reducible refine ((K.out _).2.1).mono ?_); rintro e w5 ⟨rfl, rfl⟩))
            go_roundw
            case rel => exact ⟨k + 1, by first | rfl | go_num, A ++ t, by omega, by omega, fun h => absurd h (by omega), by rw [HszA.out]; have := HA0.out; omega, rfl, by rw [Hev.out], by rw [Hev.out], by repeat (first | exact hbc | refine bchain ?_ (by assumption))⟩
            case measure => simp [intOf]; omega
      · go_wp2_with fail
        go_ret
        exact ⟨rfl, hb⟩
    · go_wp2_with fail
      go_ret
      exact ⟨rfl, hb⟩
set_option maxHeartbeats 1000000 in
theorem parts_nil (d : Int) (w : World) :
    Calls Try.prog 4 #[.slice none 0 0, .int .u8 d] w fun e w' => e = .returned (.bool true) ∧ Below w.heap.size w w' := by
  go_enter Try.func4, Try.ntmps4
  go_wp2_with (go_at_call 12; (with_reducible refine (works_any _).mono ?_); rintro e w1 ⟨rfl, hb1⟩)
  go_loopw [8] (fun v8 wr => v8 = .int .i64 0 ∧ wr = w1) (fun v8 _ => 10 - (intOf v8).toNat)
  case atStart => exact ⟨rfl, rfl⟩
  case round =>
    obtain ⟨rfl, rfl⟩ := hrel
    go_wp2_with fail
    go_ret
    exact ⟨rfl, hb1⟩
set_option maxHeartbeats 1000000 in
theorem parts_empty (a : Addr) (cap : Nat) (d : Int) (w : World) :
    Calls Try.prog 4 #[.slice (some a) 0 cap, .int .u8 d] w fun e w' => e = .returned (.bool true) ∧ Below w.heap.size w w' := by
  go_enter Try.func4, Try.ntmps4
  go_wp2_with (go_at_call 12; (with_reducible refine (works_any _).mono ?_); rintro e w1 ⟨rfl, hb1⟩)
  go_loopw [8] (fun v8 wr => v8 = .int .i64 0 ∧ wr = w1) (fun v8 _ => 10 - (intOf v8).toNat)
  case atStart => exact ⟨rfl, rfl⟩
  case round =>
    obtain ⟨rfl, rfl⟩ := hrel
    go_wp2_with fail
    go_ret
    exact ⟨rfl, hb1⟩
theorem block_lt {W : World} {a : Addr} {k : Nat} {v : Value} (h : W.cell? (a.add k) = some v) : a.block < W.heap.size := by
  have hb : (a.add k).block = a.block := by unfold Addr.add; split <;> rfl
  rw [← hb]
  exact World.block_lt_of_cell? W _ h
end Go.Proofs.Ytiaaohhhdfmehaa
