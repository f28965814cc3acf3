/-
  FreemapReads' walk: which map any bytes are, over this seat's translation; conditions: the table of math/bits reads as the library lays it, the text's length is within the reach.
-/
import Derived.Test.YtaihcbkdbdhihaaDoorMs
namespace Go.Proofs.YtaihcbkdbdhihaaDoor
open Go.RowKit

theorem readE_zero {z : Int} {l : List UInt8} (h : readE z l = 0) : ∃ m : Nat, z = m ∧ 1 ≤ m ∧ m ≤ 1024 ∧ formOk m l = true := by
  unfold readE at h
  split at h
  · rename_i h1
    refine ⟨z.toNat, by omega, by omega, by omega, ?_⟩
    split at h
    · rename_i h2; exact h2
    · cases h
  · cases h
theorem formOk_len {m : Nat} {l : List UInt8} (h : l.length ≠ (m + 7) / 8) : formOk m l = false := by unfold formOk; rw [decide_eq_false h, Bool.false_and]
theorem pread_ok (m : Nat) (s : ByteArray) (w : World) (h1 : 1 ≤ m) (h2 : m ≤ 1024) (h : formOk m s.data.toList = true) :
    Calls Tryd.prog 23 #[.int .i64 (m : Nat), .string s] w fun e w' => e = .returned (.tuple #[.pointer (some ⟨w.heap.size, 0, none⟩), .int .i64 0]) ∧ PM w' w.heap.size (usOf m s.data.toList) ∧ w.grownBy w' none := by
  have hs : s.size = (m + 7) / 8 := by
    unfold formOk at h
    rw [Bool.and_eq_true, decide_eq_true_eq] at h
    simpa using h.1
  exact (read_whole m s w h1 h2 hs true h).mono fun _ _ h => ⟨(h.1 rfl).1, (h.1 rfl).2, h.2.2⟩
theorem rread_ok (m : Nat) (s : ByteArray) (w : World) (h1 : 1 ≤ m) (h2 : m ≤ 1024) (hs : s.size ≤ 1000) (h : formOk m s.data.toList = true) :
    Calls Tryd.prog 24 #[.int .i64 (m : Nat), .string s] w fun e w' => e = .returned (.tuple #[.pointer (some ⟨w.heap.size + 1, 0, none⟩), .int .i64 0]) ∧ RM w' (w.heap.size + 1) w.heap.size (usOf m s.data.toList) ∧ w.grownBy w' none :=
  (rread_any m s w h1 h2 hs true h).mono fun _ _ h => ⟨(h.1 rfl).1, (h.1 rfl).2, h.2.2⟩
theorem pread_bad (z : Int) (s : ByteArray) (w : World) (h : readE z s.data.toList ≠ 0) (hz1 : -9223372036854775808 ≤ z) (hz2 : z ≤ 9223372036854775807) :
    Calls Tryd.prog 23 #[.int .i64 z, .string s] w fun e w' => e = .returned (.tuple #[.pointer none, .int .i64 (readE z s.data.toList)]) ∧ w.grownBy w' none := by
  unfold readE at h ⊢
  by_cases h1 : 1 ≤ z ∧ z ≤ 1024
  · rw [if_pos h1] at h ⊢
    obtain ⟨m, rfl⟩ := Int.eq_ofNat_of_zero_le (a := z) (by omega)
    cases hb : formOk (m : Int).toNat s.data.toList
    · rw [if_neg (by simp)]
      by_cases hl : s.size = (m + 7) / 8
      · exact (read_whole m s w (by omega) (by omega) hl false hb).mono fun _ _ h => ⟨h.2.1 rfl, h.2.2⟩
      · exact read_size m s w (by omega) (by omega) hl
    · rw [hb] at h; exact absurd rfl h
  · rw [if_neg h1]
    exact (read_arg z s w (by omega) hz1 hz2).mono fun _ _ ⟨h2, h3⟩ => ⟨h2, gb_eq h3⟩
theorem rread_bad (z : Int) (s : ByteArray) (w : World) (h : readE z s.data.toList ≠ 0) (hs : s.size ≤ 1000) (hz1 : -9223372036854775808 ≤ z) (hz2 : z ≤ 9223372036854775807) :
    Calls Tryd.prog 24 #[.int .i64 z, .string s] w fun e w' => e = .returned (.tuple #[.pointer none, .int .i64 (readE z s.data.toList)]) ∧ w.grownBy w' none := by
  unfold readE at h ⊢
  by_cases h1 : 1 ≤ z ∧ z ≤ 1024
  · rw [if_pos h1] at h ⊢
    obtain ⟨m, rfl⟩ := Int.eq_ofNat_of_zero_le (a := z) (by omega)
    cases hb : formOk (m : Int).toNat s.data.toList
    · rw [if_neg (by simp)]
      exact (rread_any m s w (by omega) (by omega) hs false hb).mono fun _ _ h => ⟨h.2.1 rfl, h.2.2⟩
    · rw [hb] at h; exact absurd rfl h
  · rw [if_neg h1]
    exact (rread_arg z s w (by omega) hz1 hz2).mono fun _ _ ⟨h2, h3⟩ => ⟨h2, gb_eq h3⟩
theorem index3 (a b c : Int) (j : Nat) (hj : j < 3) (a1 : -9223372036854775808 ≤ a) (a2 : a ≤ 9223372036854775807) (b1 : -9223372036854775808 ≤ b) (b2 : b ≤ 9223372036854775807) (c1 : -9223372036854775808 ≤ c) (c2 : c ≤ 9223372036854775807) :
    ∃ z : Int, -9223372036854775808 ≤ z ∧ z ≤ 9223372036854775807 ∧ ∀ W, (Instr.index 40 (.agg #[.int .i64 a, .int .i64 b, .int .i64 c]) (.int .i64 (j : Nat))).run Tryd.prog W = .ok (.int .i64 z) W := by
  have hj3 : j = 0 ∨ j = 1 ∨ j = 2 := by omega
  rcases hj3 with rfl | rfl | rfl
  · exact ⟨a, a1, a2, fun W => by simp [Instr.index, asIntOf, Sem.run_bind, run_underlying Tryd.underlying40, Tryd.sizeOf3, part, Tryd.isAgg3]⟩
  · exact ⟨b, b1, b2, fun W => by simp [Instr.index, asIntOf, Sem.run_bind, run_underlying Tryd.underlying40, Tryd.sizeOf3, part, Tryd.isAgg3]⟩
  · exact ⟨c, c1, c2, fun W => by simp [Instr.index, asIntOf, Sem.run_bind, run_underlying Tryd.underlying40, Tryd.sizeOf3, part, Tryd.isAgg3]⟩
set_option maxRecDepth 100000 in
set_option maxHeartbeats 4000000 in
theorem reads_walk (n : Int) (s : ByteArray) (w : World) (hT : Tab w) (h1 : -9223372036854775808 ≤ n) (h2 : n ≤ 9223372036854775807) (hs : s.size ≤ 9223372036854775807) :
    Calls Tryd.prog 4 #[.int .i64 n, .string s] w fun e w' => e = .returned (.bool true) ∧ w.grownBy w' none := by
  have HT := Lib.hid hT
  clear hT
  obtain ⟨z1, hz1⟩ : ∃ z1, n.tmod 40 = z1 := ⟨_, rfl⟩
  have hz1b : -40 < z1 ∧ z1 < 40 := by
    rw [← hz1]
    exact ⟨Int.neg_lt_of_neg_lt (by have := Int.tmod_lt_of_pos (-n) (b := 40) (by decide); rw [Int.neg_tmod] at this; omega), Int.tmod_lt_of_pos n (by decide)⟩
  by_cases hle : s.size ≤ 200
  · go_enter Tryd.func4, Tryd.ntmps4
    go_wp2
    clear hz1
    obtain ⟨z2, hz2⟩ : ∃ z2, (8 * (s.size : Int)) = z2 := ⟨_, rfl⟩
    rw [hz2]
    have hz2b : 0 ≤ z2 ∧ z2 ≤ 1600 := by omega
    clear hz2
    go_loopw [23] (fun v wr => ∃ j : Nat, j ≤ 3 ∧ v = .int .i64 j ∧ w.grownBy wr none) (fun v _ => 3 - (intOf v).toNat)
    case atStart => exact ⟨0, by omega, rfl, gb_refl _ _⟩
    case round =>
      obtain ⟨j, hj, rfl, hg⟩ := hrel
      by_cases hlt : j < 3
      · obtain ⟨z, hzb1, hzb2, hix⟩ := index3 n z1 z2 j hlt h1 h2 (by omega) (by omega) (by omega) (by omega)
        have HG := Lib.hid hg
        clear hg
        by_cases hE : readE z s.data.toList = 0
        · obtain ⟨m, rfl, hm1, hm2, hok⟩ := readE_zero hE
          have HO := Lib.hid hok
          clear hE hok
          go_wp2_with (first
            | (go_at_call 23; (with_reducible refine (pread_ok m s _ hm1 hm2 HO.out).mono ?_); rintro e w1 ⟨rfl, P1, g1⟩)
            | (go_at_call 24; (with_reducible refine (rread_ok m s _ hm1 hm2 (by omega) HO.out).mono ?_); rintro e w2 ⟨rfl, R2, g2⟩; have H2 := Lib.hid (And.intro (P1.keep0 g2) (And.intro R2 (gb_trans HG.out (gb_trans g1 g2)))); clear P1 R2 g1 g2)
            | (go_at_call 18; (with_reducible refine (alike_any _ _ _ _ _ H2.out.1 H2.out.2.1 (HT.out.keep0 H2.out.2.2) (by rw [usOf_length]; exact hm2)).mono ?_); rintro e w3 ⟨rfl, g3⟩))
          go_roundw
          case rel => exact ⟨j + 1, by omega, by go_num, gb_trans H2.out.2.2 g3⟩
          case measure => simp [intOf]; omega
        · have HP := Lib.hid (fun W => pread_bad z s W hE hzb1 hzb2)
          have HR := Lib.hid (fun W => rread_bad z s W hE (by omega) hzb1 hzb2)
          generalize readE z s.data.toList = E at HP HR
          clear hE
          go_wp2_with (first
            | (go_at_call 23; (with_reducible refine (HP.out _).mono ?_); rintro e w1 ⟨rfl, g1⟩)
            | (go_at_call 24; (with_reducible refine (HR.out _).mono ?_); rintro e w2 ⟨rfl, g2⟩))
          go_roundw
          case rel => exact ⟨j + 1, by omega, by go_num, gb_trans HG.out (gb_trans g1 g2)⟩
          case measure => simp [intOf]; omega
      · have HG := Lib.hid hg
        clear hg
        go_wp2_with (go_at_call 10; (with_reducible refine (works_any _ (HT.out.keep0 HG.out)).mono ?_); rintro e w1 ⟨rfl, g1⟩)
        go_ret
        exact ⟨rfl, gb_trans HG.out g1⟩
  · go_enter Tryd.func4, Tryd.ntmps4
    go_wp2
    clear hz1
    obtain ⟨z2, hz2⟩ : ∃ z2, (8 * ((min 200 s.size : Nat) : Int)) = z2 := ⟨_, rfl⟩
    rw [hz2]
    have hz2b : 0 ≤ z2 ∧ z2 ≤ 1600 := by omega
    have hts : (s.extract 0 200).size ≤ 200 := by simp; omega
    clear hz2 hle
    generalize s.extract 0 200 = t at hts ⊢
    go_loopw [23] (fun v wr => ∃ j : Nat, j ≤ 3 ∧ v = .int .i64 j ∧ w.grownBy wr none) (fun v _ => 3 - (intOf v).toNat)
    case atStart => exact ⟨0, by omega, rfl, gb_refl _ _⟩
    case round =>
      obtain ⟨j, hj, rfl, hg⟩ := hrel
      by_cases hlt : j < 3
      · obtain ⟨z, hzb1, hzb2, hix⟩ := index3 n z1 z2 j hlt h1 h2 (by omega) (by omega) (by omega) (by omega)
        have HG := Lib.hid hg
        clear hg
        by_cases hE : readE z t.data.toList = 0
        · obtain ⟨m, rfl, hm1, hm2, hok⟩ := readE_zero hE
          have HO := Lib.hid hok
          clear hE hok
          go_wp2_with (first
            | (go_at_call 23; (with_reducible refine (pread_ok m t _ hm1 hm2 HO.out).mono ?_); rintro e w1 ⟨rfl, P1, g1⟩)
            | (go_at_call 24; (with_reducible refine (rread_ok m t _ hm1 hm2 (by omega) HO.out).mono ?_); rintro e w2 ⟨rfl, R2, g2⟩; have H2 := Lib.hid (And.intro (P1.keep0 g2) (And.intro R2 (gb_trans HG.out (gb_trans g1 g2)))); clear P1 R2 g1 g2)
            | (go_at_call 18; (with_reducible refine (alike_any _ _ _ _ _ H2.out.1 H2.out.2.1 (HT.out.keep0 H2.out.2.2) (by rw [usOf_length]; exact hm2)).mono ?_); rintro e w3 ⟨rfl, g3⟩))
          go_roundw
          case rel => exact ⟨j + 1, by omega, by go_num, gb_trans H2.out.2.2 g3⟩
          case measure => simp [intOf]; omega
        · have HP := Lib.hid (fun W => pread_bad z t W hE hzb1 hzb2)
          have HR := Lib.hid (fun W => rread_bad z t W hE (by omega) hzb1 hzb2)
          generalize readE z t.data.toList = E at HP HR
          clear hE
          go_wp2_with (first
            | (go_at_call 23; (with_reducible refine (HP.out _).mono ?_); rintro e w1 ⟨rfl, g1⟩)
            | (go_at_call 24; (with_reducible refine (HR.out _).mono ?_); rintro e w2 ⟨rfl, g2⟩))
          go_roundw
          case rel => exact ⟨j + 1, by omega, by go_num, gb_trans HG.out (gb_trans g1 g2)⟩
          case measure => simp [intOf]; omega
      · have HG := Lib.hid hg
        clear hg
        go_wp2_with (go_at_call 10; (with_reducible refine (works_any _ (HT.out.keep0 HG.out)).mono ?_); rintro e w1 ⟨rfl, g1⟩)
        go_ret
        exact ⟨rfl, gb_trans HG.out g1⟩
end Go.Proofs.YtaihcbkdbdhihaaDoor
