/-
  SumTurned's walk: for every text, place and byte the function returns true; conditions: the text's length is within the reach, the numbers fit.
-/
import Derived.Test.YtiaaohhhdfmehaaSb
import Derived.Deep.DeepCutAuto
import Derived.Deep.RegionWith
import Derived.RegionTactic
import Derived.Deep.RegionHeld3
import Derived.IntWalk
namespace Go.Proofs.Ytiaaohhhdfmehaa
open Go.RowKit

theorem idx_at (t : ByteArray) (k : Nat) (p : UInt8) (hk : k < t.data.toList.length) (hp : t.data.toList[k] = p) {z : Int} (hz : z = (k : Int)) (w : World) :
    (Instr.index 9 (.string t) (.int .i64 z)).run Try.prog w = .ok (.int .u8 (p.toNat : Nat)) w := by
  subst hz hp
  have h1 : k < t.size := by simpa using hk
  rw [run_index_string w 9 t .i64 (k : Int) Try.underlying9, dif_pos ⟨by omega, by omega⟩]
  have e : t.data.toList[k] = t[k]'h1 := by rw [Array.getElem_toList]; rfl
  rw [e]
  rfl

set_option maxRecDepth 100000 in
set_option maxHeartbeats 2000000 in
theorem turned_walk (s : ByteArray) (a : Int) (d : UInt8) (w : World) (hs : s.size ≤ 9223372036854775807) (h2 : 0 ≤ a) (h3 : a ≤ 65535) :
    Calls Try.prog 5 #[.string s, .int .u16 a, .int .u8 (d.toNat : Nat)] w fun e w' => e = .returned (.bool true) ∧ Below w.heap.size w w' := by
  go_enter Try.func5, Try.ntmps5
  go_upto_region 3 with (go_at_call 12; (with_reducible refine (works_any _).mono ?_); rintro e w1 ⟨rfl, hb1⟩)
  go_cut [0] (fun v wx => ∃ t : ByteArray, v = .string t ∧ t.size ≤ 4000 ∧ Below w.heap.size w wx)
  case first =>
    by_cases hle : s.size ≤ 4000
    · go_wp2_with fail
      go_meet
      exact ⟨s, rfl, hle, hb1⟩
    · go_wp2_with fail
      go_meet
      exact ⟨_, rfl, by simp; omega, hb1⟩
  case rest =>
    obtain ⟨t, rfl, ht, hb⟩ := hcut
    by_cases h0 : t.size = 0
    · have h0' : ((t.size : Int) == 0) = true := by rw [h0]; rfl
      clear h0
      go_wp2
      go_ret
      exact ⟨rfl, hb⟩
    · have h0' : ((t.size : Int) == 0) = false := beq_eq_false_iff_ne.2 (by omega)
      have hpos : 1 ≤ t.size := by omega
      clear h0
      obtain ⟨cap, W2, hconv, hrow, hb2, hsz⟩ := brow_new wc t
      obtain ⟨k, hk⟩ : ∃ k : Nat, a % (t.size : Int) = (k : Int) := ⟨(a % (t.size : Int)).toNat, by have := Int.emod_nonneg a (show (t.size : Int) ≠ 0 by omega); omega⟩
      have hkt : k < t.size := by have := Int.emod_lt_of_pos a (show (0 : Int) < (t.size : Int) by omega); omega
      go_upto_region 8 with fail
      rw [hk]
      clear hk
      have hl : t.data.toList.length = t.size := by simp
      have hkl : k < t.data.toList.length := by omega
      obtain ⟨c, hc⟩ : ∃ c, t.data.toList[k] = c := ⟨_, rfl⟩
      have hck : wc.heap.size < W2.heap.size := by omega
      have hcell := (hrow k hkl).1
      have hfr := (hrow k hkl).2
      rw [hc] at hcell
      obtain ⟨x, ex⟩ : ∃ x, c ^^^ d = x := ⟨_, rfl⟩
      have hx := xor_byte c d
      have hx2 := xor_byte x d
      rw [ex] at hx
      rw [show x ^^^ d = c by rw [← ex]; exact xor_twice c d] at hx2
      have R3 := brow_set hrow hkl x rfl
      obtain ⟨l3, el3⟩ : ∃ l3, t.data.toList.set k x = l3 := ⟨_, rfl⟩
      rw [el3] at R3
      have hl3 : l3.length = t.size := by rw [← el3, List.length_set, hl]
      have S3 := brow_str R3 t.size cap hl3.symm
      obtain ⟨v0, ev0⟩ : ∃ v0, ((moreN 1 t.data.toList : Nat) : Int) = v0 := ⟨_, rfl⟩
      obtain ⟨v3, ev3⟩ : ∃ v3, ((moreN 1 (⟨l3.toArray⟩ : ByteArray).data.toList : Nat) : Int) = v3 := ⟨_, rfl⟩
      have K0 := Lib.hid (fun w => of_lit t v0 (by omega) ev0 w)
      have K3 := Lib.hid (fun w => of_lit ⟨l3.toArray⟩ v3 (by show l3.toArray.size ≤ _; rw [List.size_toArray]; omega) ev3 w)
      have hsame : (v3 == v0) = (decide (d = 0)) := by
        rw [← ev3, ← ev0, Bool.eq_iff_iff, beq_iff_eq, decide_eq_true_eq, Int.ofNat_inj, ← el3, sum_set _ _ hkl, hc, ← ex, xor_same]
      have hd0 : ((d.toNat : Int) == 0) = (decide (d = 0)) := by
        rw [Bool.eq_iff_iff, beq_iff_eq, decide_eq_true_eq]
        constructor
        · intro h; exact UInt8.toNat_inj.1 (by simpa using h)
        · rintro rfl; rfl
      generalize decide (d = 0) = bz at hsame hd0
      have E := Lib.hid (And.intro ev0 (And.intro ev3 (And.intro el3 (And.intro hl3 (And.intro ex hl)))))
      have hlen : l3.length ≤ 4000 ∧ k < l3.length := by omega
      clear ev0 ev3 el3 hl3 ex hl
      have Hrow := Lib.hid hrow
      have Hconv := Lib.hid hconv
      have HR3 := Lib.hid R3
      clear hrow hconv R3
      go_upto_region 11 with (go_at_call 8; first | ((with_reducible refine (K3.out _).mono ?_); rintro e w3 ⟨rfl, hb3⟩) | ((with_reducible refine (K0.out _).mono ?_); rintro e w4 ⟨rfl, hb4⟩))
      have hz3 : wc.heap.size < (W2.setCell ⟨wc.heap.size, k, none⟩ (.int .u8 (x.toNat : Nat))).heap.size := by simp; exact hck
      have hbw4 : Below w.heap.size w w4 := ((hb.trans (hb2.mono hb.size)).setCell (p := ⟨wc.heap.size, k, none⟩) (hb.size) _).trans ((hb3.mono (by simp; have := hb.size; have := hb2.size; omega)).trans (hb4.mono (Nat.le_trans hb.size (Nat.le_of_lt (Nat.lt_of_lt_of_le hz3 hb3.size)))))
      have R4 := brow_below (brow_below HR3.out hb3 hz3) hb4 (Nat.lt_of_lt_of_le hz3 hb3.size)
      have hc4 := (R4 k hlen.2).1
      have hf4 := (R4 k hlen.2).2
      have hx3 : l3[k] = x := by
        have := E.out.2.2.1
        subst this; simp
      rw [hx3] at hc4
      have R5 := brow_set R4 hlen.2 c rfl
      rw [show l3.set k c = t.data.toList by rw [← E.out.2.2.1, List.set_set, ← hc, List.set_getElem_self]] at R5
      have hz4 : wc.heap.size < w4.heap.size := Nat.lt_of_lt_of_le hz3 (Nat.le_trans hb3.size hb4.size)
      have HR5 := Lib.hid R5
      have hwc : w.heap.size ≤ wc.heap.size := hb.size
      have Hc := Lib.hid hc
      have Hx := Lib.hid hx
      have HS3 := Lib.hid S3
      have Hcell := Lib.hid hcell
      clear R4 R5 hc hx S3 hcell hfr hsame hd0 hx3 hz3 hb3 hb4 hb2 hb K3 HR3 Hconv Hrow
      by_cases hk0 : k = 0
      · subst hk0
        go_wp2_with fail
        go_ret
        exact ⟨rfl, hbw4.setCell (p := ⟨wc.heap.size, 0, none⟩) (by omega) _⟩
      · obtain ⟨m, rfl⟩ : ∃ m, k = m + 1 := ⟨k - 1, by omega⟩
        have hk0' : (((m + 1 : Nat) : Int) == 0) = false := beq_eq_false_iff_ne.2 (by omega)
        have hw1 : IntKind.i64.wrap ((m : Int) + 1 - 1) = (m : Int) := by
          rw [show (m : Int) + 1 - 1 = (m : Int) from by omega]; exact IntWalk.i64_in _ (by omega)
        have hw2 : IntKind.i64.wrap (((m + 1 : Nat) : Int) - 1) = (m : Int) := by
          rw [show ((m + 1 : Nat) : Int) - 1 = (m : Int) from by omega]; exact IntWalk.i64_in _ (by omega)
        have hlm : m < t.data.toList.length := by omega
        have hmt : m < t.size := by omega
        have hw3 : IntKind.i64.wrap (m : Int) = (m : Int) := IntWalk.i64_in _ (by omega)
        have hmt2 : (m : Int) < (t.size : Int) := by omega
        have hmt3 : (0 : Int) ≤ (m : Int) := by omega
        have c1 := (HR5.out (m + 1) hkl).1
        have f1 := (HR5.out (m + 1) hkl).2
        have c0 := (HR5.out m hlm).1
        have f0 := (HR5.out m hlm).2
        obtain ⟨p1, e1⟩ : ∃ p1, t.data.toList[m + 1] = p1 := ⟨_, rfl⟩
        obtain ⟨p0, e0⟩ : ∃ p0, t.data.toList[m] = p0 := ⟨_, rfl⟩
        rw [e1] at c1
        rw [e0] at c0
        obtain ⟨l6, e6⟩ : ∃ l6, (t.data.toList.set (m + 1) p0).set m p1 = l6 := ⟨_, rfl⟩
        have R6 := brow_drew (brow_set (brow_set HR5.out hkl p0 rfl) (by rw [List.length_set]; exact hlm) p1 rfl)
        rw [e6] at R6
        have hl6 : l6.length = t.size := by rw [← e6, List.length_set, List.length_set]; exact E.out.2.2.2.2.2
        obtain ⟨v6, ev6⟩ : ∃ v6, ((moreN 1 (⟨l6.toArray⟩ : ByteArray).data.toList : Nat) : Int) = v6 := ⟨_, rfl⟩
        have K6 := Lib.hid (fun w => of_lit ⟨l6.toArray⟩ v6 (by show l6.toArray.size ≤ _; rw [List.size_toArray]; omega) ev6 w)
        have hsame : (v6 == v0) = (decide (p1 = p0)) := by
          rw [← ev6, ← E.out.1, Bool.eq_iff_iff, beq_iff_eq, decide_eq_true_eq, Int.ofNat_inj, ← e6, ← e0, ← e1, sum_swap _ _ hkl]
        have hp10 : ((p1.toNat : Int) == (p0.toNat : Int)) = decide (p1 = p0) := by
          rw [Bool.eq_iff_iff, beq_iff_eq, decide_eq_true_eq, Int.ofNat_inj, UInt8.toNat_inj]
        generalize decide (p1 = p0) = bq at hsame hp10
        have hz5 : wc.heap.size < ((((w4.setCell ⟨wc.heap.size, m + 1, none⟩ (.int .u8 (c.toNat : Nat))).setCell ⟨wc.heap.size, m + 1, none⟩ (.int .u8 (p0.toNat : Nat))).setCell ⟨wc.heap.size, m, none⟩ (.int .u8 (p1.toNat : Nat))).drew).heap.size := by simp; exact hz4
        have hbw5 := (((hbw4.setCell (p := ⟨wc.heap.size, m + 1, none⟩) hwc (.int .u8 (c.toNat : Nat))).setCell (p := ⟨wc.heap.size, m + 1, none⟩) hwc (.int .u8 (p0.toNat : Nat))).setCell (p := ⟨wc.heap.size, m, none⟩) hwc (.int .u8 (p1.toNat : Nat))).drew
        have HR6 := Lib.hid R6
        have He := Lib.hid (And.intro e0 (And.intro e1 (And.intro e6 (And.intro hl6 ev6))))
        have hl6' : l6.length ≤ 4000 := by omega
        have hp11 : (((t[m + 1]'hkt).toNat : Int) == (p0.toNat : Int)) = bq := by rw [← hp10, ← e1, Array.getElem_toList]; rfl
        have i1 := idx_at t (m + 1) p1 hkl e1 rfl
        have i0 := idx_at t m p0 hlm e0 hw2
        have i00 := idx_at t m p0 hlm e0 rfl
        clear R6 e0 e1 e6 hl6 ev6
        go_upto_region 14 with fail
        go_region
        clear c0 c1 f0 f1 hc4 hf4
        generalize ((((w4.setCell ⟨wc.heap.size, m + 1, none⟩ (.int .u8 (c.toNat : Nat))).setCell ⟨wc.heap.size, m + 1, none⟩ (.int .u8 (p0.toNat : Nat))).setCell ⟨wc.heap.size, m, none⟩ (.int .u8 (p1.toNat : Nat))).drew) = w6 at HR6 hbw5 hz5 ⊢
        have S6 := brow_str (brow_drew HR6.out) t.size cap He.out.2.2.2.1.symm
        go_upto_region 15 with fail
        have hz6 : wc.heap.size < w6.drew.heap.size := hz5
        go_region_held3 (fun w' => (convert 32 9 (.slice (some ⟨wc.heap.size, 0, none⟩) t.size cap)).run Try.prog w' = .ok (.string ⟨l6.toArray⟩) w') (first | exact S6 | exact brow_str HR6.out t.size cap He.out.2.2.2.1.symm | exact brow_str q8 t.size cap He.out.2.2.2.1.symm | exact brow_str q7 t.size cap He.out.2.2.2.1.symm) ((go_at_call 8; first | ((with_reducible refine (K6.out _).mono ?_); rintro e w7 ⟨rfl, hb7⟩; have q7 := brow_below (brow_drew HR6.out) hb7 hz6) | ((with_reducible refine (K0.out _).mono ?_); rintro e w8 ⟨rfl, hb8⟩; have q8 := brow_below q7 hb8 (Nat.lt_of_lt_of_le hz6 hb7.size))))
        all_goals
          go_wp2_with fail
          go_ret
          exact ⟨rfl, (hbw5.drew.trans ((hb7.mono (Nat.le_trans hwc (Nat.le_of_lt hz5))).trans (hb8.mono (Nat.le_trans hwc (Nat.le_trans (Nat.le_of_lt hz5) hb7.size)))))⟩
end Go.Proofs.Ytiaaohhhdfmehaa
