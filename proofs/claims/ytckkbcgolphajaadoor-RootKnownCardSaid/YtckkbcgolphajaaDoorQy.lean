/-
  What the program's own Get answers, over this seat's translation; conditions: the text is not too long, the table of places lies as the program's text lays it.
-/
import Derived.Test.YtckkbcgolphajaaDoorQx
import Derived.Test.YtckkbcgolphajaaDoorQe
namespace Go.Proofs.YtckkbcgolphajaaDoor
open Go.RowKit

theorem results_c1 {fn : Func} {p : Tmp} (h : fn.results = #[.cell p 25]) (tmps : Array Value) (w : World) (b : Nat) (r : Rt)
    (hp : tmps.getD p undef = .pointer (some ⟨b, 0, none⟩)) (hb : RB w b r) (hr : r.cs.length = 8) :
    (results fn tmps).run Tryd.prog w = .ok (RV r) w := by
  have hp' : tmps[p]?.getD undef = .pointer (some ⟨b, 0, none⟩) := by simpa using hp
  simp [results, h, hp', asAddr, hb.load hr]
theorem Sec.lt {W : World} {b : Nat} {l : List UInt8} (h : Sec W b l) : b < W.heap.size := Blk.lt h.1
/-- A reader that was made, asked later. -/
theorem read_made {W W1 : World} {b p x a n : Nat} {l : List UInt8} (hs : Sec W b l) (hbW : b < W.heap.size) (M : Made W W1 b p x a n) (han : a + n ≤ 256) (ha : a < 256) (hn : n ≤ 8) :
    Calls Tryd.prog 31 #[.pointer (some ⟨x, 0, none⟩), .pointer (some ⟨p, 0, none⟩)] W1 (Told W1 p a n (vl ((l.take (a + n)).drop a))) := by
  obtain ⟨m1, m2, m3, m4, m5, m6⟩ := M
  exact read_any b p x a n l W1 (hs.keep0 m6) m4 m5 (by omega) m3 han ha hn
theorem part0_fit (l : List UInt8) (v1 v2 : Nat) (h1 : vl ((l.take (0 + 8)).drop 0) = v1) (h2 : vl ((l.take (8 + 2)).drop 8) = v2) : partR l 0 = ⟨v1, (v2 : Nat), [0, 0, 0, 0, 0, 0, 0, 0]⟩ := part_zero l v1 v2 h1 h2
set_option maxRecDepth 100000 in
set_option maxHeartbeats 2000000 in
theorem told_any (b : Nat) (l : List UInt8) (w : World) (hP : Pl w) (hs : Sec w b l) : Calls Tryd.prog 26 #[.pointer (some ⟨b, 0, none⟩)] w fun e w' => e = .returned (RV (readR l)) ∧ w.grownBy w' none := by
  have hll := hs.2
  have hbw : b < w.heap.size := Blk.lt hs.1
  obtain ⟨v1, hv1⟩ : ∃ v, vl ((l.take (0 + 8)).drop 0) = v := ⟨_, rfl⟩
  obtain ⟨v2, hv2⟩ : ∃ v, vl ((l.take (8 + 2)).drop 8) = v := ⟨_, rfl⟩
  have hv2b : v2 < 65536 := by rw [← hv2]; exact vl_two _ _ (by rw [List.length_take]; omega)
  have hw2 : IntKind.i64.wrap (v2 : Int) = (v2 : Int) := IntWalk.i64_in _ (by omega)
  have H1 := Lib.hid hv1
  have H2 := Lib.hid hv2
  have HP := Lib.hid hP
  have HS := Lib.hid hs
  have g0 := gb_alloc w (.cells #[.int .u64 0, .int .i64 0, .int .i64 0, .int .i64 0, .int .i64 0, .int .i64 0, .int .i64 0, .int .i64 0, .int .i64 0, .int .i64 0] 25) none
  have z0 : RB (w.alloc (.cells #[.int .u64 0, .int .i64 0, .int .i64 0, .int .i64 0, .int .i64 0, .int .i64 0, .int .i64 0, .int .i64 0, .int .i64 0, .int .i64 0] 25)) w.heap.size zeroR := Blk.mk w _ _
  clear hv1 hv2 hP hs
  go_enter Tryd.func26, Tryd.ntmps26
  go_wp2_with (first
    | (go_at_call 30; (with_reducible refine (reader_any b 0 0 8 0 _ (HP.out.keep0 g0) rfl (by decide) rfl rfl).mono ?_); rintro e w1 ⟨p1, x1, rfl, M1⟩; have s0 := HS.out.keep0 g0)
    | (go_at_call 31; (with_reducible refine (read_made s0 s0.lt M1 (by decide) (by decide) (by decide)).mono ?_); rintro e w2 ⟨rfl, m2, g2⟩; rw [H1.out]; have gg := gb_step (gb_trans g0 M1.2.2.2.2.2) g2 (Nat.le_trans g0.size M1.1); have zz := RB.keepS (RB.keep0 z0 M1.2.2.2.2.2) g2 (ne_some (by have := M1.1; have := Blk.lt z0; omega)))
    | (go_at_call 30; (with_reducible refine (reader_any b 1 8 2 1 _ (HP.out.keep0 gg) rfl (by decide) rfl rfl).mono ?_); rintro e w3 ⟨p3, x3, rfl, M3⟩; have s2 := HS.out.keep0 gg)
    | (go_at_call 31; (with_reducible refine (read_made s2 s2.lt M3 (by decide) (by decide) (by decide)).mono ?_); rintro e w4 ⟨rfl, m4, g4⟩; rw [H2.out]; have gg4 := gb_step (gb_trans gg M3.2.2.2.2.2) g4 (Nat.le_trans gg.size M3.1); have zz4 := RB.keepS (RB.keep0 zz M3.2.2.2.2.2) g4 (ne_some (by have := M3.1; have := Blk.lt zz; omega)))
    | ((with_reducible refine stN 3 13 ⟨v1, (v2 : Nat), [0, 0, 0, 0, 0, 0, 0, 0]⟩ rfl ?_ ?_ ?_); rfl; rfl; rw [← part0_fit l v1 v2 H1.out H2.out]; have q5 : RB (w4.alloc (.cells (rootC (partR l 0)).toArray 25)) w4.heap.size (partR l 0) := Blk.mk w4 _ _; have zz5 := RB.keep0 zz4 (gb_alloc w4 (.cells (rootC (partR l 0)).toArray 25) none); have gg5 := gb_trans gg4 (gb_alloc w4 (.cells (rootC (partR l 0)).toArray 25) none); generalize w4.alloc (.cells (rootC (partR l 0)).toArray 25) = w5 at q5 zz5 gg5 ⊢)
    | (go_at_call 30; (with_reducible refine (reader_any b 2 10 2 2 _ (HP.out.keep0 gg5) rfl (by decide) rfl rfl).mono ?_); rintro e w6 ⟨p, x, rfl, M6⟩)
    | fail)
  have hpq : w4.heap.size ≠ p := by have := M6.1; have := Blk.lt q5; omega
  have hzp : w.heap.size ≠ p := by have := M6.1; have := Blk.lt zz5; omega
  have hzq : w.heap.size ≠ w4.heap.size := by have := Blk.lt zz4; omega
  have hwp : w.heap.size ≤ p := Nat.le_trans gg5.size M6.1
  have hwq : w.heap.size ≤ w4.heap.size := gg4.size
  have hbp : b ≠ p := by omega
  have hxp := M6.2.2.1
  have q6 := RB.keep0 q5 M6.2.2.2.2.2
  have zz6 := RB.keep0 zz5 M6.2.2.2.2.2
  have gg6 := gb_trans gg5 M6.2.2.2.2.2
  have m6 := M6.2.2.2.1
  have x6 := M6.2.2.2.2.1
  have hxq : x ≠ w4.heap.size := by have := M6.2.1; have := Blk.lt q5; omega
  generalize w4.heap.size = q at q6 hpq hzq hwq hxq ⊢
  clear M6 q5 zz5 gg5 zz4 gg4 m4 g4 M3 s2 gg zz m2 g2 M1 s0 g0 z0
  go_wp2
  go_loopw [16] (fun v wr => ∃ j : Nat, j ≤ 8 ∧ v = .int .i64 j ∧ RB wr q (partR l j) ∧ RB wr w.heap.size zeroR ∧ Plc wr p (10 + 2 * j) 2 ∧ Box wr x b ∧ w.grownBy wr none) (fun v _ => 9 - (intOf v).toNat)
  case atStart => exact ⟨0, by omega, rfl, q6, zz6, m6, x6, gg6⟩
  case round =>
    obtain ⟨j, hj, rfl, r1, b1, m1, x1, g1⟩ := hrel
    by_cases hlt : j < 8
    · have s1 := HS.out.keep0 g1
      obtain ⟨v, hv⟩ : ∃ v, vl ((l.take (12 + 2 * j)).drop (10 + 2 * j)) = v := ⟨_, rfl⟩
      have hvb : v < 65536 := by rw [← hv]; exact vl_two _ _ (by rw [List.length_take]; omega)
      have hvw : IntKind.i64.wrap (v : Int) = (v : Int) := IntWalk.i64_in _ (by omega)
      have HV := Lib.hid (show vl ((l.take (10 + 2 * j + 2)).drop (10 + 2 * j)) = v by rw [← hv]; congr 3; omega)
      have HV2 := Lib.hid hv
      clear hv
      go_wp2_with (first
        | (go_at_call 31; (with_reducible refine (read_any b p x (10 + 2 * j) 2 l _ s1 m1 x1 hbp hxp (by omega) (by omega) (by decide)).mono ?_); rintro e w8 ⟨rfl, m8, g8⟩; rw [HV.out]; have r8 := RB.keepS r1 g8 (ne_some hpq); have b8 := RB.keepS b1 g8 (ne_some hzp); have x8 : Box w8 x b := Blk.keep x1 g8 (ne_some hxp); have gg8 := gb_step g1 g8 hwp; have hcell := r8.chunk j (by rw [part_len]; exact hlt); rw [Nat.add_comm] at hcell; have hfree := Blk.free r8 (2 + j))
        | fail)
      have gs := gb_set w8 q (2 + j) none (.int .i64 (v : Nat))
      have r9 := part_store r8 v HV2.out
      go_roundw
      case rel => exact ⟨j + 1, by omega, by go_num, r9, Blk.keep b8 gs (ne_some hzq), Blk.keep m8 gs (ne_some (fun e => hpq e.symm)), Blk.keep x8 gs (ne_some hxq), gb_step gg8 gs hwq⟩
      case measure => simp [intOf]; omega
    · obtain rfl : j = 8 := by omega
      rw [part_all] at r1
      go_wp2_with (first
        | ((with_reducible refine ld 3 q (readR l) (read_len l) r1 ?_ ?_); rfl)
        | (refine wpList_store_row rfl 25 (.tmp 2) (.tmp 26) rfl w.heap.size (rootC (readR l)).toArray rfl rfl 25 _ b1 (root_info _ (read_len l)) (root_size _ (read_len l)) (root_one _) ?_)
        | fail)
      refine bodyPost_ret (results_c1 rfl _ _ _ (readR l) rfl (set_root b1 _) (read_len l)) rfl ⟨rfl, gb_step g1 (gb_setRow _ _ _) (Nat.le_refl _)⟩
end Go.Proofs.YtckkbcgolphajaaDoor
