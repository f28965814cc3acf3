/-
  What the program's own Pick and Next answer, over this seat's translation; conditions: the table of places lies as the program's text lays it; for Next that the root's numbers fit.
-/
import Derived.Test.YtckkbcgolphajaaDoorQz
namespace Go.Proofs.YtckkbcgolphajaaDoor
open Go.RowKit

set_option maxRecDepth 100000 in
set_option maxHeartbeats 2000000 in
theorem pick_gt (a b : ByteArray) (x y : Rt) (n m : Nat) (w : World) (hP : Pl w) (ha : getF a.data.toList = (x, n)) (hb : getF b.data.toList = (y, m)) (hlx : x.cs.length = 8) (hly : y.cs.length = 8) (hgt : (x.e : Int) < (y.e : Int)) :
    Calls Tryd.prog 18 #[.string a, .string b] w (PickGot w (y, 1, 0)) := by
  have HA := Lib.hid (fun W (h : Pl W) => get_any a W h)
  have HB := Lib.hid (fun W (h : Pl W) => get_any b W h)
  rw [ha] at HA
  rw [hb] at HB
  have HP := Lib.hid hP
  unfold RootGot RV at HA HB
  have HLx := Lib.hid hlx
  have HLy := Lib.hid hly
  have g0 := gb_alloc w (.cells #[.int .u64 0, .int .i64 0, .int .i64 0, .int .i64 0, .int .i64 0, .int .i64 0, .int .i64 0, .int .i64 0, .int .i64 0, .int .i64 0] 25) none
  have rz : RB (w.alloc (.cells #[.int .u64 0, .int .i64 0, .int .i64 0, .int .i64 0, .int .i64 0, .int .i64 0, .int .i64 0, .int .i64 0, .int .i64 0, .int .i64 0] 25)) w.heap.size zeroR := Blk.mk w _ _
  clear ha hb hP hlx hly
  go_enter Tryd.func18, Tryd.ntmps18
  go_wp2_with (first
    | (go_at_call 14; (with_reducible refine (HA.out _ (HP.out.keep0 g0)).mono ?_); rintro e w1 ⟨rfl, g1⟩; have rz1 := RB.keep0 rz g1; have gz1 := gb_trans g0 g1)
    | ((with_reducible refine stN 7 14 x HLx.out ?_ ?_ ?_); rfl; rfl; have rx : RB (w1.alloc (.cells (rootC x).toArray 25)) w1.heap.size x := Blk.mk w1 _ _; have rz2 := RB.keep0 rz1 (gb_alloc w1 (.cells (rootC x).toArray 25) none); have gz2 := gb_trans gz1 (gb_alloc w1 (.cells (rootC x).toArray 25) none); generalize w1.alloc (.cells (rootC x).toArray 25) = W1 at rx rz2 gz2 ⊢)
    | (go_at_call 14; (with_reducible refine (HB.out _ (HP.out.keep0 gz2)).mono ?_); rintro e w2 ⟨rfl, g2⟩; have rx3 := rx.keep0 g2; have rz3 := rz2.keep0 g2; have gz3 := gb_trans gz2 g2)
    | ((with_reducible refine stN 9 19 y HLy.out ?_ ?_ ?_); rfl; rfl; have ry : RB (w2.alloc (.cells (rootC y).toArray 25)) w2.heap.size y := Blk.mk w2 _ _; have rx4 := RB.keep0 rx3 (gb_alloc w2 (.cells (rootC y).toArray 25) none); have rz4 := RB.keep0 rz3 (gb_alloc w2 (.cells (rootC y).toArray 25) none); have gz4 := gb_trans gz3 (gb_alloc w2 (.cells (rootC y).toArray 25) none); generalize w2.alloc (.cells (rootC y).toArray 25) = W2 at ry rx4 rz4 gz4 ⊢; have cx := rx4.epoch; have cy := ry.epoch)
    | ((with_reducible refine ld 9 (w2.heap.size) y HLy.out ry ?_ ?_); rfl)
    | (refine wpList_store_row rfl 25 (.tmp 4) (.tmp 27) rfl w.heap.size (rootC y).toArray rfl rfl 25 _ rz4 (root_info _ HLy.out) (root_size _ HLy.out) (root_one _) ?_)
    | fail)
  refine bodyPost_ret (results_ctt rfl _ _ _ y rfl (set_root rz4 _) HLy.out) rfl ⟨rfl, gb_step gz4 (gb_setRow _ _ _) (Nat.le_refl _)⟩
set_option maxRecDepth 100000 in
set_option maxHeartbeats 2000000 in
theorem pick_ok (a b : ByteArray) (x y : Rt) (m : Nat) (w : World) (hP : Pl w) (ha : getF a.data.toList = (x, 0)) (hb : getF b.data.toList = (y, m)) (hlx : x.cs.length = 8) (hly : y.cs.length = 8) (hle : ¬ (x.e : Int) < (y.e : Int)) :
    Calls Tryd.prog 18 #[.string a, .string b] w (PickGot w (x, 0, 0)) := by
  have HA := Lib.hid (fun W (h : Pl W) => get_any a W h)
  have HB := Lib.hid (fun W (h : Pl W) => get_any b W h)
  rw [ha] at HA
  rw [hb] at HB
  have HP := Lib.hid hP
  unfold RootGot RV at HA HB
  have HLx := Lib.hid hlx
  have HLy := Lib.hid hly
  have g0 := gb_alloc w (.cells #[.int .u64 0, .int .i64 0, .int .i64 0, .int .i64 0, .int .i64 0, .int .i64 0, .int .i64 0, .int .i64 0, .int .i64 0, .int .i64 0] 25) none
  have rz : RB (w.alloc (.cells #[.int .u64 0, .int .i64 0, .int .i64 0, .int .i64 0, .int .i64 0, .int .i64 0, .int .i64 0, .int .i64 0, .int .i64 0, .int .i64 0] 25)) w.heap.size zeroR := Blk.mk w _ _
  clear ha hb hP hlx hly
  go_enter Tryd.func18, Tryd.ntmps18
  go_wp2_with (first
    | (go_at_call 14; (with_reducible refine (HA.out _ (HP.out.keep0 g0)).mono ?_); rintro e w1 ⟨rfl, g1⟩; have rz1 := RB.keep0 rz g1; have gz1 := gb_trans g0 g1)
    | ((with_reducible refine stN 7 14 x HLx.out ?_ ?_ ?_); rfl; rfl; have rx : RB (w1.alloc (.cells (rootC x).toArray 25)) w1.heap.size x := Blk.mk w1 _ _; have rz2 := RB.keep0 rz1 (gb_alloc w1 (.cells (rootC x).toArray 25) none); have gz2 := gb_trans gz1 (gb_alloc w1 (.cells (rootC x).toArray 25) none); generalize w1.alloc (.cells (rootC x).toArray 25) = W1 at rx rz2 gz2 ⊢)
    | (go_at_call 14; (with_reducible refine (HB.out _ (HP.out.keep0 gz2)).mono ?_); rintro e w2 ⟨rfl, g2⟩; have rx3 := rx.keep0 g2; have rz3 := rz2.keep0 g2; have gz3 := gb_trans gz2 g2)
    | ((with_reducible refine stN 9 19 y HLy.out ?_ ?_ ?_); rfl; rfl; have ry : RB (w2.alloc (.cells (rootC y).toArray 25)) w2.heap.size y := Blk.mk w2 _ _; have rx4 := RB.keep0 rx3 (gb_alloc w2 (.cells (rootC y).toArray 25) none); have rz4 := RB.keep0 rz3 (gb_alloc w2 (.cells (rootC y).toArray 25) none); have gz4 := gb_trans gz3 (gb_alloc w2 (.cells (rootC y).toArray 25) none); generalize w2.alloc (.cells (rootC y).toArray 25) = W2 at ry rx4 rz4 gz4 ⊢; have cx := rx4.epoch; have cy := ry.epoch)
    | ((with_reducible refine ld 7 (w1.heap.size) x HLx.out rx4 ?_ ?_); rfl)
    | (refine wpList_store_row rfl 25 (.tmp 4) (.tmp 31) rfl w.heap.size (rootC x).toArray rfl rfl 25 _ rz4 (root_info _ HLx.out) (root_size _ HLx.out) (root_one _) ?_)
    | fail)
  refine bodyPost_ret (results_ctt rfl _ _ _ x rfl (set_root rz4 _) HLx.out) rfl ⟨rfl, gb_step gz4 (gb_setRow _ _ _) (Nat.le_refl _)⟩
set_option maxRecDepth 100000 in
set_option maxHeartbeats 2000000 in
theorem pick_b1 (a b : ByteArray) (x y : Rt) (m : Nat) (w : World) (hP : Pl w) (ha : getF a.data.toList = (x, 9)) (hb : getF b.data.toList = (y, m)) (hlx : x.cs.length = 8) (hly : y.cs.length = 8) (hle : ¬ (x.e : Int) < (y.e : Int)) :
    Calls Tryd.prog 18 #[.string a, .string b] w (PickGot w (zeroR, -1, 9)) := by
  have HA := Lib.hid (fun W (h : Pl W) => get_any a W h)
  have HB := Lib.hid (fun W (h : Pl W) => get_any b W h)
  rw [ha] at HA
  rw [hb] at HB
  have HP := Lib.hid hP
  unfold RootGot RV at HA HB
  have HLx := Lib.hid hlx
  have HLy := Lib.hid hly
  have g0 := gb_alloc w (.cells #[.int .u64 0, .int .i64 0, .int .i64 0, .int .i64 0, .int .i64 0, .int .i64 0, .int .i64 0, .int .i64 0, .int .i64 0, .int .i64 0] 25) none
  have rz : RB (w.alloc (.cells #[.int .u64 0, .int .i64 0, .int .i64 0, .int .i64 0, .int .i64 0, .int .i64 0, .int .i64 0, .int .i64 0, .int .i64 0, .int .i64 0] 25)) w.heap.size zeroR := Blk.mk w _ _
  clear ha hb hP hlx hly
  go_enter Tryd.func18, Tryd.ntmps18
  go_wp2_with (first
    | (go_at_call 14; (with_reducible refine (HA.out _ (HP.out.keep0 g0)).mono ?_); rintro e w1 ⟨rfl, g1⟩; have rz1 := RB.keep0 rz g1; have gz1 := gb_trans g0 g1)
    | ((with_reducible refine stN 7 14 x HLx.out ?_ ?_ ?_); rfl; rfl; have rx : RB (w1.alloc (.cells (rootC x).toArray 25)) w1.heap.size x := Blk.mk w1 _ _; have rz2 := RB.keep0 rz1 (gb_alloc w1 (.cells (rootC x).toArray 25) none); have gz2 := gb_trans gz1 (gb_alloc w1 (.cells (rootC x).toArray 25) none); generalize w1.alloc (.cells (rootC x).toArray 25) = W1 at rx rz2 gz2 ⊢)
    | (go_at_call 14; (with_reducible refine (HB.out _ (HP.out.keep0 gz2)).mono ?_); rintro e w2 ⟨rfl, g2⟩; have rx3 := rx.keep0 g2; have rz3 := rz2.keep0 g2; have gz3 := gb_trans gz2 g2)
    | ((with_reducible refine stN 9 19 y HLy.out ?_ ?_ ?_); rfl; rfl; have ry : RB (w2.alloc (.cells (rootC y).toArray 25)) w2.heap.size y := Blk.mk w2 _ _; have rx4 := RB.keep0 rx3 (gb_alloc w2 (.cells (rootC y).toArray 25) none); have rz4 := RB.keep0 rz3 (gb_alloc w2 (.cells (rootC y).toArray 25) none); have gz4 := gb_trans gz3 (gb_alloc w2 (.cells (rootC y).toArray 25) none); generalize w2.alloc (.cells (rootC y).toArray 25) = W2 at ry rx4 rz4 gz4 ⊢; have cx := rx4.epoch; have cy := ry.epoch)
    | (refine wpList_store_row rfl 25 (.tmp 4) (.tmp 39) rfl w.heap.size (rootC zeroR).toArray rfl rfl 25 _ rz4 (root_info _ zero_len) rfl (root_one _) ?_)
    | fail)
  refine bodyPost_ret (results_ctt rfl _ _ _ zeroR rfl (set_root rz4 _) zero_len) rfl ⟨rfl, gb_step gz4 (gb_setRow _ _ _) (Nat.le_refl _)⟩
set_option maxRecDepth 100000 in
set_option maxHeartbeats 2000000 in
theorem pick_b2 (a b : ByteArray) (x y : Rt) (w : World) (hP : Pl w) (ha : getF a.data.toList = (x, 5)) (hb : getF b.data.toList = (y, 9)) (hlx : x.cs.length = 8) (hly : y.cs.length = 8) (hle : ¬ (x.e : Int) < (y.e : Int)) :
    Calls Tryd.prog 18 #[.string a, .string b] w (PickGot w (zeroR, -1, 9)) := by
  have HA := Lib.hid (fun W (h : Pl W) => get_any a W h)
  have HB := Lib.hid (fun W (h : Pl W) => get_any b W h)
  rw [ha] at HA
  rw [hb] at HB
  have HP := Lib.hid hP
  unfold RootGot RV at HA HB
  have HLx := Lib.hid hlx
  have HLy := Lib.hid hly
  have g0 := gb_alloc w (.cells #[.int .u64 0, .int .i64 0, .int .i64 0, .int .i64 0, .int .i64 0, .int .i64 0, .int .i64 0, .int .i64 0, .int .i64 0, .int .i64 0] 25) none
  have rz : RB (w.alloc (.cells #[.int .u64 0, .int .i64 0, .int .i64 0, .int .i64 0, .int .i64 0, .int .i64 0, .int .i64 0, .int .i64 0, .int .i64 0, .int .i64 0] 25)) w.heap.size zeroR := Blk.mk w _ _
  clear ha hb hP hlx hly
  go_enter Tryd.func18, Tryd.ntmps18
  go_wp2_with (first
    | (go_at_call 14; (with_reducible refine (HA.out _ (HP.out.keep0 g0)).mono ?_); rintro e w1 ⟨rfl, g1⟩; have rz1 := RB.keep0 rz g1; have gz1 := gb_trans g0 g1)
    | ((with_reducible refine stN 7 14 x HLx.out ?_ ?_ ?_); rfl; rfl; have rx : RB (w1.alloc (.cells (rootC x).toArray 25)) w1.heap.size x := Blk.mk w1 _ _; have rz2 := RB.keep0 rz1 (gb_alloc w1 (.cells (rootC x).toArray 25) none); have gz2 := gb_trans gz1 (gb_alloc w1 (.cells (rootC x).toArray 25) none); generalize w1.alloc (.cells (rootC x).toArray 25) = W1 at rx rz2 gz2 ⊢)
    | (go_at_call 14; (with_reducible refine (HB.out _ (HP.out.keep0 gz2)).mono ?_); rintro e w2 ⟨rfl, g2⟩; have rx3 := rx.keep0 g2; have rz3 := rz2.keep0 g2; have gz3 := gb_trans gz2 g2)
    | ((with_reducible refine stN 9 19 y HLy.out ?_ ?_ ?_); rfl; rfl; have ry : RB (w2.alloc (.cells (rootC y).toArray 25)) w2.heap.size y := Blk.mk w2 _ _; have rx4 := RB.keep0 rx3 (gb_alloc w2 (.cells (rootC y).toArray 25) none); have rz4 := RB.keep0 rz3 (gb_alloc w2 (.cells (rootC y).toArray 25) none); have gz4 := gb_trans gz3 (gb_alloc w2 (.cells (rootC y).toArray 25) none); generalize w2.alloc (.cells (rootC y).toArray 25) = W2 at ry rx4 rz4 gz4 ⊢; have cx := rx4.epoch; have cy := ry.epoch)
    | (refine wpList_store_row rfl 25 (.tmp 4) (.tmp 39) rfl w.heap.size (rootC zeroR).toArray rfl rfl 25 _ rz4 (root_info _ zero_len) rfl (root_one _) ?_)
    | fail)
  refine bodyPost_ret (results_ctt rfl _ _ _ zeroR rfl (set_root rz4 _) zero_len) rfl ⟨rfl, gb_step gz4 (gb_setRow _ _ _) (Nat.le_refl _)⟩
set_option maxRecDepth 100000 in
set_option maxHeartbeats 2000000 in
theorem pick_br (a b : ByteArray) (x y : Rt) (w : World) (hP : Pl w) (ha : getF a.data.toList = (x, 5)) (hb : getF b.data.toList = (y, 5)) (hlx : x.cs.length = 8) (hly : y.cs.length = 8) (hle : ¬ (x.e : Int) < (y.e : Int)) :
    Calls Tryd.prog 18 #[.string a, .string b] w (PickGot w (zeroR, -1, 29)) := by
  have HA := Lib.hid (fun W (h : Pl W) => get_any a W h)
  have HB := Lib.hid (fun W (h : Pl W) => get_any b W h)
  rw [ha] at HA
  rw [hb] at HB
  have HP := Lib.hid hP
  unfold RootGot RV at HA HB
  have HLx := Lib.hid hlx
  have HLy := Lib.hid hly
  have g0 := gb_alloc w (.cells #[.int .u64 0, .int .i64 0, .int .i64 0, .int .i64 0, .int .i64 0, .int .i64 0, .int .i64 0, .int .i64 0, .int .i64 0, .int .i64 0] 25) none
  have rz : RB (w.alloc (.cells #[.int .u64 0, .int .i64 0, .int .i64 0, .int .i64 0, .int .i64 0, .int .i64 0, .int .i64 0, .int .i64 0, .int .i64 0, .int .i64 0] 25)) w.heap.size zeroR := Blk.mk w _ _
  clear ha hb hP hlx hly
  go_enter Tryd.func18, Tryd.ntmps18
  go_wp2_with (first
    | (go_at_call 14; (with_reducible refine (HA.out _ (HP.out.keep0 g0)).mono ?_); rintro e w1 ⟨rfl, g1⟩; have rz1 := RB.keep0 rz g1; have gz1 := gb_trans g0 g1)
    | ((with_reducible refine stN 7 14 x HLx.out ?_ ?_ ?_); rfl; rfl; have rx : RB (w1.alloc (.cells (rootC x).toArray 25)) w1.heap.size x := Blk.mk w1 _ _; have rz2 := RB.keep0 rz1 (gb_alloc w1 (.cells (rootC x).toArray 25) none); have gz2 := gb_trans gz1 (gb_alloc w1 (.cells (rootC x).toArray 25) none); generalize w1.alloc (.cells (rootC x).toArray 25) = W1 at rx rz2 gz2 ⊢)
    | (go_at_call 14; (with_reducible refine (HB.out _ (HP.out.keep0 gz2)).mono ?_); rintro e w2 ⟨rfl, g2⟩; have rx3 := rx.keep0 g2; have rz3 := rz2.keep0 g2; have gz3 := gb_trans gz2 g2)
    | ((with_reducible refine stN 9 19 y HLy.out ?_ ?_ ?_); rfl; rfl; have ry : RB (w2.alloc (.cells (rootC y).toArray 25)) w2.heap.size y := Blk.mk w2 _ _; have rx4 := RB.keep0 rx3 (gb_alloc w2 (.cells (rootC y).toArray 25) none); have rz4 := RB.keep0 rz3 (gb_alloc w2 (.cells (rootC y).toArray 25) none); have gz4 := gb_trans gz3 (gb_alloc w2 (.cells (rootC y).toArray 25) none); generalize w2.alloc (.cells (rootC y).toArray 25) = W2 at ry rx4 rz4 gz4 ⊢; have cx := rx4.epoch; have cy := ry.epoch)
    | (refine wpList_store_row rfl 25 (.tmp 4) (.tmp 40) rfl w.heap.size (rootC zeroR).toArray rfl rfl 25 _ rz4 (root_info _ zero_len) rfl (root_one _) ?_)
    | fail)
  refine bodyPost_ret (results_ctt rfl _ _ _ zeroR rfl (set_root rz4 _) zero_len) rfl ⟨rfl, gb_step gz4 (gb_setRow _ _ _) (Nat.le_refl _)⟩
theorem get_epoch (l : List UInt8) (x : Rt) (n : Nat) (h : getF l = (x, n)) : (n = 0 → x.e ≠ 0) ∧ (n ≠ 0 → x.e = 0) := by
  refine ⟨fun h0 => ?_, fun h0 => ?_⟩
  · have := (get_ok l (by rw [h]; exact h0)).1.1
    rw [h] at this
    exact this
  · rcases get_cases l with h1 | h1 | h1
    · rw [h] at h1; exact absurd h1 h0
    · rw [h] at h1; cases h1; rfl
    · have h1 := h1.1; rw [h] at h1; cases h1; rfl
theorem pick_any (a b : ByteArray) (w : World) (hP : Pl w) : Calls Tryd.prog 18 #[.string a, .string b] w (PickGot w (pickF a.data.toList b.data.toList)) := by
  obtain ⟨x, n, h1, h2, _, h4⟩ := get_parts a.data.toList
  obtain ⟨y, m, k1, k2, _, k4⟩ := get_parts b.data.toList
  obtain ⟨hx0, hx1⟩ := get_epoch _ _ _ h1
  obtain ⟨hy0, hy1⟩ := get_epoch _ _ _ k1
  by_cases hgt : x.e < y.e
  · have hm : m = 0 := by
      rcases Nat.eq_zero_or_pos m with h | h
      · exact h
      · have := hy1 (by omega); omega
    subst hm
    rw [show pickF a.data.toList b.data.toList = (y, 1, 0) by unfold pickF; rw [h1, k1]; simp [hgt]]
    exact pick_gt a b x y n 0 w hP h1 k1 h2 k2 (by omega)
  · have hle : ¬ (x.e : Int) < (y.e : Int) := by omega
    rcases h4 with rfl | rfl | rfl
    · rw [show pickF a.data.toList b.data.toList = (x, 0, 0) by unfold pickF; rw [h1, k1]; simp; omega]
      exact pick_ok a b x y m w hP h1 k1 h2 k2 hle
    · have hxe := hx1 (by decide)
      have hm : m ≠ 0 := fun h => by have := hy0 h; omega
      rcases k4 with rfl | rfl | rfl
      · exact absurd rfl hm
      · rw [show pickF a.data.toList b.data.toList = (zeroR, -1, 29) by unfold pickF; rw [h1, k1]; simp]
        exact pick_br a b x y w hP h1 k1 h2 k2 hle
      · rw [show pickF a.data.toList b.data.toList = (zeroR, -1, 9) by unfold pickF; rw [h1, k1]; simp]
        exact pick_b2 a b x y w hP h1 k1 h2 k2 hle
    · have hxe := hx1 (by decide)
      have hm : m ≠ 0 := fun h => by have := hy0 h; omega
      rw [show pickF a.data.toList b.data.toList = (zeroR, -1, 9) by unfold pickF; rw [h1, k1]; simp [hm]]
      exact pick_b1 a b x y m w hP h1 k1 h2 k2 hle
set_option maxRecDepth 100000 in
set_option maxHeartbeats 2000000 in
theorem next_any (r : Rt) (which : Int) (w : World) (hr : Fit r) : Calls Tryd.prog 12 #[RV r, .int .i64 which] w (NextGot w r which) := by
  have hl := hr.1
  have he := hr.2.1
  have HI := Lib.hid (root_info (nextR r) hl)
  have HO := Lib.hid (root_one (nextR r))
  have HS := Lib.hid (show 10 = (rootC (nextR r)).toArray.size by rw [List.size_toArray, rootC_length (nextR r) hl])
  obtain ⟨v, hv⟩ : ∃ v : Int, ((r.e : Int) + 1) % 18446744073709551616 = v := ⟨_, rfl⟩
  have hv1 : IntKind.u64.wrap ((r.e : Int) + 1) = v := by rw [← hv, IntKind.wrap_u64]
  have hv2 : v = ((r.e + 1) % 18446744073709551616 : Nat) := by rw [← hv]; omega
  have k0 : RB (w.alloc (.cells (rootC r).toArray 25)) w.heap.size r := Blk.mk w _ _
  have HL := Lib.hid hl
  unfold RV
  obtain ⟨C, hC⟩ : ∃ C, (rootC r).toArray = C := ⟨_, rfl⟩
  rw [hC] at k0 ⊢
  clear hr hl hC
  obtain ⟨w1, hw1⟩ : ∃ w1, (w.alloc (.cells C 25)).alloc (.cells #[.int .u64 0, .int .i64 0, .int .i64 0, .int .i64 0, .int .i64 0, .int .i64 0, .int .i64 0, .int .i64 0, .int .i64 0, .int .i64 0] 25) = w1 := ⟨_, rfl⟩
  have k1 : RB w1 w.heap.size r := by rw [← hw1]; exact k0.keep0 (gb_alloc _ _ none)
  have z1 : RB w1 (w.heap.size + 1) zeroR := by rw [← hw1, ← World.size_alloc w (.cells C 25)]; exact Blk.mk (w.alloc (.cells C 25)) 25 (rootC zeroR).toArray
  have g1 : w.grownBy w1 none := by rw [← hw1]; exact gb_trans (gb_alloc _ _ none) (gb_alloc _ _ none)
  have c0 := k1.epoch
  have f0 : w1.frozen? ⟨w.heap.size, 0, none⟩ = false := Blk.free k1 0
  clear k0
  have n1 := next_store k1 v hv2
  have z2 : RB (w1.setCell ⟨w.heap.size, 0, none⟩ (.int .u64 v)) (w.heap.size + 1) zeroR := Blk.keep z1 (gb_set _ _ _ _ _) (ne_some (by omega))
  have g2 : w.grownBy (w1.setCell ⟨w.heap.size, 0, none⟩ (.int .u64 v)) none := gb_step g1 (gb_set _ _ _ _ _) (Nat.le_refl _)
  have HR := Lib.hid (And.intro n1 (And.intro z2 g2))
  obtain ⟨D, hD⟩ : ∃ D, (rootC (nextR r)).toArray = D := ⟨_, rfl⟩
  have HD := Lib.hid hD
  rw [hD] at HI HO HS
  have hn : (w1.setCell ⟨w.heap.size, 0, none⟩ (.int .u64 v)).heap[w.heap.size]? = some (.cells D 25 (0, 0)) := by rw [← hD]; exact n1
  have hz : (w1.setCell ⟨w.heap.size, 0, none⟩ (.int .u64 v)).heap[w.heap.size + 1]? = some (.cells (rootC zeroR).toArray 25 (0, 0)) := z2
  obtain ⟨W2, hW⟩ : ∃ W2, w1.setCell ⟨w.heap.size, 0, none⟩ (.int .u64 v) = W2 := ⟨_, rfl⟩
  rw [hW] at hn hz HR
  clear n1 z2 g2 k1 z1 g1 hD hv2
  have hset := fun (h : RB W2 (w.heap.size + 1) zeroR) => set_root h (nextR r)
  rw [HD.out] at hset
  by_cases h1 : which = 1
  · have HW := Lib.hid (show nextW which = 0 from if_pos (Or.inl h1))
    go_enter Tryd.func12, Tryd.ntmps12
    go_wp2_with (first
      | (refine wpList_load_row rfl 25 (.tmp 2) rfl w.heap.size rfl 25 D (0, 0) _ hn Tryd.underlying25 rfl HI.out ?_)
      | (refine wpList_store_row rfl 25 (.tmp 4) (.tmp 16) rfl (w.heap.size + 1) D rfl rfl 25 _ hz HI.out HS.out HO.out ?_)
      | fail)
    refine bodyPost_ret (results_ct rfl _ _ _ (nextR r) rfl (hset HR.out.2.1) HL.out) rfl ⟨by rw [HW.out]; rfl, gb_step HR.out.2.2 (gb_setRow _ _ _) (by omega)⟩
  by_cases h2 : which = -1
  · have HW := Lib.hid (show nextW which = 0 from if_pos (Or.inr h2))
    go_enter Tryd.func12, Tryd.ntmps12
    go_wp2_with (first
      | (refine wpList_load_row rfl 25 (.tmp 2) rfl w.heap.size rfl 25 D (0, 0) _ hn Tryd.underlying25 rfl HI.out ?_)
      | (refine wpList_store_row rfl 25 (.tmp 4) (.tmp 16) rfl (w.heap.size + 1) D rfl rfl 25 _ hz HI.out HS.out HO.out ?_)
      | fail)
    refine bodyPost_ret (results_ct rfl _ _ _ (nextR r) rfl (hset HR.out.2.1) HL.out) rfl ⟨by rw [HW.out]; rfl, gb_step HR.out.2.2 (gb_setRow _ _ _) (by omega)⟩
  have HW := Lib.hid (show nextW which = 1 from if_neg (fun h => h.elim h1 h2))
  have q1 : (which == 1) = false := by simpa using h1
  have q2 : (which == -1) = false := by simpa using h2
  go_enter Tryd.func12, Tryd.ntmps12
  go_wp2_with (first
    | (refine wpList_load_row rfl 25 (.tmp 2) rfl w.heap.size rfl 25 D (0, 0) _ hn Tryd.underlying25 rfl HI.out ?_)
    | (refine wpList_store_row rfl 25 (.tmp 4) (.tmp 17) rfl (w.heap.size + 1) D rfl rfl 25 _ hz HI.out HS.out HO.out ?_)
    | fail)
  refine bodyPost_ret (results_ct rfl _ _ _ (nextR r) rfl (hset HR.out.2.1) HL.out) rfl ⟨by rw [HW.out]; rfl, gb_step HR.out.2.2 (gb_setRow _ _ _) (by omega)⟩
end Go.Proofs.YtckkbcgolphajaaDoor
