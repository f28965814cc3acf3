/-
  RootBack: a root comes back from its sector; and bytes that are a root's are those of that root: what the statement's function answers; condition: the draft's numbers fit.
-/
import Derived.Test.YtckkbcgolphajaaDoorQk
namespace Go.Proofs.YtckkbcgolphajaaDoor
open Go.RowKit

theorem draft_info (e s odd : Nat) (cs : List Nat) (h : cs.length = 8) : (Tryd.prog.info? 29).map (·.size) = some (draftC e s odd cs).toArray.size := by
  rw [List.size_toArray, show (draftC e s odd cs).length = 11 by simp [draftC, h]]; kernel_rfl
/-- A draft's call, behind a frame. -/
theorem some_root {e s odd : Nat} {cs : List Nat} (hf : FitD e s odd cs) (C : Array Value) (hC : (draftC e s odd cs).toArray = C) (W : World) : Calls Tryd.prog 9 #[.agg C] W fun e w' => ∃ r : Rt, Fit r ∧ e = .returned (.agg (rootC r).toArray) ∧ W.grownBy w' none := by
  rw [← hC]; exact drafted_any e s odd cs hf W
theorem two_new (w : World) (C : Array Value) (x y : Value) : Blk ((w.alloc (.cells C 29)).alloc (.cells #[x, y] 41)) (w.heap.size + 1) 41 #[x, y] := by
  rw [← World.size_alloc w (.cells C 29)]; exact Blk.mk _ _ _
theorem good_fit {r : Rt} (h : Good r) : Fit r := by
  obtain ⟨h1, h2, h3⟩ := h
  refine ⟨h2, h3, ?_, fun i hi => ?_⟩
  · have := h1.2.1; have := h1.2.2.1; omega
  · have := may_chunk h1 i hi; omega
set_option maxRecDepth 100000 in
set_option maxHeartbeats 4000000 in
theorem back_any (e s odd : Nat) (cs : List Nat) (hf : FitD e s odd cs) (a b : UInt8) (w : World) (hPl : Pl w) : Calls Tryd.prog 5 #[.agg (draftC e s odd cs).toArray, .agg #[.int .u8 (a.toNat : Nat), .int .u8 (b.toNat : Nat)]] w (TrueGot w) := by
  have HDI := Lib.hid (draft_info e s odd cs hf.2.2.2.1)
  obtain ⟨C, hC⟩ : ∃ C, (draftC e s odd cs).toArray = C := ⟨_, rfl⟩
  have HDr := Lib.hid (fun W => some_root hf C hC W)
  rw [hC] at HDI ⊢
  clear hC hf
  have HPl := Lib.hid hPl
  clear hPl
  have HWk := Lib.hid (fun W (g : w.grownBy W none) => works_any W (HPl.out.keep0 g))
  unfold TrueGot at HWk
  go_enter Tryd.func5, Tryd.ntmps5
  go_wp2_with (first
    | (go_at_call 16; (with_reducible refine (HWk.out _ (gb_trans (gb_alloc _ _ none) (gb_alloc _ _ none))).mono ?_); rintro e v1 ⟨rfl, g1⟩; have d0 := Blk.keep0 (Blk.keep0 (Blk.mk w 29 C) (gb_alloc _ (.cells #[.int .u8 (a.toNat : Nat), .int .u8 (b.toNat : Nat)] 41) none)) g1; have t0 := g1.cell (Blk.cell (two_new w C (.int .u8 (a.toNat : Nat)) (.int .u8 (b.toNat : Nat))) 0 rfl) (by simp); have t1 := g1.cell (Blk.cell (two_new w C (.int .u8 (a.toNat : Nat)) (.int .u8 (b.toNat : Nat))) 1 rfl) (by simp); have gg := gb_trans (gb_trans (gb_alloc w (.cells C 29) none) (gb_alloc _ _ none)) g1)
    | (refine wpList_load_row rfl 29 (.tmp 2) rfl w.heap.size rfl 29 C (0, 0) _ d0 Tryd.underlying29 rfl HDI.out ?_)
    | (go_at_call 9; (with_reducible refine (HDr.out _).mono ?_); rintro e v2 ⟨r, hr, rfl, g2⟩; have d0 := Blk.keep0 d0 g2; have t0 := g2.cell t0 (by simp); have t1 := g2.cell t1 (by simp); have gg := gb_trans gg g2;)
    | ((with_reducible refine stN 5 17 r hr.len ?_ ?_ ?_); rfl; rfl; have qa : RB (v2.alloc (.cells (rootC r).toArray 25)) v2.heap.size r := Blk.mk v2 _ _; have t0 := (gb_alloc v2 (.cells (rootC r).toArray 25) none).cell t0 (by simp); have t1 := (gb_alloc v2 (.cells (rootC r).toArray 25) none).cell t1 (by simp); have gg := gb_trans gg (gb_alloc v2 (.cells (rootC r).toArray 25) none); generalize v2.alloc (.cells (rootC r).toArray 25) = v3 at t0 t1 qa gg ⊢)
    | ((with_reducible refine ld 5 (v2.heap.size) r hr.len qa ?_ ?_); rfl)
    | fail)
  by_cases hm : MayR r
  · have HP := Lib.hid (fun W (g : w.grownBy W none) => put_b r W (HPl.out.keep0 g) hr)
    rw [show putC r = 0 from if_pos hm] at HP
    have HG := Lib.hid (fun W (g : w.grownBy W none) => get_any (putB r) W (HPl.out.keep0 g))
    rw [show getF (putB r).data.toList = (r, 0) from by rw [putB_list]; unfold putS; rw [if_pos hm]; exact get_put r hm hr.1 hr.2.1] at HG
    have HT := Lib.hid (fun W => turned_any (putB r) W a b (by have := putB_size r hr.1; omega))
    have HU := Lib.hid (fun W (g : w.grownBy W none) => get_any (turnB (putB r) a b) W (HPl.out.keep0 g))
    have hS : (putB r).size = 256 := by show (putS r).toArray.size = 256; rw [List.size_toArray]; unfold putS; rw [if_pos hm, putL_length r hr.1]
    unfold RootGot RV at HG HU
    unfold RV at HP
    generalize putB r = S at *
    generalize turnB S a b = u at *
    have he := fun W => equal_roots r r hr.1 hr.1 W
    have hsame : sameR r r = true := (sameR_iff r r hr.1 hr.1).2 rfl
    have hg := root_guard
    refine (HP.out v3 gg).mono ?_
    rintro e v4 ⟨rfl, g4⟩
    have t0 := g4.cell t0 (by simp)
    have t1 := g4.cell t1 (by simp)
    have qa := RB.keep0 qa g4
    have gg := gb_trans gg g4
    by_cases hn : (getF u.data.toList).2 = 0
    · obtain ⟨hy, hyp⟩ := get_good _ hn
      obtain ⟨y, hye⟩ : ∃ y, (getF u.data.toList).1 = y := ⟨_, rfl⟩
      rw [hye] at hy hyp
      rw [hn, hye] at HU
      have HY := Lib.hid (fun W (g : w.grownBy W none) => put_b y W (HPl.out.keep0 g) (good_fit hy))
      rw [show putC y = 0 from if_pos hy.1, show putB y = u from list_eq (by rw [putB_list]; unfold putS; rw [if_pos hy.1, hyp])] at HY
      unfold RV at HY
      clear hye hyp hn
      go_wp2_with (first
        | (go_at_call 14; (with_reducible refine (HG.out _ gg).mono ?_); rintro e v5 ⟨rfl, g5⟩; have t0 := g5.cell t0 (by simp); have t1 := g5.cell t1 (by simp); have qa := RB.keep0 qa g5; have gg := gb_trans gg g5;)
        | ((with_reducible refine stN 8 34 r hr.len ?_ ?_ ?_); rfl; rfl; have qb : RB (v5.alloc (.cells (rootC r).toArray 25)) v5.heap.size r := Blk.mk v5 _ _; have t0 := (gb_alloc v5 (.cells (rootC r).toArray 25) none).cell t0 (by simp); have t1 := (gb_alloc v5 (.cells (rootC r).toArray 25) none).cell t1 (by simp); have qa := RB.keep0 qa (gb_alloc v5 (.cells (rootC r).toArray 25) none); have gg := gb_trans gg (gb_alloc v5 (.cells (rootC r).toArray 25) none); generalize v5.alloc (.cells (rootC r).toArray 25) = v6 at t0 t1 qa qb gg ⊢)
        | ((with_reducible refine ldG 8 (v5.heap.size) r hr.len qb ?_ ?_ ?_); rfl; rfl)
        | ((with_reducible refine ldG 5 (v2.heap.size) r hr.len qa ?_ ?_ ?_); rfl; rfl)
        | (go_at_call 17; (with_reducible refine (HT.out _).mono ?_); rintro e v7 ⟨rfl, g7⟩; have t0 := g7.cell t0 (by simp); have t1 := g7.cell t1 (by simp); have gg := gb_trans gg g7;)
        | (go_at_call 14; (with_reducible refine (HU.out _ gg).mono ?_); rintro e v8 ⟨rfl, g8⟩; have t0 := g8.cell t0 (by simp); have t1 := g8.cell t1 (by simp); have gg := gb_trans gg g8;)
        | ((with_reducible refine stN 10 56 y hy.l8 ?_ ?_ ?_); rfl; rfl; have qc : RB (v8.alloc (.cells (rootC y).toArray 25)) v8.heap.size y := Blk.mk v8 _ _; have t0 := (gb_alloc v8 (.cells (rootC y).toArray 25) none).cell t0 (by simp); have t1 := (gb_alloc v8 (.cells (rootC y).toArray 25) none).cell t1 (by simp); have gg := gb_trans gg (gb_alloc v8 (.cells (rootC y).toArray 25) none); generalize v8.alloc (.cells (rootC y).toArray 25) = v9 at t0 t1 qc gg ⊢)
        | ((with_reducible refine ld 10 (v8.heap.size) y hy.l8 qc ?_ ?_); rfl)
        | (go_at_call 10; (with_reducible refine (HY.out _ gg).mono ?_); rintro e v10 ⟨rfl, g10⟩; have t0 := g10.cell t0 (by simp); have t1 := g10.cell t1 (by simp); have gg := gb_trans gg g10;)
        | (go_at_call 17; (with_reducible refine (HT.out _).mono ?_); rintro e v11 ⟨rfl, g11⟩; have t0 := g11.cell t0 (by simp); have t1 := g11.cell t1 (by simp); have gg := gb_trans gg g11;)
        | fail)
      go_ret
      exact ⟨rfl, gg⟩
    · have hz : (getF u.data.toList).1 = zeroR := by
        rcases get_cases u.data.toList with h | h | h
        · exact absurd h hn
        · rw [h]
        · rw [h.1]
      obtain ⟨n, hne⟩ : ∃ n, (getF u.data.toList).2 = n := ⟨_, rfl⟩
      rw [hz, hne] at HU
      rw [hne] at hn
      have hn1 : ((n : Int) != 0) = true := by simpa using hn
      have hz2 : ∀ W, (Op.equalIn 10000 25 (.agg (rootC zeroR).toArray) (.agg #[.int .u64 0, .int .i64 0, .int .i64 0, .int .i64 0, .int .i64 0, .int .i64 0, .int .i64 0, .int .i64 0, .int .i64 0, .int .i64 0])).run Tryd.prog W = .ok true W := fun W => equal_roots zeroR zeroR rfl rfl W
      clear hz hne hn
      go_wp2_with (first
        | (go_at_call 14; (with_reducible refine (HG.out _ gg).mono ?_); rintro e v5 ⟨rfl, g5⟩; have t0 := g5.cell t0 (by simp); have t1 := g5.cell t1 (by simp); have qa := RB.keep0 qa g5; have gg := gb_trans gg g5;)
        | ((with_reducible refine stN 8 34 r hr.len ?_ ?_ ?_); rfl; rfl; have qb : RB (v5.alloc (.cells (rootC r).toArray 25)) v5.heap.size r := Blk.mk v5 _ _; have t0 := (gb_alloc v5 (.cells (rootC r).toArray 25) none).cell t0 (by simp); have t1 := (gb_alloc v5 (.cells (rootC r).toArray 25) none).cell t1 (by simp); have qa := RB.keep0 qa (gb_alloc v5 (.cells (rootC r).toArray 25) none); have gg := gb_trans gg (gb_alloc v5 (.cells (rootC r).toArray 25) none); generalize v5.alloc (.cells (rootC r).toArray 25) = v6 at t0 t1 qa qb gg ⊢)
        | ((with_reducible refine ldG 8 (v5.heap.size) r hr.len qb ?_ ?_ ?_); rfl; rfl)
        | ((with_reducible refine ldG 5 (v2.heap.size) r hr.len qa ?_ ?_ ?_); rfl; rfl)
        | (go_at_call 17; (with_reducible refine (HT.out _).mono ?_); rintro e v7 ⟨rfl, g7⟩; have t0 := g7.cell t0 (by simp); have t1 := g7.cell t1 (by simp); have gg := gb_trans gg g7;)
        | (go_at_call 14; (with_reducible refine (HU.out _ gg).mono ?_); rintro e v8 ⟨rfl, g8⟩; have t0 := g8.cell t0 (by simp); have t1 := g8.cell t1 (by simp); have gg := gb_trans gg g8;)
        | ((with_reducible refine stN 10 56 zeroR zero_len ?_ ?_ ?_); rfl; rfl; have qc : RB (v8.alloc (.cells (rootC zeroR).toArray 25)) v8.heap.size zeroR := Blk.mk v8 _ _; have t0 := (gb_alloc v8 (.cells (rootC zeroR).toArray 25) none).cell t0 (by simp); have t1 := (gb_alloc v8 (.cells (rootC zeroR).toArray 25) none).cell t1 (by simp); have gg := gb_trans gg (gb_alloc v8 (.cells (rootC zeroR).toArray 25) none); generalize v8.alloc (.cells (rootC zeroR).toArray 25) = v9 at t0 t1 qc gg ⊢)
        | ((with_reducible refine ld 10 (v8.heap.size) zeroR zero_len qc ?_ ?_); rfl)
        | fail)
      go_ret
      exact ⟨rfl, gg⟩
  · have HP := Lib.hid (fun W (g : w.grownBy W none) => put_b r W (HPl.out.keep0 g) hr)
    rw [show putC r = 2 from if_neg hm, show putB r = ⟨#[]⟩ from list_eq (by rw [putB_list]; unfold putS; rw [if_neg hm])] at HP
    unfold RV at HP
    refine (HP.out v3 gg).mono ?_
    rintro e v4 ⟨rfl, g4⟩
    have gg := gb_trans gg g4
    go_wp2
    go_ret
    exact ⟨rfl, gg⟩
end Go.Proofs.YtckkbcgolphajaaDoor
