/-
  RootLays: the sector of any root, and the next one, is as the document says; and which root any bytes are: what the statement's function answers; conditions: the root's and the draft's numbers fit.
-/
import Derived.Test.YtckkbcgolphajaaDoorQn
namespace Go.Proofs.YtckkbcgolphajaaDoor
open Go.RowKit

theorem eight {cs : List Int} (h : cs.length = 8) : ∃ a b c d e f g i, cs = [a, b, c, d, e, f, g, i] := by
  match cs, h with
  | [a, b, c, d, e, f, g, i], _ => exact ⟨a, b, c, d, e, f, g, i, rfl⟩
def two (r q : Rt) : Array Value := (rootC r ++ rootC q).toArray
theorem built_two (r q : Rt) (hr : r.cs.length = 8) (hq : q.cs.length = 8) : Tryd.prog.built 31 [(0, .agg (rootC r).toArray), (1, .agg (rootC q).toArray)] = some (two r q) := by
  obtain ⟨e, n, cs⟩ := r
  obtain ⟨e', n', cs'⟩ := q
  obtain ⟨a0, a1, a2, a3, a4, a5, a6, a7, rfl⟩ := eight hr
  obtain ⟨b0, b1, b2, b3, b4, b5, b6, b7, rfl⟩ := eight hq
  kernel_rfl
theorem exec_build {P : Program} {o : Oper} {a : Act} {w : World} (t : TypeId) (parts : Array (Nat × Operand)) (ho : o.op = .build t parts) (cells : Array Value)
    (h : P.built t (parts.map fun (i, x) => (i, a.eval x)).toList = some cells) : (execOp a.eval o).run P w = .ok (.value (.agg cells)) w := by
  unfold execOp
  simp only [ho, Sem.run_bind, run_build w t _ cells h, Result.andThen_ok]
  rfl
theorem index_two (r q : Rt) (hr : r.cs.length = 8) (hq : q.cs.length = 8) (j : Nat) (hj : j < 2) (W : World) : (Instr.index 31 (.agg (two r q)) (.int .i64 (j : Nat))).run Tryd.prog W = .ok (.agg (rootC (if j = 0 then r else q)).toArray) W := by
  have h0 : (two r q).extract 0 (0 + 10) = (rootC r).toArray := by
    unfold two
    rw [List.extract_toArray]
    congr 1
    rw [List.extract_eq_take_drop, List.drop_zero, List.take_append_of_le_length (by rw [rootC_length r hr]; exact Nat.le_refl _), List.take_of_length_le (by rw [rootC_length r hr]; exact Nat.le_refl _)]
  have h1 : (two r q).extract 10 (10 + 10) = (rootC q).toArray := by
    unfold two
    rw [List.extract_toArray]
    congr 1
    rw [List.extract_eq_take_drop, List.drop_append, List.drop_eq_nil_of_le (by rw [rootC_length r hr]; exact Nat.le_refl _), rootC_length r hr, List.nil_append, Nat.sub_self, List.drop_zero, List.take_of_length_le (by rw [rootC_length q hq]; exact Nat.le_refl _)]
  have hjj : j = 0 ∨ j = 1 := by omega
  rcases hjj with rfl | rfl
  · simp [Instr.index, asIntOf, Sem.run_bind, run_underlying Tryd.underlying31, Tryd.sizeOf25, part, Tryd.isAgg25, ← h0]
  · simp [Instr.index, asIntOf, Sem.run_bind, run_underlying Tryd.underlying31, Tryd.sizeOf25, part, Tryd.isAgg25, ← h1]
set_option maxRecDepth 100000 in
set_option linter.unusedSimpArgs false in
set_option maxHeartbeats 8000000 in
theorem lays_any (r0 : Rt) (h0 : Fit r0) (e s' odd : Nat) (cs : List Nat) (hf : FitD e s' odd cs) (s : ByteArray) (w : World) (hPl : Pl w) :
    Calls Tryd.prog 3 #[.agg (rootC r0).toArray, .agg (draftC e s' odd cs).toArray, .string s] w (TrueGot w) := by
  have HDI := Lib.hid (draft_info e s' odd cs hf.2.2.2.1)
  obtain ⟨C, hC⟩ : ∃ C, (draftC e s' odd cs).toArray = C := ⟨_, rfl⟩
  have HDr := Lib.hid (fun W => some_root hf C hC W)
  rw [hC] at HDI ⊢
  clear hC hf
  have HI0 := Lib.hid (root_info r0 h0.len)
  have H0L := Lib.hid h0.len
  have H0 := Lib.hid h0
  have HPl := Lib.hid hPl
  clear hPl
  have HWk := Lib.hid (fun W (g : w.grownBy W none) => works_any W (HPl.out.keep0 g))
  unfold TrueGot at HWk
  clear h0
  go_enter Tryd.func3, Tryd.ntmps3
  obtain ⟨C0, hC0⟩ : ∃ C0, (rootC r0).toArray = C0 := ⟨_, rfl⟩
  rw [hC0]
  go_wp2
  subst hC0
  have q3 : RB ((w.alloc (.cells (rootC r0).toArray 25)).alloc (.cells C 29)) w.heap.size r0 := RB.keep0 (Blk.mk w _ _) (gb_alloc _ _ none)
  have d4 : Blk ((w.alloc (.cells (rootC r0).toArray 25)).alloc (.cells C 29)) (w.heap.size + 1) 29 C := by rw [← World.size_alloc w (.cells (rootC r0).toArray 25)]; exact Blk.mk _ _ _
  have gg := gb_trans (gb_alloc w (.cells (rootC r0).toArray 25) none) (gb_alloc _ (.cells C 29) none)
  generalize (w.alloc (.cells (rootC r0).toArray 25)).alloc (.cells C 29) = v1 at q3 d4 gg ⊢
  have Q3 := Lib.hid q3
  have D4 := Lib.hid d4
  clear q3 d4
  refine wp_region_noPanic ?_
  refine wp_region_held_drew (S := fun w' => (v1).grownBy w' none) (by kernel_rfl) (gb_drew _ _) (fun hHeld => ?_)
  have hS := gb_drew (v1) none
  have gg := gb_trans gg (gb_drew (v1) none)
  generalize (v1).drew = u0 at  gg hS hHeld ⊢
  refine wpAnyH_take (i := 0) (v := .agg (rootC r0).toArray) (List.getElem?_toArray.trans rfl) (by kernel_rfl) (by kernel_rfl) (by kernel_rfl) (fun _ _ _ h => h) (Or.inl ⟨by rfl, fun w' hSw => exec_row 25 (.tmp 3) rfl (w.heap.size) rfl 25 (rootC r0).toArray (0, 0) _ (RB.keep0 Q3.out hSw) Tryd.underlying25 rfl HI0.out⟩) hHeld ?_
  try simp only [Act.put, List.setIfInBounds_toArray, List.set_cons_zero, List.set_cons_succ]
  refine wpAnyH_take (i := 1) (v := .agg C) (List.getElem?_toArray.trans rfl) (by kernel_rfl) (by kernel_rfl) (by kernel_rfl) (fun _ _ _ h => h) (Or.inl ⟨by rfl, fun w' hSw => exec_row 29 (.tmp 4) rfl (w.heap.size + 1) rfl 29 C (0, 0) _ (Blk.keep0 D4.out hSw) Tryd.underlying29 rfl HDI.out⟩) hHeld ?_
  try simp only [Act.put, List.setIfInBounds_toArray, List.set_cons_zero, List.set_cons_succ]
  refine wpAnyH_take (i := 4) (v := ?_) (List.getElem?_toArray.trans rfl) (by kernel_rfl) (by kernel_rfl) (by kernel_rfl) (fun _ _ _ h => h) (Or.inl ⟨by rfl, ?_⟩) hHeld ?_
  rotate_left
  · intro w' hSw; go_simp; try with_reducible rfl
  try simp only [Act.put, List.setIfInBounds_toArray, List.set_cons_zero, List.set_cons_succ]
  refine wpAnyH_ready (rs := [2]) (by kernel_rfl) (by simp) ?_
  refine AllReadyH.cons (List.getElem?_toArray.trans rfl) (fun K hK => ?_) AllReadyH.nil
  go_simp
  go_at_call 9
  (with_reducible refine (HDr.out _).mono ?_)
  rintro e u1 ⟨x1, h1, rfl, gN⟩
  have gg := gb_trans gg gN
  have hS := gb_trans hS gN
  refine hK.out _ _ hS (fun hHeld => ?_)
  clear hK K
  try simp only [Act.put, List.setIfInBounds_toArray, List.set_cons_zero, List.set_cons_succ]
  refine wpAnyH_take (i := 3) (v := .agg (two r0 x1)) (List.getElem?_toArray.trans rfl) (by kernel_rfl) (by kernel_rfl) (by kernel_rfl) (fun _ _ _ h => h) (Or.inl ⟨by rfl, fun w' hSw => by refine exec_build 31 _ rfl (two r0 x1) ?_; simp [Act.eval]; exact built_two r0 x1 H0L.out h1.len⟩) hHeld ?_
  try simp only [Act.put, List.setIfInBounds_toArray, List.set_cons_zero, List.set_cons_succ]
  refine wpAnyH_done (by kernel_rfl) ?_ _
  refine NoPanic.normal ?_
  go_wp2
  go_loopw [26] (fun v wr => ∃ j : Nat, j ≤ 2 ∧ v = .int .i64 j ∧ w.grownBy wr none) (fun v _ => 3 - (intOf v).toNat)
  case atStart => exact ⟨0, by omega, rfl, gg⟩
  case round =>
    obtain ⟨j, hj, rfl, gg⟩ := hrel
    clear hS hHeld
    by_cases hlt : j < 2
    · have hix := index_two r0 x1 H0L.out h1.len j hlt
      have hfx : Fit (if j = 0 then r0 else x1) := by split; exact H0.out; exact h1
      generalize (if j = 0 then r0 else x1) = x at hix hfx
      have HXL := Lib.hid hfx.len
      have HNL := Lib.hid (show (nextR x).cs.length = 8 from hfx.len)
      have HP := Lib.hid (fun W (g : w.grownBy W none) => put_b x W (HPl.out.keep0 g) hfx)
      have HR := Lib.hid (fun W => refPut_b x W hfx)
      have HN := Lib.hid (fun k W => next_any x k W hfx)
      have HM := Lib.hid (fun k W => refNext_any x k W hfx)
      have hsx : sameR (nextR x) (nextR x) = true := (sameR_iff (nextR x) (nextR x) hfx.len hfx.len).2 rfl
      have he := fun W => equal_roots (nextR x) (nextR x) hfx.len hfx.len W
      have hg := root_guard
      unfold RV at HP HR HN HM
      unfold NextGot RV at HN HM
      generalize putB x = S at HP HR
      generalize putC x = c at HP HR
      clear hfx
      go_wp2_with (first
        | ((with_reducible refine stN 8 28 x HXL.out ?_ ?_ ?_); rfl; rfl; have q8 : RB (wr.alloc (.cells (rootC x).toArray 25)) wr.heap.size x := Blk.mk wr _ _; have gg := gb_trans gg (gb_alloc wr (.cells (rootC x).toArray 25) none); generalize wr.alloc (.cells (rootC x).toArray 25) = v1 at q8 gg ⊢)
        | ((with_reducible refine ld 8 (wr.heap.size) x HXL.out q8 ?_ ?_); rfl)
        | (go_at_call 10; (with_reducible refine (HP.out _ gg).mono ?_); rintro e va ⟨rfl, g2⟩; have q8 := RB.keep0 q8 g2; have gg := gb_trans gg g2;)
        | (go_at_call 11; (with_reducible refine (HR.out _).mono ?_); rintro e vb ⟨rfl, g3⟩; have q8 := RB.keep0 q8 g3; have gg := gb_trans gg g3;)
        | fail)
      generalize wr.heap.size = b8 at q8 ⊢
      go_loopw [13] (fun v ws => ∃ k : Nat, k ≤ 5 ∧ v = .int .i64 ((k : Int) - 2) ∧ RB ws b8 x ∧ w.grownBy ws none) (fun v _ => 8 - (intOf v + 2).toNat)
      case atStart => exact ⟨0, by omega, by simp, q8, gg⟩
      case round =>
        obtain ⟨k, hk, rfl, q8, gg⟩ := hrel
        by_cases hlk : k < 5
        · obtain ⟨z, hz⟩ : ∃ z : Int, (k : Int) - 2 = z := ⟨_, rfl⟩
          have hz3 : z < 3 := by omega
          have hzz : -2 ≤ z := by omega
          rw [hz]
          have HN := Lib.hid (fun W => HN.out z W)
          have HM := Lib.hid (fun W => HM.out z W)
          generalize nextW z = nw at HN HM
          go_wp2_with (first
            | ((with_reducible refine ld 8 (b8) x HXL.out q8 ?_ ?_); rfl)
            | (go_at_call 12; (with_reducible refine (HN.out _).mono ?_); rintro e v11 ⟨rfl, g11⟩; have q8 := RB.keep0 q8 g11; have gg := gb_trans gg g11;)
            | ((with_reducible refine stN 14 55 (nextR x) HNL.out ?_ ?_ ?_); rfl; rfl; have q14 : RB (v11.alloc (.cells (rootC (nextR x)).toArray 25)) v11.heap.size (nextR x) := Blk.mk v11 _ _; have q8 := RB.keep0 q8 (gb_alloc v11 (.cells (rootC (nextR x)).toArray 25) none); have gg := gb_trans gg (gb_alloc v11 (.cells (rootC (nextR x)).toArray 25) none); generalize v11.alloc (.cells (rootC (nextR x)).toArray 25) = v12 at q8 q14 gg ⊢)
            | (go_at_call 13; (with_reducible refine (HM.out _).mono ?_); rintro e v13 ⟨rfl, g13⟩; have q8 := RB.keep0 q8 g13; have q14 := RB.keep0 q14 g13; have gg := gb_trans gg g13;)
            | ((with_reducible refine stN 16 61 (nextR x) HNL.out ?_ ?_ ?_); rfl; rfl; have q16 : RB (v13.alloc (.cells (rootC (nextR x)).toArray 25)) v13.heap.size (nextR x) := Blk.mk v13 _ _; have q8 := RB.keep0 q8 (gb_alloc v13 (.cells (rootC (nextR x)).toArray 25) none); have q14 := RB.keep0 q14 (gb_alloc v13 (.cells (rootC (nextR x)).toArray 25) none); have gg := gb_trans gg (gb_alloc v13 (.cells (rootC (nextR x)).toArray 25) none); generalize v13.alloc (.cells (rootC (nextR x)).toArray 25) = v14 at q8 q14 q16 gg ⊢)
            | ((with_reducible refine ld 14 (v11.heap.size) (nextR x) HNL.out q14 ?_ ?_); rfl)
            | ((with_reducible refine ld 16 (v13.heap.size) (nextR x) HNL.out q16 ?_ ?_); rfl)
            | fail)
          go_roundw
          case rel => exact ⟨k + 1, by omega, by rw [← hz]; go_num, q8, gg⟩
          case measure => simp [intOf]; omega
        · obtain rfl : k = 5 := by omega
          go_wp2
          go_roundw
          case rel => exact ⟨j + 1, by omega, by go_num, gg⟩
          case measure => simp [intOf]; omega
    · obtain rfl : j = 2 := by omega
      by_cases hle : (s.size : Int) ≤ 300
      · have hm : min (s.size : Int) 300 = (s.size : Int) := by omega
        have hts : s.size ≤ 1000 := by omega
        obtain ⟨rr, n, hrn, hrl, _, _⟩ := get_parts s.data.toList
        have HG := Lib.hid (fun W (g : w.grownBy W none) => get_any s W (HPl.out.keep0 g))
        have HH := Lib.hid (fun W => refGet_any s W)
        rw [hrn] at HG HH
        unfold RootGot RV at HG HH
        have hsr : sameR rr rr = true := (sameR_iff rr rr hrl hrl).2 rfl
        have he := fun W => equal_roots rr rr hrl hrl W
        have hg := root_guard
        clear hrn hts
        go_wp2_with (first
          | (go_at_call 14; (with_reducible refine (HG.out _ gg).mono ?_); rintro e v21 ⟨rfl, g21⟩; have gg := gb_trans gg g21;)
          | ((with_reducible refine stN 18 79 rr hrl ?_ ?_ ?_); rfl; rfl; have q18 : RB (v21.alloc (.cells (rootC rr).toArray 25)) v21.heap.size rr := Blk.mk v21 _ _; have gg := gb_trans gg (gb_alloc v21 (.cells (rootC rr).toArray 25) none); generalize v21.alloc (.cells (rootC rr).toArray 25) = v22 at q18 gg ⊢)
          | (go_at_call 15; (with_reducible refine (HH.out _).mono ?_); rintro e v23 ⟨rfl, g23⟩; have q18 := RB.keep0 q18 g23; have gg := gb_trans gg g23;)
          | ((with_reducible refine stN 20 88 rr hrl ?_ ?_ ?_); rfl; rfl; have q20 : RB (v23.alloc (.cells (rootC rr).toArray 25)) v23.heap.size rr := Blk.mk v23 _ _; have q18 := RB.keep0 q18 (gb_alloc v23 (.cells (rootC rr).toArray 25) none); have gg := gb_trans gg (gb_alloc v23 (.cells (rootC rr).toArray 25) none); generalize v23.alloc (.cells (rootC rr).toArray 25) = v24 at q18 q20 gg ⊢)
          | ((with_reducible refine ld 18 (v21.heap.size) rr hrl q18 ?_ ?_); rfl)
          | ((with_reducible refine ld 20 (v23.heap.size) rr hrl q20 ?_ ?_); rfl)
          | (go_at_call 16; (with_reducible refine (HWk.out _ gg).mono ?_); rintro e v25 ⟨rfl, g25⟩; have q18 := RB.keep0 q18 g25; have q20 := RB.keep0 q20 g25; have gg := gb_trans gg g25;)
          | fail)
        go_ret
        exact ⟨rfl, gg⟩
      · have hm : min (s.size : Int) 300 = 300 := by omega
        have hl3 : (300 : Int) ≤ (s.size : Int) := by omega
        have hts : (s.extract 0 300).size ≤ 1000 := by rw [ByteArray.size_extract]; omega
        obtain ⟨t, ht⟩ : ∃ t, s.extract 0 300 = t := ⟨_, rfl⟩
        rw [ht] at hts
        obtain ⟨rr, n, hrn, hrl, _, _⟩ := get_parts t.data.toList
        have HG := Lib.hid (fun W (g : w.grownBy W none) => get_any t W (HPl.out.keep0 g))
        have HH := Lib.hid (fun W => refGet_any t W)
        rw [hrn] at HG HH
        unfold RootGot RV at HG HH
        have hsr : sameR rr rr = true := (sameR_iff rr rr hrl hrl).2 rfl
        have he := fun W => equal_roots rr rr hrl hrl W
        have hg := root_guard
        clear hrn hts
        go_wp2_with (first
          | (go_at_call 14; (with_reducible refine (HG.out _ gg).mono ?_); rintro e v21 ⟨rfl, g21⟩; have gg := gb_trans gg g21;)
          | ((with_reducible refine stN 18 79 rr hrl ?_ ?_ ?_); rfl; rfl; have q18 : RB (v21.alloc (.cells (rootC rr).toArray 25)) v21.heap.size rr := Blk.mk v21 _ _; have gg := gb_trans gg (gb_alloc v21 (.cells (rootC rr).toArray 25) none); generalize v21.alloc (.cells (rootC rr).toArray 25) = v22 at q18 gg ⊢)
          | (go_at_call 15; (with_reducible refine (HH.out _).mono ?_); rintro e v23 ⟨rfl, g23⟩; have q18 := RB.keep0 q18 g23; have gg := gb_trans gg g23;)
          | ((with_reducible refine stN 20 88 rr hrl ?_ ?_ ?_); rfl; rfl; have q20 : RB (v23.alloc (.cells (rootC rr).toArray 25)) v23.heap.size rr := Blk.mk v23 _ _; have q18 := RB.keep0 q18 (gb_alloc v23 (.cells (rootC rr).toArray 25) none); have gg := gb_trans gg (gb_alloc v23 (.cells (rootC rr).toArray 25) none); generalize v23.alloc (.cells (rootC rr).toArray 25) = v24 at q18 q20 gg ⊢)
          | ((with_reducible refine ld 18 (v21.heap.size) rr hrl q18 ?_ ?_); rfl)
          | ((with_reducible refine ld 20 (v23.heap.size) rr hrl q20 ?_ ?_); rfl)
          | (go_at_call 16; (with_reducible refine (HWk.out _ gg).mono ?_); rintro e v25 ⟨rfl, g25⟩; have q18 := RB.keep0 q18 g25; have q20 := RB.keep0 q20 g25; have gg := gb_trans gg g25;)
          | fail)
        go_ret
        exact ⟨rfl, gg⟩
end Go.Proofs.YtckkbcgolphajaaDoor
