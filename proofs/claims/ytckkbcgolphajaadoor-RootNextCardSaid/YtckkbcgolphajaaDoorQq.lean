/-
  RootNext: of a store's two sectors, of which one counts, the next root is written over the other one, in part: what the statement's function answers; conditions: the drafts' numbers fit.
-/
import Derived.Test.YtckkbcgolphajaaDoorQo
namespace Go.Proofs.YtckkbcgolphajaaDoor
open Go.RowKit

theorem three_new (w : World) (C C2 : Array Value) (x y : Value) : Blk (((w.alloc (.cells C 29)).alloc (.cells C2 29)).alloc (.cells #[x, y] 52)) (w.heap.size + 2) 52 #[x, y] := by
  have := Blk.mk ((w.alloc (.cells C 29)).alloc (.cells C2 29)) 52 #[x, y]
  rwa [World.size_alloc, World.size_alloc] at this
theorem wpList_value {P : Program} {ops : Array Oper} {rest : List Oper} {o : Oper} {a : Act} {w : World} {Q : Exit → Act → World → Prop} (hg : o.guard = none) (v : Value) (h : (execOp a.eval o).run P w = .ok (.value v) w)
    (hk : wpList P ops Q rest (a.put o.dst v) w) : wpList P ops Q (o :: rest) a w :=
  wpList_plain hg fun K hK => by
    unfold Oper.wp
    rw [h]
    exact hK _ _ hk
theorem wpList_build2 {P : Program} {ops : Array Oper} {rest : List Oper} {o : Oper} {a : Act} {w : World} {Q : Exit → Act → World → Prop} (hg : o.guard = none) (t : TypeId) (i1 i2 : Nat) (x1 x2 : Operand) (v1 v2 : Value) (cells : Array Value) (ho : o.op = .build t #[(i1, x1), (i2, x2)]) (h1 : a.eval x1 = v1) (h2 : a.eval x2 = v2) (hb : P.built t [(i1, v1), (i2, v2)] = some cells)
    (hk : wpList P ops Q rest (a.put o.dst (.agg cells)) w) : wpList P ops Q (o :: rest) a w :=
  wpList_value hg (.agg cells) (exec_build t _ ho cells (by simp only [List.map_toArray, List.map_cons, List.map_nil]; rw [h1, h2]; exact hb)) hk
theorem built_first (r : Rt) (hr : r.cs.length = 8) : Tryd.prog.built 25 [(1, .int .i64 r.n), (2, .agg (eightC r).toArray)] = some (rootC ⟨0, r.n, r.cs⟩).toArray := by
  obtain ⟨e, n, cs⟩ := r
  obtain ⟨a0, a1, a2, a3, a4, a5, a6, a7, rfl⟩ := eight hr
  kernel_rfl
set_option maxRecDepth 100000 in
set_option linter.unusedSimpArgs false in
set_option maxHeartbeats 8000000 in
theorem next_law (e s odd : Nat) (cs : List Nat) (hf : FitD e s odd cs) (e' s' odd' : Nat) (cs' : List Nat) (hf' : FitD e' s' odd' cs') (how at0 : Nat) (hh : how < 256) (ha : at0 < 65536) (w : World) (hPl : Pl w) :
    Calls Tryd.prog 7 #[.agg (draftC e s odd cs).toArray, .agg (draftC e' s' odd' cs').toArray, .agg #[.int .u8 (how : Nat), .int .u16 (at0 : Nat)]] w (TrueGot w) := by
  have HDI := Lib.hid (draft_info e s odd cs hf.2.2.2.1)
  have HDI2 := Lib.hid (draft_info e' s' odd' cs' hf'.2.2.2.1)
  obtain ⟨C, hC⟩ : ∃ C, (draftC e s odd cs).toArray = C := ⟨_, rfl⟩
  obtain ⟨C2, hC2⟩ : ∃ C, (draftC e' s' odd' cs').toArray = C := ⟨_, rfl⟩
  have HDr := Lib.hid (fun W => some_root hf C hC W)
  have HDr2 := Lib.hid (fun W => some_root hf' C2 hC2 W)
  rw [hC] at HDI
  rw [hC2] at HDI2
  rw [hC, hC2]
  clear hC hC2 hf hf'
  have HPl := Lib.hid hPl
  clear hPl
  have HWk := Lib.hid (fun W (g : w.grownBy W none) => works_any W (HPl.out.keep0 g))
  unfold TrueGot at HWk
  go_enter Tryd.func7, Tryd.ntmps7
  go_wp2_with (first
    | (go_at_call 16; (with_reducible refine (HWk.out _ (gb_trans (gb_trans (gb_alloc _ _ none) (gb_alloc _ _ none)) (gb_alloc _ _ none))).mono ?_); rintro e v1 ⟨rfl, g1⟩; have d3 := Blk.keep0 (Blk.keep0 (Blk.keep0 (Blk.mk w 29 C) (gb_alloc _ (.cells C2 29) none)) (gb_alloc _ (.cells #[.int .u8 (how : Nat), .int .u16 (at0 : Nat)] 52) none)) g1; have d4 := Blk.keep0 (Blk.keep0 (two_drafts w C C2) (gb_alloc _ (.cells #[.int .u8 (how : Nat), .int .u16 (at0 : Nat)] 52) none)) g1; have c0 := g1.cell (Blk.cell (three_new w C C2 (.int .u8 (how : Nat)) (.int .u16 (at0 : Nat))) 0 rfl) (by simp); have c1 := g1.cell (Blk.cell (three_new w C C2 (.int .u8 (how : Nat)) (.int .u16 (at0 : Nat))) 1 rfl) (by simp); have gg := gb_trans (gb_trans (gb_trans (gb_alloc w (.cells C 29) none) (gb_alloc _ (.cells C2 29) none)) (gb_alloc _ (.cells #[.int .u8 (how : Nat), .int .u16 (at0 : Nat)] 52) none)) g1)
    | fail)
  go_region
  go_wp2
  have gg := gb_trans gg (gb_drew v1 none)
  have d3 := Blk.keep0 d3 (gb_drew v1 none)
  have d4 := Blk.keep0 d4 (gb_drew v1 none)
  clear c0 c1 g1
  generalize v1.drew = v2 at gg d3 d4 ⊢
  rename_i K hK
  have D3 := Lib.hid d3
  have D4 := Lib.hid d4
  suffices key : ∀ (b9 b10 : Nat) (x0 y0 : Rt) (W : World) {p0 p1 p2 p3 p4 p5 p6 p32 p33 p34 p35 p36 p37 p38 p39 p40 p41 : Value}, Fit x0 → Fit y0 → RB W b9 x0 → RB W b10 y0 → b9 ≠ b10 → w.heap.size ≤ b9 → w.heap.size ≤ b10 → w.grownBy W none → K ⟨#[p0, p1, p2, p3, p4, p5, p6, .int .u8 (how : Nat), .int .u16 (at0 : Nat), .pointer (some ⟨b9, 0, none⟩), .pointer (some ⟨b10, 0, none⟩), undef, undef, undef, undef, undef, undef, undef, undef, undef, undef, undef, undef, undef, undef, undef, undef, undef, undef, undef, undef, undef, p32, p33, p34, p35, p36, p37, p38, p39, p40, p41, undef, undef, undef, undef, undef, undef, undef, undef, undef, undef, undef, undef, undef, undef, undef, undef, undef, undef, undef, undef, undef, undef, undef, undef, undef, undef, undef, undef, undef, undef, undef, undef, undef, undef, undef, undef, undef, undef, undef, undef, undef, undef, undef, undef, undef, undef, undef, undef, undef, undef, undef, undef, undef, undef, undef, undef, undef, undef, undef, undef, undef, undef, undef, undef, undef, undef, undef, undef, undef, undef, undef, undef, undef, undef, undef, undef, undef, undef, undef, undef, undef, undef, undef, undef, undef, undef, undef, undef, undef, undef, undef, undef, undef, undef, undef, undef, undef, undef, undef, undef, undef, undef, undef, undef, undef, undef, undef, undef, undef, undef, undef, undef, undef, undef, undef, undef, undef, undef, undef, undef, undef, undef, undef, undef, undef, undef, undef, undef, undef, undef, undef, undef, undef, undef, undef, undef, undef, undef, undef, undef, undef, undef, undef, undef, undef, undef, undef, undef, undef, undef, undef, undef, undef, undef, undef, undef, undef, undef, undef, undef, undef, undef, undef, undef, undef, undef, undef, undef, undef, undef, undef, undef, undef, undef, undef, undef, undef, undef, undef, undef, undef, undef, undef, undef, undef, undef, undef, undef, undef, undef, undef, undef, undef, undef], []⟩ W by
    clear hK d3 d4
    refine wp_region_noPanic ?_
    refine wp_region_held_drew (S := fun w' => (v2).grownBy w' none) (by kernel_rfl) (gb_drew _ _) (fun hHeld => ?_)
    have hS := gb_drew (v2) none
    have gg := gb_trans gg (gb_drew (v2) none)
    generalize (v2).drew = u0 at  gg hS hHeld ⊢
    refine wpAnyH_take (i := 0) (v := .agg C) (List.getElem?_toArray.trans rfl) (by kernel_rfl) (by kernel_rfl) (by kernel_rfl) (fun _ _ _ h => h) (Or.inl ⟨by rfl, fun w' hSw => exec_row 29 (.tmp 3) rfl (w.heap.size) rfl 29 C (0, 0) _ (Blk.keep0 D3.out hSw) Tryd.underlying29 rfl HDI.out⟩) hHeld ?_
    try simp only [Act.put, List.setIfInBounds_toArray, List.set_cons_zero, List.set_cons_succ]
    refine wpAnyH_take (i := 2) (v := .agg C2) (List.getElem?_toArray.trans rfl) (by kernel_rfl) (by kernel_rfl) (by kernel_rfl) (fun _ _ _ h => h) (Or.inl ⟨by rfl, fun w' hSw => exec_row 29 (.tmp 4) rfl (w.heap.size + 1) rfl 29 C2 (0, 0) _ (Blk.keep0 D4.out hSw) Tryd.underlying29 rfl HDI2.out⟩) hHeld ?_
    try simp only [Act.put, List.setIfInBounds_toArray, List.set_cons_zero, List.set_cons_succ]
    refine wpAnyH_ready (rs := [1, 4, 5]) (by kernel_rfl) (by simp) ?_
    refine AllReadyH.cons (List.getElem?_toArray.trans rfl) (fun K hK => ?_) (AllReadyH.cons (List.getElem?_toArray.trans rfl) (fun K hK => ?_) (AllReadyH.cons (List.getElem?_toArray.trans rfl) (fun K hK => ?_) AllReadyH.nil))
    · skip
      go_simp
      go_at_call 9
      (with_reducible refine (HDr.out _).mono ?_)
      rintro e u1 ⟨x, hx, rfl, gN⟩
      have gg := gb_trans gg gN
      have hS := gb_trans hS gN
      refine hK.out _ _ hS (fun hHeld => ?_)
      clear hK K
      try simp only [Act.put, List.setIfInBounds_toArray, List.set_cons_zero, List.set_cons_succ]
      refine wpAnyH_ready (rs := [3, 4, 5]) (by kernel_rfl) (by simp) ?_
      refine AllReadyH.cons (List.getElem?_toArray.trans rfl) (fun K hK => ?_) (AllReadyH.cons (List.getElem?_toArray.trans rfl) (fun K hK => ?_) (AllReadyH.cons (List.getElem?_toArray.trans rfl) (fun K hK => ?_) AllReadyH.nil))
      · skip
        go_simp
        go_at_call 9
        (with_reducible refine (HDr2.out _).mono ?_)
        rintro e u2 ⟨y, hy, rfl, gN⟩
        have gg := gb_trans gg gN
        have hS := gb_trans hS gN
        refine hK.out _ _ hS (fun hHeld => ?_)
        clear hK K
        try simp only [Act.put, List.setIfInBounds_toArray, List.set_cons_zero, List.set_cons_succ]
        refine wpAnyH_ready (rs := [4, 5]) (by kernel_rfl) (by simp) ?_
        refine AllReadyH.cons (List.getElem?_toArray.trans rfl) (fun K hK => ?_) (AllReadyH.cons (List.getElem?_toArray.trans rfl) (fun K hK => ?_) AllReadyH.nil)
        · skip
          go_simp
          have r9 : RB (u2.alloc (.cells #[.int .u64 0, .int .i64 0, .int .i64 0, .int .i64 0, .int .i64 0, .int .i64 0, .int .i64 0, .int .i64 0, .int .i64 0, .int .i64 0] 25)) u2.heap.size zeroR := Blk.mk u2 25 (rootC zeroR).toArray
          have l_r9 := gg.size
          have ls_r9 := hS.size
          have gg := gb_trans gg (gb_alloc u2 (.cells #[.int .u64 0, .int .i64 0, .int .i64 0, .int .i64 0, .int .i64 0, .int .i64 0, .int .i64 0, .int .i64 0, .int .i64 0, .int .i64 0] 25) none)
          have hS := gb_trans hS (gb_alloc u2 (.cells #[.int .u64 0, .int .i64 0, .int .i64 0, .int .i64 0, .int .i64 0, .int .i64 0, .int .i64 0, .int .i64 0, .int .i64 0, .int .i64 0] 25) none)
          generalize u2.alloc (.cells #[.int .u64 0, .int .i64 0, .int .i64 0, .int .i64 0, .int .i64 0, .int .i64 0, .int .i64 0, .int .i64 0, .int .i64 0, .int .i64 0] 25) = u3 at r9 gg hS ⊢
          refine hK.out _ _ hS (fun hHeld => ?_)
          clear hK K
          try simp only [Act.put, List.setIfInBounds_toArray, List.set_cons_zero, List.set_cons_succ]
          refine wpAnyH_ready (rs := [5]) (by kernel_rfl) (by simp) ?_
          refine AllReadyH.cons (List.getElem?_toArray.trans rfl) (fun K hK => ?_) AllReadyH.nil
          go_simp
          have r10 : RB (u3.alloc (.cells #[.int .u64 0, .int .i64 0, .int .i64 0, .int .i64 0, .int .i64 0, .int .i64 0, .int .i64 0, .int .i64 0, .int .i64 0, .int .i64 0] 25)) u3.heap.size zeroR := Blk.mk u3 25 (rootC zeroR).toArray
          have l_r10 := gg.size
          have ls_r10 := hS.size
          have r9_r10 := Nat.ne_of_lt (Blk.lt r9)
          have r9 := RB.keep0 r9 (gb_alloc u3 (.cells #[.int .u64 0, .int .i64 0, .int .i64 0, .int .i64 0, .int .i64 0, .int .i64 0, .int .i64 0, .int .i64 0, .int .i64 0, .int .i64 0] 25) none)
          have gg := gb_trans gg (gb_alloc u3 (.cells #[.int .u64 0, .int .i64 0, .int .i64 0, .int .i64 0, .int .i64 0, .int .i64 0, .int .i64 0, .int .i64 0, .int .i64 0, .int .i64 0] 25) none)
          have hS := gb_trans hS (gb_alloc u3 (.cells #[.int .u64 0, .int .i64 0, .int .i64 0, .int .i64 0, .int .i64 0, .int .i64 0, .int .i64 0, .int .i64 0, .int .i64 0, .int .i64 0] 25) none)
          generalize u3.alloc (.cells #[.int .u64 0, .int .i64 0, .int .i64 0, .int .i64 0, .int .i64 0, .int .i64 0, .int .i64 0, .int .i64 0, .int .i64 0, .int .i64 0] 25) = u4 at r9 r10 gg hS ⊢
          refine hK.out _ _ hS (fun hHeld => ?_)
          clear hK K
          try simp only [Act.put, List.setIfInBounds_toArray, List.set_cons_zero, List.set_cons_succ]
          refine wpAnyH_ready (rs := [6]) (by kernel_rfl) (by simp) ?_
          refine AllReadyH.cons (List.getElem?_toArray.trans rfl) (fun K hK => ?_) AllReadyH.nil
          with_reducible refine stR 9 39 (u2.heap.size) zeroR x zero_len hx.len r9 ?hx ?hy ?_
          case hx => rfl
          case hy => rfl
          have r9 := set_root r9 x
          have r10 := RB.keepS r10 (gb_setRow u4 (u2.heap.size) (rootC x).toArray) (ne_some (fun e => r9_r10 e.symm))
          have gg := gb_step gg (gb_setRow u4 (u2.heap.size) (rootC x).toArray) l_r9
          have hS := gb_step hS (gb_setRow u4 (u2.heap.size) (rootC x).toArray) ls_r9
          generalize u4.setRow (u2.heap.size) (rootC x).toArray = u5 at r9 r10 gg hS ⊢
          refine hK.out _ _ hS (fun hHeld => ?_)
          clear hK K
          try simp only [Act.put, List.setIfInBounds_toArray, List.set_cons_zero, List.set_cons_succ]
          refine wpAnyH_ready (rs := [7]) (by kernel_rfl) (by simp) ?_
          refine AllReadyH.cons (List.getElem?_toArray.trans rfl) (fun K hK => ?_) AllReadyH.nil
          with_reducible refine stR 10 41 (u3.heap.size) zeroR y zero_len hy.len r10 ?hx ?hy ?_
          case hx => rfl
          case hy => rfl
          have r10 := set_root r10 y
          have r9 := RB.keepS r9 (gb_setRow u5 (u3.heap.size) (rootC y).toArray) (ne_some r9_r10)
          have gg := gb_step gg (gb_setRow u5 (u3.heap.size) (rootC y).toArray) l_r10
          have hS := gb_step hS (gb_setRow u5 (u3.heap.size) (rootC y).toArray) ls_r10
          generalize u5.setRow (u3.heap.size) (rootC y).toArray = u6 at r9 r10 gg hS ⊢
          refine hK.out _ _ hS (fun hHeld => ?_)
          clear hK K
          try simp only [Act.put, List.setIfInBounds_toArray, List.set_cons_zero, List.set_cons_succ]
          refine wpAnyH_done (by kernel_rfl) ?_ _
          refine NoPanic.normal ?_
          exact key u2.heap.size u3.heap.size x y u6 hx hy r9 r10 r9_r10 l_r9 l_r10 gg
        · skip
          go_simp
          have r10 : RB (u2.alloc (.cells #[.int .u64 0, .int .i64 0, .int .i64 0, .int .i64 0, .int .i64 0, .int .i64 0, .int .i64 0, .int .i64 0, .int .i64 0, .int .i64 0] 25)) u2.heap.size zeroR := Blk.mk u2 25 (rootC zeroR).toArray
          have l_r10 := gg.size
          have ls_r10 := hS.size
          have gg := gb_trans gg (gb_alloc u2 (.cells #[.int .u64 0, .int .i64 0, .int .i64 0, .int .i64 0, .int .i64 0, .int .i64 0, .int .i64 0, .int .i64 0, .int .i64 0, .int .i64 0] 25) none)
          have hS := gb_trans hS (gb_alloc u2 (.cells #[.int .u64 0, .int .i64 0, .int .i64 0, .int .i64 0, .int .i64 0, .int .i64 0, .int .i64 0, .int .i64 0, .int .i64 0, .int .i64 0] 25) none)
          generalize u2.alloc (.cells #[.int .u64 0, .int .i64 0, .int .i64 0, .int .i64 0, .int .i64 0, .int .i64 0, .int .i64 0, .int .i64 0, .int .i64 0, .int .i64 0] 25) = u7 at r10 gg hS ⊢
          refine hK.out _ _ hS (fun hHeld => ?_)
          clear hK K
          try simp only [Act.put, List.setIfInBounds_toArray, List.set_cons_zero, List.set_cons_succ]
          refine wpAnyH_ready (rs := [4]) (by kernel_rfl) (by simp) ?_
          refine AllReadyH.cons (List.getElem?_toArray.trans rfl) (fun K hK => ?_) AllReadyH.nil
          go_simp
          have r9 : RB (u7.alloc (.cells #[.int .u64 0, .int .i64 0, .int .i64 0, .int .i64 0, .int .i64 0, .int .i64 0, .int .i64 0, .int .i64 0, .int .i64 0, .int .i64 0] 25)) u7.heap.size zeroR := Blk.mk u7 25 (rootC zeroR).toArray
          have l_r9 := gg.size
          have ls_r9 := hS.size
          have r10_r9 := Nat.ne_of_lt (Blk.lt r10)
          have r10 := RB.keep0 r10 (gb_alloc u7 (.cells #[.int .u64 0, .int .i64 0, .int .i64 0, .int .i64 0, .int .i64 0, .int .i64 0, .int .i64 0, .int .i64 0, .int .i64 0, .int .i64 0] 25) none)
          have gg := gb_trans gg (gb_alloc u7 (.cells #[.int .u64 0, .int .i64 0, .int .i64 0, .int .i64 0, .int .i64 0, .int .i64 0, .int .i64 0, .int .i64 0, .int .i64 0, .int .i64 0] 25) none)
          have hS := gb_trans hS (gb_alloc u7 (.cells #[.int .u64 0, .int .i64 0, .int .i64 0, .int .i64 0, .int .i64 0, .int .i64 0, .int .i64 0, .int .i64 0, .int .i64 0, .int .i64 0] 25) none)
          generalize u7.alloc (.cells #[.int .u64 0, .int .i64 0, .int .i64 0, .int .i64 0, .int .i64 0, .int .i64 0, .int .i64 0, .int .i64 0, .int .i64 0, .int .i64 0] 25) = u8 at r10 r9 gg hS ⊢
          refine hK.out _ _ hS (fun hHeld => ?_)
          clear hK K
          try simp only [Act.put, List.setIfInBounds_toArray, List.set_cons_zero, List.set_cons_succ]
          refine wpAnyH_ready (rs := [6]) (by kernel_rfl) (by simp) ?_
          refine AllReadyH.cons (List.getElem?_toArray.trans rfl) (fun K hK => ?_) AllReadyH.nil
          with_reducible refine stR 9 39 (u7.heap.size) zeroR x zero_len hx.len r9 ?hx ?hy ?_
          case hx => rfl
          case hy => rfl
          have r9 := set_root r9 x
          have r10 := RB.keepS r10 (gb_setRow u8 (u7.heap.size) (rootC x).toArray) (ne_some r10_r9)
          have gg := gb_step gg (gb_setRow u8 (u7.heap.size) (rootC x).toArray) l_r9
          have hS := gb_step hS (gb_setRow u8 (u7.heap.size) (rootC x).toArray) ls_r9
          generalize u8.setRow (u7.heap.size) (rootC x).toArray = u9 at r10 r9 gg hS ⊢
          refine hK.out _ _ hS (fun hHeld => ?_)
          clear hK K
          try simp only [Act.put, List.setIfInBounds_toArray, List.set_cons_zero, List.set_cons_succ]
          refine wpAnyH_ready (rs := [7]) (by kernel_rfl) (by simp) ?_
          refine AllReadyH.cons (List.getElem?_toArray.trans rfl) (fun K hK => ?_) AllReadyH.nil
          with_reducible refine stR 10 41 (u2.heap.size) zeroR y zero_len hy.len r10 ?hx ?hy ?_
          case hx => rfl
          case hy => rfl
          have r10 := set_root r10 y
          have r9 := RB.keepS r9 (gb_setRow u9 (u2.heap.size) (rootC y).toArray) (ne_some (fun e => r10_r9 e.symm))
          have gg := gb_step gg (gb_setRow u9 (u2.heap.size) (rootC y).toArray) l_r10
          have hS := gb_step hS (gb_setRow u9 (u2.heap.size) (rootC y).toArray) ls_r10
          generalize u9.setRow (u2.heap.size) (rootC y).toArray = u10 at r10 r9 gg hS ⊢
          refine hK.out _ _ hS (fun hHeld => ?_)
          clear hK K
          try simp only [Act.put, List.setIfInBounds_toArray, List.set_cons_zero, List.set_cons_succ]
          refine wpAnyH_done (by kernel_rfl) ?_ _
          refine NoPanic.normal ?_
          exact key u7.heap.size u2.heap.size x y u10 hx hy r9 r10 (fun e => r10_r9 e.symm) l_r9 l_r10 gg
      · skip
        go_simp
        have r9 : RB (u1.alloc (.cells #[.int .u64 0, .int .i64 0, .int .i64 0, .int .i64 0, .int .i64 0, .int .i64 0, .int .i64 0, .int .i64 0, .int .i64 0, .int .i64 0] 25)) u1.heap.size zeroR := Blk.mk u1 25 (rootC zeroR).toArray
        have l_r9 := gg.size
        have ls_r9 := hS.size
        have gg := gb_trans gg (gb_alloc u1 (.cells #[.int .u64 0, .int .i64 0, .int .i64 0, .int .i64 0, .int .i64 0, .int .i64 0, .int .i64 0, .int .i64 0, .int .i64 0, .int .i64 0] 25) none)
        have hS := gb_trans hS (gb_alloc u1 (.cells #[.int .u64 0, .int .i64 0, .int .i64 0, .int .i64 0, .int .i64 0, .int .i64 0, .int .i64 0, .int .i64 0, .int .i64 0, .int .i64 0] 25) none)
        generalize u1.alloc (.cells #[.int .u64 0, .int .i64 0, .int .i64 0, .int .i64 0, .int .i64 0, .int .i64 0, .int .i64 0, .int .i64 0, .int .i64 0, .int .i64 0] 25) = u11 at r9 gg hS ⊢
        refine hK.out _ _ hS (fun hHeld => ?_)
        clear hK K
        try simp only [Act.put, List.setIfInBounds_toArray, List.set_cons_zero, List.set_cons_succ]
        refine wpAnyH_ready (rs := [3, 5]) (by kernel_rfl) (by simp) ?_
        refine AllReadyH.cons (List.getElem?_toArray.trans rfl) (fun K hK => ?_) (AllReadyH.cons (List.getElem?_toArray.trans rfl) (fun K hK => ?_) AllReadyH.nil)
        · skip
          go_simp
          go_at_call 9
          (with_reducible refine (HDr2.out _).mono ?_)
          rintro e u12 ⟨y, hy, rfl, gN⟩
          have r9 := RB.keep0 r9 gN
          have gg := gb_trans gg gN
          have hS := gb_trans hS gN
          refine hK.out _ _ hS (fun hHeld => ?_)
          clear hK K
          try simp only [Act.put, List.setIfInBounds_toArray, List.set_cons_zero, List.set_cons_succ]
          refine wpAnyH_ready (rs := [5]) (by kernel_rfl) (by simp) ?_
          refine AllReadyH.cons (List.getElem?_toArray.trans rfl) (fun K hK => ?_) AllReadyH.nil
          go_simp
          have r10 : RB (u12.alloc (.cells #[.int .u64 0, .int .i64 0, .int .i64 0, .int .i64 0, .int .i64 0, .int .i64 0, .int .i64 0, .int .i64 0, .int .i64 0, .int .i64 0] 25)) u12.heap.size zeroR := Blk.mk u12 25 (rootC zeroR).toArray
          have l_r10 := gg.size
          have ls_r10 := hS.size
          have r9_r10 := Nat.ne_of_lt (Blk.lt r9)
          have r9 := RB.keep0 r9 (gb_alloc u12 (.cells #[.int .u64 0, .int .i64 0, .int .i64 0, .int .i64 0, .int .i64 0, .int .i64 0, .int .i64 0, .int .i64 0, .int .i64 0, .int .i64 0] 25) none)
          have gg := gb_trans gg (gb_alloc u12 (.cells #[.int .u64 0, .int .i64 0, .int .i64 0, .int .i64 0, .int .i64 0, .int .i64 0, .int .i64 0, .int .i64 0, .int .i64 0, .int .i64 0] 25) none)
          have hS := gb_trans hS (gb_alloc u12 (.cells #[.int .u64 0, .int .i64 0, .int .i64 0, .int .i64 0, .int .i64 0, .int .i64 0, .int .i64 0, .int .i64 0, .int .i64 0, .int .i64 0] 25) none)
          generalize u12.alloc (.cells #[.int .u64 0, .int .i64 0, .int .i64 0, .int .i64 0, .int .i64 0, .int .i64 0, .int .i64 0, .int .i64 0, .int .i64 0, .int .i64 0] 25) = u13 at r9 r10 gg hS ⊢
          refine hK.out _ _ hS (fun hHeld => ?_)
          clear hK K
          try simp only [Act.put, List.setIfInBounds_toArray, List.set_cons_zero, List.set_cons_succ]
          refine wpAnyH_ready (rs := [6]) (by kernel_rfl) (by simp) ?_
          refine AllReadyH.cons (List.getElem?_toArray.trans rfl) (fun K hK => ?_) AllReadyH.nil
          with_reducible refine stR 9 39 (u1.heap.size) zeroR x zero_len hx.len r9 ?hx ?hy ?_
          case hx => rfl
          case hy => rfl
          have r9 := set_root r9 x
          have r10 := RB.keepS r10 (gb_setRow u13 (u1.heap.size) (rootC x).toArray) (ne_some (fun e => r9_r10 e.symm))
          have gg := gb_step gg (gb_setRow u13 (u1.heap.size) (rootC x).toArray) l_r9
          have hS := gb_step hS (gb_setRow u13 (u1.heap.size) (rootC x).toArray) ls_r9
          generalize u13.setRow (u1.heap.size) (rootC x).toArray = u14 at r9 r10 gg hS ⊢
          refine hK.out _ _ hS (fun hHeld => ?_)
          clear hK K
          try simp only [Act.put, List.setIfInBounds_toArray, List.set_cons_zero, List.set_cons_succ]
          refine wpAnyH_ready (rs := [7]) (by kernel_rfl) (by simp) ?_
          refine AllReadyH.cons (List.getElem?_toArray.trans rfl) (fun K hK => ?_) AllReadyH.nil
          with_reducible refine stR 10 41 (u12.heap.size) zeroR y zero_len hy.len r10 ?hx ?hy ?_
          case hx => rfl
          case hy => rfl
          have r10 := set_root r10 y
          have r9 := RB.keepS r9 (gb_setRow u14 (u12.heap.size) (rootC y).toArray) (ne_some r9_r10)
          have gg := gb_step gg (gb_setRow u14 (u12.heap.size) (rootC y).toArray) l_r10
          have hS := gb_step hS (gb_setRow u14 (u12.heap.size) (rootC y).toArray) ls_r10
          generalize u14.setRow (u12.heap.size) (rootC y).toArray = u15 at r9 r10 gg hS ⊢
          refine hK.out _ _ hS (fun hHeld => ?_)
          clear hK K
          try simp only [Act.put, List.setIfInBounds_toArray, List.set_cons_zero, List.set_cons_succ]
          refine wpAnyH_done (by kernel_rfl) ?_ _
          refine NoPanic.normal ?_
          exact key u1.heap.size u12.heap.size x y u15 hx hy r9 r10 r9_r10 l_r9 l_r10 gg
        · skip
          go_simp
          have r10 : RB (u11.alloc (.cells #[.int .u64 0, .int .i64 0, .int .i64 0, .int .i64 0, .int .i64 0, .int .i64 0, .int .i64 0, .int .i64 0, .int .i64 0, .int .i64 0] 25)) u11.heap.size zeroR := Blk.mk u11 25 (rootC zeroR).toArray
          have l_r10 := gg.size
          have ls_r10 := hS.size
          have r9_r10 := Nat.ne_of_lt (Blk.lt r9)
          have r9 := RB.keep0 r9 (gb_alloc u11 (.cells #[.int .u64 0, .int .i64 0, .int .i64 0, .int .i64 0, .int .i64 0, .int .i64 0, .int .i64 0, .int .i64 0, .int .i64 0, .int .i64 0] 25) none)
          have gg := gb_trans gg (gb_alloc u11 (.cells #[.int .u64 0, .int .i64 0, .int .i64 0, .int .i64 0, .int .i64 0, .int .i64 0, .int .i64 0, .int .i64 0, .int .i64 0, .int .i64 0] 25) none)
          have hS := gb_trans hS (gb_alloc u11 (.cells #[.int .u64 0, .int .i64 0, .int .i64 0, .int .i64 0, .int .i64 0, .int .i64 0, .int .i64 0, .int .i64 0, .int .i64 0, .int .i64 0] 25) none)
          generalize u11.alloc (.cells #[.int .u64 0, .int .i64 0, .int .i64 0, .int .i64 0, .int .i64 0, .int .i64 0, .int .i64 0, .int .i64 0, .int .i64 0, .int .i64 0] 25) = u16 at r9 r10 gg hS ⊢
          refine hK.out _ _ hS (fun hHeld => ?_)
          clear hK K
          try simp only [Act.put, List.setIfInBounds_toArray, List.set_cons_zero, List.set_cons_succ]
          refine wpAnyH_ready (rs := [3]) (by kernel_rfl) (by simp) ?_
          refine AllReadyH.cons (List.getElem?_toArray.trans rfl) (fun K hK => ?_) AllReadyH.nil
          go_simp
          go_at_call 9
          (with_reducible refine (HDr2.out _).mono ?_)
          rintro e u17 ⟨y, hy, rfl, gN⟩
          have r9 := RB.keep0 r9 gN
          have r10 := RB.keep0 r10 gN
          have gg := gb_trans gg gN
          have hS := gb_trans hS gN
          refine hK.out _ _ hS (fun hHeld => ?_)
          clear hK K
          try simp only [Act.put, List.setIfInBounds_toArray, List.set_cons_zero, List.set_cons_succ]
          refine wpAnyH_ready (rs := [6]) (by kernel_rfl) (by simp) ?_
          refine AllReadyH.cons (List.getElem?_toArray.trans rfl) (fun K hK => ?_) AllReadyH.nil
          with_reducible refine stR 9 39 (u1.heap.size) zeroR x zero_len hx.len r9 ?hx ?hy ?_
          case hx => rfl
          case hy => rfl
          have r9 := set_root r9 x
          have r10 := RB.keepS r10 (gb_setRow u17 (u1.heap.size) (rootC x).toArray) (ne_some (fun e => r9_r10 e.symm))
          have gg := gb_step gg (gb_setRow u17 (u1.heap.size) (rootC x).toArray) l_r9
          have hS := gb_step hS (gb_setRow u17 (u1.heap.size) (rootC x).toArray) ls_r9
          generalize u17.setRow (u1.heap.size) (rootC x).toArray = u18 at r9 r10 gg hS ⊢
          refine hK.out _ _ hS (fun hHeld => ?_)
          clear hK K
          try simp only [Act.put, List.setIfInBounds_toArray, List.set_cons_zero, List.set_cons_succ]
          refine wpAnyH_ready (rs := [7]) (by kernel_rfl) (by simp) ?_
          refine AllReadyH.cons (List.getElem?_toArray.trans rfl) (fun K hK => ?_) AllReadyH.nil
          with_reducible refine stR 10 41 (u11.heap.size) zeroR y zero_len hy.len r10 ?hx ?hy ?_
          case hx => rfl
          case hy => rfl
          have r10 := set_root r10 y
          have r9 := RB.keepS r9 (gb_setRow u18 (u11.heap.size) (rootC y).toArray) (ne_some r9_r10)
          have gg := gb_step gg (gb_setRow u18 (u11.heap.size) (rootC y).toArray) l_r10
          have hS := gb_step hS (gb_setRow u18 (u11.heap.size) (rootC y).toArray) ls_r10
          generalize u18.setRow (u11.heap.size) (rootC y).toArray = u19 at r9 r10 gg hS ⊢
          refine hK.out _ _ hS (fun hHeld => ?_)
          clear hK K
          try simp only [Act.put, List.setIfInBounds_toArray, List.set_cons_zero, List.set_cons_succ]
          refine wpAnyH_done (by kernel_rfl) ?_ _
          refine NoPanic.normal ?_
          exact key u1.heap.size u11.heap.size x y u19 hx hy r9 r10 r9_r10 l_r9 l_r10 gg
      · skip
        go_simp
        have r10 : RB (u1.alloc (.cells #[.int .u64 0, .int .i64 0, .int .i64 0, .int .i64 0, .int .i64 0, .int .i64 0, .int .i64 0, .int .i64 0, .int .i64 0, .int .i64 0] 25)) u1.heap.size zeroR := Blk.mk u1 25 (rootC zeroR).toArray
        have l_r10 := gg.size
        have ls_r10 := hS.size
        have gg := gb_trans gg (gb_alloc u1 (.cells #[.int .u64 0, .int .i64 0, .int .i64 0, .int .i64 0, .int .i64 0, .int .i64 0, .int .i64 0, .int .i64 0, .int .i64 0, .int .i64 0] 25) none)
        have hS := gb_trans hS (gb_alloc u1 (.cells #[.int .u64 0, .int .i64 0, .int .i64 0, .int .i64 0, .int .i64 0, .int .i64 0, .int .i64 0, .int .i64 0, .int .i64 0, .int .i64 0] 25) none)
        generalize u1.alloc (.cells #[.int .u64 0, .int .i64 0, .int .i64 0, .int .i64 0, .int .i64 0, .int .i64 0, .int .i64 0, .int .i64 0, .int .i64 0, .int .i64 0] 25) = u20 at r10 gg hS ⊢
        refine hK.out _ _ hS (fun hHeld => ?_)
        clear hK K
        try simp only [Act.put, List.setIfInBounds_toArray, List.set_cons_zero, List.set_cons_succ]
        refine wpAnyH_ready (rs := [3, 4]) (by kernel_rfl) (by simp) ?_
        refine AllReadyH.cons (List.getElem?_toArray.trans rfl) (fun K hK => ?_) (AllReadyH.cons (List.getElem?_toArray.trans rfl) (fun K hK => ?_) AllReadyH.nil)
        · skip
          go_simp
          go_at_call 9
          (with_reducible refine (HDr2.out _).mono ?_)
          rintro e u21 ⟨y, hy, rfl, gN⟩
          have r10 := RB.keep0 r10 gN
          have gg := gb_trans gg gN
          have hS := gb_trans hS gN
          refine hK.out _ _ hS (fun hHeld => ?_)
          clear hK K
          try simp only [Act.put, List.setIfInBounds_toArray, List.set_cons_zero, List.set_cons_succ]
          refine wpAnyH_ready (rs := [4]) (by kernel_rfl) (by simp) ?_
          refine AllReadyH.cons (List.getElem?_toArray.trans rfl) (fun K hK => ?_) AllReadyH.nil
          go_simp
          have r9 : RB (u21.alloc (.cells #[.int .u64 0, .int .i64 0, .int .i64 0, .int .i64 0, .int .i64 0, .int .i64 0, .int .i64 0, .int .i64 0, .int .i64 0, .int .i64 0] 25)) u21.heap.size zeroR := Blk.mk u21 25 (rootC zeroR).toArray
          have l_r9 := gg.size
          have ls_r9 := hS.size
          have r10_r9 := Nat.ne_of_lt (Blk.lt r10)
          have r10 := RB.keep0 r10 (gb_alloc u21 (.cells #[.int .u64 0, .int .i64 0, .int .i64 0, .int .i64 0, .int .i64 0, .int .i64 0, .int .i64 0, .int .i64 0, .int .i64 0, .int .i64 0] 25) none)
          have gg := gb_trans gg (gb_alloc u21 (.cells #[.int .u64 0, .int .i64 0, .int .i64 0, .int .i64 0, .int .i64 0, .int .i64 0, .int .i64 0, .int .i64 0, .int .i64 0, .int .i64 0] 25) none)
          have hS := gb_trans hS (gb_alloc u21 (.cells #[.int .u64 0, .int .i64 0, .int .i64 0, .int .i64 0, .int .i64 0, .int .i64 0, .int .i64 0, .int .i64 0, .int .i64 0, .int .i64 0] 25) none)
          generalize u21.alloc (.cells #[.int .u64 0, .int .i64 0, .int .i64 0, .int .i64 0, .int .i64 0, .int .i64 0, .int .i64 0, .int .i64 0, .int .i64 0, .int .i64 0] 25) = u22 at r10 r9 gg hS ⊢
          refine hK.out _ _ hS (fun hHeld => ?_)
          clear hK K
          try simp only [Act.put, List.setIfInBounds_toArray, List.set_cons_zero, List.set_cons_succ]
          refine wpAnyH_ready (rs := [6]) (by kernel_rfl) (by simp) ?_
          refine AllReadyH.cons (List.getElem?_toArray.trans rfl) (fun K hK => ?_) AllReadyH.nil
          with_reducible refine stR 9 39 (u21.heap.size) zeroR x zero_len hx.len r9 ?hx ?hy ?_
          case hx => rfl
          case hy => rfl
          have r9 := set_root r9 x
          have r10 := RB.keepS r10 (gb_setRow u22 (u21.heap.size) (rootC x).toArray) (ne_some r10_r9)
          have gg := gb_step gg (gb_setRow u22 (u21.heap.size) (rootC x).toArray) l_r9
          have hS := gb_step hS (gb_setRow u22 (u21.heap.size) (rootC x).toArray) ls_r9
          generalize u22.setRow (u21.heap.size) (rootC x).toArray = u23 at r10 r9 gg hS ⊢
          refine hK.out _ _ hS (fun hHeld => ?_)
          clear hK K
          try simp only [Act.put, List.setIfInBounds_toArray, List.set_cons_zero, List.set_cons_succ]
          refine wpAnyH_ready (rs := [7]) (by kernel_rfl) (by simp) ?_
          refine AllReadyH.cons (List.getElem?_toArray.trans rfl) (fun K hK => ?_) AllReadyH.nil
          with_reducible refine stR 10 41 (u1.heap.size) zeroR y zero_len hy.len r10 ?hx ?hy ?_
          case hx => rfl
          case hy => rfl
          have r10 := set_root r10 y
          have r9 := RB.keepS r9 (gb_setRow u23 (u1.heap.size) (rootC y).toArray) (ne_some (fun e => r10_r9 e.symm))
          have gg := gb_step gg (gb_setRow u23 (u1.heap.size) (rootC y).toArray) l_r10
          have hS := gb_step hS (gb_setRow u23 (u1.heap.size) (rootC y).toArray) ls_r10
          generalize u23.setRow (u1.heap.size) (rootC y).toArray = u24 at r10 r9 gg hS ⊢
          refine hK.out _ _ hS (fun hHeld => ?_)
          clear hK K
          try simp only [Act.put, List.setIfInBounds_toArray, List.set_cons_zero, List.set_cons_succ]
          refine wpAnyH_done (by kernel_rfl) ?_ _
          refine NoPanic.normal ?_
          exact key u21.heap.size u1.heap.size x y u24 hx hy r9 r10 (fun e => r10_r9 e.symm) l_r9 l_r10 gg
        · skip
          go_simp
          have r9 : RB (u20.alloc (.cells #[.int .u64 0, .int .i64 0, .int .i64 0, .int .i64 0, .int .i64 0, .int .i64 0, .int .i64 0, .int .i64 0, .int .i64 0, .int .i64 0] 25)) u20.heap.size zeroR := Blk.mk u20 25 (rootC zeroR).toArray
          have l_r9 := gg.size
          have ls_r9 := hS.size
          have r10_r9 := Nat.ne_of_lt (Blk.lt r10)
          have r10 := RB.keep0 r10 (gb_alloc u20 (.cells #[.int .u64 0, .int .i64 0, .int .i64 0, .int .i64 0, .int .i64 0, .int .i64 0, .int .i64 0, .int .i64 0, .int .i64 0, .int .i64 0] 25) none)
          have gg := gb_trans gg (gb_alloc u20 (.cells #[.int .u64 0, .int .i64 0, .int .i64 0, .int .i64 0, .int .i64 0, .int .i64 0, .int .i64 0, .int .i64 0, .int .i64 0, .int .i64 0] 25) none)
          have hS := gb_trans hS (gb_alloc u20 (.cells #[.int .u64 0, .int .i64 0, .int .i64 0, .int .i64 0, .int .i64 0, .int .i64 0, .int .i64 0, .int .i64 0, .int .i64 0, .int .i64 0] 25) none)
          generalize u20.alloc (.cells #[.int .u64 0, .int .i64 0, .int .i64 0, .int .i64 0, .int .i64 0, .int .i64 0, .int .i64 0, .int .i64 0, .int .i64 0, .int .i64 0] 25) = u25 at r10 r9 gg hS ⊢
          refine hK.out _ _ hS (fun hHeld => ?_)
          clear hK K
          try simp only [Act.put, List.setIfInBounds_toArray, List.set_cons_zero, List.set_cons_succ]
          refine wpAnyH_ready (rs := [3]) (by kernel_rfl) (by simp) ?_
          refine AllReadyH.cons (List.getElem?_toArray.trans rfl) (fun K hK => ?_) AllReadyH.nil
          go_simp
          go_at_call 9
          (with_reducible refine (HDr2.out _).mono ?_)
          rintro e u26 ⟨y, hy, rfl, gN⟩
          have r10 := RB.keep0 r10 gN
          have r9 := RB.keep0 r9 gN
          have gg := gb_trans gg gN
          have hS := gb_trans hS gN
          refine hK.out _ _ hS (fun hHeld => ?_)
          clear hK K
          try simp only [Act.put, List.setIfInBounds_toArray, List.set_cons_zero, List.set_cons_succ]
          refine wpAnyH_ready (rs := [6]) (by kernel_rfl) (by simp) ?_
          refine AllReadyH.cons (List.getElem?_toArray.trans rfl) (fun K hK => ?_) AllReadyH.nil
          with_reducible refine stR 9 39 (u20.heap.size) zeroR x zero_len hx.len r9 ?hx ?hy ?_
          case hx => rfl
          case hy => rfl
          have r9 := set_root r9 x
          have r10 := RB.keepS r10 (gb_setRow u26 (u20.heap.size) (rootC x).toArray) (ne_some r10_r9)
          have gg := gb_step gg (gb_setRow u26 (u20.heap.size) (rootC x).toArray) l_r9
          have hS := gb_step hS (gb_setRow u26 (u20.heap.size) (rootC x).toArray) ls_r9
          generalize u26.setRow (u20.heap.size) (rootC x).toArray = u27 at r10 r9 gg hS ⊢
          refine hK.out _ _ hS (fun hHeld => ?_)
          clear hK K
          try simp only [Act.put, List.setIfInBounds_toArray, List.set_cons_zero, List.set_cons_succ]
          refine wpAnyH_ready (rs := [7]) (by kernel_rfl) (by simp) ?_
          refine AllReadyH.cons (List.getElem?_toArray.trans rfl) (fun K hK => ?_) AllReadyH.nil
          with_reducible refine stR 10 41 (u1.heap.size) zeroR y zero_len hy.len r10 ?hx ?hy ?_
          case hx => rfl
          case hy => rfl
          have r10 := set_root r10 y
          have r9 := RB.keepS r9 (gb_setRow u27 (u1.heap.size) (rootC y).toArray) (ne_some (fun e => r10_r9 e.symm))
          have gg := gb_step gg (gb_setRow u27 (u1.heap.size) (rootC y).toArray) l_r10
          have hS := gb_step hS (gb_setRow u27 (u1.heap.size) (rootC y).toArray) ls_r10
          generalize u27.setRow (u1.heap.size) (rootC y).toArray = u28 at r10 r9 gg hS ⊢
          refine hK.out _ _ hS (fun hHeld => ?_)
          clear hK K
          try simp only [Act.put, List.setIfInBounds_toArray, List.set_cons_zero, List.set_cons_succ]
          refine wpAnyH_done (by kernel_rfl) ?_ _
          refine NoPanic.normal ?_
          exact key u20.heap.size u1.heap.size x y u28 hx hy r9 r10 (fun e => r10_r9 e.symm) l_r9 l_r10 gg
    · skip
      go_simp
      have r9 : RB (u0.alloc (.cells #[.int .u64 0, .int .i64 0, .int .i64 0, .int .i64 0, .int .i64 0, .int .i64 0, .int .i64 0, .int .i64 0, .int .i64 0, .int .i64 0] 25)) u0.heap.size zeroR := Blk.mk u0 25 (rootC zeroR).toArray
      have l_r9 := gg.size
      have ls_r9 := hS.size
      have gg := gb_trans gg (gb_alloc u0 (.cells #[.int .u64 0, .int .i64 0, .int .i64 0, .int .i64 0, .int .i64 0, .int .i64 0, .int .i64 0, .int .i64 0, .int .i64 0, .int .i64 0] 25) none)
      have hS := gb_trans hS (gb_alloc u0 (.cells #[.int .u64 0, .int .i64 0, .int .i64 0, .int .i64 0, .int .i64 0, .int .i64 0, .int .i64 0, .int .i64 0, .int .i64 0, .int .i64 0] 25) none)
      generalize u0.alloc (.cells #[.int .u64 0, .int .i64 0, .int .i64 0, .int .i64 0, .int .i64 0, .int .i64 0, .int .i64 0, .int .i64 0, .int .i64 0, .int .i64 0] 25) = u29 at r9 gg hS ⊢
      refine hK.out _ _ hS (fun hHeld => ?_)
      clear hK K
      try simp only [Act.put, List.setIfInBounds_toArray, List.set_cons_zero, List.set_cons_succ]
      refine wpAnyH_ready (rs := [1, 5]) (by kernel_rfl) (by simp) ?_
      refine AllReadyH.cons (List.getElem?_toArray.trans rfl) (fun K hK => ?_) (AllReadyH.cons (List.getElem?_toArray.trans rfl) (fun K hK => ?_) AllReadyH.nil)
      · skip
        go_simp
        go_at_call 9
        (with_reducible refine (HDr.out _).mono ?_)
        rintro e u30 ⟨x, hx, rfl, gN⟩
        have r9 := RB.keep0 r9 gN
        have gg := gb_trans gg gN
        have hS := gb_trans hS gN
        refine hK.out _ _ hS (fun hHeld => ?_)
        clear hK K
        try simp only [Act.put, List.setIfInBounds_toArray, List.set_cons_zero, List.set_cons_succ]
        refine wpAnyH_ready (rs := [3, 5]) (by kernel_rfl) (by simp) ?_
        refine AllReadyH.cons (List.getElem?_toArray.trans rfl) (fun K hK => ?_) (AllReadyH.cons (List.getElem?_toArray.trans rfl) (fun K hK => ?_) AllReadyH.nil)
        · skip
          go_simp
          go_at_call 9
          (with_reducible refine (HDr2.out _).mono ?_)
          rintro e u31 ⟨y, hy, rfl, gN⟩
          have r9 := RB.keep0 r9 gN
          have gg := gb_trans gg gN
          have hS := gb_trans hS gN
          refine hK.out _ _ hS (fun hHeld => ?_)
          clear hK K
          try simp only [Act.put, List.setIfInBounds_toArray, List.set_cons_zero, List.set_cons_succ]
          refine wpAnyH_ready (rs := [5]) (by kernel_rfl) (by simp) ?_
          refine AllReadyH.cons (List.getElem?_toArray.trans rfl) (fun K hK => ?_) AllReadyH.nil
          go_simp
          have r10 : RB (u31.alloc (.cells #[.int .u64 0, .int .i64 0, .int .i64 0, .int .i64 0, .int .i64 0, .int .i64 0, .int .i64 0, .int .i64 0, .int .i64 0, .int .i64 0] 25)) u31.heap.size zeroR := Blk.mk u31 25 (rootC zeroR).toArray
          have l_r10 := gg.size
          have ls_r10 := hS.size
          have r9_r10 := Nat.ne_of_lt (Blk.lt r9)
          have r9 := RB.keep0 r9 (gb_alloc u31 (.cells #[.int .u64 0, .int .i64 0, .int .i64 0, .int .i64 0, .int .i64 0, .int .i64 0, .int .i64 0, .int .i64 0, .int .i64 0, .int .i64 0] 25) none)
          have gg := gb_trans gg (gb_alloc u31 (.cells #[.int .u64 0, .int .i64 0, .int .i64 0, .int .i64 0, .int .i64 0, .int .i64 0, .int .i64 0, .int .i64 0, .int .i64 0, .int .i64 0] 25) none)
          have hS := gb_trans hS (gb_alloc u31 (.cells #[.int .u64 0, .int .i64 0, .int .i64 0, .int .i64 0, .int .i64 0, .int .i64 0, .int .i64 0, .int .i64 0, .int .i64 0, .int .i64 0] 25) none)
          generalize u31.alloc (.cells #[.int .u64 0, .int .i64 0, .int .i64 0, .int .i64 0, .int .i64 0, .int .i64 0, .int .i64 0, .int .i64 0, .int .i64 0, .int .i64 0] 25) = u32 at r9 r10 gg hS ⊢
          refine hK.out _ _ hS (fun hHeld => ?_)
          clear hK K
          try simp only [Act.put, List.setIfInBounds_toArray, List.set_cons_zero, List.set_cons_succ]
          refine wpAnyH_ready (rs := [6]) (by kernel_rfl) (by simp) ?_
          refine AllReadyH.cons (List.getElem?_toArray.trans rfl) (fun K hK => ?_) AllReadyH.nil
          with_reducible refine stR 9 39 (u0.heap.size) zeroR x zero_len hx.len r9 ?hx ?hy ?_
          case hx => rfl
          case hy => rfl
          have r9 := set_root r9 x
          have r10 := RB.keepS r10 (gb_setRow u32 (u0.heap.size) (rootC x).toArray) (ne_some (fun e => r9_r10 e.symm))
          have gg := gb_step gg (gb_setRow u32 (u0.heap.size) (rootC x).toArray) l_r9
          have hS := gb_step hS (gb_setRow u32 (u0.heap.size) (rootC x).toArray) ls_r9
          generalize u32.setRow (u0.heap.size) (rootC x).toArray = u33 at r9 r10 gg hS ⊢
          refine hK.out _ _ hS (fun hHeld => ?_)
          clear hK K
          try simp only [Act.put, List.setIfInBounds_toArray, List.set_cons_zero, List.set_cons_succ]
          refine wpAnyH_ready (rs := [7]) (by kernel_rfl) (by simp) ?_
          refine AllReadyH.cons (List.getElem?_toArray.trans rfl) (fun K hK => ?_) AllReadyH.nil
          with_reducible refine stR 10 41 (u31.heap.size) zeroR y zero_len hy.len r10 ?hx ?hy ?_
          case hx => rfl
          case hy => rfl
          have r10 := set_root r10 y
          have r9 := RB.keepS r9 (gb_setRow u33 (u31.heap.size) (rootC y).toArray) (ne_some r9_r10)
          have gg := gb_step gg (gb_setRow u33 (u31.heap.size) (rootC y).toArray) l_r10
          have hS := gb_step hS (gb_setRow u33 (u31.heap.size) (rootC y).toArray) ls_r10
          generalize u33.setRow (u31.heap.size) (rootC y).toArray = u34 at r9 r10 gg hS ⊢
          refine hK.out _ _ hS (fun hHeld => ?_)
          clear hK K
          try simp only [Act.put, List.setIfInBounds_toArray, List.set_cons_zero, List.set_cons_succ]
          refine wpAnyH_done (by kernel_rfl) ?_ _
          refine NoPanic.normal ?_
          exact key u0.heap.size u31.heap.size x y u34 hx hy r9 r10 r9_r10 l_r9 l_r10 gg
        · skip
          go_simp
          have r10 : RB (u30.alloc (.cells #[.int .u64 0, .int .i64 0, .int .i64 0, .int .i64 0, .int .i64 0, .int .i64 0, .int .i64 0, .int .i64 0, .int .i64 0, .int .i64 0] 25)) u30.heap.size zeroR := Blk.mk u30 25 (rootC zeroR).toArray
          have l_r10 := gg.size
          have ls_r10 := hS.size
          have r9_r10 := Nat.ne_of_lt (Blk.lt r9)
          have r9 := RB.keep0 r9 (gb_alloc u30 (.cells #[.int .u64 0, .int .i64 0, .int .i64 0, .int .i64 0, .int .i64 0, .int .i64 0, .int .i64 0, .int .i64 0, .int .i64 0, .int .i64 0] 25) none)
          have gg := gb_trans gg (gb_alloc u30 (.cells #[.int .u64 0, .int .i64 0, .int .i64 0, .int .i64 0, .int .i64 0, .int .i64 0, .int .i64 0, .int .i64 0, .int .i64 0, .int .i64 0] 25) none)
          have hS := gb_trans hS (gb_alloc u30 (.cells #[.int .u64 0, .int .i64 0, .int .i64 0, .int .i64 0, .int .i64 0, .int .i64 0, .int .i64 0, .int .i64 0, .int .i64 0, .int .i64 0] 25) none)
          generalize u30.alloc (.cells #[.int .u64 0, .int .i64 0, .int .i64 0, .int .i64 0, .int .i64 0, .int .i64 0, .int .i64 0, .int .i64 0, .int .i64 0, .int .i64 0] 25) = u35 at r9 r10 gg hS ⊢
          refine hK.out _ _ hS (fun hHeld => ?_)
          clear hK K
          try simp only [Act.put, List.setIfInBounds_toArray, List.set_cons_zero, List.set_cons_succ]
          refine wpAnyH_ready (rs := [3]) (by kernel_rfl) (by simp) ?_
          refine AllReadyH.cons (List.getElem?_toArray.trans rfl) (fun K hK => ?_) AllReadyH.nil
          go_simp
          go_at_call 9
          (with_reducible refine (HDr2.out _).mono ?_)
          rintro e u36 ⟨y, hy, rfl, gN⟩
          have r9 := RB.keep0 r9 gN
          have r10 := RB.keep0 r10 gN
          have gg := gb_trans gg gN
          have hS := gb_trans hS gN
          refine hK.out _ _ hS (fun hHeld => ?_)
          clear hK K
          try simp only [Act.put, List.setIfInBounds_toArray, List.set_cons_zero, List.set_cons_succ]
          refine wpAnyH_ready (rs := [6]) (by kernel_rfl) (by simp) ?_
          refine AllReadyH.cons (List.getElem?_toArray.trans rfl) (fun K hK => ?_) AllReadyH.nil
          with_reducible refine stR 9 39 (u0.heap.size) zeroR x zero_len hx.len r9 ?hx ?hy ?_
          case hx => rfl
          case hy => rfl
          have r9 := set_root r9 x
          have r10 := RB.keepS r10 (gb_setRow u36 (u0.heap.size) (rootC x).toArray) (ne_some (fun e => r9_r10 e.symm))
          have gg := gb_step gg (gb_setRow u36 (u0.heap.size) (rootC x).toArray) l_r9
          have hS := gb_step hS (gb_setRow u36 (u0.heap.size) (rootC x).toArray) ls_r9
          generalize u36.setRow (u0.heap.size) (rootC x).toArray = u37 at r9 r10 gg hS ⊢
          refine hK.out _ _ hS (fun hHeld => ?_)
          clear hK K
          try simp only [Act.put, List.setIfInBounds_toArray, List.set_cons_zero, List.set_cons_succ]
          refine wpAnyH_ready (rs := [7]) (by kernel_rfl) (by simp) ?_
          refine AllReadyH.cons (List.getElem?_toArray.trans rfl) (fun K hK => ?_) AllReadyH.nil
          with_reducible refine stR 10 41 (u30.heap.size) zeroR y zero_len hy.len r10 ?hx ?hy ?_
          case hx => rfl
          case hy => rfl
          have r10 := set_root r10 y
          have r9 := RB.keepS r9 (gb_setRow u37 (u30.heap.size) (rootC y).toArray) (ne_some r9_r10)
          have gg := gb_step gg (gb_setRow u37 (u30.heap.size) (rootC y).toArray) l_r10
          have hS := gb_step hS (gb_setRow u37 (u30.heap.size) (rootC y).toArray) ls_r10
          generalize u37.setRow (u30.heap.size) (rootC y).toArray = u38 at r9 r10 gg hS ⊢
          refine hK.out _ _ hS (fun hHeld => ?_)
          clear hK K
          try simp only [Act.put, List.setIfInBounds_toArray, List.set_cons_zero, List.set_cons_succ]
          refine wpAnyH_done (by kernel_rfl) ?_ _
          refine NoPanic.normal ?_
          exact key u0.heap.size u30.heap.size x y u38 hx hy r9 r10 r9_r10 l_r9 l_r10 gg
      · skip
        go_simp
        have r10 : RB (u29.alloc (.cells #[.int .u64 0, .int .i64 0, .int .i64 0, .int .i64 0, .int .i64 0, .int .i64 0, .int .i64 0, .int .i64 0, .int .i64 0, .int .i64 0] 25)) u29.heap.size zeroR := Blk.mk u29 25 (rootC zeroR).toArray
        have l_r10 := gg.size
        have ls_r10 := hS.size
        have r9_r10 := Nat.ne_of_lt (Blk.lt r9)
        have r9 := RB.keep0 r9 (gb_alloc u29 (.cells #[.int .u64 0, .int .i64 0, .int .i64 0, .int .i64 0, .int .i64 0, .int .i64 0, .int .i64 0, .int .i64 0, .int .i64 0, .int .i64 0] 25) none)
        have gg := gb_trans gg (gb_alloc u29 (.cells #[.int .u64 0, .int .i64 0, .int .i64 0, .int .i64 0, .int .i64 0, .int .i64 0, .int .i64 0, .int .i64 0, .int .i64 0, .int .i64 0] 25) none)
        have hS := gb_trans hS (gb_alloc u29 (.cells #[.int .u64 0, .int .i64 0, .int .i64 0, .int .i64 0, .int .i64 0, .int .i64 0, .int .i64 0, .int .i64 0, .int .i64 0, .int .i64 0] 25) none)
        generalize u29.alloc (.cells #[.int .u64 0, .int .i64 0, .int .i64 0, .int .i64 0, .int .i64 0, .int .i64 0, .int .i64 0, .int .i64 0, .int .i64 0, .int .i64 0] 25) = u39 at r9 r10 gg hS ⊢
        refine hK.out _ _ hS (fun hHeld => ?_)
        clear hK K
        try simp only [Act.put, List.setIfInBounds_toArray, List.set_cons_zero, List.set_cons_succ]
        refine wpAnyH_ready (rs := [1]) (by kernel_rfl) (by simp) ?_
        refine AllReadyH.cons (List.getElem?_toArray.trans rfl) (fun K hK => ?_) AllReadyH.nil
        go_simp
        go_at_call 9
        (with_reducible refine (HDr.out _).mono ?_)
        rintro e u40 ⟨x, hx, rfl, gN⟩
        have r9 := RB.keep0 r9 gN
        have r10 := RB.keep0 r10 gN
        have gg := gb_trans gg gN
        have hS := gb_trans hS gN
        refine hK.out _ _ hS (fun hHeld => ?_)
        clear hK K
        try simp only [Act.put, List.setIfInBounds_toArray, List.set_cons_zero, List.set_cons_succ]
        refine wpAnyH_ready (rs := [3]) (by kernel_rfl) (by simp) ?_
        refine AllReadyH.cons (List.getElem?_toArray.trans rfl) (fun K hK => ?_) AllReadyH.nil
        go_simp
        go_at_call 9
        (with_reducible refine (HDr2.out _).mono ?_)
        rintro e u41 ⟨y, hy, rfl, gN⟩
        have r9 := RB.keep0 r9 gN
        have r10 := RB.keep0 r10 gN
        have gg := gb_trans gg gN
        have hS := gb_trans hS gN
        refine hK.out _ _ hS (fun hHeld => ?_)
        clear hK K
        try simp only [Act.put, List.setIfInBounds_toArray, List.set_cons_zero, List.set_cons_succ]
        refine wpAnyH_ready (rs := [6]) (by kernel_rfl) (by simp) ?_
        refine AllReadyH.cons (List.getElem?_toArray.trans rfl) (fun K hK => ?_) AllReadyH.nil
        with_reducible refine stR 9 39 (u0.heap.size) zeroR x zero_len hx.len r9 ?hx ?hy ?_
        case hx => rfl
        case hy => rfl
        have r9 := set_root r9 x
        have r10 := RB.keepS r10 (gb_setRow u41 (u0.heap.size) (rootC x).toArray) (ne_some (fun e => r9_r10 e.symm))
        have gg := gb_step gg (gb_setRow u41 (u0.heap.size) (rootC x).toArray) l_r9
        have hS := gb_step hS (gb_setRow u41 (u0.heap.size) (rootC x).toArray) ls_r9
        generalize u41.setRow (u0.heap.size) (rootC x).toArray = u42 at r9 r10 gg hS ⊢
        refine hK.out _ _ hS (fun hHeld => ?_)
        clear hK K
        try simp only [Act.put, List.setIfInBounds_toArray, List.set_cons_zero, List.set_cons_succ]
        refine wpAnyH_ready (rs := [7]) (by kernel_rfl) (by simp) ?_
        refine AllReadyH.cons (List.getElem?_toArray.trans rfl) (fun K hK => ?_) AllReadyH.nil
        with_reducible refine stR 10 41 (u29.heap.size) zeroR y zero_len hy.len r10 ?hx ?hy ?_
        case hx => rfl
        case hy => rfl
        have r10 := set_root r10 y
        have r9 := RB.keepS r9 (gb_setRow u42 (u29.heap.size) (rootC y).toArray) (ne_some r9_r10)
        have gg := gb_step gg (gb_setRow u42 (u29.heap.size) (rootC y).toArray) l_r10
        have hS := gb_step hS (gb_setRow u42 (u29.heap.size) (rootC y).toArray) ls_r10
        generalize u42.setRow (u29.heap.size) (rootC y).toArray = u43 at r9 r10 gg hS ⊢
        refine hK.out _ _ hS (fun hHeld => ?_)
        clear hK K
        try simp only [Act.put, List.setIfInBounds_toArray, List.set_cons_zero, List.set_cons_succ]
        refine wpAnyH_done (by kernel_rfl) ?_ _
        refine NoPanic.normal ?_
        exact key u0.heap.size u29.heap.size x y u43 hx hy r9 r10 r9_r10 l_r9 l_r10 gg
    · skip
      go_simp
      have r10 : RB (u0.alloc (.cells #[.int .u64 0, .int .i64 0, .int .i64 0, .int .i64 0, .int .i64 0, .int .i64 0, .int .i64 0, .int .i64 0, .int .i64 0, .int .i64 0] 25)) u0.heap.size zeroR := Blk.mk u0 25 (rootC zeroR).toArray
      have l_r10 := gg.size
      have ls_r10 := hS.size
      have gg := gb_trans gg (gb_alloc u0 (.cells #[.int .u64 0, .int .i64 0, .int .i64 0, .int .i64 0, .int .i64 0, .int .i64 0, .int .i64 0, .int .i64 0, .int .i64 0, .int .i64 0] 25) none)
      have hS := gb_trans hS (gb_alloc u0 (.cells #[.int .u64 0, .int .i64 0, .int .i64 0, .int .i64 0, .int .i64 0, .int .i64 0, .int .i64 0, .int .i64 0, .int .i64 0, .int .i64 0] 25) none)
      generalize u0.alloc (.cells #[.int .u64 0, .int .i64 0, .int .i64 0, .int .i64 0, .int .i64 0, .int .i64 0, .int .i64 0, .int .i64 0, .int .i64 0, .int .i64 0] 25) = u44 at r10 gg hS ⊢
      refine hK.out _ _ hS (fun hHeld => ?_)
      clear hK K
      try simp only [Act.put, List.setIfInBounds_toArray, List.set_cons_zero, List.set_cons_succ]
      refine wpAnyH_ready (rs := [1, 4]) (by kernel_rfl) (by simp) ?_
      refine AllReadyH.cons (List.getElem?_toArray.trans rfl) (fun K hK => ?_) (AllReadyH.cons (List.getElem?_toArray.trans rfl) (fun K hK => ?_) AllReadyH.nil)
      · skip
        go_simp
        go_at_call 9
        (with_reducible refine (HDr.out _).mono ?_)
        rintro e u45 ⟨x, hx, rfl, gN⟩
        have r10 := RB.keep0 r10 gN
        have gg := gb_trans gg gN
        have hS := gb_trans hS gN
        refine hK.out _ _ hS (fun hHeld => ?_)
        clear hK K
        try simp only [Act.put, List.setIfInBounds_toArray, List.set_cons_zero, List.set_cons_succ]
        refine wpAnyH_ready (rs := [3, 4]) (by kernel_rfl) (by simp) ?_
        refine AllReadyH.cons (List.getElem?_toArray.trans rfl) (fun K hK => ?_) (AllReadyH.cons (List.getElem?_toArray.trans rfl) (fun K hK => ?_) AllReadyH.nil)
        · skip
          go_simp
          go_at_call 9
          (with_reducible refine (HDr2.out _).mono ?_)
          rintro e u46 ⟨y, hy, rfl, gN⟩
          have r10 := RB.keep0 r10 gN
          have gg := gb_trans gg gN
          have hS := gb_trans hS gN
          refine hK.out _ _ hS (fun hHeld => ?_)
          clear hK K
          try simp only [Act.put, List.setIfInBounds_toArray, List.set_cons_zero, List.set_cons_succ]
          refine wpAnyH_ready (rs := [4]) (by kernel_rfl) (by simp) ?_
          refine AllReadyH.cons (List.getElem?_toArray.trans rfl) (fun K hK => ?_) AllReadyH.nil
          go_simp
          have r9 : RB (u46.alloc (.cells #[.int .u64 0, .int .i64 0, .int .i64 0, .int .i64 0, .int .i64 0, .int .i64 0, .int .i64 0, .int .i64 0, .int .i64 0, .int .i64 0] 25)) u46.heap.size zeroR := Blk.mk u46 25 (rootC zeroR).toArray
          have l_r9 := gg.size
          have ls_r9 := hS.size
          have r10_r9 := Nat.ne_of_lt (Blk.lt r10)
          have r10 := RB.keep0 r10 (gb_alloc u46 (.cells #[.int .u64 0, .int .i64 0, .int .i64 0, .int .i64 0, .int .i64 0, .int .i64 0, .int .i64 0, .int .i64 0, .int .i64 0, .int .i64 0] 25) none)
          have gg := gb_trans gg (gb_alloc u46 (.cells #[.int .u64 0, .int .i64 0, .int .i64 0, .int .i64 0, .int .i64 0, .int .i64 0, .int .i64 0, .int .i64 0, .int .i64 0, .int .i64 0] 25) none)
          have hS := gb_trans hS (gb_alloc u46 (.cells #[.int .u64 0, .int .i64 0, .int .i64 0, .int .i64 0, .int .i64 0, .int .i64 0, .int .i64 0, .int .i64 0, .int .i64 0, .int .i64 0] 25) none)
          generalize u46.alloc (.cells #[.int .u64 0, .int .i64 0, .int .i64 0, .int .i64 0, .int .i64 0, .int .i64 0, .int .i64 0, .int .i64 0, .int .i64 0, .int .i64 0] 25) = u47 at r10 r9 gg hS ⊢
          refine hK.out _ _ hS (fun hHeld => ?_)
          clear hK K
          try simp only [Act.put, List.setIfInBounds_toArray, List.set_cons_zero, List.set_cons_succ]
          refine wpAnyH_ready (rs := [6]) (by kernel_rfl) (by simp) ?_
          refine AllReadyH.cons (List.getElem?_toArray.trans rfl) (fun K hK => ?_) AllReadyH.nil
          with_reducible refine stR 9 39 (u46.heap.size) zeroR x zero_len hx.len r9 ?hx ?hy ?_
          case hx => rfl
          case hy => rfl
          have r9 := set_root r9 x
          have r10 := RB.keepS r10 (gb_setRow u47 (u46.heap.size) (rootC x).toArray) (ne_some r10_r9)
          have gg := gb_step gg (gb_setRow u47 (u46.heap.size) (rootC x).toArray) l_r9
          have hS := gb_step hS (gb_setRow u47 (u46.heap.size) (rootC x).toArray) ls_r9
          generalize u47.setRow (u46.heap.size) (rootC x).toArray = u48 at r10 r9 gg hS ⊢
          refine hK.out _ _ hS (fun hHeld => ?_)
          clear hK K
          try simp only [Act.put, List.setIfInBounds_toArray, List.set_cons_zero, List.set_cons_succ]
          refine wpAnyH_ready (rs := [7]) (by kernel_rfl) (by simp) ?_
          refine AllReadyH.cons (List.getElem?_toArray.trans rfl) (fun K hK => ?_) AllReadyH.nil
          with_reducible refine stR 10 41 (u0.heap.size) zeroR y zero_len hy.len r10 ?hx ?hy ?_
          case hx => rfl
          case hy => rfl
          have r10 := set_root r10 y
          have r9 := RB.keepS r9 (gb_setRow u48 (u0.heap.size) (rootC y).toArray) (ne_some (fun e => r10_r9 e.symm))
          have gg := gb_step gg (gb_setRow u48 (u0.heap.size) (rootC y).toArray) l_r10
          have hS := gb_step hS (gb_setRow u48 (u0.heap.size) (rootC y).toArray) ls_r10
          generalize u48.setRow (u0.heap.size) (rootC y).toArray = u49 at r10 r9 gg hS ⊢
          refine hK.out _ _ hS (fun hHeld => ?_)
          clear hK K
          try simp only [Act.put, List.setIfInBounds_toArray, List.set_cons_zero, List.set_cons_succ]
          refine wpAnyH_done (by kernel_rfl) ?_ _
          refine NoPanic.normal ?_
          exact key u46.heap.size u0.heap.size x y u49 hx hy r9 r10 (fun e => r10_r9 e.symm) l_r9 l_r10 gg
        · skip
          go_simp
          have r9 : RB (u45.alloc (.cells #[.int .u64 0, .int .i64 0, .int .i64 0, .int .i64 0, .int .i64 0, .int .i64 0, .int .i64 0, .int .i64 0, .int .i64 0, .int .i64 0] 25)) u45.heap.size zeroR := Blk.mk u45 25 (rootC zeroR).toArray
          have l_r9 := gg.size
          have ls_r9 := hS.size
          have r10_r9 := Nat.ne_of_lt (Blk.lt r10)
          have r10 := RB.keep0 r10 (gb_alloc u45 (.cells #[.int .u64 0, .int .i64 0, .int .i64 0, .int .i64 0, .int .i64 0, .int .i64 0, .int .i64 0, .int .i64 0, .int .i64 0, .int .i64 0] 25) none)
          have gg := gb_trans gg (gb_alloc u45 (.cells #[.int .u64 0, .int .i64 0, .int .i64 0, .int .i64 0, .int .i64 0, .int .i64 0, .int .i64 0, .int .i64 0, .int .i64 0, .int .i64 0] 25) none)
          have hS := gb_trans hS (gb_alloc u45 (.cells #[.int .u64 0, .int .i64 0, .int .i64 0, .int .i64 0, .int .i64 0, .int .i64 0, .int .i64 0, .int .i64 0, .int .i64 0, .int .i64 0] 25) none)
          generalize u45.alloc (.cells #[.int .u64 0, .int .i64 0, .int .i64 0, .int .i64 0, .int .i64 0, .int .i64 0, .int .i64 0, .int .i64 0, .int .i64 0, .int .i64 0] 25) = u50 at r10 r9 gg hS ⊢
          refine hK.out _ _ hS (fun hHeld => ?_)
          clear hK K
          try simp only [Act.put, List.setIfInBounds_toArray, List.set_cons_zero, List.set_cons_succ]
          refine wpAnyH_ready (rs := [3]) (by kernel_rfl) (by simp) ?_
          refine AllReadyH.cons (List.getElem?_toArray.trans rfl) (fun K hK => ?_) AllReadyH.nil
          go_simp
          go_at_call 9
          (with_reducible refine (HDr2.out _).mono ?_)
          rintro e u51 ⟨y, hy, rfl, gN⟩
          have r10 := RB.keep0 r10 gN
          have r9 := RB.keep0 r9 gN
          have gg := gb_trans gg gN
          have hS := gb_trans hS gN
          refine hK.out _ _ hS (fun hHeld => ?_)
          clear hK K
          try simp only [Act.put, List.setIfInBounds_toArray, List.set_cons_zero, List.set_cons_succ]
          refine wpAnyH_ready (rs := [6]) (by kernel_rfl) (by simp) ?_
          refine AllReadyH.cons (List.getElem?_toArray.trans rfl) (fun K hK => ?_) AllReadyH.nil
          with_reducible refine stR 9 39 (u45.heap.size) zeroR x zero_len hx.len r9 ?hx ?hy ?_
          case hx => rfl
          case hy => rfl
          have r9 := set_root r9 x
          have r10 := RB.keepS r10 (gb_setRow u51 (u45.heap.size) (rootC x).toArray) (ne_some r10_r9)
          have gg := gb_step gg (gb_setRow u51 (u45.heap.size) (rootC x).toArray) l_r9
          have hS := gb_step hS (gb_setRow u51 (u45.heap.size) (rootC x).toArray) ls_r9
          generalize u51.setRow (u45.heap.size) (rootC x).toArray = u52 at r10 r9 gg hS ⊢
          refine hK.out _ _ hS (fun hHeld => ?_)
          clear hK K
          try simp only [Act.put, List.setIfInBounds_toArray, List.set_cons_zero, List.set_cons_succ]
          refine wpAnyH_ready (rs := [7]) (by kernel_rfl) (by simp) ?_
          refine AllReadyH.cons (List.getElem?_toArray.trans rfl) (fun K hK => ?_) AllReadyH.nil
          with_reducible refine stR 10 41 (u0.heap.size) zeroR y zero_len hy.len r10 ?hx ?hy ?_
          case hx => rfl
          case hy => rfl
          have r10 := set_root r10 y
          have r9 := RB.keepS r9 (gb_setRow u52 (u0.heap.size) (rootC y).toArray) (ne_some (fun e => r10_r9 e.symm))
          have gg := gb_step gg (gb_setRow u52 (u0.heap.size) (rootC y).toArray) l_r10
          have hS := gb_step hS (gb_setRow u52 (u0.heap.size) (rootC y).toArray) ls_r10
          generalize u52.setRow (u0.heap.size) (rootC y).toArray = u53 at r10 r9 gg hS ⊢
          refine hK.out _ _ hS (fun hHeld => ?_)
          clear hK K
          try simp only [Act.put, List.setIfInBounds_toArray, List.set_cons_zero, List.set_cons_succ]
          refine wpAnyH_done (by kernel_rfl) ?_ _
          refine NoPanic.normal ?_
          exact key u45.heap.size u0.heap.size x y u53 hx hy r9 r10 (fun e => r10_r9 e.symm) l_r9 l_r10 gg
      · skip
        go_simp
        have r9 : RB (u44.alloc (.cells #[.int .u64 0, .int .i64 0, .int .i64 0, .int .i64 0, .int .i64 0, .int .i64 0, .int .i64 0, .int .i64 0, .int .i64 0, .int .i64 0] 25)) u44.heap.size zeroR := Blk.mk u44 25 (rootC zeroR).toArray
        have l_r9 := gg.size
        have ls_r9 := hS.size
        have r10_r9 := Nat.ne_of_lt (Blk.lt r10)
        have r10 := RB.keep0 r10 (gb_alloc u44 (.cells #[.int .u64 0, .int .i64 0, .int .i64 0, .int .i64 0, .int .i64 0, .int .i64 0, .int .i64 0, .int .i64 0, .int .i64 0, .int .i64 0] 25) none)
        have gg := gb_trans gg (gb_alloc u44 (.cells #[.int .u64 0, .int .i64 0, .int .i64 0, .int .i64 0, .int .i64 0, .int .i64 0, .int .i64 0, .int .i64 0, .int .i64 0, .int .i64 0] 25) none)
        have hS := gb_trans hS (gb_alloc u44 (.cells #[.int .u64 0, .int .i64 0, .int .i64 0, .int .i64 0, .int .i64 0, .int .i64 0, .int .i64 0, .int .i64 0, .int .i64 0, .int .i64 0] 25) none)
        generalize u44.alloc (.cells #[.int .u64 0, .int .i64 0, .int .i64 0, .int .i64 0, .int .i64 0, .int .i64 0, .int .i64 0, .int .i64 0, .int .i64 0, .int .i64 0] 25) = u54 at r10 r9 gg hS ⊢
        refine hK.out _ _ hS (fun hHeld => ?_)
        clear hK K
        try simp only [Act.put, List.setIfInBounds_toArray, List.set_cons_zero, List.set_cons_succ]
        refine wpAnyH_ready (rs := [1]) (by kernel_rfl) (by simp) ?_
        refine AllReadyH.cons (List.getElem?_toArray.trans rfl) (fun K hK => ?_) AllReadyH.nil
        go_simp
        go_at_call 9
        (with_reducible refine (HDr.out _).mono ?_)
        rintro e u55 ⟨x, hx, rfl, gN⟩
        have r10 := RB.keep0 r10 gN
        have r9 := RB.keep0 r9 gN
        have gg := gb_trans gg gN
        have hS := gb_trans hS gN
        refine hK.out _ _ hS (fun hHeld => ?_)
        clear hK K
        try simp only [Act.put, List.setIfInBounds_toArray, List.set_cons_zero, List.set_cons_succ]
        refine wpAnyH_ready (rs := [3]) (by kernel_rfl) (by simp) ?_
        refine AllReadyH.cons (List.getElem?_toArray.trans rfl) (fun K hK => ?_) AllReadyH.nil
        go_simp
        go_at_call 9
        (with_reducible refine (HDr2.out _).mono ?_)
        rintro e u56 ⟨y, hy, rfl, gN⟩
        have r10 := RB.keep0 r10 gN
        have r9 := RB.keep0 r9 gN
        have gg := gb_trans gg gN
        have hS := gb_trans hS gN
        refine hK.out _ _ hS (fun hHeld => ?_)
        clear hK K
        try simp only [Act.put, List.setIfInBounds_toArray, List.set_cons_zero, List.set_cons_succ]
        refine wpAnyH_ready (rs := [6]) (by kernel_rfl) (by simp) ?_
        refine AllReadyH.cons (List.getElem?_toArray.trans rfl) (fun K hK => ?_) AllReadyH.nil
        with_reducible refine stR 9 39 (u44.heap.size) zeroR x zero_len hx.len r9 ?hx ?hy ?_
        case hx => rfl
        case hy => rfl
        have r9 := set_root r9 x
        have r10 := RB.keepS r10 (gb_setRow u56 (u44.heap.size) (rootC x).toArray) (ne_some r10_r9)
        have gg := gb_step gg (gb_setRow u56 (u44.heap.size) (rootC x).toArray) l_r9
        have hS := gb_step hS (gb_setRow u56 (u44.heap.size) (rootC x).toArray) ls_r9
        generalize u56.setRow (u44.heap.size) (rootC x).toArray = u57 at r10 r9 gg hS ⊢
        refine hK.out _ _ hS (fun hHeld => ?_)
        clear hK K
        try simp only [Act.put, List.setIfInBounds_toArray, List.set_cons_zero, List.set_cons_succ]
        refine wpAnyH_ready (rs := [7]) (by kernel_rfl) (by simp) ?_
        refine AllReadyH.cons (List.getElem?_toArray.trans rfl) (fun K hK => ?_) AllReadyH.nil
        with_reducible refine stR 10 41 (u0.heap.size) zeroR y zero_len hy.len r10 ?hx ?hy ?_
        case hx => rfl
        case hy => rfl
        have r10 := set_root r10 y
        have r9 := RB.keepS r9 (gb_setRow u57 (u0.heap.size) (rootC y).toArray) (ne_some (fun e => r10_r9 e.symm))
        have gg := gb_step gg (gb_setRow u57 (u0.heap.size) (rootC y).toArray) l_r10
        have hS := gb_step hS (gb_setRow u57 (u0.heap.size) (rootC y).toArray) ls_r10
        generalize u57.setRow (u0.heap.size) (rootC y).toArray = u58 at r10 r9 gg hS ⊢
        refine hK.out _ _ hS (fun hHeld => ?_)
        clear hK K
        try simp only [Act.put, List.setIfInBounds_toArray, List.set_cons_zero, List.set_cons_succ]
        refine wpAnyH_done (by kernel_rfl) ?_ _
        refine NoPanic.normal ?_
        exact key u44.heap.size u0.heap.size x y u58 hx hy r9 r10 (fun e => r10_r9 e.symm) l_r9 l_r10 gg
  clear d3 d4 D3 D4 gg
  intro b9 b10 x0 y0 W p0 p1 p2 p3 p4 p5 p6 p32 p33 p34 p35 p36 p37 p38 p39 p40 p41 hx0 hy0 r9 r10 hne l9 l10 gg
  refine hK _ _ ?_
  refine wp_seq_k (fun K6 hK6 => ?_)
  obtain ⟨z, hz⟩ : ∃ z : Nat, 1 + x0.e / 2 = z := ⟨_, rfl⟩
  have hzb : 1 ≤ z ∧ z ≤ 9223372036854775808 := by have := hx0.2.1; omega
  obtain ⟨x, hxe⟩ : ∃ x : Rt, x = ⟨z, x0.n, x0.cs⟩ := ⟨_, rfl⟩
  have hx : Fit x := by rw [hxe]; exact ⟨hx0.1, by show z < _; omega, hx0.2.2⟩
  have hxz : x.e = z := by rw [hxe]
  suffices key6 : ∀ (W : World) {p0 p1 p2 p3 p4 p5 p6 p32 p33 p34 p35 p36 p37 p38 p39 p40 p41 p42 p43 p44 p45 p46 : Value}, RB W b9 x → RB W b10 y0 → w.grownBy W none → K6 ⟨#[p0, p1, p2, p3, p4, p5, p6, .int .u8 (how : Nat), .int .u16 (at0 : Nat), .pointer (some ⟨b9, 0, none⟩), .pointer (some ⟨b10, 0, none⟩), undef, undef, undef, undef, undef, undef, undef, undef, undef, undef, undef, undef, undef, undef, undef, undef, undef, undef, undef, undef, undef, p32, p33, p34, p35, p36, p37, p38, p39, p40, p41, p42, p43, p44, p45, p46, undef, undef, undef, undef, undef, undef, undef, undef, undef, undef, undef, undef, undef, undef, undef, undef, undef, undef, undef, undef, undef, undef, undef, undef, undef, undef, undef, undef, undef, undef, undef, undef, undef, undef, undef, undef, undef, undef, undef, undef, undef, undef, undef, undef, undef, undef, undef, undef, undef, undef, undef, undef, undef, undef, undef, undef, undef, undef, undef, undef, undef, undef, undef, undef, undef, undef, undef, undef, undef, undef, undef, undef, undef, undef, undef, undef, undef, undef, undef, undef, undef, undef, undef, undef, undef, undef, undef, undef, undef, undef, undef, undef, undef, undef, undef, undef, undef, undef, undef, undef, undef, undef, undef, undef, undef, undef, undef, undef, undef, undef, undef, undef, undef, undef, undef, undef, undef, undef, undef, undef, undef, undef, undef, undef, undef, undef, undef, undef, undef, undef, undef, undef, undef, undef, undef, undef, undef, undef, undef, undef, undef, undef, undef, undef, undef, undef, undef, undef, undef, undef, undef, undef, undef, undef, undef, undef, undef, undef, undef, undef, undef, undef, undef, undef, undef, undef, undef, undef, undef, undef, undef, undef, undef, undef, undef, undef, undef, undef, undef, undef, undef, undef, undef, undef, undef, undef, undef, undef, undef], []⟩ W by
    have c9 := r9.epoch
    have f9 := Blk.free r9 0
    have zi : 1 + (x0.e : Int) / 2 = (z : Int) := by omega
    have zw : IntKind.u64.wrap (z : Int) = (z : Int) := u64_small _ (by omega)
    have zs : (x0.e : Int) >>> (1 : Nat) = (x0.e : Int) / 2 := by rw [Int.shiftRight_eq_div_pow]; rfl
    have zh : IntKind.u64.wrap ((x0.e : Int) / 2) = (x0.e : Int) / 2 := by rw [IntKind.wrap_u64]; omega
    have r9z : RB (W.setCell ⟨b9, 0, none⟩ (.int .u64 (z : Nat))) b9 x := by rw [hxe]; exact Blk.set r9 0 _
    have r10z := RB.keepS r10 (gb_set W b9 0 none (.int .u64 (z : Nat))) (ne_some (fun e => hne e.symm))
    have gz := gb_step gg (gb_set W b9 0 none (.int .u64 (z : Nat))) l9
    clear hK6 hz hxe hxz
    go_wp2
    exact key6 _ r9z r10z gz
  clear r9 r10 gg W
  intro W p0 p1 p2 p3 p4 p5 p6 p32 p33 p34 p35 p36 p37 p38 p39 p40 p41 p42 p43 p44 p45 p46 r9 r10 gg
  refine hK6 _ _ ?_
  refine wp_seq_k (fun K7 hK7 => ?_)
  suffices key7 : ∀ (y : Rt) (W : World) {p0 p1 p2 p3 p4 p5 p6 p32 p33 p34 p35 p36 p37 p38 p39 p40 p41 p42 p43 p44 p45 p46 p47 p48 p49 p50 p51 p52 p53 p54 p55 p56 p57 p58 : Value}, Fit y → y.e ≤ z → (1 ≤ y.e) → RB W b9 x → RB W b10 y → w.grownBy W none → K7 ⟨#[p0, p1, p2, p3, p4, p5, p6, .int .u8 (how : Nat), .int .u16 (at0 : Nat), .pointer (some ⟨b9, 0, none⟩), .pointer (some ⟨b10, 0, none⟩), undef, undef, undef, undef, undef, undef, undef, undef, undef, undef, undef, undef, undef, undef, undef, undef, undef, undef, undef, undef, undef, p32, p33, p34, p35, p36, p37, p38, p39, p40, p41, p42, p43, p44, p45, p46, p47, p48, p49, p50, p51, p52, p53, p54, p55, p56, p57, p58, undef, undef, undef, undef, undef, undef, undef, undef, undef, undef, undef, undef, undef, undef, undef, undef, undef, undef, undef, undef, undef, undef, undef, undef, undef, undef, undef, undef, undef, undef, undef, undef, undef, undef, undef, undef, undef, undef, undef, undef, undef, undef, undef, undef, undef, undef, undef, undef, undef, undef, undef, undef, undef, undef, undef, undef, undef, undef, undef, undef, undef, undef, undef, undef, undef, undef, undef, undef, undef, undef, undef, undef, undef, undef, undef, undef, undef, undef, undef, undef, undef, undef, undef, undef, undef, undef, undef, undef, undef, undef, undef, undef, undef, undef, undef, undef, undef, undef, undef, undef, undef, undef, undef, undef, undef, undef, undef, undef, undef, undef, undef, undef, undef, undef, undef, undef, undef, undef, undef, undef, undef, undef, undef, undef, undef, undef, undef, undef, undef, undef, undef, undef, undef, undef, undef, undef, undef, undef, undef, undef, undef, undef, undef, undef, undef, undef, undef, undef, undef, undef, undef, undef, undef, undef, undef, undef, undef, undef, undef, undef, undef, undef, undef, undef, undef, undef, undef, undef, undef, undef, undef, undef, undef, undef, undef, undef, undef], []⟩ W by
    have c9 := r9.epoch
    rw [hxz] at c9
    have f10 := Blk.free r10 0
    have c10 := r10.epoch
    obtain ⟨m, hm⟩ : ∃ m : Nat, 1 + how % 5 = m := ⟨_, rfl⟩
    have hmi : 1 + (how : Int) % 5 = (m : Int) := by omega
    obtain ⟨u, hu⟩ : ∃ u : Nat, z - 1 = u := ⟨_, rfl⟩
    have hui : (z : Int) - 1 = (u : Int) := by omega
    have w1 : IntKind.u64.wrap (u : Int) = (u : Int) := u64_small _ (by omega)
    have w2 : IntKind.u64.wrap (how : Int) = (how : Int) := u64_small _ (by omega)
    have w3 : IntKind.u64.wrap ((how : Int) % 5) = (how : Int) % 5 := by rw [IntKind.wrap_u64]; omega
    have w4 : IntKind.u64.wrap (m : Int) = (m : Int) := u64_small _ (by omega)
    by_cases hmn : (u : Int) ≤ (m : Int)
    · have hzu : (z : Int) - (u : Int) = 1 := by omega
      have hw : IntKind.u64.wrap ((z : Int) - (u : Int)) = 1 := by rw [hzu]; rfl
      have r10z : RB (W.setCell ⟨b10, 0, none⟩ (.int .u64 (1 : Nat))) b10 ⟨1, y0.n, y0.cs⟩ := Blk.set r10 0 _
      have r9z := RB.keepS r9 (gb_set W b10 0 none (.int .u64 (1 : Nat))) (ne_some hne)
      have gz := gb_step gg (gb_set W b10 0 none (.int .u64 (1 : Nat))) l10
      have hyz : Fit ⟨1, y0.n, y0.cs⟩ := ⟨hy0.1, by show 1 < _; omega, hy0.2.2⟩
      clear hK7 hz
      go_wp2
      exact key7 ⟨1, y0.n, y0.cs⟩ _ hyz (by show 1 ≤ z; omega) (by show 1 ≤ 1; omega) r9z r10z gz
    · obtain ⟨v, hv⟩ : ∃ v : Nat, z - m = v := ⟨_, rfl⟩
      have hzu : (z : Int) - (m : Int) = (v : Int) := by omega
      have hw : IntKind.u64.wrap (v : Int) = (v : Int) := u64_small _ (by omega)
      have hmn2 : (m : Int) < (u : Int) := by omega
      have r10z : RB (W.setCell ⟨b10, 0, none⟩ (.int .u64 (v : Nat))) b10 ⟨v, y0.n, y0.cs⟩ := Blk.set r10 0 _
      have r9z := RB.keepS r9 (gb_set W b10 0 none (.int .u64 (v : Nat))) (ne_some hne)
      have gz := gb_step gg (gb_set W b10 0 none (.int .u64 (v : Nat))) l10
      have hyz : Fit ⟨v, y0.n, y0.cs⟩ := ⟨hy0.1, by show v < _; omega, hy0.2.2⟩
      clear hK7 hz
      go_wp2
      exact key7 ⟨v, y0.n, y0.cs⟩ _ hyz (by show v ≤ z; omega) (by show 1 ≤ v; omega) r9z r10z gz
  clear r9 r10 gg W hy0 hx0 y0
  intro y W p0 p1 p2 p3 p4 p5 p6 p32 p33 p34 p35 p36 p37 p38 p39 p40 p41 p42 p43 p44 p45 p46 p47 p48 p49 p50 p51 p52 p53 p54 p55 p56 p57 p58 hy hyz hy1 r9 r10 gg
  have HXL := Lib.hid hx.len
  have HYL := Lib.hid hy.len
  have HPx := Lib.hid (fun W (g : w.grownBy W none) => put_b x W (HPl.out.keep0 g) hx)
  have HPy := Lib.hid (fun W (g : w.grownBy W none) => put_b y W (HPl.out.keep0 g) hy)
  have HBl := Lib.hid (fun W => blank_b W)
  unfold RV at HPx HPy
  refine hK7 _ _ ?_
  by_cases hmx : MayR x
  · skip
    rw [show putC x = 0 from if_pos hmx] at HPx
    clear hxe hz
    have hS : (putB x).data.toList = putL x := by rw [putB_list]; unfold putS; rw [if_pos hmx]
    have hgx : Good x := ⟨hmx, hx.1, hx.2.1⟩
    have hxb : x.e < 18446744073709551615 := by rw [hxz]; omega
    have hU : MayR y → (putB y).data.toList = putL y := fun h => by rw [putB_list]; unfold putS; rw [if_pos h]
    have hc : MayR y ↔ putC y = 0 := by unfold putC; split; exact ⟨fun _ => rfl, fun _ => by assumption⟩; exact ⟨fun h => absurd h (by assumption), fun h => by cases h⟩
    obtain ⟨S, hSe⟩ : ∃ S, putB x = S := ⟨_, rfl⟩
    obtain ⟨U, hUe⟩ : ∃ U, putB y = U := ⟨_, rfl⟩
    obtain ⟨c, hce⟩ : ∃ c, putC y = c := ⟨_, rfl⟩
    rw [hSe] at HPx hS
    rw [hUe, hce] at HPy
    rw [hUe] at hU
    rw [hce] at hc
    clear hSe hUe hce
    have HGX := Lib.hid hgx
    have HXB := Lib.hid hxb
    have HS := Lib.hid hS
    have HU := Lib.hid hU
    have HC := Lib.hid hc
    have HY := Lib.hid hy
    have HX := Lib.hid hx
    have HXZ := Lib.hid hxz
    have HMX := Lib.hid hmx
    clear hgx hxb hS hU hc hmx hxz hx hy
    refine wp_seq_k (fun K8 hK8 => ?_)
    have HK8 := Lib.hid hK8
    clear hK8
    repeat (first
      | (go_big_may; first
        | ((with_reducible refine ld 9 (b9) x HXL.out r9 ?_ ?_); rfl)
        | (go_at_call 10; (with_reducible refine (HPx.out _ gg).mono ?_); rintro e v3 ⟨rfl, gN⟩; have r9 := RB.keep0 r9 gN; have r10 := RB.keep0 r10 gN; have gg := gb_trans gg gN; dsimp only)
        | fail)
      | go_values
      | go_skip
      | go_guarded
      | go_step
      | go_upon)
    refine HK8.out _ _ ?_
    refine wp_seq_k (fun K9 hK9 => ?_)
    have HK9 := Lib.hid hK9
    clear hK9
    repeat (first
      | (go_big_may; first
        | ((with_reducible refine ld 10 (b10) y HYL.out r10 ?_ ?_); rfl)
        | (go_at_call 10; (with_reducible refine (HPy.out _ gg).mono ?_); rintro e v4 ⟨rfl, gN⟩; have r9 := RB.keep0 r9 gN; have r10 := RB.keep0 r10 gN; have gg := gb_trans gg gN; have cx := r9.epoch; have cy := r10.epoch; dsimp only)
        | fail)
      | go_values
      | go_skip
      | go_guarded
      | go_step
      | go_upon)
    refine HK9.out _ _ ?_
    refine wp_seq_k (fun K11 hK11 => ?_)
    suffices key11 : ∀ (O : ByteArray) (W : World) {p0 p1 p2 p3 p4 p5 p6 p14 p32 p33 p34 p35 p36 p37 p38 p39 p40 p41 p42 p43 p44 p45 p46 p47 p48 p49 p50 p51 p52 p53 p54 p55 p56 p57 p58 p59 p60 p61 p62 p63 p64 p65 p66 p67 p68 p69 p70 p71 p72 p73 p74 p75 p76 p77 p78 p79 p80 p81 p82 : Value}, (O.size = 256 ∧ (O.data.toList = zer 256 ∨ ∃ q : Rt, Good q ∧ q.e < x.e ∧ O.data.toList = putL q)) → RB W b9 x → RB W b10 y → w.grownBy W none → K11 ⟨#[p0, p1, p2, p3, p4, p5, p6, .int .u8 (how : Nat), .int .u16 (at0 : Nat), .pointer (some ⟨b9, 0, none⟩), .pointer (some ⟨b10, 0, none⟩), .string S, .int .i64 0, .string O, p14, undef, undef, undef, undef, undef, undef, undef, undef, undef, undef, undef, undef, undef, undef, undef, undef, undef, p32, p33, p34, p35, p36, p37, p38, p39, p40, p41, p42, p43, p44, p45, p46, p47, p48, p49, p50, p51, p52, p53, p54, p55, p56, p57, p58, p59, p60, p61, p62, p63, p64, p65, p66, p67, p68, p69, p70, p71, p72, p73, p74, p75, p76, p77, p78, p79, p80, p81, p82, undef, undef, undef, undef, undef, undef, undef, undef, undef, undef, undef, undef, undef, undef, undef, undef, undef, undef, undef, undef, undef, undef, undef, undef, undef, undef, undef, undef, undef, undef, undef, undef, undef, undef, undef, undef, undef, undef, undef, undef, undef, undef, undef, undef, undef, undef, undef, undef, undef, undef, undef, undef, undef, undef, undef, undef, undef, undef, undef, undef, undef, undef, undef, undef, undef, undef, undef, undef, undef, undef, undef, undef, undef, undef, undef, undef, undef, undef, undef, undef, undef, undef, undef, undef, undef, undef, undef, undef, undef, undef, undef, undef, undef, undef, undef, undef, undef, undef, undef, undef, undef, undef, undef, undef, undef, undef, undef, undef, undef, undef, undef, undef, undef, undef, undef, undef, undef, undef, undef, undef, undef, undef, undef, undef, undef, undef, undef, undef, undef, undef, undef, undef, undef, undef, undef, undef, undef, undef, undef, undef, undef, undef, undef, undef, undef, undef, undef, undef, undef, undef, undef, undef, undef], []⟩ W by
      clear hK11
      have HG11 := Lib.hid key11
      clear key11
      by_cases hc0 : c = 0
      · subst hc0
        by_cases hq : y.e = x.e
        · have hq1 : ((y.e : Int) == (x.e : Int)) = true := by rw [hq]; exact beq_self_eq_true _
          clear hq
          repeat (first
            | (go_big_may; first
              | (go_at_call 20; (with_reducible refine (HBl.out _).mono ?_); rintro e v5 ⟨rfl, gN⟩; have r9 := RB.keep0 r9 gN; have r10 := RB.keep0 r10 gN; have gg := gb_trans gg gN; dsimp only)
              | fail)
            | go_values
            | go_skip
            | go_guarded
            | go_step
            | go_upon)
          exact HG11.out zeroB _ ⟨zeroB_size, Or.inl zeroB_list⟩ r9 r10 gg
        · have hq1 : ((y.e : Int) == (x.e : Int)) = false := by rw [beq_eq_false_iff_ne]; omega
          repeat (first
            | (go_big_may; first
              | (go_at_call 20; (with_reducible refine (HBl.out _).mono ?_); rintro e v5 ⟨rfl, gN⟩; have r9 := RB.keep0 r9 gN; have r10 := RB.keep0 r10 gN; have gg := gb_trans gg gN; dsimp only)
              | fail)
            | go_values
            | go_skip
            | go_guarded
            | go_step
            | go_upon)
          have hmy : MayR y := HC.out.2 rfl
          exact HG11.out U _ ⟨by show U.data.size = 256; rw [← Array.length_toList, HU.out hmy, putL_length y HY.out.1], Or.inr ⟨y, ⟨hmy, HY.out.1, HY.out.2.1⟩, by have := HXZ.out; omega, HU.out hmy⟩⟩ r9 r10 gg
      · have hc1 : ((c : Int) == 0) = false := by rw [beq_eq_false_iff_ne]; omega
        have hc2 : ((c : Int) != 0) = true := by simp [bne, hc1]
        repeat (first
          | (go_big_may; first
            | (go_at_call 20; (with_reducible refine (HBl.out _).mono ?_); rintro e v5 ⟨rfl, gN⟩; have r9 := RB.keep0 r9 gN; have r10 := RB.keep0 r10 gN; have gg := gb_trans gg gN; dsimp only)
            | fail)
          | go_values
          | go_skip
          | go_guarded
          | go_step
          | go_upon)
        exact HG11.out zeroB _ ⟨zeroB_size, Or.inl zeroB_list⟩ r9 r10 gg
    clear r9 r10 gg cx cy HPy HU HC HY hyz hy1 HYL
    intro O W p0 p1 p2 p3 p4 p5 p6 p14 p32 p33 p34 p35 p36 p37 p38 p39 p40 p41 p42 p43 p44 p45 p46 p47 p48 p49 p50 p51 p52 p53 p54 p55 p56 p57 p58 p59 p60 p61 p62 p63 p64 p65 p66 p67 p68 p69 p70 p71 p72 p73 p74 p75 p76 p77 p78 p79 p80 p81 p82 hO r9 r10 gg
    have hgx := HGX.out
    have hxb := HXB.out
    obtain ⟨hgn, hne⟩ := good_next x hgx hxb
    obtain ⟨k, hk⟩ : ∃ k, at0 % 257 = k := ⟨_, rfl⟩
    have hk2 : k ≤ 256 := by omega
    have hki : (at0 : Int) % 257 = (k : Int) := by omega
    have hkw : IntKind.i64.wrap (at0 : Int) = (at0 : Int) := IntWalk.i64_in _ (by omega)
    have hhw : IntKind.i64.wrap (how : Int) = (how : Int) := IntWalk.i64_in _ (by omega)
    obtain ⟨q, hOq⟩ : ∃ q : Rt, O.data.toList = zer 256 ∨ (Good q ∧ q.e < x.e ∧ O.data.toList = putL q) := by
      rcases hO.2 with h | ⟨q, h⟩
      · exact ⟨x, Or.inl h⟩
      · exact ⟨q, Or.inr h⟩
    have hp0 := pick_over0 x q O.data.toList hgx hxb hOq k hk2
    have hp1 := pick_over1 x q O.data.toList hgx hxb hOq k hk2
    have hwr : IntKind.u64.wrap ((x.e : Int) + 1) = (((nextR x).e : Nat) : Int) := by rw [hne]; exact (by rw [show ((x.e : Int) + 1) = ((x.e + 1 : Nat) : Int) by omega]; exact u64_small _ (by omega))
    have HN := Lib.hid (fun v W => next_any x v W HX.out)
    have HPn := Lib.hid (fun W (g : w.grownBy W none) => put_b (nextR x) W (HPl.out.keep0 g) (good_fit hgn))
    rw [show putC (nextR x) = 0 from if_pos hgn.1] at HPn
    unfold NextGot RV at HN
    unfold RV at HPn
    have hT : (putB (nextR x)).data.toList = putL (nextR x) := by rw [putB_list]; unfold putS; rw [if_pos hgn.1]
    obtain ⟨T, hTe⟩ : ∃ T, putB (nextR x) = T := ⟨_, rfl⟩
    rw [hTe] at hT HPn
    clear hTe
    have hxn : x.e ≠ (nextR x).e := by omega
    obtain ⟨n, hn⟩ : ∃ n, nextR x = n := ⟨_, rfl⟩
    rw [hn] at hgn hwr HN HPn hT hp0 hp1 hxn
    have hnf : x.n = n.n ∧ x.cs = n.cs := by rw [← hn]; exact ⟨rfl, rfl⟩
    have hTs : T.size = 256 := by show T.data.size = 256; rw [← Array.length_toList, hT, putL_length n hgn.2.1]
    have hU := torn_text T O k hTs hO.1 hk2
    have hUs := torn_size T O k hTs hO.1 hk2
    rw [hT] at hU
    have k1 := fun W => cut_to Tryd.prog 9 Tryd.underlying9 T k k rfl (by omega) W
    have k2 := fun W => cut_from Tryd.prog 9 Tryd.underlying9 O k k rfl (by rw [hO.1]; omega) W
    have k3 : ¬ 9223372036854775807 < (T.extract 0 k).size + (O.extract k O.size).size := by rw [ByteArray.size_extract, ByteArray.size_extract]; omega
    obtain ⟨U2, hUe⟩ : ∃ U2, T.extract 0 k ++ O.extract k O.size = U2 := ⟨_, rfl⟩
    rw [hUe] at hU
    rw [← hU] at hp0 hp1
    rw [← HS.out] at hp0 hp1
    have HP0 := Lib.hid hp0
    have HP1 := Lib.hid hp1
    have HNL := Lib.hid hgn.2.1
    have HGN := Lib.hid hgn
    have HK2 := Lib.hid hk2
    have HXN := Lib.hid hxn
    generalize T.extract 0 k = T1 at k1 k3 hUe
    generalize O.extract k O.size = O1 at k2 k3 hUe
    have M1 := Lib.hid (And.intro k1 (And.intro k2 (And.intro k3 hUe)))
    clear hp0 hp1 hgn hk2 hxn hgx hxb hne hOq hO hT hTs hU hUs k1 k2 k3 hUe hn hk
    have cx := r9.epoch
    obtain ⟨wi, ti, A, B, hwi, hwl, htl, hne, hnw, hset, hpk⟩ : ∃ (wi ti : Nat) (A B : ByteArray), (how : Int) % 2 = (wi : Int) ∧ wi < 2 ∧ ti < 2 ∧ ((ti : Int) == (wi : Int)) = false ∧ nextW (wi : Int) = (ti : Int) ∧ (#[.string S, .string S] : Array Value).setIfInBounds ti (.string U2) = #[.string A, .string B] ∧ (pickF A.data.toList B.data.toList = (n, (ti : Int), 0) ∨ (k < 256 ∧ pickF A.data.toList B.data.toList = (x, (wi : Int), 0))) := by
      rcases (show how % 2 = 0 ∨ how % 2 = 1 by omega) with hw | hw
      · exact ⟨0, 1, S, U2, by omega, by decide, by decide, rfl, rfl, rfl, HP0.out⟩
      · exact ⟨1, 0, U2, S, by omega, by decide, by decide, rfl, rfl, rfl, HP1.out⟩
    have HPK := Lib.hid hpk
    have HSET := Lib.hid hset
    have HN := Lib.hid (fun W => HN.out (wi : Int) W)
    rw [hnw] at HN
    clear HP0 HP1 hpk hset hnw
    refine hK11 _ _ ?_
    go_wp2_with (first
      | ((with_reducible refine ld 9 (b9) x HXL.out r9 ?_ ?_); rfl)
      | (go_at_call 12; (with_reducible refine (HN.out _).mono ?_); rintro e v6 ⟨rfl, gN⟩; have r9 := RB.keep0 r9 gN; have gg := gb_trans gg gN)
      | ((with_reducible refine stN 16 92 n HNL.out ?_ ?_ ?_); rfl; rfl; have r16 : RB (v6.alloc (.cells (rootC n).toArray 25)) v6.heap.size n := Blk.mk v6 _ _; have r9 := RB.keep0 r9 (gb_alloc v6 (.cells (rootC n).toArray 25) none); have gg := gb_trans gg (gb_alloc v6 (.cells (rootC n).toArray 25) none); generalize v6.alloc (.cells (rootC n).toArray 25) = v7 at r16 r9 gg ⊢; have cx := r9.epoch)
      | ((with_reducible refine ld 16 (v6.heap.size) n HNL.out r16 ?_ ?_); rfl)
      | (go_at_call 10; (with_reducible refine (HPn.out _ gg).mono ?_); rintro e v8 ⟨rfl, gN⟩; have r9 := RB.keep0 r9 gN; have r16 := RB.keep0 r16 gN; have gg := gb_trans gg gN; have cx := r9.epoch; have cn := r16.epoch)
      | fail)
    rename_i K21 hK21
    try rw [hki]
    have h9 := Blk.lt r9
    have h16 := Blk.lt r16
    have hw8 := gg.size
    have t21 : Blk (v8.alloc (.cells #[.string S, .string S] 54)) v8.heap.size 54 #[.string S, .string S] := Blk.mk v8 _ _
    have r9 := RB.keep0 r9 (gb_alloc v8 (.cells #[.string S, .string S] 54) none)
    have r16 := RB.keep0 r16 (gb_alloc v8 (.cells #[.string S, .string S] 54) none)
    have gg := gb_trans gg (gb_alloc v8 (.cells #[.string S, .string S] 54) none)
    generalize v8.alloc (.cells #[.string S, .string S] 54) = v9 at t21 r9 r16 gg ⊢
    generalize v8.heap.size = b21 at t21 h9 h16 hw8 ⊢
    generalize v6.heap.size = b16 at r16 h16 ⊢
    have c21 := Blk.cell t21 ti (v := .string S) (by rcases (show ti = 0 ∨ ti = 1 by omega) with e | e <;> (rw [e]; rfl))
    have f21 := Blk.free t21 ti
    obtain ⟨k1, k2, k3, hUe⟩ := M1.out
    go_region
    clear k1 k2 k3 c21 f21 cx cn hUe
    have gs : v9.grownBy ((v9.setCell ⟨b21, ti, none⟩ (.string U2)).drew) (some b21) := gb_trans (gb_set _ _ _ _ _) (gb_drew _ _)
    have t22 : Blk ((v9.setCell ⟨b21, ti, none⟩ (.string U2)).drew) b21 54 #[.string A, .string B] := by rw [← HSET.out]; exact Blk.keep0 (Blk.set t21 ti (.string U2)) (gb_drew _ none)
    have r9 := RB.keepS r9 gs (ne_some (by omega))
    have r16 := RB.keepS r16 gs (ne_some (by omega))
    have gg := gb_step gg gs hw8
    generalize (v9.setCell ⟨b21, ti, none⟩ (.string U2)).drew = v10 at t22 r9 r16 gg ⊢
    clear gs t21
    have d0 := Blk.cell t22 0 rfl
    have d1 := Blk.cell t22 1 rfl
    obtain ⟨rr, ri, hpick, hrl⟩ : ∃ (rr : Rt) (ri : Int), pickF A.data.toList B.data.toList = (rr, ri, 0) ∧ rr.cs.length = 8 := by
      rcases HPK.out with h | ⟨_, h⟩
      · exact ⟨n, _, h, HNL.out⟩
      · exact ⟨x, _, h, HXL.out⟩
    have HK := Lib.hid (fun W (g : w.grownBy W none) => pick_any A B W (HPl.out.keep0 g))
    rw [hpick] at HK
    unfold PickGot RV at HK
    have HRR := Lib.hid hrl
    have HPI := Lib.hid hpick
    clear hpick hrl
    refine hK21 _ _ ?_
    refine wp_seq_k (fun K22 hK22 => ?_)
    have HK22 := Lib.hid hK22
    clear hK22
    go_wp2_with (first
      | (go_at_call 18; (with_reducible refine (HK.out _ gg).mono ?_); rintro e v11 ⟨rfl, gN⟩; have r9 := RB.keep0 r9 gN; have r16 := RB.keep0 r16 gN; have gg := gb_trans gg gN)
      | ((with_reducible refine stN 22 135 rr HRR.out ?_ ?_ ?_); rfl; rfl; have r22 : RB (v11.alloc (.cells (rootC rr).toArray 25)) v11.heap.size rr := Blk.mk v11 _ _; have r9 := RB.keep0 r9 (gb_alloc v11 (.cells (rootC rr).toArray 25) none); have r16 := RB.keep0 r16 (gb_alloc v11 (.cells (rootC rr).toArray 25) none); have gg := gb_trans gg (gb_alloc v11 (.cells (rootC rr).toArray 25) none); generalize v11.alloc (.cells (rootC rr).toArray 25) = v12 at r22 r9 r16 gg ⊢; )
      | fail)
    refine HK22.out _ _ ?_
    refine wp_seq_k (fun K24 hK24 => ?_)
    suffices key24 : ∀ (W : World) {p0 p1 p2 p3 p4 p5 p6 p7 p8 p10 p11 p12 p13 p14 p15 p16 p17 p18 p19 p21 p22 p23 p24 p25 p26 p27 p28 p29 p30 p31 p32 p33 p34 p35 p36 p37 p38 p39 p40 p41 p42 p43 p44 p45 p46 p47 p48 p49 p50 p51 p52 p53 p54 p55 p56 p57 p58 p59 p60 p61 p62 p63 p64 p65 p66 p67 p68 p69 p70 p71 p72 p73 p74 p75 p76 p77 p78 p79 p80 p81 p82 p83 p84 p85 p86 p87 p88 p89 p90 p91 p92 p93 p94 p95 p96 p97 p98 p99 p100 p101 p102 p103 p104 p105 p106 p107 p108 p109 p110 p111 p112 p113 p114 p115 p116 p117 p118 p119 p120 p121 p122 p123 p124 p125 p126 p127 p128 p129 p130 p131 p132 p133 p134 p135 p136 p137 p138 p139 p140 p141 p142 p143 p144 p145 p146 p147 p148 p149 p150 p151 p152 p153 p154 p155 p156 p157 p158 p159 p160 p161 p162 p163 p164 p165 p166 p167 p168 p169 p170 p171 p172 p173 p174 p175 p176 p177 p178 p179 p180 p181 p182 p183 p184 p185 p186 p187 p188 p189 p190 p191 p192 p193 p194 p195 p196 p197 p198 p199 p200 p201 p202 p203 p204 p205 p206 p207 p208 p209 p210 p211 p212 p213 p214 p215 p216 p217 p218 p219 p220 p221 p222 p223 p224 p225 p226 p227 p228 p229 p230 p231 p232 p233 p234 p235 : Value}, RB W b9 x → w.grownBy W none → K24 ⟨#[p0, p1, p2, p3, p4, p5, p6, p7, p8, .pointer (some ⟨b9, 0, none⟩), p10, p11, p12, p13, p14, p15, p16, p17, p18, p19, .int .i64 (k : Nat), p21, p22, p23, p24, p25, p26, p27, p28, p29, p30, p31, p32, p33, p34, p35, p36, p37, p38, p39, p40, p41, p42, p43, p44, p45, p46, p47, p48, p49, p50, p51, p52, p53, p54, p55, p56, p57, p58, p59, p60, p61, p62, p63, p64, p65, p66, p67, p68, p69, p70, p71, p72, p73, p74, p75, p76, p77, p78, p79, p80, p81, p82, p83, p84, p85, p86, p87, p88, p89, p90, p91, p92, p93, p94, p95, p96, p97, p98, p99, p100, p101, p102, p103, p104, p105, p106, p107, p108, p109, p110, p111, p112, p113, p114, p115, p116, p117, p118, p119, p120, p121, p122, p123, p124, p125, p126, p127, p128, p129, p130, p131, p132, p133, p134, p135, p136, p137, p138, p139, p140, p141, p142, p143, p144, p145, p146, p147, p148, p149, p150, p151, p152, p153, p154, p155, p156, p157, p158, p159, p160, p161, p162, p163, p164, p165, p166, p167, p168, p169, p170, p171, p172, p173, p174, p175, p176, p177, p178, p179, p180, p181, p182, p183, p184, p185, p186, p187, p188, p189, p190, p191, p192, p193, p194, p195, p196, p197, p198, p199, p200, p201, p202, p203, p204, p205, p206, p207, p208, p209, p210, p211, p212, p213, p214, p215, p216, p217, p218, p219, p220, p221, p222, p223, p224, p225, p226, p227, p228, p229, p230, p231, p232, p233, p234, p235], []⟩ W by
      clear hK24
      have HG24 := Lib.hid key24
      clear key24
      generalize v11.heap.size = b22 at r22 ⊢
      have e1 := fun W => equal_roots n n HNL.out HNL.out W
      have e2 := fun W => equal_roots n x HNL.out HXL.out W
      have e3 := fun W => equal_roots x x HXL.out HXL.out W
      have e4 := fun W => equal_roots x n HXL.out HNL.out W
      have s1 : sameR n n = true := (sameR_iff n n HNL.out HNL.out).2 rfl
      have s3 : sameR x x = true := (sameR_iff x x HXL.out HXL.out).2 rfl
      have s2 : sameR n x = false := by cases h : sameR n x; rfl; exact absurd (congrArg Rt.e ((sameR_iff n x HNL.out HXL.out).1 h)).symm HXN.out
      have s4 : sameR x n = false := by cases h : sameR x n; rfl; exact absurd (congrArg Rt.e ((sameR_iff x n HXL.out HNL.out).1 h)) HXN.out
      have hg := root_guard
      rcases HPK.out with h | ⟨h256, h⟩
      · rw [HPI.out] at h
        have hr1 : rr = n := (Prod.mk.inj h).1
        obtain rfl : ri = (ti : Int) := (Prod.mk.inj (Prod.mk.inj h).2).1
        rw [hr1] at r22
        clear h hr1
        by_cases k5 : k = 256
        · have k6 : ((k : Int) == 256) = true := by rw [k5]; rfl
          clear k5
          repeat (first
            | (go_big_may; first
              | ((with_reducible refine ldG 22 (b22) n HNL.out r22 ?_ ?_ ?_); rfl; rfl)
              | ((with_reducible refine ldG 9 (b9) x HXL.out r9 ?_ ?_ ?_); rfl; rfl)
              | ((with_reducible refine ldG 16 (b16) n HNL.out r16 ?_ ?_ ?_); rfl; rfl)
              | fail)
            | go_values
            | go_skip
            | go_guarded
            | go_step
            | go_upon)
          exact HG24.out _ r9 gg
        · have k6 : ((k : Int) == 256) = false := by rw [beq_eq_false_iff_ne]; omega
          clear k5
          repeat (first
            | (go_big_may; first
              | ((with_reducible refine ldG 22 (b22) n HNL.out r22 ?_ ?_ ?_); rfl; rfl)
              | ((with_reducible refine ldG 9 (b9) x HXL.out r9 ?_ ?_ ?_); rfl; rfl)
              | ((with_reducible refine ldG 16 (b16) n HNL.out r16 ?_ ?_ ?_); rfl; rfl)
              | fail)
            | go_values
            | go_skip
            | go_guarded
            | go_step
            | go_upon)
          exact HG24.out _ r9 gg
      · rw [HPI.out] at h
        have hr1 : rr = x := (Prod.mk.inj h).1
        obtain rfl : ri = (wi : Int) := (Prod.mk.inj (Prod.mk.inj h).2).1
        rw [hr1] at r22
        clear h hr1
        have k6 : ((k : Int) == 256) = false := by rw [beq_eq_false_iff_ne]; omega
        clear h256
        repeat (first
          | (go_big_may; first
            | ((with_reducible refine ldG 22 (b22) x HXL.out r22 ?_ ?_ ?_); rfl; rfl)
            | ((with_reducible refine ldG 9 (b9) x HXL.out r9 ?_ ?_ ?_); rfl; rfl)
            | ((with_reducible refine ldG 16 (b16) n HNL.out r16 ?_ ?_ ?_); rfl; rfl)
            | fail)
          | go_values
          | go_skip
          | go_guarded
          | go_step
          | go_upon)
        exact HG24.out _ r9 gg
    clear r9 r16 gg t22 d0 d1 r22
    intro W p0 p1 p2 p3 p4 p5 p6 p7 p8 p10 p11 p12 p13 p14 p15 p16 p17 p18 p19 p21 p22 p23 p24 p25 p26 p27 p28 p29 p30 p31 p32 p33 p34 p35 p36 p37 p38 p39 p40 p41 p42 p43 p44 p45 p46 p47 p48 p49 p50 p51 p52 p53 p54 p55 p56 p57 p58 p59 p60 p61 p62 p63 p64 p65 p66 p67 p68 p69 p70 p71 p72 p73 p74 p75 p76 p77 p78 p79 p80 p81 p82 p83 p84 p85 p86 p87 p88 p89 p90 p91 p92 p93 p94 p95 p96 p97 p98 p99 p100 p101 p102 p103 p104 p105 p106 p107 p108 p109 p110 p111 p112 p113 p114 p115 p116 p117 p118 p119 p120 p121 p122 p123 p124 p125 p126 p127 p128 p129 p130 p131 p132 p133 p134 p135 p136 p137 p138 p139 p140 p141 p142 p143 p144 p145 p146 p147 p148 p149 p150 p151 p152 p153 p154 p155 p156 p157 p158 p159 p160 p161 p162 p163 p164 p165 p166 p167 p168 p169 p170 p171 p172 p173 p174 p175 p176 p177 p178 p179 p180 p181 p182 p183 p184 p185 p186 p187 p188 p189 p190 p191 p192 p193 p194 p195 p196 p197 p198 p199 p200 p201 p202 p203 p204 p205 p206 p207 p208 p209 p210 p211 p212 p213 p214 p215 p216 p217 p218 p219 p220 p221 p222 p223 p224 p225 p226 p227 p228 p229 p230 p231 p232 p233 p234 p235 r9 gg
    clear hnf
    have HI8 := Lib.hid (eight_info x HXL.out)
    have HBF := Lib.hid (built_first x HXL.out)
    have hx := HX.out
    have hmx := HMX.out
    have hk2 := HK2.out
    have hf0 : Fit ⟨0, x.n, x.cs⟩ := ⟨hx.1, (by decide : (0 : Nat) < 18446744073709551616), hx.2.2⟩
    have hgf : Good (nextR ⟨0, x.n, x.cs⟩) := ⟨⟨(by decide : (1 : Nat) ≠ 0), hmx.2.1, hmx.2.2.1, hmx.2.2.2⟩, hx.1, (by decide : (1 : Nat) < 18446744073709551616)⟩
    have hfe : (nextR ⟨0, x.n, x.cs⟩).e = 1 := rfl
    have HNF := Lib.hid (fun W => next_any ⟨0, x.n, x.cs⟩ (-1) W hf0)
    unfold NextGot RV at HNF
    rw [show nextW (-1) = 0 from rfl] at HNF
    obtain ⟨f, hf⟩ : ∃ f, nextR ⟨0, x.n, x.cs⟩ = f := ⟨_, rfl⟩
    rw [hf] at hgf hfe HNF
    clear hf hf0
    have HPF := Lib.hid (fun W (g : w.grownBy W none) => put_b f W (HPl.out.keep0 g) (good_fit hgf))
    rw [show putC f = 0 from if_pos hgf.1] at HPF
    unfold RV at HPF
    have hP : (putB f).data.toList = putL f := by rw [putB_list]; unfold putS; rw [if_pos hgf.1]
    obtain ⟨P1, hPe⟩ : ∃ P1, putB f = P1 := ⟨_, rfl⟩
    rw [hPe] at hP HPF
    clear hPe
    have hPs : P1.size = 256 := by show P1.data.size = 256; rw [← Array.length_toList, hP, putL_length f hgf.2.1]
    have hV := torn_text P1 zeroB k hPs zeroB_size hk2
    rw [hP, zeroB_list] at hV
    have hpf := pick_first f hgf k hk2
    rw [← hV, ← zeroB_list] at hpf
    have k1 := fun W => cut_to Tryd.prog 9 Tryd.underlying9 P1 k k rfl (by omega) W
    have k2 := fun W => cut_from Tryd.prog 9 Tryd.underlying9 zeroB k k rfl (by rw [zeroB_size]; omega) W
    have k3 : ¬ 9223372036854775807 < (P1.extract 0 k).size + (zeroB.extract k zeroB.size).size := by rw [ByteArray.size_extract, ByteArray.size_extract, zeroB_size]; omega
    obtain ⟨V, hVe⟩ : ∃ V, P1.extract 0 k ++ zeroB.extract k zeroB.size = V := ⟨_, rfl⟩
    rw [hVe] at hpf
    generalize P1.extract 0 k = Q1 at k1 k3 hVe
    generalize zeroB.extract k zeroB.size = Q2 at k2 k3 hVe
    have HPFst := Lib.hid hpf
    have HFL := Lib.hid hgf.2.1
    have HFE := Lib.hid hfe
    have M2 := Lib.hid (And.intro k1 (And.intro k2 (And.intro k3 hVe)))
    clear hx hmx hk2 hgf hfe hP hPs hV hpf k1 k2 k3 hVe
    refine hK24 _ _ ?_
    have hR8 := rb_range r9 HXL.out
    have cs9 := r9.sectors
    go_wp2_with (first
      | (refine wpList_load_mid rfl 23 (.tmp 182) rfl b9 2 rfl (eightC x) _ (rb_range r9 HXL.out) Tryd.underlying23 rfl HI8.out ?_)
      | (refine wpList_build2 rfl 25 1 2 (.tmp 181) (.tmp 183) (.int .i64 x.n) (.agg (eightC x).toArray) (rootC ⟨0, x.n, x.cs⟩).toArray rfl (by kernel_rfl) (by kernel_rfl) HBF.out ?_)
      | (go_at_call 12; (with_reducible refine (HNF.out _).mono ?_); rintro e v15 ⟨rfl, gN⟩; have gg := gb_trans gg gN)
      | ((with_reducible refine stN 25 186 f HFL.out ?_ ?_ ?_); rfl; rfl; have r25 : RB (v15.alloc (.cells (rootC f).toArray 25)) v15.heap.size f := Blk.mk v15 _ _; have gg := gb_trans gg (gb_alloc v15 (.cells (rootC f).toArray 25) none); generalize v15.alloc (.cells (rootC f).toArray 25) = v16 at r25  gg ⊢; )
      | ((with_reducible refine ld 25 (v15.heap.size) f HFL.out r25 ?_ ?_); rfl)
      | (go_at_call 10; (with_reducible refine (HPF.out _ gg).mono ?_); rintro e v20 ⟨rfl, gN⟩; have r25 := RB.keep0 r25 gN; have gg := gb_trans gg gN; have c25 := r25.epoch; rw [HFE.out] at c25)
      | fail)
    generalize v15.heap.size = b25 at r25 ⊢
    try rw [hki]
    obtain ⟨k1, k2, k3, hVe⟩ := M2.out
    have hfr : sameR f f = true := (sameR_iff f f HFL.out HFL.out).2 rfl
    have he5 := fun W => equal_roots f f HFL.out HFL.out W
    have hg := root_guard
    rcases HPFst.out with h | ⟨h256, h⟩
    · have HKF := Lib.hid (fun W (g : w.grownBy W none) => pick_any V zeroB W (HPl.out.keep0 g))
      rw [h] at HKF
      unfold PickGot RV at HKF
      clear h
      refine wp_region_noPanic ?_
      refine wp_region_held_drew (S := fun w' => (v20).grownBy w' none) (by kernel_rfl) (gb_drew _ _) (fun hHeld => ?_)
      have hS := gb_drew (v20) none
      have r25 := RB.keep0 r25 (gb_drew (v20) none)
      have gg := gb_trans gg (gb_drew (v20) none)
      generalize (v20).drew = u0 at r25 gg hS hHeld ⊢
      refine wpAnyH_take (i := 0) (v := ?_) (List.getElem?_toArray.trans rfl) (by kernel_rfl) (by kernel_rfl) (by kernel_rfl) (fun _ _ _ h => h) (Or.inl ⟨by rfl, ?_⟩) hHeld ?_
      rotate_left
      · intro w' hSw; go_simp; try with_reducible rfl
      try simp only [Act.put, List.setIfInBounds_toArray, List.set_cons_zero, List.set_cons_succ]
      refine wpAnyH_take (i := 1) (v := ?_) (List.getElem?_toArray.trans rfl) (by kernel_rfl) (by kernel_rfl) (by kernel_rfl) (fun _ _ _ h => h) (Or.inl ⟨by rfl, ?_⟩) hHeld ?_
      rotate_left
      · intro w' hSw; go_simp; try with_reducible rfl
      try simp only [Act.put, List.setIfInBounds_toArray, List.set_cons_zero, List.set_cons_succ]
      refine wpAnyH_take (i := 2) (v := ?_) (List.getElem?_toArray.trans rfl) (by kernel_rfl) (by kernel_rfl) (by kernel_rfl) (fun _ _ _ h => h) (Or.inl ⟨by rfl, ?_⟩) hHeld ?_
      rotate_left
      · intro w' hSw; go_simp; try with_reducible rfl
      try simp only [Act.put, List.setIfInBounds_toArray, List.set_cons_zero, List.set_cons_succ]
      refine wpAnyH_take (i := 4) (v := ?_) (List.getElem?_toArray.trans rfl) (by kernel_rfl) (by kernel_rfl) (by kernel_rfl) (fun _ _ _ h => h) (Or.inl ⟨by rfl, ?_⟩) hHeld ?_
      rotate_left
      · intro w' hSw; go_simp; try with_reducible rfl
      try simp only [Act.put, List.setIfInBounds_toArray, List.set_cons_zero, List.set_cons_succ]
      refine wpAnyH_ready (rs := [3, 13]) (by kernel_rfl) (by simp) ?_
      refine AllReadyH.cons (List.getElem?_toArray.trans rfl) (fun K hK => ?_) (AllReadyH.cons (List.getElem?_toArray.trans rfl) (fun K hK => ?_) AllReadyH.nil)
      · skip
        go_simp
        go_at_call 20
        (with_reducible refine (HBl.out _).mono ?_)
        rintro e u1 ⟨rfl, gN⟩
        have r25 := RB.keep0 r25 gN
        have gg := gb_trans gg gN
        have hS := gb_trans hS gN
        refine hK.out _ _ hS (fun hHeld => ?_)
        clear hK K
        try simp only [Act.put, List.setIfInBounds_toArray, List.set_cons_zero, List.set_cons_succ]
        refine wpAnyH_take (i := 5) (v := ?_) (List.getElem?_toArray.trans rfl) (by kernel_rfl) (by kernel_rfl) (by kernel_rfl) (fun _ _ _ h => h) (Or.inl ⟨by rfl, ?_⟩) hHeld ?_
        rotate_left
        · intro w' hSw; go_simp; try with_reducible rfl
        try simp only [Act.put, List.setIfInBounds_toArray, List.set_cons_zero, List.set_cons_succ]
        refine wpAnyH_take (i := 6) (v := ?_) (List.getElem?_toArray.trans rfl) (by kernel_rfl) (by kernel_rfl) (by kernel_rfl) (fun _ _ _ h => h) (Or.inl ⟨by rfl, ?_⟩) hHeld ?_
        rotate_left
        · intro w' hSw; go_simp; try with_reducible rfl
        try simp only [Act.put, List.setIfInBounds_toArray, List.set_cons_zero, List.set_cons_succ]
        refine wpAnyH_ready (rs := [7, 13]) (by kernel_rfl) (by simp) ?_
        refine AllReadyH.cons (List.getElem?_toArray.trans rfl) (fun K hK => ?_) (AllReadyH.cons (List.getElem?_toArray.trans rfl) (fun K hK => ?_) AllReadyH.nil)
        · skip
          go_simp
          go_at_call 20
          (with_reducible refine (HBl.out _).mono ?_)
          rintro e u2 ⟨rfl, gN⟩
          have r25 := RB.keep0 r25 gN
          have gg := gb_trans gg gN
          have hS := gb_trans hS gN
          refine hK.out _ _ hS (fun hHeld => ?_)
          clear hK K
          try simp only [Act.put, List.setIfInBounds_toArray, List.set_cons_zero, List.set_cons_succ]
          refine wpAnyH_ready (rs := [8, 13]) (by kernel_rfl) (by simp) ?_
          refine AllReadyH.cons (List.getElem?_toArray.trans rfl) (fun K hK => ?_) (AllReadyH.cons (List.getElem?_toArray.trans rfl) (fun K hK => ?_) AllReadyH.nil)
          · skip
            go_simp
            go_at_call 18
            (with_reducible refine (HKF.out _ gg).mono ?_)
            rintro e u3 ⟨rfl, gN⟩
            have r25 := RB.keep0 r25 gN
            have gg := gb_trans gg gN
            have hS := gb_trans hS gN
            refine hK.out _ _ hS (fun hHeld => ?_)
            clear hK K
            try simp only [Act.put, List.setIfInBounds_toArray, List.set_cons_zero, List.set_cons_succ]
            refine wpAnyH_take (i := 9) (v := ?_) (List.getElem?_toArray.trans rfl) (by kernel_rfl) (by kernel_rfl) (by kernel_rfl) (fun _ _ _ h => h) (Or.inl ⟨by rfl, ?_⟩) hHeld ?_
            rotate_left
            · intro w' hSw; go_simp; try with_reducible rfl
            try simp only [Act.put, List.setIfInBounds_toArray, List.set_cons_zero, List.set_cons_succ]
            refine wpAnyH_take (i := 10) (v := ?_) (List.getElem?_toArray.trans rfl) (by kernel_rfl) (by kernel_rfl) (by kernel_rfl) (fun _ _ _ h => h) (Or.inl ⟨by rfl, ?_⟩) hHeld ?_
            rotate_left
            · intro w' hSw; go_simp; try with_reducible rfl
            try simp only [Act.put, List.setIfInBounds_toArray, List.set_cons_zero, List.set_cons_succ]
            refine wpAnyH_take (i := 11) (v := ?_) (List.getElem?_toArray.trans rfl) (by kernel_rfl) (by kernel_rfl) (by kernel_rfl) (fun _ _ _ h => h) (Or.inl ⟨by rfl, ?_⟩) hHeld ?_
            rotate_left
            · intro w' hSw; go_simp; try with_reducible rfl
            try simp only [Act.put, List.setIfInBounds_toArray, List.set_cons_zero, List.set_cons_succ]
            refine wpAnyH_take (i := 12) (v := ?_) (List.getElem?_toArray.trans rfl) (by kernel_rfl) (by kernel_rfl) (by kernel_rfl) (fun _ _ _ h => h) (Or.inl ⟨by rfl, ?_⟩) hHeld ?_
            rotate_left
            · intro w' hSw; go_simp; try with_reducible rfl
            try simp only [Act.put, List.setIfInBounds_toArray, List.set_cons_zero, List.set_cons_succ]
            refine wpAnyH_ready (rs := [13]) (by kernel_rfl) (by simp) ?_
            refine AllReadyH.cons (List.getElem?_toArray.trans rfl) (fun K hK => ?_) AllReadyH.nil
            go_simp
            have r29 : RB (u3.alloc (.cells #[.int .u64 0, .int .i64 0, .int .i64 0, .int .i64 0, .int .i64 0, .int .i64 0, .int .i64 0, .int .i64 0, .int .i64 0, .int .i64 0] 25)) u3.heap.size zeroR := Blk.mk u3 25 (rootC zeroR).toArray
            have l_r29 := gg.size
            have ls_r29 := hS.size
            have r25_r29 := Nat.ne_of_lt (Blk.lt r25)
            have r25 := RB.keep0 r25 (gb_alloc u3 (.cells #[.int .u64 0, .int .i64 0, .int .i64 0, .int .i64 0, .int .i64 0, .int .i64 0, .int .i64 0, .int .i64 0, .int .i64 0, .int .i64 0] 25) none)
            have gg := gb_trans gg (gb_alloc u3 (.cells #[.int .u64 0, .int .i64 0, .int .i64 0, .int .i64 0, .int .i64 0, .int .i64 0, .int .i64 0, .int .i64 0, .int .i64 0, .int .i64 0] 25) none)
            have hS := gb_trans hS (gb_alloc u3 (.cells #[.int .u64 0, .int .i64 0, .int .i64 0, .int .i64 0, .int .i64 0, .int .i64 0, .int .i64 0, .int .i64 0, .int .i64 0, .int .i64 0] 25) none)
            generalize u3.alloc (.cells #[.int .u64 0, .int .i64 0, .int .i64 0, .int .i64 0, .int .i64 0, .int .i64 0, .int .i64 0, .int .i64 0, .int .i64 0, .int .i64 0] 25) = u4 at r25 r29 gg hS ⊢
            refine hK.out _ _ hS (fun hHeld => ?_)
            clear hK K
            try simp only [Act.put, List.setIfInBounds_toArray, List.set_cons_zero, List.set_cons_succ]
            refine wpAnyH_ready (rs := [14]) (by kernel_rfl) (by simp) ?_
            refine AllReadyH.cons (List.getElem?_toArray.trans rfl) (fun K hK => ?_) AllReadyH.nil
            with_reducible refine stR 29 214 (u3.heap.size) zeroR f zero_len HFL.out r29 ?hx ?hy ?_
            case hx => rfl
            case hy => rfl
            have r29 := set_root r29 f
            have r25 := RB.keepS r25 (gb_setRow u4 (u3.heap.size) (rootC f).toArray) (ne_some r25_r29)
            have gg := gb_step gg (gb_setRow u4 (u3.heap.size) (rootC f).toArray) l_r29
            have hS := gb_step hS (gb_setRow u4 (u3.heap.size) (rootC f).toArray) ls_r29
            generalize u4.setRow (u3.heap.size) (rootC f).toArray = u5 at r25 r29 gg hS ⊢
            refine hK.out _ _ hS (fun hHeld => ?_)
            clear hK K
            try simp only [Act.put, List.setIfInBounds_toArray, List.set_cons_zero, List.set_cons_succ]
            refine wpAnyH_take (i := 15) (v := ?_) (List.getElem?_toArray.trans rfl) (by kernel_rfl) (by kernel_rfl) (by kernel_rfl) (fun _ _ _ h => h) (Or.inl ⟨by rfl, ?_⟩) hHeld ?_
            rotate_left
            · intro w' hSw; go_simp; try with_reducible rfl
            try simp only [Act.put, List.setIfInBounds_toArray, List.set_cons_zero, List.set_cons_succ]
            refine wpAnyH_take (i := 16) (v := ?_) (List.getElem?_toArray.trans rfl) (by kernel_rfl) (by kernel_rfl) (by kernel_rfl) (fun _ _ _ h => h) (Or.inl ⟨by rfl, ?_⟩) hHeld ?_
            rotate_left
            · intro w' hSw; go_simp; try with_reducible rfl
            try simp only [Act.put, List.setIfInBounds_toArray, List.set_cons_zero, List.set_cons_succ]
            refine wpAnyH_done (by kernel_rfl) ?_ _
            refine NoPanic.normal ?_
            go_wp2_with (first
              | ((with_reducible refine ld 29 (u3.heap.size) f HFL.out r29 ?_ ?_); rfl)
              | ((with_reducible refine ld 25 (b25) f HFL.out r25 ?_ ?_); rfl)
              | fail)
            go_ret
            exact ⟨rfl, gg⟩
          · skip
            go_simp
            have r29 : RB (u2.alloc (.cells #[.int .u64 0, .int .i64 0, .int .i64 0, .int .i64 0, .int .i64 0, .int .i64 0, .int .i64 0, .int .i64 0, .int .i64 0, .int .i64 0] 25)) u2.heap.size zeroR := Blk.mk u2 25 (rootC zeroR).toArray
            have l_r29 := gg.size
            have ls_r29 := hS.size
            have r25_r29 := Nat.ne_of_lt (Blk.lt r25)
            have r25 := RB.keep0 r25 (gb_alloc u2 (.cells #[.int .u64 0, .int .i64 0, .int .i64 0, .int .i64 0, .int .i64 0, .int .i64 0, .int .i64 0, .int .i64 0, .int .i64 0, .int .i64 0] 25) none)
            have gg := gb_trans gg (gb_alloc u2 (.cells #[.int .u64 0, .int .i64 0, .int .i64 0, .int .i64 0, .int .i64 0, .int .i64 0, .int .i64 0, .int .i64 0, .int .i64 0, .int .i64 0] 25) none)
            have hS := gb_trans hS (gb_alloc u2 (.cells #[.int .u64 0, .int .i64 0, .int .i64 0, .int .i64 0, .int .i64 0, .int .i64 0, .int .i64 0, .int .i64 0, .int .i64 0, .int .i64 0] 25) none)
            generalize u2.alloc (.cells #[.int .u64 0, .int .i64 0, .int .i64 0, .int .i64 0, .int .i64 0, .int .i64 0, .int .i64 0, .int .i64 0, .int .i64 0, .int .i64 0] 25) = u6 at r25 r29 gg hS ⊢
            refine hK.out _ _ hS (fun hHeld => ?_)
            clear hK K
            try simp only [Act.put, List.setIfInBounds_toArray, List.set_cons_zero, List.set_cons_succ]
            refine wpAnyH_ready (rs := [8]) (by kernel_rfl) (by simp) ?_
            refine AllReadyH.cons (List.getElem?_toArray.trans rfl) (fun K hK => ?_) AllReadyH.nil
            go_simp
            go_at_call 18
            (with_reducible refine (HKF.out _ gg).mono ?_)
            rintro e u7 ⟨rfl, gN⟩
            have r25 := RB.keep0 r25 gN
            have r29 := RB.keep0 r29 gN
            have gg := gb_trans gg gN
            have hS := gb_trans hS gN
            refine hK.out _ _ hS (fun hHeld => ?_)
            clear hK K
            try simp only [Act.put, List.setIfInBounds_toArray, List.set_cons_zero, List.set_cons_succ]
            refine wpAnyH_take (i := 9) (v := ?_) (List.getElem?_toArray.trans rfl) (by kernel_rfl) (by kernel_rfl) (by kernel_rfl) (fun _ _ _ h => h) (Or.inl ⟨by rfl, ?_⟩) hHeld ?_
            rotate_left
            · intro w' hSw; go_simp; try with_reducible rfl
            try simp only [Act.put, List.setIfInBounds_toArray, List.set_cons_zero, List.set_cons_succ]
            refine wpAnyH_take (i := 10) (v := ?_) (List.getElem?_toArray.trans rfl) (by kernel_rfl) (by kernel_rfl) (by kernel_rfl) (fun _ _ _ h => h) (Or.inl ⟨by rfl, ?_⟩) hHeld ?_
            rotate_left
            · intro w' hSw; go_simp; try with_reducible rfl
            try simp only [Act.put, List.setIfInBounds_toArray, List.set_cons_zero, List.set_cons_succ]
            refine wpAnyH_take (i := 11) (v := ?_) (List.getElem?_toArray.trans rfl) (by kernel_rfl) (by kernel_rfl) (by kernel_rfl) (fun _ _ _ h => h) (Or.inl ⟨by rfl, ?_⟩) hHeld ?_
            rotate_left
            · intro w' hSw; go_simp; try with_reducible rfl
            try simp only [Act.put, List.setIfInBounds_toArray, List.set_cons_zero, List.set_cons_succ]
            refine wpAnyH_take (i := 12) (v := ?_) (List.getElem?_toArray.trans rfl) (by kernel_rfl) (by kernel_rfl) (by kernel_rfl) (fun _ _ _ h => h) (Or.inl ⟨by rfl, ?_⟩) hHeld ?_
            rotate_left
            · intro w' hSw; go_simp; try with_reducible rfl
            try simp only [Act.put, List.setIfInBounds_toArray, List.set_cons_zero, List.set_cons_succ]
            refine wpAnyH_ready (rs := [14]) (by kernel_rfl) (by simp) ?_
            refine AllReadyH.cons (List.getElem?_toArray.trans rfl) (fun K hK => ?_) AllReadyH.nil
            with_reducible refine stR 29 214 (u2.heap.size) zeroR f zero_len HFL.out r29 ?hx ?hy ?_
            case hx => rfl
            case hy => rfl
            have r29 := set_root r29 f
            have r25 := RB.keepS r25 (gb_setRow u7 (u2.heap.size) (rootC f).toArray) (ne_some r25_r29)
            have gg := gb_step gg (gb_setRow u7 (u2.heap.size) (rootC f).toArray) l_r29
            have hS := gb_step hS (gb_setRow u7 (u2.heap.size) (rootC f).toArray) ls_r29
            generalize u7.setRow (u2.heap.size) (rootC f).toArray = u8 at r25 r29 gg hS ⊢
            refine hK.out _ _ hS (fun hHeld => ?_)
            clear hK K
            try simp only [Act.put, List.setIfInBounds_toArray, List.set_cons_zero, List.set_cons_succ]
            refine wpAnyH_take (i := 15) (v := ?_) (List.getElem?_toArray.trans rfl) (by kernel_rfl) (by kernel_rfl) (by kernel_rfl) (fun _ _ _ h => h) (Or.inl ⟨by rfl, ?_⟩) hHeld ?_
            rotate_left
            · intro w' hSw; go_simp; try with_reducible rfl
            try simp only [Act.put, List.setIfInBounds_toArray, List.set_cons_zero, List.set_cons_succ]
            refine wpAnyH_take (i := 16) (v := ?_) (List.getElem?_toArray.trans rfl) (by kernel_rfl) (by kernel_rfl) (by kernel_rfl) (fun _ _ _ h => h) (Or.inl ⟨by rfl, ?_⟩) hHeld ?_
            rotate_left
            · intro w' hSw; go_simp; try with_reducible rfl
            try simp only [Act.put, List.setIfInBounds_toArray, List.set_cons_zero, List.set_cons_succ]
            refine wpAnyH_done (by kernel_rfl) ?_ _
            refine NoPanic.normal ?_
            go_wp2_with (first
              | ((with_reducible refine ld 29 (u2.heap.size) f HFL.out r29 ?_ ?_); rfl)
              | ((with_reducible refine ld 25 (b25) f HFL.out r25 ?_ ?_); rfl)
              | fail)
            go_ret
            exact ⟨rfl, gg⟩
        · skip
          go_simp
          have r29 : RB (u1.alloc (.cells #[.int .u64 0, .int .i64 0, .int .i64 0, .int .i64 0, .int .i64 0, .int .i64 0, .int .i64 0, .int .i64 0, .int .i64 0, .int .i64 0] 25)) u1.heap.size zeroR := Blk.mk u1 25 (rootC zeroR).toArray
          have l_r29 := gg.size
          have ls_r29 := hS.size
          have r25_r29 := Nat.ne_of_lt (Blk.lt r25)
          have r25 := RB.keep0 r25 (gb_alloc u1 (.cells #[.int .u64 0, .int .i64 0, .int .i64 0, .int .i64 0, .int .i64 0, .int .i64 0, .int .i64 0, .int .i64 0, .int .i64 0, .int .i64 0] 25) none)
          have gg := gb_trans gg (gb_alloc u1 (.cells #[.int .u64 0, .int .i64 0, .int .i64 0, .int .i64 0, .int .i64 0, .int .i64 0, .int .i64 0, .int .i64 0, .int .i64 0, .int .i64 0] 25) none)
          have hS := gb_trans hS (gb_alloc u1 (.cells #[.int .u64 0, .int .i64 0, .int .i64 0, .int .i64 0, .int .i64 0, .int .i64 0, .int .i64 0, .int .i64 0, .int .i64 0, .int .i64 0] 25) none)
          generalize u1.alloc (.cells #[.int .u64 0, .int .i64 0, .int .i64 0, .int .i64 0, .int .i64 0, .int .i64 0, .int .i64 0, .int .i64 0, .int .i64 0, .int .i64 0] 25) = u9 at r25 r29 gg hS ⊢
          refine hK.out _ _ hS (fun hHeld => ?_)
          clear hK K
          try simp only [Act.put, List.setIfInBounds_toArray, List.set_cons_zero, List.set_cons_succ]
          refine wpAnyH_ready (rs := [7]) (by kernel_rfl) (by simp) ?_
          refine AllReadyH.cons (List.getElem?_toArray.trans rfl) (fun K hK => ?_) AllReadyH.nil
          go_simp
          go_at_call 20
          (with_reducible refine (HBl.out _).mono ?_)
          rintro e u10 ⟨rfl, gN⟩
          have r25 := RB.keep0 r25 gN
          have r29 := RB.keep0 r29 gN
          have gg := gb_trans gg gN
          have hS := gb_trans hS gN
          refine hK.out _ _ hS (fun hHeld => ?_)
          clear hK K
          try simp only [Act.put, List.setIfInBounds_toArray, List.set_cons_zero, List.set_cons_succ]
          refine wpAnyH_ready (rs := [8]) (by kernel_rfl) (by simp) ?_
          refine AllReadyH.cons (List.getElem?_toArray.trans rfl) (fun K hK => ?_) AllReadyH.nil
          go_simp
          go_at_call 18
          (with_reducible refine (HKF.out _ gg).mono ?_)
          rintro e u11 ⟨rfl, gN⟩
          have r25 := RB.keep0 r25 gN
          have r29 := RB.keep0 r29 gN
          have gg := gb_trans gg gN
          have hS := gb_trans hS gN
          refine hK.out _ _ hS (fun hHeld => ?_)
          clear hK K
          try simp only [Act.put, List.setIfInBounds_toArray, List.set_cons_zero, List.set_cons_succ]
          refine wpAnyH_take (i := 9) (v := ?_) (List.getElem?_toArray.trans rfl) (by kernel_rfl) (by kernel_rfl) (by kernel_rfl) (fun _ _ _ h => h) (Or.inl ⟨by rfl, ?_⟩) hHeld ?_
          rotate_left
          · intro w' hSw; go_simp; try with_reducible rfl
          try simp only [Act.put, List.setIfInBounds_toArray, List.set_cons_zero, List.set_cons_succ]
          refine wpAnyH_take (i := 10) (v := ?_) (List.getElem?_toArray.trans rfl) (by kernel_rfl) (by kernel_rfl) (by kernel_rfl) (fun _ _ _ h => h) (Or.inl ⟨by rfl, ?_⟩) hHeld ?_
          rotate_left
          · intro w' hSw; go_simp; try with_reducible rfl
          try simp only [Act.put, List.setIfInBounds_toArray, List.set_cons_zero, List.set_cons_succ]
          refine wpAnyH_take (i := 11) (v := ?_) (List.getElem?_toArray.trans rfl) (by kernel_rfl) (by kernel_rfl) (by kernel_rfl) (fun _ _ _ h => h) (Or.inl ⟨by rfl, ?_⟩) hHeld ?_
          rotate_left
          · intro w' hSw; go_simp; try with_reducible rfl
          try simp only [Act.put, List.setIfInBounds_toArray, List.set_cons_zero, List.set_cons_succ]
          refine wpAnyH_take (i := 12) (v := ?_) (List.getElem?_toArray.trans rfl) (by kernel_rfl) (by kernel_rfl) (by kernel_rfl) (fun _ _ _ h => h) (Or.inl ⟨by rfl, ?_⟩) hHeld ?_
          rotate_left
          · intro w' hSw; go_simp; try with_reducible rfl
          try simp only [Act.put, List.setIfInBounds_toArray, List.set_cons_zero, List.set_cons_succ]
          refine wpAnyH_ready (rs := [14]) (by kernel_rfl) (by simp) ?_
          refine AllReadyH.cons (List.getElem?_toArray.trans rfl) (fun K hK => ?_) AllReadyH.nil
          with_reducible refine stR 29 214 (u1.heap.size) zeroR f zero_len HFL.out r29 ?hx ?hy ?_
          case hx => rfl
          case hy => rfl
          have r29 := set_root r29 f
          have r25 := RB.keepS r25 (gb_setRow u11 (u1.heap.size) (rootC f).toArray) (ne_some r25_r29)
          have gg := gb_step gg (gb_setRow u11 (u1.heap.size) (rootC f).toArray) l_r29
          have hS := gb_step hS (gb_setRow u11 (u1.heap.size) (rootC f).toArray) ls_r29
          generalize u11.setRow (u1.heap.size) (rootC f).toArray = u12 at r25 r29 gg hS ⊢
          refine hK.out _ _ hS (fun hHeld => ?_)
          clear hK K
          try simp only [Act.put, List.setIfInBounds_toArray, List.set_cons_zero, List.set_cons_succ]
          refine wpAnyH_take (i := 15) (v := ?_) (List.getElem?_toArray.trans rfl) (by kernel_rfl) (by kernel_rfl) (by kernel_rfl) (fun _ _ _ h => h) (Or.inl ⟨by rfl, ?_⟩) hHeld ?_
          rotate_left
          · intro w' hSw; go_simp; try with_reducible rfl
          try simp only [Act.put, List.setIfInBounds_toArray, List.set_cons_zero, List.set_cons_succ]
          refine wpAnyH_take (i := 16) (v := ?_) (List.getElem?_toArray.trans rfl) (by kernel_rfl) (by kernel_rfl) (by kernel_rfl) (fun _ _ _ h => h) (Or.inl ⟨by rfl, ?_⟩) hHeld ?_
          rotate_left
          · intro w' hSw; go_simp; try with_reducible rfl
          try simp only [Act.put, List.setIfInBounds_toArray, List.set_cons_zero, List.set_cons_succ]
          refine wpAnyH_done (by kernel_rfl) ?_ _
          refine NoPanic.normal ?_
          go_wp2_with (first
            | ((with_reducible refine ld 29 (u1.heap.size) f HFL.out r29 ?_ ?_); rfl)
            | ((with_reducible refine ld 25 (b25) f HFL.out r25 ?_ ?_); rfl)
            | fail)
          go_ret
          exact ⟨rfl, gg⟩
      · skip
        go_simp
        have r29 : RB (u0.alloc (.cells #[.int .u64 0, .int .i64 0, .int .i64 0, .int .i64 0, .int .i64 0, .int .i64 0, .int .i64 0, .int .i64 0, .int .i64 0, .int .i64 0] 25)) u0.heap.size zeroR := Blk.mk u0 25 (rootC zeroR).toArray
        have l_r29 := gg.size
        have ls_r29 := hS.size
        have r25_r29 := Nat.ne_of_lt (Blk.lt r25)
        have r25 := RB.keep0 r25 (gb_alloc u0 (.cells #[.int .u64 0, .int .i64 0, .int .i64 0, .int .i64 0, .int .i64 0, .int .i64 0, .int .i64 0, .int .i64 0, .int .i64 0, .int .i64 0] 25) none)
        have gg := gb_trans gg (gb_alloc u0 (.cells #[.int .u64 0, .int .i64 0, .int .i64 0, .int .i64 0, .int .i64 0, .int .i64 0, .int .i64 0, .int .i64 0, .int .i64 0, .int .i64 0] 25) none)
        have hS := gb_trans hS (gb_alloc u0 (.cells #[.int .u64 0, .int .i64 0, .int .i64 0, .int .i64 0, .int .i64 0, .int .i64 0, .int .i64 0, .int .i64 0, .int .i64 0, .int .i64 0] 25) none)
        generalize u0.alloc (.cells #[.int .u64 0, .int .i64 0, .int .i64 0, .int .i64 0, .int .i64 0, .int .i64 0, .int .i64 0, .int .i64 0, .int .i64 0, .int .i64 0] 25) = u13 at r25 r29 gg hS ⊢
        refine hK.out _ _ hS (fun hHeld => ?_)
        clear hK K
        try simp only [Act.put, List.setIfInBounds_toArray, List.set_cons_zero, List.set_cons_succ]
        refine wpAnyH_ready (rs := [3]) (by kernel_rfl) (by simp) ?_
        refine AllReadyH.cons (List.getElem?_toArray.trans rfl) (fun K hK => ?_) AllReadyH.nil
        go_simp
        go_at_call 20
        (with_reducible refine (HBl.out _).mono ?_)
        rintro e u14 ⟨rfl, gN⟩
        have r25 := RB.keep0 r25 gN
        have r29 := RB.keep0 r29 gN
        have gg := gb_trans gg gN
        have hS := gb_trans hS gN
        refine hK.out _ _ hS (fun hHeld => ?_)
        clear hK K
        try simp only [Act.put, List.setIfInBounds_toArray, List.set_cons_zero, List.set_cons_succ]
        refine wpAnyH_take (i := 5) (v := ?_) (List.getElem?_toArray.trans rfl) (by kernel_rfl) (by kernel_rfl) (by kernel_rfl) (fun _ _ _ h => h) (Or.inl ⟨by rfl, ?_⟩) hHeld ?_
        rotate_left
        · intro w' hSw; go_simp; try with_reducible rfl
        try simp only [Act.put, List.setIfInBounds_toArray, List.set_cons_zero, List.set_cons_succ]
        refine wpAnyH_take (i := 6) (v := ?_) (List.getElem?_toArray.trans rfl) (by kernel_rfl) (by kernel_rfl) (by kernel_rfl) (fun _ _ _ h => h) (Or.inl ⟨by rfl, ?_⟩) hHeld ?_
        rotate_left
        · intro w' hSw; go_simp; try with_reducible rfl
        try simp only [Act.put, List.setIfInBounds_toArray, List.set_cons_zero, List.set_cons_succ]
        refine wpAnyH_ready (rs := [7]) (by kernel_rfl) (by simp) ?_
        refine AllReadyH.cons (List.getElem?_toArray.trans rfl) (fun K hK => ?_) AllReadyH.nil
        go_simp
        go_at_call 20
        (with_reducible refine (HBl.out _).mono ?_)
        rintro e u15 ⟨rfl, gN⟩
        have r25 := RB.keep0 r25 gN
        have r29 := RB.keep0 r29 gN
        have gg := gb_trans gg gN
        have hS := gb_trans hS gN
        refine hK.out _ _ hS (fun hHeld => ?_)
        clear hK K
        try simp only [Act.put, List.setIfInBounds_toArray, List.set_cons_zero, List.set_cons_succ]
        refine wpAnyH_ready (rs := [8]) (by kernel_rfl) (by simp) ?_
        refine AllReadyH.cons (List.getElem?_toArray.trans rfl) (fun K hK => ?_) AllReadyH.nil
        go_simp
        go_at_call 18
        (with_reducible refine (HKF.out _ gg).mono ?_)
        rintro e u16 ⟨rfl, gN⟩
        have r25 := RB.keep0 r25 gN
        have r29 := RB.keep0 r29 gN
        have gg := gb_trans gg gN
        have hS := gb_trans hS gN
        refine hK.out _ _ hS (fun hHeld => ?_)
        clear hK K
        try simp only [Act.put, List.setIfInBounds_toArray, List.set_cons_zero, List.set_cons_succ]
        refine wpAnyH_take (i := 9) (v := ?_) (List.getElem?_toArray.trans rfl) (by kernel_rfl) (by kernel_rfl) (by kernel_rfl) (fun _ _ _ h => h) (Or.inl ⟨by rfl, ?_⟩) hHeld ?_
        rotate_left
        · intro w' hSw; go_simp; try with_reducible rfl
        try simp only [Act.put, List.setIfInBounds_toArray, List.set_cons_zero, List.set_cons_succ]
        refine wpAnyH_take (i := 10) (v := ?_) (List.getElem?_toArray.trans rfl) (by kernel_rfl) (by kernel_rfl) (by kernel_rfl) (fun _ _ _ h => h) (Or.inl ⟨by rfl, ?_⟩) hHeld ?_
        rotate_left
        · intro w' hSw; go_simp; try with_reducible rfl
        try simp only [Act.put, List.setIfInBounds_toArray, List.set_cons_zero, List.set_cons_succ]
        refine wpAnyH_take (i := 11) (v := ?_) (List.getElem?_toArray.trans rfl) (by kernel_rfl) (by kernel_rfl) (by kernel_rfl) (fun _ _ _ h => h) (Or.inl ⟨by rfl, ?_⟩) hHeld ?_
        rotate_left
        · intro w' hSw; go_simp; try with_reducible rfl
        try simp only [Act.put, List.setIfInBounds_toArray, List.set_cons_zero, List.set_cons_succ]
        refine wpAnyH_take (i := 12) (v := ?_) (List.getElem?_toArray.trans rfl) (by kernel_rfl) (by kernel_rfl) (by kernel_rfl) (fun _ _ _ h => h) (Or.inl ⟨by rfl, ?_⟩) hHeld ?_
        rotate_left
        · intro w' hSw; go_simp; try with_reducible rfl
        try simp only [Act.put, List.setIfInBounds_toArray, List.set_cons_zero, List.set_cons_succ]
        refine wpAnyH_ready (rs := [14]) (by kernel_rfl) (by simp) ?_
        refine AllReadyH.cons (List.getElem?_toArray.trans rfl) (fun K hK => ?_) AllReadyH.nil
        with_reducible refine stR 29 214 (u0.heap.size) zeroR f zero_len HFL.out r29 ?hx ?hy ?_
        case hx => rfl
        case hy => rfl
        have r29 := set_root r29 f
        have r25 := RB.keepS r25 (gb_setRow u16 (u0.heap.size) (rootC f).toArray) (ne_some r25_r29)
        have gg := gb_step gg (gb_setRow u16 (u0.heap.size) (rootC f).toArray) l_r29
        have hS := gb_step hS (gb_setRow u16 (u0.heap.size) (rootC f).toArray) ls_r29
        generalize u16.setRow (u0.heap.size) (rootC f).toArray = u17 at r25 r29 gg hS ⊢
        refine hK.out _ _ hS (fun hHeld => ?_)
        clear hK K
        try simp only [Act.put, List.setIfInBounds_toArray, List.set_cons_zero, List.set_cons_succ]
        refine wpAnyH_take (i := 15) (v := ?_) (List.getElem?_toArray.trans rfl) (by kernel_rfl) (by kernel_rfl) (by kernel_rfl) (fun _ _ _ h => h) (Or.inl ⟨by rfl, ?_⟩) hHeld ?_
        rotate_left
        · intro w' hSw; go_simp; try with_reducible rfl
        try simp only [Act.put, List.setIfInBounds_toArray, List.set_cons_zero, List.set_cons_succ]
        refine wpAnyH_take (i := 16) (v := ?_) (List.getElem?_toArray.trans rfl) (by kernel_rfl) (by kernel_rfl) (by kernel_rfl) (fun _ _ _ h => h) (Or.inl ⟨by rfl, ?_⟩) hHeld ?_
        rotate_left
        · intro w' hSw; go_simp; try with_reducible rfl
        try simp only [Act.put, List.setIfInBounds_toArray, List.set_cons_zero, List.set_cons_succ]
        refine wpAnyH_done (by kernel_rfl) ?_ _
        refine NoPanic.normal ?_
        go_wp2_with (first
          | ((with_reducible refine ld 29 (u0.heap.size) f HFL.out r29 ?_ ?_); rfl)
          | ((with_reducible refine ld 25 (b25) f HFL.out r25 ?_ ?_); rfl)
          | fail)
        go_ret
        exact ⟨rfl, gg⟩
    · have HKF := Lib.hid (fun W (g : w.grownBy W none) => pick_any V zeroB W (HPl.out.keep0 g))
      rw [h] at HKF
      unfold PickGot RV at HKF
      clear h
      have h257 : (k : Int) < 256 := by omega
      refine wp_region_noPanic ?_
      refine wp_region_held_drew (S := fun w' => (v20).grownBy w' none) (by kernel_rfl) (gb_drew _ _) (fun hHeld => ?_)
      have hS := gb_drew (v20) none
      have r25 := RB.keep0 r25 (gb_drew (v20) none)
      have gg := gb_trans gg (gb_drew (v20) none)
      generalize (v20).drew = u0 at r25 gg hS hHeld ⊢
      refine wpAnyH_take (i := 0) (v := ?_) (List.getElem?_toArray.trans rfl) (by kernel_rfl) (by kernel_rfl) (by kernel_rfl) (fun _ _ _ h => h) (Or.inl ⟨by rfl, ?_⟩) hHeld ?_
      rotate_left
      · intro w' hSw; go_simp; try with_reducible rfl
      try simp only [Act.put, List.setIfInBounds_toArray, List.set_cons_zero, List.set_cons_succ]
      refine wpAnyH_take (i := 1) (v := ?_) (List.getElem?_toArray.trans rfl) (by kernel_rfl) (by kernel_rfl) (by kernel_rfl) (fun _ _ _ h => h) (Or.inl ⟨by rfl, ?_⟩) hHeld ?_
      rotate_left
      · intro w' hSw; go_simp; try with_reducible rfl
      try simp only [Act.put, List.setIfInBounds_toArray, List.set_cons_zero, List.set_cons_succ]
      refine wpAnyH_take (i := 2) (v := ?_) (List.getElem?_toArray.trans rfl) (by kernel_rfl) (by kernel_rfl) (by kernel_rfl) (fun _ _ _ h => h) (Or.inl ⟨by rfl, ?_⟩) hHeld ?_
      rotate_left
      · intro w' hSw; go_simp; try with_reducible rfl
      try simp only [Act.put, List.setIfInBounds_toArray, List.set_cons_zero, List.set_cons_succ]
      refine wpAnyH_take (i := 4) (v := ?_) (List.getElem?_toArray.trans rfl) (by kernel_rfl) (by kernel_rfl) (by kernel_rfl) (fun _ _ _ h => h) (Or.inl ⟨by rfl, ?_⟩) hHeld ?_
      rotate_left
      · intro w' hSw; go_simp; try with_reducible rfl
      try simp only [Act.put, List.setIfInBounds_toArray, List.set_cons_zero, List.set_cons_succ]
      refine wpAnyH_ready (rs := [3, 13]) (by kernel_rfl) (by simp) ?_
      refine AllReadyH.cons (List.getElem?_toArray.trans rfl) (fun K hK => ?_) (AllReadyH.cons (List.getElem?_toArray.trans rfl) (fun K hK => ?_) AllReadyH.nil)
      · skip
        go_simp
        go_at_call 20
        (with_reducible refine (HBl.out _).mono ?_)
        rintro e u1 ⟨rfl, gN⟩
        have r25 := RB.keep0 r25 gN
        have gg := gb_trans gg gN
        have hS := gb_trans hS gN
        refine hK.out _ _ hS (fun hHeld => ?_)
        clear hK K
        try simp only [Act.put, List.setIfInBounds_toArray, List.set_cons_zero, List.set_cons_succ]
        refine wpAnyH_take (i := 5) (v := ?_) (List.getElem?_toArray.trans rfl) (by kernel_rfl) (by kernel_rfl) (by kernel_rfl) (fun _ _ _ h => h) (Or.inl ⟨by rfl, ?_⟩) hHeld ?_
        rotate_left
        · intro w' hSw; go_simp; try with_reducible rfl
        try simp only [Act.put, List.setIfInBounds_toArray, List.set_cons_zero, List.set_cons_succ]
        refine wpAnyH_take (i := 6) (v := ?_) (List.getElem?_toArray.trans rfl) (by kernel_rfl) (by kernel_rfl) (by kernel_rfl) (fun _ _ _ h => h) (Or.inl ⟨by rfl, ?_⟩) hHeld ?_
        rotate_left
        · intro w' hSw; go_simp; try with_reducible rfl
        try simp only [Act.put, List.setIfInBounds_toArray, List.set_cons_zero, List.set_cons_succ]
        refine wpAnyH_ready (rs := [7, 13]) (by kernel_rfl) (by simp) ?_
        refine AllReadyH.cons (List.getElem?_toArray.trans rfl) (fun K hK => ?_) (AllReadyH.cons (List.getElem?_toArray.trans rfl) (fun K hK => ?_) AllReadyH.nil)
        · skip
          go_simp
          go_at_call 20
          (with_reducible refine (HBl.out _).mono ?_)
          rintro e u2 ⟨rfl, gN⟩
          have r25 := RB.keep0 r25 gN
          have gg := gb_trans gg gN
          have hS := gb_trans hS gN
          refine hK.out _ _ hS (fun hHeld => ?_)
          clear hK K
          try simp only [Act.put, List.setIfInBounds_toArray, List.set_cons_zero, List.set_cons_succ]
          refine wpAnyH_ready (rs := [8, 13]) (by kernel_rfl) (by simp) ?_
          refine AllReadyH.cons (List.getElem?_toArray.trans rfl) (fun K hK => ?_) (AllReadyH.cons (List.getElem?_toArray.trans rfl) (fun K hK => ?_) AllReadyH.nil)
          · skip
            go_simp
            go_at_call 18
            (with_reducible refine (HKF.out _ gg).mono ?_)
            rintro e u3 ⟨rfl, gN⟩
            have r25 := RB.keep0 r25 gN
            have gg := gb_trans gg gN
            have hS := gb_trans hS gN
            refine hK.out _ _ hS (fun hHeld => ?_)
            clear hK K
            try simp only [Act.put, List.setIfInBounds_toArray, List.set_cons_zero, List.set_cons_succ]
            refine wpAnyH_take (i := 9) (v := ?_) (List.getElem?_toArray.trans rfl) (by kernel_rfl) (by kernel_rfl) (by kernel_rfl) (fun _ _ _ h => h) (Or.inl ⟨by rfl, ?_⟩) hHeld ?_
            rotate_left
            · intro w' hSw; go_simp; try with_reducible rfl
            try simp only [Act.put, List.setIfInBounds_toArray, List.set_cons_zero, List.set_cons_succ]
            refine wpAnyH_take (i := 10) (v := ?_) (List.getElem?_toArray.trans rfl) (by kernel_rfl) (by kernel_rfl) (by kernel_rfl) (fun _ _ _ h => h) (Or.inl ⟨by rfl, ?_⟩) hHeld ?_
            rotate_left
            · intro w' hSw; go_simp; try with_reducible rfl
            try simp only [Act.put, List.setIfInBounds_toArray, List.set_cons_zero, List.set_cons_succ]
            refine wpAnyH_take (i := 11) (v := ?_) (List.getElem?_toArray.trans rfl) (by kernel_rfl) (by kernel_rfl) (by kernel_rfl) (fun _ _ _ h => h) (Or.inl ⟨by rfl, ?_⟩) hHeld ?_
            rotate_left
            · intro w' hSw; go_simp; try with_reducible rfl
            try simp only [Act.put, List.setIfInBounds_toArray, List.set_cons_zero, List.set_cons_succ]
            refine wpAnyH_take (i := 12) (v := ?_) (List.getElem?_toArray.trans rfl) (by kernel_rfl) (by kernel_rfl) (by kernel_rfl) (fun _ _ _ h => h) (Or.inl ⟨by rfl, ?_⟩) hHeld ?_
            rotate_left
            · intro w' hSw; go_simp; try with_reducible rfl
            try simp only [Act.put, List.setIfInBounds_toArray, List.set_cons_zero, List.set_cons_succ]
            refine wpAnyH_ready (rs := [13]) (by kernel_rfl) (by simp) ?_
            refine AllReadyH.cons (List.getElem?_toArray.trans rfl) (fun K hK => ?_) AllReadyH.nil
            go_simp
            have r29 : RB (u3.alloc (.cells #[.int .u64 0, .int .i64 0, .int .i64 0, .int .i64 0, .int .i64 0, .int .i64 0, .int .i64 0, .int .i64 0, .int .i64 0, .int .i64 0] 25)) u3.heap.size zeroR := Blk.mk u3 25 (rootC zeroR).toArray
            have l_r29 := gg.size
            have ls_r29 := hS.size
            have r25_r29 := Nat.ne_of_lt (Blk.lt r25)
            have r25 := RB.keep0 r25 (gb_alloc u3 (.cells #[.int .u64 0, .int .i64 0, .int .i64 0, .int .i64 0, .int .i64 0, .int .i64 0, .int .i64 0, .int .i64 0, .int .i64 0, .int .i64 0] 25) none)
            have gg := gb_trans gg (gb_alloc u3 (.cells #[.int .u64 0, .int .i64 0, .int .i64 0, .int .i64 0, .int .i64 0, .int .i64 0, .int .i64 0, .int .i64 0, .int .i64 0, .int .i64 0] 25) none)
            have hS := gb_trans hS (gb_alloc u3 (.cells #[.int .u64 0, .int .i64 0, .int .i64 0, .int .i64 0, .int .i64 0, .int .i64 0, .int .i64 0, .int .i64 0, .int .i64 0, .int .i64 0] 25) none)
            generalize u3.alloc (.cells #[.int .u64 0, .int .i64 0, .int .i64 0, .int .i64 0, .int .i64 0, .int .i64 0, .int .i64 0, .int .i64 0, .int .i64 0, .int .i64 0] 25) = u4 at r25 r29 gg hS ⊢
            refine hK.out _ _ hS (fun hHeld => ?_)
            clear hK K
            try simp only [Act.put, List.setIfInBounds_toArray, List.set_cons_zero, List.set_cons_succ]
            refine wpAnyH_ready (rs := [14]) (by kernel_rfl) (by simp) ?_
            refine AllReadyH.cons (List.getElem?_toArray.trans rfl) (fun K hK => ?_) AllReadyH.nil
            with_reducible refine stR 29 214 (u3.heap.size) zeroR zeroR zero_len zero_len r29 ?hx ?hy ?_
            case hx => rfl
            case hy => rfl
            have r29 := set_root r29 zeroR
            have r25 := RB.keepS r25 (gb_setRow u4 (u3.heap.size) (rootC zeroR).toArray) (ne_some r25_r29)
            have gg := gb_step gg (gb_setRow u4 (u3.heap.size) (rootC zeroR).toArray) l_r29
            have hS := gb_step hS (gb_setRow u4 (u3.heap.size) (rootC zeroR).toArray) ls_r29
            generalize u4.setRow (u3.heap.size) (rootC zeroR).toArray = u5 at r25 r29 gg hS ⊢
            refine hK.out _ _ hS (fun hHeld => ?_)
            clear hK K
            try simp only [Act.put, List.setIfInBounds_toArray, List.set_cons_zero, List.set_cons_succ]
            refine wpAnyH_take (i := 15) (v := ?_) (List.getElem?_toArray.trans rfl) (by kernel_rfl) (by kernel_rfl) (by kernel_rfl) (fun _ _ _ h => h) (Or.inl ⟨by rfl, ?_⟩) hHeld ?_
            rotate_left
            · intro w' hSw; go_simp; try with_reducible rfl
            try simp only [Act.put, List.setIfInBounds_toArray, List.set_cons_zero, List.set_cons_succ]
            refine wpAnyH_take (i := 16) (v := ?_) (List.getElem?_toArray.trans rfl) (by kernel_rfl) (by kernel_rfl) (by kernel_rfl) (fun _ _ _ h => h) (Or.inl ⟨by rfl, ?_⟩) hHeld ?_
            rotate_left
            · intro w' hSw; go_simp; try with_reducible rfl
            try simp only [Act.put, List.setIfInBounds_toArray, List.set_cons_zero, List.set_cons_succ]
            refine wpAnyH_done (by kernel_rfl) ?_ _
            refine NoPanic.normal ?_
            go_wp2_with (first
              | ((with_reducible refine ld 29 (u3.heap.size) zeroR zero_len r29 ?_ ?_); rfl)
              | ((with_reducible refine ld 25 (b25) f HFL.out r25 ?_ ?_); rfl)
              | fail)
            go_ret
            exact ⟨rfl, gg⟩
          · skip
            go_simp
            have r29 : RB (u2.alloc (.cells #[.int .u64 0, .int .i64 0, .int .i64 0, .int .i64 0, .int .i64 0, .int .i64 0, .int .i64 0, .int .i64 0, .int .i64 0, .int .i64 0] 25)) u2.heap.size zeroR := Blk.mk u2 25 (rootC zeroR).toArray
            have l_r29 := gg.size
            have ls_r29 := hS.size
            have r25_r29 := Nat.ne_of_lt (Blk.lt r25)
            have r25 := RB.keep0 r25 (gb_alloc u2 (.cells #[.int .u64 0, .int .i64 0, .int .i64 0, .int .i64 0, .int .i64 0, .int .i64 0, .int .i64 0, .int .i64 0, .int .i64 0, .int .i64 0] 25) none)
            have gg := gb_trans gg (gb_alloc u2 (.cells #[.int .u64 0, .int .i64 0, .int .i64 0, .int .i64 0, .int .i64 0, .int .i64 0, .int .i64 0, .int .i64 0, .int .i64 0, .int .i64 0] 25) none)
            have hS := gb_trans hS (gb_alloc u2 (.cells #[.int .u64 0, .int .i64 0, .int .i64 0, .int .i64 0, .int .i64 0, .int .i64 0, .int .i64 0, .int .i64 0, .int .i64 0, .int .i64 0] 25) none)
            generalize u2.alloc (.cells #[.int .u64 0, .int .i64 0, .int .i64 0, .int .i64 0, .int .i64 0, .int .i64 0, .int .i64 0, .int .i64 0, .int .i64 0, .int .i64 0] 25) = u6 at r25 r29 gg hS ⊢
            refine hK.out _ _ hS (fun hHeld => ?_)
            clear hK K
            try simp only [Act.put, List.setIfInBounds_toArray, List.set_cons_zero, List.set_cons_succ]
            refine wpAnyH_ready (rs := [8]) (by kernel_rfl) (by simp) ?_
            refine AllReadyH.cons (List.getElem?_toArray.trans rfl) (fun K hK => ?_) AllReadyH.nil
            go_simp
            go_at_call 18
            (with_reducible refine (HKF.out _ gg).mono ?_)
            rintro e u7 ⟨rfl, gN⟩
            have r25 := RB.keep0 r25 gN
            have r29 := RB.keep0 r29 gN
            have gg := gb_trans gg gN
            have hS := gb_trans hS gN
            refine hK.out _ _ hS (fun hHeld => ?_)
            clear hK K
            try simp only [Act.put, List.setIfInBounds_toArray, List.set_cons_zero, List.set_cons_succ]
            refine wpAnyH_take (i := 9) (v := ?_) (List.getElem?_toArray.trans rfl) (by kernel_rfl) (by kernel_rfl) (by kernel_rfl) (fun _ _ _ h => h) (Or.inl ⟨by rfl, ?_⟩) hHeld ?_
            rotate_left
            · intro w' hSw; go_simp; try with_reducible rfl
            try simp only [Act.put, List.setIfInBounds_toArray, List.set_cons_zero, List.set_cons_succ]
            refine wpAnyH_take (i := 10) (v := ?_) (List.getElem?_toArray.trans rfl) (by kernel_rfl) (by kernel_rfl) (by kernel_rfl) (fun _ _ _ h => h) (Or.inl ⟨by rfl, ?_⟩) hHeld ?_
            rotate_left
            · intro w' hSw; go_simp; try with_reducible rfl
            try simp only [Act.put, List.setIfInBounds_toArray, List.set_cons_zero, List.set_cons_succ]
            refine wpAnyH_take (i := 11) (v := ?_) (List.getElem?_toArray.trans rfl) (by kernel_rfl) (by kernel_rfl) (by kernel_rfl) (fun _ _ _ h => h) (Or.inl ⟨by rfl, ?_⟩) hHeld ?_
            rotate_left
            · intro w' hSw; go_simp; try with_reducible rfl
            try simp only [Act.put, List.setIfInBounds_toArray, List.set_cons_zero, List.set_cons_succ]
            refine wpAnyH_take (i := 12) (v := ?_) (List.getElem?_toArray.trans rfl) (by kernel_rfl) (by kernel_rfl) (by kernel_rfl) (fun _ _ _ h => h) (Or.inl ⟨by rfl, ?_⟩) hHeld ?_
            rotate_left
            · intro w' hSw; go_simp; try with_reducible rfl
            try simp only [Act.put, List.setIfInBounds_toArray, List.set_cons_zero, List.set_cons_succ]
            refine wpAnyH_ready (rs := [14]) (by kernel_rfl) (by simp) ?_
            refine AllReadyH.cons (List.getElem?_toArray.trans rfl) (fun K hK => ?_) AllReadyH.nil
            with_reducible refine stR 29 214 (u2.heap.size) zeroR zeroR zero_len zero_len r29 ?hx ?hy ?_
            case hx => rfl
            case hy => rfl
            have r29 := set_root r29 zeroR
            have r25 := RB.keepS r25 (gb_setRow u7 (u2.heap.size) (rootC zeroR).toArray) (ne_some r25_r29)
            have gg := gb_step gg (gb_setRow u7 (u2.heap.size) (rootC zeroR).toArray) l_r29
            have hS := gb_step hS (gb_setRow u7 (u2.heap.size) (rootC zeroR).toArray) ls_r29
            generalize u7.setRow (u2.heap.size) (rootC zeroR).toArray = u8 at r25 r29 gg hS ⊢
            refine hK.out _ _ hS (fun hHeld => ?_)
            clear hK K
            try simp only [Act.put, List.setIfInBounds_toArray, List.set_cons_zero, List.set_cons_succ]
            refine wpAnyH_take (i := 15) (v := ?_) (List.getElem?_toArray.trans rfl) (by kernel_rfl) (by kernel_rfl) (by kernel_rfl) (fun _ _ _ h => h) (Or.inl ⟨by rfl, ?_⟩) hHeld ?_
            rotate_left
            · intro w' hSw; go_simp; try with_reducible rfl
            try simp only [Act.put, List.setIfInBounds_toArray, List.set_cons_zero, List.set_cons_succ]
            refine wpAnyH_take (i := 16) (v := ?_) (List.getElem?_toArray.trans rfl) (by kernel_rfl) (by kernel_rfl) (by kernel_rfl) (fun _ _ _ h => h) (Or.inl ⟨by rfl, ?_⟩) hHeld ?_
            rotate_left
            · intro w' hSw; go_simp; try with_reducible rfl
            try simp only [Act.put, List.setIfInBounds_toArray, List.set_cons_zero, List.set_cons_succ]
            refine wpAnyH_done (by kernel_rfl) ?_ _
            refine NoPanic.normal ?_
            go_wp2_with (first
              | ((with_reducible refine ld 29 (u2.heap.size) zeroR zero_len r29 ?_ ?_); rfl)
              | ((with_reducible refine ld 25 (b25) f HFL.out r25 ?_ ?_); rfl)
              | fail)
            go_ret
            exact ⟨rfl, gg⟩
        · skip
          go_simp
          have r29 : RB (u1.alloc (.cells #[.int .u64 0, .int .i64 0, .int .i64 0, .int .i64 0, .int .i64 0, .int .i64 0, .int .i64 0, .int .i64 0, .int .i64 0, .int .i64 0] 25)) u1.heap.size zeroR := Blk.mk u1 25 (rootC zeroR).toArray
          have l_r29 := gg.size
          have ls_r29 := hS.size
          have r25_r29 := Nat.ne_of_lt (Blk.lt r25)
          have r25 := RB.keep0 r25 (gb_alloc u1 (.cells #[.int .u64 0, .int .i64 0, .int .i64 0, .int .i64 0, .int .i64 0, .int .i64 0, .int .i64 0, .int .i64 0, .int .i64 0, .int .i64 0] 25) none)
          have gg := gb_trans gg (gb_alloc u1 (.cells #[.int .u64 0, .int .i64 0, .int .i64 0, .int .i64 0, .int .i64 0, .int .i64 0, .int .i64 0, .int .i64 0, .int .i64 0, .int .i64 0] 25) none)
          have hS := gb_trans hS (gb_alloc u1 (.cells #[.int .u64 0, .int .i64 0, .int .i64 0, .int .i64 0, .int .i64 0, .int .i64 0, .int .i64 0, .int .i64 0, .int .i64 0, .int .i64 0] 25) none)
          generalize u1.alloc (.cells #[.int .u64 0, .int .i64 0, .int .i64 0, .int .i64 0, .int .i64 0, .int .i64 0, .int .i64 0, .int .i64 0, .int .i64 0, .int .i64 0] 25) = u9 at r25 r29 gg hS ⊢
          refine hK.out _ _ hS (fun hHeld => ?_)
          clear hK K
          try simp only [Act.put, List.setIfInBounds_toArray, List.set_cons_zero, List.set_cons_succ]
          refine wpAnyH_ready (rs := [7]) (by kernel_rfl) (by simp) ?_
          refine AllReadyH.cons (List.getElem?_toArray.trans rfl) (fun K hK => ?_) AllReadyH.nil
          go_simp
          go_at_call 20
          (with_reducible refine (HBl.out _).mono ?_)
          rintro e u10 ⟨rfl, gN⟩
          have r25 := RB.keep0 r25 gN
          have r29 := RB.keep0 r29 gN
          have gg := gb_trans gg gN
          have hS := gb_trans hS gN
          refine hK.out _ _ hS (fun hHeld => ?_)
          clear hK K
          try simp only [Act.put, List.setIfInBounds_toArray, List.set_cons_zero, List.set_cons_succ]
          refine wpAnyH_ready (rs := [8]) (by kernel_rfl) (by simp) ?_
          refine AllReadyH.cons (List.getElem?_toArray.trans rfl) (fun K hK => ?_) AllReadyH.nil
          go_simp
          go_at_call 18
          (with_reducible refine (HKF.out _ gg).mono ?_)
          rintro e u11 ⟨rfl, gN⟩
          have r25 := RB.keep0 r25 gN
          have r29 := RB.keep0 r29 gN
          have gg := gb_trans gg gN
          have hS := gb_trans hS gN
          refine hK.out _ _ hS (fun hHeld => ?_)
          clear hK K
          try simp only [Act.put, List.setIfInBounds_toArray, List.set_cons_zero, List.set_cons_succ]
          refine wpAnyH_take (i := 9) (v := ?_) (List.getElem?_toArray.trans rfl) (by kernel_rfl) (by kernel_rfl) (by kernel_rfl) (fun _ _ _ h => h) (Or.inl ⟨by rfl, ?_⟩) hHeld ?_
          rotate_left
          · intro w' hSw; go_simp; try with_reducible rfl
          try simp only [Act.put, List.setIfInBounds_toArray, List.set_cons_zero, List.set_cons_succ]
          refine wpAnyH_take (i := 10) (v := ?_) (List.getElem?_toArray.trans rfl) (by kernel_rfl) (by kernel_rfl) (by kernel_rfl) (fun _ _ _ h => h) (Or.inl ⟨by rfl, ?_⟩) hHeld ?_
          rotate_left
          · intro w' hSw; go_simp; try with_reducible rfl
          try simp only [Act.put, List.setIfInBounds_toArray, List.set_cons_zero, List.set_cons_succ]
          refine wpAnyH_take (i := 11) (v := ?_) (List.getElem?_toArray.trans rfl) (by kernel_rfl) (by kernel_rfl) (by kernel_rfl) (fun _ _ _ h => h) (Or.inl ⟨by rfl, ?_⟩) hHeld ?_
          rotate_left
          · intro w' hSw; go_simp; try with_reducible rfl
          try simp only [Act.put, List.setIfInBounds_toArray, List.set_cons_zero, List.set_cons_succ]
          refine wpAnyH_take (i := 12) (v := ?_) (List.getElem?_toArray.trans rfl) (by kernel_rfl) (by kernel_rfl) (by kernel_rfl) (fun _ _ _ h => h) (Or.inl ⟨by rfl, ?_⟩) hHeld ?_
          rotate_left
          · intro w' hSw; go_simp; try with_reducible rfl
          try simp only [Act.put, List.setIfInBounds_toArray, List.set_cons_zero, List.set_cons_succ]
          refine wpAnyH_ready (rs := [14]) (by kernel_rfl) (by simp) ?_
          refine AllReadyH.cons (List.getElem?_toArray.trans rfl) (fun K hK => ?_) AllReadyH.nil
          with_reducible refine stR 29 214 (u1.heap.size) zeroR zeroR zero_len zero_len r29 ?hx ?hy ?_
          case hx => rfl
          case hy => rfl
          have r29 := set_root r29 zeroR
          have r25 := RB.keepS r25 (gb_setRow u11 (u1.heap.size) (rootC zeroR).toArray) (ne_some r25_r29)
          have gg := gb_step gg (gb_setRow u11 (u1.heap.size) (rootC zeroR).toArray) l_r29
          have hS := gb_step hS (gb_setRow u11 (u1.heap.size) (rootC zeroR).toArray) ls_r29
          generalize u11.setRow (u1.heap.size) (rootC zeroR).toArray = u12 at r25 r29 gg hS ⊢
          refine hK.out _ _ hS (fun hHeld => ?_)
          clear hK K
          try simp only [Act.put, List.setIfInBounds_toArray, List.set_cons_zero, List.set_cons_succ]
          refine wpAnyH_take (i := 15) (v := ?_) (List.getElem?_toArray.trans rfl) (by kernel_rfl) (by kernel_rfl) (by kernel_rfl) (fun _ _ _ h => h) (Or.inl ⟨by rfl, ?_⟩) hHeld ?_
          rotate_left
          · intro w' hSw; go_simp; try with_reducible rfl
          try simp only [Act.put, List.setIfInBounds_toArray, List.set_cons_zero, List.set_cons_succ]
          refine wpAnyH_take (i := 16) (v := ?_) (List.getElem?_toArray.trans rfl) (by kernel_rfl) (by kernel_rfl) (by kernel_rfl) (fun _ _ _ h => h) (Or.inl ⟨by rfl, ?_⟩) hHeld ?_
          rotate_left
          · intro w' hSw; go_simp; try with_reducible rfl
          try simp only [Act.put, List.setIfInBounds_toArray, List.set_cons_zero, List.set_cons_succ]
          refine wpAnyH_done (by kernel_rfl) ?_ _
          refine NoPanic.normal ?_
          go_wp2_with (first
            | ((with_reducible refine ld 29 (u1.heap.size) zeroR zero_len r29 ?_ ?_); rfl)
            | ((with_reducible refine ld 25 (b25) f HFL.out r25 ?_ ?_); rfl)
            | fail)
          go_ret
          exact ⟨rfl, gg⟩
      · skip
        go_simp
        have r29 : RB (u0.alloc (.cells #[.int .u64 0, .int .i64 0, .int .i64 0, .int .i64 0, .int .i64 0, .int .i64 0, .int .i64 0, .int .i64 0, .int .i64 0, .int .i64 0] 25)) u0.heap.size zeroR := Blk.mk u0 25 (rootC zeroR).toArray
        have l_r29 := gg.size
        have ls_r29 := hS.size
        have r25_r29 := Nat.ne_of_lt (Blk.lt r25)
        have r25 := RB.keep0 r25 (gb_alloc u0 (.cells #[.int .u64 0, .int .i64 0, .int .i64 0, .int .i64 0, .int .i64 0, .int .i64 0, .int .i64 0, .int .i64 0, .int .i64 0, .int .i64 0] 25) none)
        have gg := gb_trans gg (gb_alloc u0 (.cells #[.int .u64 0, .int .i64 0, .int .i64 0, .int .i64 0, .int .i64 0, .int .i64 0, .int .i64 0, .int .i64 0, .int .i64 0, .int .i64 0] 25) none)
        have hS := gb_trans hS (gb_alloc u0 (.cells #[.int .u64 0, .int .i64 0, .int .i64 0, .int .i64 0, .int .i64 0, .int .i64 0, .int .i64 0, .int .i64 0, .int .i64 0, .int .i64 0] 25) none)
        generalize u0.alloc (.cells #[.int .u64 0, .int .i64 0, .int .i64 0, .int .i64 0, .int .i64 0, .int .i64 0, .int .i64 0, .int .i64 0, .int .i64 0, .int .i64 0] 25) = u13 at r25 r29 gg hS ⊢
        refine hK.out _ _ hS (fun hHeld => ?_)
        clear hK K
        try simp only [Act.put, List.setIfInBounds_toArray, List.set_cons_zero, List.set_cons_succ]
        refine wpAnyH_ready (rs := [3]) (by kernel_rfl) (by simp) ?_
        refine AllReadyH.cons (List.getElem?_toArray.trans rfl) (fun K hK => ?_) AllReadyH.nil
        go_simp
        go_at_call 20
        (with_reducible refine (HBl.out _).mono ?_)
        rintro e u14 ⟨rfl, gN⟩
        have r25 := RB.keep0 r25 gN
        have r29 := RB.keep0 r29 gN
        have gg := gb_trans gg gN
        have hS := gb_trans hS gN
        refine hK.out _ _ hS (fun hHeld => ?_)
        clear hK K
        try simp only [Act.put, List.setIfInBounds_toArray, List.set_cons_zero, List.set_cons_succ]
        refine wpAnyH_take (i := 5) (v := ?_) (List.getElem?_toArray.trans rfl) (by kernel_rfl) (by kernel_rfl) (by kernel_rfl) (fun _ _ _ h => h) (Or.inl ⟨by rfl, ?_⟩) hHeld ?_
        rotate_left
        · intro w' hSw; go_simp; try with_reducible rfl
        try simp only [Act.put, List.setIfInBounds_toArray, List.set_cons_zero, List.set_cons_succ]
        refine wpAnyH_take (i := 6) (v := ?_) (List.getElem?_toArray.trans rfl) (by kernel_rfl) (by kernel_rfl) (by kernel_rfl) (fun _ _ _ h => h) (Or.inl ⟨by rfl, ?_⟩) hHeld ?_
        rotate_left
        · intro w' hSw; go_simp; try with_reducible rfl
        try simp only [Act.put, List.setIfInBounds_toArray, List.set_cons_zero, List.set_cons_succ]
        refine wpAnyH_ready (rs := [7]) (by kernel_rfl) (by simp) ?_
        refine AllReadyH.cons (List.getElem?_toArray.trans rfl) (fun K hK => ?_) AllReadyH.nil
        go_simp
        go_at_call 20
        (with_reducible refine (HBl.out _).mono ?_)
        rintro e u15 ⟨rfl, gN⟩
        have r25 := RB.keep0 r25 gN
        have r29 := RB.keep0 r29 gN
        have gg := gb_trans gg gN
        have hS := gb_trans hS gN
        refine hK.out _ _ hS (fun hHeld => ?_)
        clear hK K
        try simp only [Act.put, List.setIfInBounds_toArray, List.set_cons_zero, List.set_cons_succ]
        refine wpAnyH_ready (rs := [8]) (by kernel_rfl) (by simp) ?_
        refine AllReadyH.cons (List.getElem?_toArray.trans rfl) (fun K hK => ?_) AllReadyH.nil
        go_simp
        go_at_call 18
        (with_reducible refine (HKF.out _ gg).mono ?_)
        rintro e u16 ⟨rfl, gN⟩
        have r25 := RB.keep0 r25 gN
        have r29 := RB.keep0 r29 gN
        have gg := gb_trans gg gN
        have hS := gb_trans hS gN
        refine hK.out _ _ hS (fun hHeld => ?_)
        clear hK K
        try simp only [Act.put, List.setIfInBounds_toArray, List.set_cons_zero, List.set_cons_succ]
        refine wpAnyH_take (i := 9) (v := ?_) (List.getElem?_toArray.trans rfl) (by kernel_rfl) (by kernel_rfl) (by kernel_rfl) (fun _ _ _ h => h) (Or.inl ⟨by rfl, ?_⟩) hHeld ?_
        rotate_left
        · intro w' hSw; go_simp; try with_reducible rfl
        try simp only [Act.put, List.setIfInBounds_toArray, List.set_cons_zero, List.set_cons_succ]
        refine wpAnyH_take (i := 10) (v := ?_) (List.getElem?_toArray.trans rfl) (by kernel_rfl) (by kernel_rfl) (by kernel_rfl) (fun _ _ _ h => h) (Or.inl ⟨by rfl, ?_⟩) hHeld ?_
        rotate_left
        · intro w' hSw; go_simp; try with_reducible rfl
        try simp only [Act.put, List.setIfInBounds_toArray, List.set_cons_zero, List.set_cons_succ]
        refine wpAnyH_take (i := 11) (v := ?_) (List.getElem?_toArray.trans rfl) (by kernel_rfl) (by kernel_rfl) (by kernel_rfl) (fun _ _ _ h => h) (Or.inl ⟨by rfl, ?_⟩) hHeld ?_
        rotate_left
        · intro w' hSw; go_simp; try with_reducible rfl
        try simp only [Act.put, List.setIfInBounds_toArray, List.set_cons_zero, List.set_cons_succ]
        refine wpAnyH_take (i := 12) (v := ?_) (List.getElem?_toArray.trans rfl) (by kernel_rfl) (by kernel_rfl) (by kernel_rfl) (fun _ _ _ h => h) (Or.inl ⟨by rfl, ?_⟩) hHeld ?_
        rotate_left
        · intro w' hSw; go_simp; try with_reducible rfl
        try simp only [Act.put, List.setIfInBounds_toArray, List.set_cons_zero, List.set_cons_succ]
        refine wpAnyH_ready (rs := [14]) (by kernel_rfl) (by simp) ?_
        refine AllReadyH.cons (List.getElem?_toArray.trans rfl) (fun K hK => ?_) AllReadyH.nil
        with_reducible refine stR 29 214 (u0.heap.size) zeroR zeroR zero_len zero_len r29 ?hx ?hy ?_
        case hx => rfl
        case hy => rfl
        have r29 := set_root r29 zeroR
        have r25 := RB.keepS r25 (gb_setRow u16 (u0.heap.size) (rootC zeroR).toArray) (ne_some r25_r29)
        have gg := gb_step gg (gb_setRow u16 (u0.heap.size) (rootC zeroR).toArray) l_r29
        have hS := gb_step hS (gb_setRow u16 (u0.heap.size) (rootC zeroR).toArray) ls_r29
        generalize u16.setRow (u0.heap.size) (rootC zeroR).toArray = u17 at r25 r29 gg hS ⊢
        refine hK.out _ _ hS (fun hHeld => ?_)
        clear hK K
        try simp only [Act.put, List.setIfInBounds_toArray, List.set_cons_zero, List.set_cons_succ]
        refine wpAnyH_take (i := 15) (v := ?_) (List.getElem?_toArray.trans rfl) (by kernel_rfl) (by kernel_rfl) (by kernel_rfl) (fun _ _ _ h => h) (Or.inl ⟨by rfl, ?_⟩) hHeld ?_
        rotate_left
        · intro w' hSw; go_simp; try with_reducible rfl
        try simp only [Act.put, List.setIfInBounds_toArray, List.set_cons_zero, List.set_cons_succ]
        refine wpAnyH_take (i := 16) (v := ?_) (List.getElem?_toArray.trans rfl) (by kernel_rfl) (by kernel_rfl) (by kernel_rfl) (fun _ _ _ h => h) (Or.inl ⟨by rfl, ?_⟩) hHeld ?_
        rotate_left
        · intro w' hSw; go_simp; try with_reducible rfl
        try simp only [Act.put, List.setIfInBounds_toArray, List.set_cons_zero, List.set_cons_succ]
        refine wpAnyH_done (by kernel_rfl) ?_ _
        refine NoPanic.normal ?_
        go_wp2_with (first
          | ((with_reducible refine ld 29 (u0.heap.size) zeroR zero_len r29 ?_ ?_); rfl)
          | ((with_reducible refine ld 25 (b25) f HFL.out r25 ?_ ?_); rfl)
          | fail)
        go_ret
        exact ⟨rfl, gg⟩
  · rw [show putC x = 2 from if_neg hmx] at HPx
    clear hxe hz hxz
    repeat (first
      | (go_big_may; first
        | ((with_reducible refine ld 9 (b9) x HXL.out r9 ?_ ?_); rfl)
        | ((with_reducible refine ld 10 (b10) y HYL.out r10 ?_ ?_); rfl)
        | (go_at_call 10; (with_reducible refine (HPx.out _ gg).mono ?_); rintro e v3 ⟨rfl, gN⟩; have r9 := RB.keep0 r9 gN; have r10 := RB.keep0 r10 gN; have gg := gb_trans gg gN; dsimp only)
        | (go_at_call 10; (with_reducible refine (HPy.out _ gg).mono ?_); rintro e v4 ⟨rfl, gN⟩; have r9 := RB.keep0 r9 gN; have r10 := RB.keep0 r10 gN; have gg := gb_trans gg gN; have cx := r9.epoch; have cy := r10.epoch; dsimp only)
        | (go_at_call 20; (with_reducible refine (HBl.out _).mono ?_); rintro e v5 ⟨rfl, gN⟩; have r9 := RB.keep0 r9 gN; have r10 := RB.keep0 r10 gN; have gg := gb_trans gg gN; dsimp only)
        | fail)
      | go_values
      | go_skip
      | go_guarded
      | go_step
      | go_upon)
    go_ret
    exact ⟨rfl, gg⟩
end Go.Proofs.YtckkbcgolphajaaDoor
