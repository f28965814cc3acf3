/-
  RootTorn: where a root's sector is written over by that of another Epoch, or comes over noughts, and only its first bytes came: what the statement's function answers; condition: the drafts' numbers fit.
-/
import Derived.Test.YtckkbcgolphajaaDoorQl
import Derived.Laws.Strings3
namespace Go.Proofs.YtckkbcgolphajaaDoor
open Go.RowKit

theorem two_drafts (w : World) (C C2 : Array Value) : Blk ((w.alloc (.cells C 29)).alloc (.cells C2 29)) (w.heap.size + 1) 29 C2 := by
  rw [← World.size_alloc w (.cells C 29)]; exact Blk.mk _ _ _
theorem exec_row {P : Program} {o : Oper} {a : Act} {w : World} (ty : TypeId) (x : Operand) (ho : o.op = .load ty x)
    (g : Nat) (hx : a.eval x = .pointer (some ⟨g, 0, none⟩)) (t : TypeId) (cs : Array Value) (fr : Nat × Nat) (d : TypeDesc) (hg : w.heap[g]? = some (.cells cs t fr))
    (hu : P.underlying ty = some d) (hd : (match d with | .struct _ | .array _ _ => true | _ => false) = true) (hi : (P.info? ty).map (·.size) = some cs.size) : (execOp a.eval o).run P w = .ok (.value (.agg cs)) w := by
  unfold execOp
  simp only [ho, hx, Instr.loadAt, Instr.sureAddr, Sem.run_bind, Sem.run_pure, Result.andThen_ok, run_loadVar_row w g t ty cs fr d hg hu hd hi]
theorem cut_to (P : Program) (t : TypeId) (hu : P.underlying t = some .string) (s : ByteArray) (k : Nat) (x : Int) (hx : x = k) (h : k ≤ s.size) (W : World) :
    (Instr.slice t (.string s) none (some (.int .i64 x)) none).run P W = .ok (.string (s.extract 0 k)) W := by
  subst hx
  rw [run_slice_string_to_if W t s .i64 _ hu, if_pos ⟨by omega, by omega⟩]
  simp
theorem cut_from (P : Program) (t : TypeId) (hu : P.underlying t = some .string) (s : ByteArray) (k : Nat) (x : Int) (hx : x = k) (h : k ≤ s.size) (W : World) :
    (Instr.slice t (.string s) (some (.int .i64 x)) none none).run P W = .ok (.string (s.extract k s.size)) W := by
  subst hx
  rw [run_slice_string_from_if W t s .i64 _ hu, if_pos ⟨by omega, by omega⟩]
  simp
theorem torn_text (t b : ByteArray) (k : Nat) (ht : t.size = 256) (hb : b.size = 256) (hk : k ≤ 256) : (t.extract 0 k ++ b.extract k b.size).data.toList = torn t.data.toList b.data.toList k := by
  rw [ap_list, ex_list, ex_list, List.drop_zero]
  unfold torn
  rw [List.take_of_length_le (l := b.data.toList) (i := b.size) (by rw [Array.length_toList]; exact Nat.le_refl _)]
theorem torn_size (t b : ByteArray) (k : Nat) (ht : t.size = 256) (hb : b.size = 256) (hk : k ≤ 256) : (t.extract 0 k ++ b.extract k b.size).size = 256 := by
  rw [ByteArray.size_append, ByteArray.size_extract, ByteArray.size_extract]; omega
set_option maxRecDepth 100000 in
set_option linter.unusedSimpArgs false in
set_option maxHeartbeats 8000000 in
theorem torn_any (e s odd : Nat) (cs : List Nat) (hf : FitD e s odd cs) (e' s' odd' : Nat) (cs' : List Nat) (hf' : FitD e' s' odd' cs') (k0 : Nat) (hk0 : k0 < 65536) (w : World) (hPl : Pl w) :
    Calls Tryd.prog 6 #[.agg (draftC e s odd cs).toArray, .agg (draftC e' s' odd' cs').toArray, .int .u16 (k0 : Nat)] w (TrueGot w) := by
  have HDI := Lib.hid (draft_info e s odd cs hf.2.2.2.1)
  have HDI2 := Lib.hid (draft_info e' s' odd' cs' hf'.2.2.2.1)
  obtain ⟨C, hC⟩ : ∃ C, (draftC e s odd cs).toArray = C := ⟨_, rfl⟩
  obtain ⟨C2, hC2⟩ : ∃ C, (draftC e' s' odd' cs').toArray = C := ⟨_, rfl⟩
  have HDr := Lib.hid (fun W => some_root hf C hC W)
  have HDr2 := Lib.hid (fun W => some_root hf' C2 hC2 W)
  rw [hC] at HDI
  rw [hC2] at HDI2
  rw [hC, hC2]
  clear hC hC2 hf hf'
  have HPl := Lib.hid hPl
  clear hPl
  have HWk := Lib.hid (fun W (g : w.grownBy W none) => works_any W (HPl.out.keep0 g))
  unfold TrueGot at HWk
  go_enter Tryd.func6, Tryd.ntmps6
  go_wp2_with (first
    | (go_at_call 16; (with_reducible refine (HWk.out _ (gb_trans (gb_alloc _ _ none) (gb_alloc _ _ none))).mono ?_); rintro e v1 ⟨rfl, g1⟩; have d0 := Blk.keep0 (Blk.keep0 (Blk.mk w 29 C) (gb_alloc _ (.cells C2 29) none)) g1; have d1 := Blk.keep0 (two_drafts w C C2) g1; have gg := gb_trans (gb_trans (gb_alloc w (.cells C 29) none) (gb_alloc _ _ none)) g1)
    | fail)
  rename_i K hK
  have D0 := Lib.hid d0
  have D1 := Lib.hid d1
  suffices key : ∀ (b7 b8 : Nat) (x y0 : Rt) (W : World), Fit x → Fit y0 → RB W b7 x → RB W b8 y0 → b7 ≠ b8 → w.heap.size ≤ b7 → w.heap.size ≤ b8 → w.grownBy W none → K ⟨#[.agg C, .agg C2, .int .u16 (k0 : Nat), .pointer (some ⟨w.heap.size, 0, none⟩), .pointer (some ⟨w.heap.size + 1, 0, none⟩), undef, .bool false, .pointer (some ⟨b7, 0, none⟩), .pointer (some ⟨b8, 0, none⟩), undef, undef, undef, undef, undef, undef, undef, undef, undef, .bool true, .bool false, .agg C, .agg (rootC x).toArray, .agg C2, .agg (rootC y0).toArray, undef, undef, undef, undef, undef, undef, undef, undef, undef, undef, undef, undef, undef, undef, undef, undef, undef, undef, undef, undef, undef, undef, undef, undef, undef, undef, undef, undef, undef, undef, undef, undef, undef, undef, undef, undef, undef, undef, undef, undef, undef, undef, undef, undef, undef, undef, undef, undef, undef, undef, undef, undef, undef, undef, undef, undef, undef, undef, undef, undef, undef, undef, undef, undef, undef, undef, undef, undef, undef, undef, undef, undef, undef, undef, undef, undef, undef, undef, undef, undef, undef, undef, undef, undef, undef, undef, undef, undef, undef, undef, undef, undef, undef, undef, undef, undef, undef, undef, undef, undef, undef, undef, undef, undef], []⟩ W by
    clear hK d0 d1
    refine wp_region_noPanic ?_
    refine wp_region_held_drew (S := fun w' => (v1).grownBy w' none) (by kernel_rfl) (gb_drew _ _) (fun hHeld => ?_)
    have hS := gb_drew (v1) none
    have gg := gb_trans gg (gb_drew (v1) none)
    generalize (v1).drew = u0 at  gg hS hHeld ⊢
    refine wpAnyH_take (i := 0) (v := .agg C) (List.getElem?_toArray.trans rfl) (by kernel_rfl) (by kernel_rfl) (by kernel_rfl) (fun _ _ _ h => h) (Or.inl ⟨by rfl, fun w' hSw => exec_row 29 (.tmp 3) rfl (w.heap.size) rfl 29 C (0, 0) _ (Blk.keep0 D0.out hSw) Tryd.underlying29 rfl HDI.out⟩) hHeld ?_
    try simp only [Act.put, List.setIfInBounds_toArray, List.set_cons_zero, List.set_cons_succ]
    refine wpAnyH_take (i := 2) (v := .agg C2) (List.getElem?_toArray.trans rfl) (by kernel_rfl) (by kernel_rfl) (by kernel_rfl) (fun _ _ _ h => h) (Or.inl ⟨by rfl, fun w' hSw => exec_row 29 (.tmp 4) rfl (w.heap.size + 1) rfl 29 C2 (0, 0) _ (Blk.keep0 D1.out hSw) Tryd.underlying29 rfl HDI2.out⟩) hHeld ?_
    try simp only [Act.put, List.setIfInBounds_toArray, List.set_cons_zero, List.set_cons_succ]
    refine wpAnyH_ready (rs := [1, 4, 5]) (by kernel_rfl) (by simp) ?_
    refine AllReadyH.cons (List.getElem?_toArray.trans rfl) (fun K hK => ?_) (AllReadyH.cons (List.getElem?_toArray.trans rfl) (fun K hK => ?_) (AllReadyH.cons (List.getElem?_toArray.trans rfl) (fun K hK => ?_) AllReadyH.nil))
    · skip
      go_simp
      go_at_call 9
      (with_reducible refine (HDr.out _).mono ?_)
      rintro e u1 ⟨x, hx, rfl, gN⟩
      have gg := gb_trans gg gN
      have hS := gb_trans hS gN
      refine hK.out _ _ hS (fun hHeld => ?_)
      clear hK K
      try simp only [Act.put, List.setIfInBounds_toArray, List.set_cons_zero, List.set_cons_succ]
      refine wpAnyH_ready (rs := [3, 4, 5]) (by kernel_rfl) (by simp) ?_
      refine AllReadyH.cons (List.getElem?_toArray.trans rfl) (fun K hK => ?_) (AllReadyH.cons (List.getElem?_toArray.trans rfl) (fun K hK => ?_) (AllReadyH.cons (List.getElem?_toArray.trans rfl) (fun K hK => ?_) AllReadyH.nil))
      · skip
        go_simp
        go_at_call 9
        (with_reducible refine (HDr2.out _).mono ?_)
        rintro e u2 ⟨y, hy, rfl, gN⟩
        have gg := gb_trans gg gN
        have hS := gb_trans hS gN
        refine hK.out _ _ hS (fun hHeld => ?_)
        clear hK K
        try simp only [Act.put, List.setIfInBounds_toArray, List.set_cons_zero, List.set_cons_succ]
        refine wpAnyH_ready (rs := [4, 5]) (by kernel_rfl) (by simp) ?_
        refine AllReadyH.cons (List.getElem?_toArray.trans rfl) (fun K hK => ?_) (AllReadyH.cons (List.getElem?_toArray.trans rfl) (fun K hK => ?_) AllReadyH.nil)
        · skip
          go_simp
          have r7 : RB (u2.alloc (.cells #[.int .u64 0, .int .i64 0, .int .i64 0, .int .i64 0, .int .i64 0, .int .i64 0, .int .i64 0, .int .i64 0, .int .i64 0, .int .i64 0] 25)) u2.heap.size zeroR := Blk.mk u2 25 (rootC zeroR).toArray
          have l_r7 := gg.size
          have ls_r7 := hS.size
          have gg := gb_trans gg (gb_alloc u2 (.cells #[.int .u64 0, .int .i64 0, .int .i64 0, .int .i64 0, .int .i64 0, .int .i64 0, .int .i64 0, .int .i64 0, .int .i64 0, .int .i64 0] 25) none)
          have hS := gb_trans hS (gb_alloc u2 (.cells #[.int .u64 0, .int .i64 0, .int .i64 0, .int .i64 0, .int .i64 0, .int .i64 0, .int .i64 0, .int .i64 0, .int .i64 0, .int .i64 0] 25) none)
          generalize u2.alloc (.cells #[.int .u64 0, .int .i64 0, .int .i64 0, .int .i64 0, .int .i64 0, .int .i64 0, .int .i64 0, .int .i64 0, .int .i64 0, .int .i64 0] 25) = u3 at r7 gg hS ⊢
          refine hK.out _ _ hS (fun hHeld => ?_)
          clear hK K
          try simp only [Act.put, List.setIfInBounds_toArray, List.set_cons_zero, List.set_cons_succ]
          refine wpAnyH_ready (rs := [5]) (by kernel_rfl) (by simp) ?_
          refine AllReadyH.cons (List.getElem?_toArray.trans rfl) (fun K hK => ?_) AllReadyH.nil
          go_simp
          have r8 : RB (u3.alloc (.cells #[.int .u64 0, .int .i64 0, .int .i64 0, .int .i64 0, .int .i64 0, .int .i64 0, .int .i64 0, .int .i64 0, .int .i64 0, .int .i64 0] 25)) u3.heap.size zeroR := Blk.mk u3 25 (rootC zeroR).toArray
          have l_r8 := gg.size
          have ls_r8 := hS.size
          have r7_r8 := Nat.ne_of_lt (Blk.lt r7)
          have r7 := RB.keep0 r7 (gb_alloc u3 (.cells #[.int .u64 0, .int .i64 0, .int .i64 0, .int .i64 0, .int .i64 0, .int .i64 0, .int .i64 0, .int .i64 0, .int .i64 0, .int .i64 0] 25) none)
          have gg := gb_trans gg (gb_alloc u3 (.cells #[.int .u64 0, .int .i64 0, .int .i64 0, .int .i64 0, .int .i64 0, .int .i64 0, .int .i64 0, .int .i64 0, .int .i64 0, .int .i64 0] 25) none)
          have hS := gb_trans hS (gb_alloc u3 (.cells #[.int .u64 0, .int .i64 0, .int .i64 0, .int .i64 0, .int .i64 0, .int .i64 0, .int .i64 0, .int .i64 0, .int .i64 0, .int .i64 0] 25) none)
          generalize u3.alloc (.cells #[.int .u64 0, .int .i64 0, .int .i64 0, .int .i64 0, .int .i64 0, .int .i64 0, .int .i64 0, .int .i64 0, .int .i64 0, .int .i64 0] 25) = u4 at r7 r8 gg hS ⊢
          refine hK.out _ _ hS (fun hHeld => ?_)
          clear hK K
          try simp only [Act.put, List.setIfInBounds_toArray, List.set_cons_zero, List.set_cons_succ]
          refine wpAnyH_ready (rs := [6]) (by kernel_rfl) (by simp) ?_
          refine AllReadyH.cons (List.getElem?_toArray.trans rfl) (fun K hK => ?_) AllReadyH.nil
          with_reducible refine stR 7 21 (u2.heap.size) zeroR x zero_len hx.len r7 ?hx ?hy ?_
          case hx => rfl
          case hy => rfl
          have r7 := set_root r7 x
          have r8 := RB.keepS r8 (gb_setRow u4 (u2.heap.size) (rootC x).toArray) (ne_some (fun e => r7_r8 e.symm))
          have gg := gb_step gg (gb_setRow u4 (u2.heap.size) (rootC x).toArray) l_r7
          have hS := gb_step hS (gb_setRow u4 (u2.heap.size) (rootC x).toArray) ls_r7
          generalize u4.setRow (u2.heap.size) (rootC x).toArray = u5 at r7 r8 gg hS ⊢
          refine hK.out _ _ hS (fun hHeld => ?_)
          clear hK K
          try simp only [Act.put, List.setIfInBounds_toArray, List.set_cons_zero, List.set_cons_succ]
          refine wpAnyH_ready (rs := [7]) (by kernel_rfl) (by simp) ?_
          refine AllReadyH.cons (List.getElem?_toArray.trans rfl) (fun K hK => ?_) AllReadyH.nil
          with_reducible refine stR 8 23 (u3.heap.size) zeroR y zero_len hy.len r8 ?hx ?hy ?_
          case hx => rfl
          case hy => rfl
          have r8 := set_root r8 y
          have r7 := RB.keepS r7 (gb_setRow u5 (u3.heap.size) (rootC y).toArray) (ne_some r7_r8)
          have gg := gb_step gg (gb_setRow u5 (u3.heap.size) (rootC y).toArray) l_r8
          have hS := gb_step hS (gb_setRow u5 (u3.heap.size) (rootC y).toArray) ls_r8
          generalize u5.setRow (u3.heap.size) (rootC y).toArray = u6 at r7 r8 gg hS ⊢
          refine hK.out _ _ hS (fun hHeld => ?_)
          clear hK K
          try simp only [Act.put, List.setIfInBounds_toArray, List.set_cons_zero, List.set_cons_succ]
          refine wpAnyH_done (by kernel_rfl) ?_ _
          refine NoPanic.normal ?_
          exact key u2.heap.size u3.heap.size x y u6 hx hy r7 r8 r7_r8 l_r7 l_r8 gg
        · skip
          go_simp
          have r8 : RB (u2.alloc (.cells #[.int .u64 0, .int .i64 0, .int .i64 0, .int .i64 0, .int .i64 0, .int .i64 0, .int .i64 0, .int .i64 0, .int .i64 0, .int .i64 0] 25)) u2.heap.size zeroR := Blk.mk u2 25 (rootC zeroR).toArray
          have l_r8 := gg.size
          have ls_r8 := hS.size
          have gg := gb_trans gg (gb_alloc u2 (.cells #[.int .u64 0, .int .i64 0, .int .i64 0, .int .i64 0, .int .i64 0, .int .i64 0, .int .i64 0, .int .i64 0, .int .i64 0, .int .i64 0] 25) none)
          have hS := gb_trans hS (gb_alloc u2 (.cells #[.int .u64 0, .int .i64 0, .int .i64 0, .int .i64 0, .int .i64 0, .int .i64 0, .int .i64 0, .int .i64 0, .int .i64 0, .int .i64 0] 25) none)
          generalize u2.alloc (.cells #[.int .u64 0, .int .i64 0, .int .i64 0, .int .i64 0, .int .i64 0, .int .i64 0, .int .i64 0, .int .i64 0, .int .i64 0, .int .i64 0] 25) = u7 at r8 gg hS ⊢
          refine hK.out _ _ hS (fun hHeld => ?_)
          clear hK K
          try simp only [Act.put, List.setIfInBounds_toArray, List.set_cons_zero, List.set_cons_succ]
          refine wpAnyH_ready (rs := [4]) (by kernel_rfl) (by simp) ?_
          refine AllReadyH.cons (List.getElem?_toArray.trans rfl) (fun K hK => ?_) AllReadyH.nil
          go_simp
          have r7 : RB (u7.alloc (.cells #[.int .u64 0, .int .i64 0, .int .i64 0, .int .i64 0, .int .i64 0, .int .i64 0, .int .i64 0, .int .i64 0, .int .i64 0, .int .i64 0] 25)) u7.heap.size zeroR := Blk.mk u7 25 (rootC zeroR).toArray
          have l_r7 := gg.size
          have ls_r7 := hS.size
          have r8_r7 := Nat.ne_of_lt (Blk.lt r8)
          have r8 := RB.keep0 r8 (gb_alloc u7 (.cells #[.int .u64 0, .int .i64 0, .int .i64 0, .int .i64 0, .int .i64 0, .int .i64 0, .int .i64 0, .int .i64 0, .int .i64 0, .int .i64 0] 25) none)
          have gg := gb_trans gg (gb_alloc u7 (.cells #[.int .u64 0, .int .i64 0, .int .i64 0, .int .i64 0, .int .i64 0, .int .i64 0, .int .i64 0, .int .i64 0, .int .i64 0, .int .i64 0] 25) none)
          have hS := gb_trans hS (gb_alloc u7 (.cells #[.int .u64 0, .int .i64 0, .int .i64 0, .int .i64 0, .int .i64 0, .int .i64 0, .int .i64 0, .int .i64 0, .int .i64 0, .int .i64 0] 25) none)
          generalize u7.alloc (.cells #[.int .u64 0, .int .i64 0, .int .i64 0, .int .i64 0, .int .i64 0, .int .i64 0, .int .i64 0, .int .i64 0, .int .i64 0, .int .i64 0] 25) = u8 at r8 r7 gg hS ⊢
          refine hK.out _ _ hS (fun hHeld => ?_)
          clear hK K
          try simp only [Act.put, List.setIfInBounds_toArray, List.set_cons_zero, List.set_cons_succ]
          refine wpAnyH_ready (rs := [6]) (by kernel_rfl) (by simp) ?_
          refine AllReadyH.cons (List.getElem?_toArray.trans rfl) (fun K hK => ?_) AllReadyH.nil
          with_reducible refine stR 7 21 (u7.heap.size) zeroR x zero_len hx.len r7 ?hx ?hy ?_
          case hx => rfl
          case hy => rfl
          have r7 := set_root r7 x
          have r8 := RB.keepS r8 (gb_setRow u8 (u7.heap.size) (rootC x).toArray) (ne_some r8_r7)
          have gg := gb_step gg (gb_setRow u8 (u7.heap.size) (rootC x).toArray) l_r7
          have hS := gb_step hS (gb_setRow u8 (u7.heap.size) (rootC x).toArray) ls_r7
          generalize u8.setRow (u7.heap.size) (rootC x).toArray = u9 at r8 r7 gg hS ⊢
          refine hK.out _ _ hS (fun hHeld => ?_)
          clear hK K
          try simp only [Act.put, List.setIfInBounds_toArray, List.set_cons_zero, List.set_cons_succ]
          refine wpAnyH_ready (rs := [7]) (by kernel_rfl) (by simp) ?_
          refine AllReadyH.cons (List.getElem?_toArray.trans rfl) (fun K hK => ?_) AllReadyH.nil
          with_reducible refine stR 8 23 (u2.heap.size) zeroR y zero_len hy.len r8 ?hx ?hy ?_
          case hx => rfl
          case hy => rfl
          have r8 := set_root r8 y
          have r7 := RB.keepS r7 (gb_setRow u9 (u2.heap.size) (rootC y).toArray) (ne_some (fun e => r8_r7 e.symm))
          have gg := gb_step gg (gb_setRow u9 (u2.heap.size) (rootC y).toArray) l_r8
          have hS := gb_step hS (gb_setRow u9 (u2.heap.size) (rootC y).toArray) ls_r8
          generalize u9.setRow (u2.heap.size) (rootC y).toArray = u10 at r8 r7 gg hS ⊢
          refine hK.out _ _ hS (fun hHeld => ?_)
          clear hK K
          try simp only [Act.put, List.setIfInBounds_toArray, List.set_cons_zero, List.set_cons_succ]
          refine wpAnyH_done (by kernel_rfl) ?_ _
          refine NoPanic.normal ?_
          exact key u7.heap.size u2.heap.size x y u10 hx hy r7 r8 (fun e => r8_r7 e.symm) l_r7 l_r8 gg
      · skip
        go_simp
        have r7 : RB (u1.alloc (.cells #[.int .u64 0, .int .i64 0, .int .i64 0, .int .i64 0, .int .i64 0, .int .i64 0, .int .i64 0, .int .i64 0, .int .i64 0, .int .i64 0] 25)) u1.heap.size zeroR := Blk.mk u1 25 (rootC zeroR).toArray
        have l_r7 := gg.size
        have ls_r7 := hS.size
        have gg := gb_trans gg (gb_alloc u1 (.cells #[.int .u64 0, .int .i64 0, .int .i64 0, .int .i64 0, .int .i64 0, .int .i64 0, .int .i64 0, .int .i64 0, .int .i64 0, .int .i64 0] 25) none)
        have hS := gb_trans hS (gb_alloc u1 (.cells #[.int .u64 0, .int .i64 0, .int .i64 0, .int .i64 0, .int .i64 0, .int .i64 0, .int .i64 0, .int .i64 0, .int .i64 0, .int .i64 0] 25) none)
        generalize u1.alloc (.cells #[.int .u64 0, .int .i64 0, .int .i64 0, .int .i64 0, .int .i64 0, .int .i64 0, .int .i64 0, .int .i64 0, .int .i64 0, .int .i64 0] 25) = u11 at r7 gg hS ⊢
        refine hK.out _ _ hS (fun hHeld => ?_)
        clear hK K
        try simp only [Act.put, List.setIfInBounds_toArray, List.set_cons_zero, List.set_cons_succ]
        refine wpAnyH_ready (rs := [3, 5]) (by kernel_rfl) (by simp) ?_
        refine AllReadyH.cons (List.getElem?_toArray.trans rfl) (fun K hK => ?_) (AllReadyH.cons (List.getElem?_toArray.trans rfl) (fun K hK => ?_) AllReadyH.nil)
        · skip
          go_simp
          go_at_call 9
          (with_reducible refine (HDr2.out _).mono ?_)
          rintro e u12 ⟨y, hy, rfl, gN⟩
          have r7 := RB.keep0 r7 gN
          have gg := gb_trans gg gN
          have hS := gb_trans hS gN
          refine hK.out _ _ hS (fun hHeld => ?_)
          clear hK K
          try simp only [Act.put, List.setIfInBounds_toArray, List.set_cons_zero, List.set_cons_succ]
          refine wpAnyH_ready (rs := [5]) (by kernel_rfl) (by simp) ?_
          refine AllReadyH.cons (List.getElem?_toArray.trans rfl) (fun K hK => ?_) AllReadyH.nil
          go_simp
          have r8 : RB (u12.alloc (.cells #[.int .u64 0, .int .i64 0, .int .i64 0, .int .i64 0, .int .i64 0, .int .i64 0, .int .i64 0, .int .i64 0, .int .i64 0, .int .i64 0] 25)) u12.heap.size zeroR := Blk.mk u12 25 (rootC zeroR).toArray
          have l_r8 := gg.size
          have ls_r8 := hS.size
          have r7_r8 := Nat.ne_of_lt (Blk.lt r7)
          have r7 := RB.keep0 r7 (gb_alloc u12 (.cells #[.int .u64 0, .int .i64 0, .int .i64 0, .int .i64 0, .int .i64 0, .int .i64 0, .int .i64 0, .int .i64 0, .int .i64 0, .int .i64 0] 25) none)
          have gg := gb_trans gg (gb_alloc u12 (.cells #[.int .u64 0, .int .i64 0, .int .i64 0, .int .i64 0, .int .i64 0, .int .i64 0, .int .i64 0, .int .i64 0, .int .i64 0, .int .i64 0] 25) none)
          have hS := gb_trans hS (gb_alloc u12 (.cells #[.int .u64 0, .int .i64 0, .int .i64 0, .int .i64 0, .int .i64 0, .int .i64 0, .int .i64 0, .int .i64 0, .int .i64 0, .int .i64 0] 25) none)
          generalize u12.alloc (.cells #[.int .u64 0, .int .i64 0, .int .i64 0, .int .i64 0, .int .i64 0, .int .i64 0, .int .i64 0, .int .i64 0, .int .i64 0, .int .i64 0] 25) = u13 at r7 r8 gg hS ⊢
          refine hK.out _ _ hS (fun hHeld => ?_)
          clear hK K
          try simp only [Act.put, List.setIfInBounds_toArray, List.set_cons_zero, List.set_cons_succ]
          refine wpAnyH_ready (rs := [6]) (by kernel_rfl) (by simp) ?_
          refine AllReadyH.cons (List.getElem?_toArray.trans rfl) (fun K hK => ?_) AllReadyH.nil
          with_reducible refine stR 7 21 (u1.heap.size) zeroR x zero_len hx.len r7 ?hx ?hy ?_
          case hx => rfl
          case hy => rfl
          have r7 := set_root r7 x
          have r8 := RB.keepS r8 (gb_setRow u13 (u1.heap.size) (rootC x).toArray) (ne_some (fun e => r7_r8 e.symm))
          have gg := gb_step gg (gb_setRow u13 (u1.heap.size) (rootC x).toArray) l_r7
          have hS := gb_step hS (gb_setRow u13 (u1.heap.size) (rootC x).toArray) ls_r7
          generalize u13.setRow (u1.heap.size) (rootC x).toArray = u14 at r7 r8 gg hS ⊢
          refine hK.out _ _ hS (fun hHeld => ?_)
          clear hK K
          try simp only [Act.put, List.setIfInBounds_toArray, List.set_cons_zero, List.set_cons_succ]
          refine wpAnyH_ready (rs := [7]) (by kernel_rfl) (by simp) ?_
          refine AllReadyH.cons (List.getElem?_toArray.trans rfl) (fun K hK => ?_) AllReadyH.nil
          with_reducible refine stR 8 23 (u12.heap.size) zeroR y zero_len hy.len r8 ?hx ?hy ?_
          case hx => rfl
          case hy => rfl
          have r8 := set_root r8 y
          have r7 := RB.keepS r7 (gb_setRow u14 (u12.heap.size) (rootC y).toArray) (ne_some r7_r8)
          have gg := gb_step gg (gb_setRow u14 (u12.heap.size) (rootC y).toArray) l_r8
          have hS := gb_step hS (gb_setRow u14 (u12.heap.size) (rootC y).toArray) ls_r8
          generalize u14.setRow (u12.heap.size) (rootC y).toArray = u15 at r7 r8 gg hS ⊢
          refine hK.out _ _ hS (fun hHeld => ?_)
          clear hK K
          try simp only [Act.put, List.setIfInBounds_toArray, List.set_cons_zero, List.set_cons_succ]
          refine wpAnyH_done (by kernel_rfl) ?_ _
          refine NoPanic.normal ?_
          exact key u1.heap.size u12.heap.size x y u15 hx hy r7 r8 r7_r8 l_r7 l_r8 gg
        · skip
          go_simp
          have r8 : RB (u11.alloc (.cells #[.int .u64 0, .int .i64 0, .int .i64 0, .int .i64 0, .int .i64 0, .int .i64 0, .int .i64 0, .int .i64 0, .int .i64 0, .int .i64 0] 25)) u11.heap.size zeroR := Blk.mk u11 25 (rootC zeroR).toArray
          have l_r8 := gg.size
          have ls_r8 := hS.size
          have r7_r8 := Nat.ne_of_lt (Blk.lt r7)
          have r7 := RB.keep0 r7 (gb_alloc u11 (.cells #[.int .u64 0, .int .i64 0, .int .i64 0, .int .i64 0, .int .i64 0, .int .i64 0, .int .i64 0, .int .i64 0, .int .i64 0, .int .i64 0] 25) none)
          have gg := gb_trans gg (gb_alloc u11 (.cells #[.int .u64 0, .int .i64 0, .int .i64 0, .int .i64 0, .int .i64 0, .int .i64 0, .int .i64 0, .int .i64 0, .int .i64 0, .int .i64 0] 25) none)
          have hS := gb_trans hS (gb_alloc u11 (.cells #[.int .u64 0, .int .i64 0, .int .i64 0, .int .i64 0, .int .i64 0, .int .i64 0, .int .i64 0, .int .i64 0, .int .i64 0, .int .i64 0] 25) none)
          generalize u11.alloc (.cells #[.int .u64 0, .int .i64 0, .int .i64 0, .int .i64 0, .int .i64 0, .int .i64 0, .int .i64 0, .int .i64 0, .int .i64 0, .int .i64 0] 25) = u16 at r7 r8 gg hS ⊢
          refine hK.out _ _ hS (fun hHeld => ?_)
          clear hK K
          try simp only [Act.put, List.setIfInBounds_toArray, List.set_cons_zero, List.set_cons_succ]
          refine wpAnyH_ready (rs := [3]) (by kernel_rfl) (by simp) ?_
          refine AllReadyH.cons (List.getElem?_toArray.trans rfl) (fun K hK => ?_) AllReadyH.nil
          go_simp
          go_at_call 9
          (with_reducible refine (HDr2.out _).mono ?_)
          rintro e u17 ⟨y, hy, rfl, gN⟩
          have r7 := RB.keep0 r7 gN
          have r8 := RB.keep0 r8 gN
          have gg := gb_trans gg gN
          have hS := gb_trans hS gN
          refine hK.out _ _ hS (fun hHeld => ?_)
          clear hK K
          try simp only [Act.put, List.setIfInBounds_toArray, List.set_cons_zero, List.set_cons_succ]
          refine wpAnyH_ready (rs := [6]) (by kernel_rfl) (by simp) ?_
          refine AllReadyH.cons (List.getElem?_toArray.trans rfl) (fun K hK => ?_) AllReadyH.nil
          with_reducible refine stR 7 21 (u1.heap.size) zeroR x zero_len hx.len r7 ?hx ?hy ?_
          case hx => rfl
          case hy => rfl
          have r7 := set_root r7 x
          have r8 := RB.keepS r8 (gb_setRow u17 (u1.heap.size) (rootC x).toArray) (ne_some (fun e => r7_r8 e.symm))
          have gg := gb_step gg (gb_setRow u17 (u1.heap.size) (rootC x).toArray) l_r7
          have hS := gb_step hS (gb_setRow u17 (u1.heap.size) (rootC x).toArray) ls_r7
          generalize u17.setRow (u1.heap.size) (rootC x).toArray = u18 at r7 r8 gg hS ⊢
          refine hK.out _ _ hS (fun hHeld => ?_)
          clear hK K
          try simp only [Act.put, List.setIfInBounds_toArray, List.set_cons_zero, List.set_cons_succ]
          refine wpAnyH_ready (rs := [7]) (by kernel_rfl) (by simp) ?_
          refine AllReadyH.cons (List.getElem?_toArray.trans rfl) (fun K hK => ?_) AllReadyH.nil
          with_reducible refine stR 8 23 (u11.heap.size) zeroR y zero_len hy.len r8 ?hx ?hy ?_
          case hx => rfl
          case hy => rfl
          have r8 := set_root r8 y
          have r7 := RB.keepS r7 (gb_setRow u18 (u11.heap.size) (rootC y).toArray) (ne_some r7_r8)
          have gg := gb_step gg (gb_setRow u18 (u11.heap.size) (rootC y).toArray) l_r8
          have hS := gb_step hS (gb_setRow u18 (u11.heap.size) (rootC y).toArray) ls_r8
          generalize u18.setRow (u11.heap.size) (rootC y).toArray = u19 at r7 r8 gg hS ⊢
          refine hK.out _ _ hS (fun hHeld => ?_)
          clear hK K
          try simp only [Act.put, List.setIfInBounds_toArray, List.set_cons_zero, List.set_cons_succ]
          refine wpAnyH_done (by kernel_rfl) ?_ _
          refine NoPanic.normal ?_
          exact key u1.heap.size u11.heap.size x y u19 hx hy r7 r8 r7_r8 l_r7 l_r8 gg
      · skip
        go_simp
        have r8 : RB (u1.alloc (.cells #[.int .u64 0, .int .i64 0, .int .i64 0, .int .i64 0, .int .i64 0, .int .i64 0, .int .i64 0, .int .i64 0, .int .i64 0, .int .i64 0] 25)) u1.heap.size zeroR := Blk.mk u1 25 (rootC zeroR).toArray
        have l_r8 := gg.size
        have ls_r8 := hS.size
        have gg := gb_trans gg (gb_alloc u1 (.cells #[.int .u64 0, .int .i64 0, .int .i64 0, .int .i64 0, .int .i64 0, .int .i64 0, .int .i64 0, .int .i64 0, .int .i64 0, .int .i64 0] 25) none)
        have hS := gb_trans hS (gb_alloc u1 (.cells #[.int .u64 0, .int .i64 0, .int .i64 0, .int .i64 0, .int .i64 0, .int .i64 0, .int .i64 0, .int .i64 0, .int .i64 0, .int .i64 0] 25) none)
        generalize u1.alloc (.cells #[.int .u64 0, .int .i64 0, .int .i64 0, .int .i64 0, .int .i64 0, .int .i64 0, .int .i64 0, .int .i64 0, .int .i64 0, .int .i64 0] 25) = u20 at r8 gg hS ⊢
        refine hK.out _ _ hS (fun hHeld => ?_)
        clear hK K
        try simp only [Act.put, List.setIfInBounds_toArray, List.set_cons_zero, List.set_cons_succ]
        refine wpAnyH_ready (rs := [3, 4]) (by kernel_rfl) (by simp) ?_
        refine AllReadyH.cons (List.getElem?_toArray.trans rfl) (fun K hK => ?_) (AllReadyH.cons (List.getElem?_toArray.trans rfl) (fun K hK => ?_) AllReadyH.nil)
        · skip
          go_simp
          go_at_call 9
          (with_reducible refine (HDr2.out _).mono ?_)
          rintro e u21 ⟨y, hy, rfl, gN⟩
          have r8 := RB.keep0 r8 gN
          have gg := gb_trans gg gN
          have hS := gb_trans hS gN
          refine hK.out _ _ hS (fun hHeld => ?_)
          clear hK K
          try simp only [Act.put, List.setIfInBounds_toArray, List.set_cons_zero, List.set_cons_succ]
          refine wpAnyH_ready (rs := [4]) (by kernel_rfl) (by simp) ?_
          refine AllReadyH.cons (List.getElem?_toArray.trans rfl) (fun K hK => ?_) AllReadyH.nil
          go_simp
          have r7 : RB (u21.alloc (.cells #[.int .u64 0, .int .i64 0, .int .i64 0, .int .i64 0, .int .i64 0, .int .i64 0, .int .i64 0, .int .i64 0, .int .i64 0, .int .i64 0] 25)) u21.heap.size zeroR := Blk.mk u21 25 (rootC zeroR).toArray
          have l_r7 := gg.size
          have ls_r7 := hS.size
          have r8_r7 := Nat.ne_of_lt (Blk.lt r8)
          have r8 := RB.keep0 r8 (gb_alloc u21 (.cells #[.int .u64 0, .int .i64 0, .int .i64 0, .int .i64 0, .int .i64 0, .int .i64 0, .int .i64 0, .int .i64 0, .int .i64 0, .int .i64 0] 25) none)
          have gg := gb_trans gg (gb_alloc u21 (.cells #[.int .u64 0, .int .i64 0, .int .i64 0, .int .i64 0, .int .i64 0, .int .i64 0, .int .i64 0, .int .i64 0, .int .i64 0, .int .i64 0] 25) none)
          have hS := gb_trans hS (gb_alloc u21 (.cells #[.int .u64 0, .int .i64 0, .int .i64 0, .int .i64 0, .int .i64 0, .int .i64 0, .int .i64 0, .int .i64 0, .int .i64 0, .int .i64 0] 25) none)
          generalize u21.alloc (.cells #[.int .u64 0, .int .i64 0, .int .i64 0, .int .i64 0, .int .i64 0, .int .i64 0, .int .i64 0, .int .i64 0, .int .i64 0, .int .i64 0] 25) = u22 at r8 r7 gg hS ⊢
          refine hK.out _ _ hS (fun hHeld => ?_)
          clear hK K
          try simp only [Act.put, List.setIfInBounds_toArray, List.set_cons_zero, List.set_cons_succ]
          refine wpAnyH_ready (rs := [6]) (by kernel_rfl) (by simp) ?_
          refine AllReadyH.cons (List.getElem?_toArray.trans rfl) (fun K hK => ?_) AllReadyH.nil
          with_reducible refine stR 7 21 (u21.heap.size) zeroR x zero_len hx.len r7 ?hx ?hy ?_
          case hx => rfl
          case hy => rfl
          have r7 := set_root r7 x
          have r8 := RB.keepS r8 (gb_setRow u22 (u21.heap.size) (rootC x).toArray) (ne_some r8_r7)
          have gg := gb_step gg (gb_setRow u22 (u21.heap.size) (rootC x).toArray) l_r7
          have hS := gb_step hS (gb_setRow u22 (u21.heap.size) (rootC x).toArray) ls_r7
          generalize u22.setRow (u21.heap.size) (rootC x).toArray = u23 at r8 r7 gg hS ⊢
          refine hK.out _ _ hS (fun hHeld => ?_)
          clear hK K
          try simp only [Act.put, List.setIfInBounds_toArray, List.set_cons_zero, List.set_cons_succ]
          refine wpAnyH_ready (rs := [7]) (by kernel_rfl) (by simp) ?_
          refine AllReadyH.cons (List.getElem?_toArray.trans rfl) (fun K hK => ?_) AllReadyH.nil
          with_reducible refine stR 8 23 (u1.heap.size) zeroR y zero_len hy.len r8 ?hx ?hy ?_
          case hx => rfl
          case hy => rfl
          have r8 := set_root r8 y
          have r7 := RB.keepS r7 (gb_setRow u23 (u1.heap.size) (rootC y).toArray) (ne_some (fun e => r8_r7 e.symm))
          have gg := gb_step gg (gb_setRow u23 (u1.heap.size) (rootC y).toArray) l_r8
          have hS := gb_step hS (gb_setRow u23 (u1.heap.size) (rootC y).toArray) ls_r8
          generalize u23.setRow (u1.heap.size) (rootC y).toArray = u24 at r8 r7 gg hS ⊢
          refine hK.out _ _ hS (fun hHeld => ?_)
          clear hK K
          try simp only [Act.put, List.setIfInBounds_toArray, List.set_cons_zero, List.set_cons_succ]
          refine wpAnyH_done (by kernel_rfl) ?_ _
          refine NoPanic.normal ?_
          exact key u21.heap.size u1.heap.size x y u24 hx hy r7 r8 (fun e => r8_r7 e.symm) l_r7 l_r8 gg
        · skip
          go_simp
          have r7 : RB (u20.alloc (.cells #[.int .u64 0, .int .i64 0, .int .i64 0, .int .i64 0, .int .i64 0, .int .i64 0, .int .i64 0, .int .i64 0, .int .i64 0, .int .i64 0] 25)) u20.heap.size zeroR := Blk.mk u20 25 (rootC zeroR).toArray
          have l_r7 := gg.size
          have ls_r7 := hS.size
          have r8_r7 := Nat.ne_of_lt (Blk.lt r8)
          have r8 := RB.keep0 r8 (gb_alloc u20 (.cells #[.int .u64 0, .int .i64 0, .int .i64 0, .int .i64 0, .int .i64 0, .int .i64 0, .int .i64 0, .int .i64 0, .int .i64 0, .int .i64 0] 25) none)
          have gg := gb_trans gg (gb_alloc u20 (.cells #[.int .u64 0, .int .i64 0, .int .i64 0, .int .i64 0, .int .i64 0, .int .i64 0, .int .i64 0, .int .i64 0, .int .i64 0, .int .i64 0] 25) none)
          have hS := gb_trans hS (gb_alloc u20 (.cells #[.int .u64 0, .int .i64 0, .int .i64 0, .int .i64 0, .int .i64 0, .int .i64 0, .int .i64 0, .int .i64 0, .int .i64 0, .int .i64 0] 25) none)
          generalize u20.alloc (.cells #[.int .u64 0, .int .i64 0, .int .i64 0, .int .i64 0, .int .i64 0, .int .i64 0, .int .i64 0, .int .i64 0, .int .i64 0, .int .i64 0] 25) = u25 at r8 r7 gg hS ⊢
          refine hK.out _ _ hS (fun hHeld => ?_)
          clear hK K
          try simp only [Act.put, List.setIfInBounds_toArray, List.set_cons_zero, List.set_cons_succ]
          refine wpAnyH_ready (rs := [3]) (by kernel_rfl) (by simp) ?_
          refine AllReadyH.cons (List.getElem?_toArray.trans rfl) (fun K hK => ?_) AllReadyH.nil
          go_simp
          go_at_call 9
          (with_reducible refine (HDr2.out _).mono ?_)
          rintro e u26 ⟨y, hy, rfl, gN⟩
          have r8 := RB.keep0 r8 gN
          have r7 := RB.keep0 r7 gN
          have gg := gb_trans gg gN
          have hS := gb_trans hS gN
          refine hK.out _ _ hS (fun hHeld => ?_)
          clear hK K
          try simp only [Act.put, List.setIfInBounds_toArray, List.set_cons_zero, List.set_cons_succ]
          refine wpAnyH_ready (rs := [6]) (by kernel_rfl) (by simp) ?_
          refine AllReadyH.cons (List.getElem?_toArray.trans rfl) (fun K hK => ?_) AllReadyH.nil
          with_reducible refine stR 7 21 (u20.heap.size) zeroR x zero_len hx.len r7 ?hx ?hy ?_
          case hx => rfl
          case hy => rfl
          have r7 := set_root r7 x
          have r8 := RB.keepS r8 (gb_setRow u26 (u20.heap.size) (rootC x).toArray) (ne_some r8_r7)
          have gg := gb_step gg (gb_setRow u26 (u20.heap.size) (rootC x).toArray) l_r7
          have hS := gb_step hS (gb_setRow u26 (u20.heap.size) (rootC x).toArray) ls_r7
          generalize u26.setRow (u20.heap.size) (rootC x).toArray = u27 at r8 r7 gg hS ⊢
          refine hK.out _ _ hS (fun hHeld => ?_)
          clear hK K
          try simp only [Act.put, List.setIfInBounds_toArray, List.set_cons_zero, List.set_cons_succ]
          refine wpAnyH_ready (rs := [7]) (by kernel_rfl) (by simp) ?_
          refine AllReadyH.cons (List.getElem?_toArray.trans rfl) (fun K hK => ?_) AllReadyH.nil
          with_reducible refine stR 8 23 (u1.heap.size) zeroR y zero_len hy.len r8 ?hx ?hy ?_
          case hx => rfl
          case hy => rfl
          have r8 := set_root r8 y
          have r7 := RB.keepS r7 (gb_setRow u27 (u1.heap.size) (rootC y).toArray) (ne_some (fun e => r8_r7 e.symm))
          have gg := gb_step gg (gb_setRow u27 (u1.heap.size) (rootC y).toArray) l_r8
          have hS := gb_step hS (gb_setRow u27 (u1.heap.size) (rootC y).toArray) ls_r8
          generalize u27.setRow (u1.heap.size) (rootC y).toArray = u28 at r8 r7 gg hS ⊢
          refine hK.out _ _ hS (fun hHeld => ?_)
          clear hK K
          try simp only [Act.put, List.setIfInBounds_toArray, List.set_cons_zero, List.set_cons_succ]
          refine wpAnyH_done (by kernel_rfl) ?_ _
          refine NoPanic.normal ?_
          exact key u20.heap.size u1.heap.size x y u28 hx hy r7 r8 (fun e => r8_r7 e.symm) l_r7 l_r8 gg
    · skip
      go_simp
      have r7 : RB (u0.alloc (.cells #[.int .u64 0, .int .i64 0, .int .i64 0, .int .i64 0, .int .i64 0, .int .i64 0, .int .i64 0, .int .i64 0, .int .i64 0, .int .i64 0] 25)) u0.heap.size zeroR := Blk.mk u0 25 (rootC zeroR).toArray
      have l_r7 := gg.size
      have ls_r7 := hS.size
      have gg := gb_trans gg (gb_alloc u0 (.cells #[.int .u64 0, .int .i64 0, .int .i64 0, .int .i64 0, .int .i64 0, .int .i64 0, .int .i64 0, .int .i64 0, .int .i64 0, .int .i64 0] 25) none)
      have hS := gb_trans hS (gb_alloc u0 (.cells #[.int .u64 0, .int .i64 0, .int .i64 0, .int .i64 0, .int .i64 0, .int .i64 0, .int .i64 0, .int .i64 0, .int .i64 0, .int .i64 0] 25) none)
      generalize u0.alloc (.cells #[.int .u64 0, .int .i64 0, .int .i64 0, .int .i64 0, .int .i64 0, .int .i64 0, .int .i64 0, .int .i64 0, .int .i64 0, .int .i64 0] 25) = u29 at r7 gg hS ⊢
      refine hK.out _ _ hS (fun hHeld => ?_)
      clear hK K
      try simp only [Act.put, List.setIfInBounds_toArray, List.set_cons_zero, List.set_cons_succ]
      refine wpAnyH_ready (rs := [1, 5]) (by kernel_rfl) (by simp) ?_
      refine AllReadyH.cons (List.getElem?_toArray.trans rfl) (fun K hK => ?_) (AllReadyH.cons (List.getElem?_toArray.trans rfl) (fun K hK => ?_) AllReadyH.nil)
      · skip
        go_simp
        go_at_call 9
        (with_reducible refine (HDr.out _).mono ?_)
        rintro e u30 ⟨x, hx, rfl, gN⟩
        have r7 := RB.keep0 r7 gN
        have gg := gb_trans gg gN
        have hS := gb_trans hS gN
        refine hK.out _ _ hS (fun hHeld => ?_)
        clear hK K
        try simp only [Act.put, List.setIfInBounds_toArray, List.set_cons_zero, List.set_cons_succ]
        refine wpAnyH_ready (rs := [3, 5]) (by kernel_rfl) (by simp) ?_
        refine AllReadyH.cons (List.getElem?_toArray.trans rfl) (fun K hK => ?_) (AllReadyH.cons (List.getElem?_toArray.trans rfl) (fun K hK => ?_) AllReadyH.nil)
        · skip
          go_simp
          go_at_call 9
          (with_reducible refine (HDr2.out _).mono ?_)
          rintro e u31 ⟨y, hy, rfl, gN⟩
          have r7 := RB.keep0 r7 gN
          have gg := gb_trans gg gN
          have hS := gb_trans hS gN
          refine hK.out _ _ hS (fun hHeld => ?_)
          clear hK K
          try simp only [Act.put, List.setIfInBounds_toArray, List.set_cons_zero, List.set_cons_succ]
          refine wpAnyH_ready (rs := [5]) (by kernel_rfl) (by simp) ?_
          refine AllReadyH.cons (List.getElem?_toArray.trans rfl) (fun K hK => ?_) AllReadyH.nil
          go_simp
          have r8 : RB (u31.alloc (.cells #[.int .u64 0, .int .i64 0, .int .i64 0, .int .i64 0, .int .i64 0, .int .i64 0, .int .i64 0, .int .i64 0, .int .i64 0, .int .i64 0] 25)) u31.heap.size zeroR := Blk.mk u31 25 (rootC zeroR).toArray
          have l_r8 := gg.size
          have ls_r8 := hS.size
          have r7_r8 := Nat.ne_of_lt (Blk.lt r7)
          have r7 := RB.keep0 r7 (gb_alloc u31 (.cells #[.int .u64 0, .int .i64 0, .int .i64 0, .int .i64 0, .int .i64 0, .int .i64 0, .int .i64 0, .int .i64 0, .int .i64 0, .int .i64 0] 25) none)
          have gg := gb_trans gg (gb_alloc u31 (.cells #[.int .u64 0, .int .i64 0, .int .i64 0, .int .i64 0, .int .i64 0, .int .i64 0, .int .i64 0, .int .i64 0, .int .i64 0, .int .i64 0] 25) none)
          have hS := gb_trans hS (gb_alloc u31 (.cells #[.int .u64 0, .int .i64 0, .int .i64 0, .int .i64 0, .int .i64 0, .int .i64 0, .int .i64 0, .int .i64 0, .int .i64 0, .int .i64 0] 25) none)
          generalize u31.alloc (.cells #[.int .u64 0, .int .i64 0, .int .i64 0, .int .i64 0, .int .i64 0, .int .i64 0, .int .i64 0, .int .i64 0, .int .i64 0, .int .i64 0] 25) = u32 at r7 r8 gg hS ⊢
          refine hK.out _ _ hS (fun hHeld => ?_)
          clear hK K
          try simp only [Act.put, List.setIfInBounds_toArray, List.set_cons_zero, List.set_cons_succ]
          refine wpAnyH_ready (rs := [6]) (by kernel_rfl) (by simp) ?_
          refine AllReadyH.cons (List.getElem?_toArray.trans rfl) (fun K hK => ?_) AllReadyH.nil
          with_reducible refine stR 7 21 (u0.heap.size) zeroR x zero_len hx.len r7 ?hx ?hy ?_
          case hx => rfl
          case hy => rfl
          have r7 := set_root r7 x
          have r8 := RB.keepS r8 (gb_setRow u32 (u0.heap.size) (rootC x).toArray) (ne_some (fun e => r7_r8 e.symm))
          have gg := gb_step gg (gb_setRow u32 (u0.heap.size) (rootC x).toArray) l_r7
          have hS := gb_step hS (gb_setRow u32 (u0.heap.size) (rootC x).toArray) ls_r7
          generalize u32.setRow (u0.heap.size) (rootC x).toArray = u33 at r7 r8 gg hS ⊢
          refine hK.out _ _ hS (fun hHeld => ?_)
          clear hK K
          try simp only [Act.put, List.setIfInBounds_toArray, List.set_cons_zero, List.set_cons_succ]
          refine wpAnyH_ready (rs := [7]) (by kernel_rfl) (by simp) ?_
          refine AllReadyH.cons (List.getElem?_toArray.trans rfl) (fun K hK => ?_) AllReadyH.nil
          with_reducible refine stR 8 23 (u31.heap.size) zeroR y zero_len hy.len r8 ?hx ?hy ?_
          case hx => rfl
          case hy => rfl
          have r8 := set_root r8 y
          have r7 := RB.keepS r7 (gb_setRow u33 (u31.heap.size) (rootC y).toArray) (ne_some r7_r8)
          have gg := gb_step gg (gb_setRow u33 (u31.heap.size) (rootC y).toArray) l_r8
          have hS := gb_step hS (gb_setRow u33 (u31.heap.size) (rootC y).toArray) ls_r8
          generalize u33.setRow (u31.heap.size) (rootC y).toArray = u34 at r7 r8 gg hS ⊢
          refine hK.out _ _ hS (fun hHeld => ?_)
          clear hK K
          try simp only [Act.put, List.setIfInBounds_toArray, List.set_cons_zero, List.set_cons_succ]
          refine wpAnyH_done (by kernel_rfl) ?_ _
          refine NoPanic.normal ?_
          exact key u0.heap.size u31.heap.size x y u34 hx hy r7 r8 r7_r8 l_r7 l_r8 gg
        · skip
          go_simp
          have r8 : RB (u30.alloc (.cells #[.int .u64 0, .int .i64 0, .int .i64 0, .int .i64 0, .int .i64 0, .int .i64 0, .int .i64 0, .int .i64 0, .int .i64 0, .int .i64 0] 25)) u30.heap.size zeroR := Blk.mk u30 25 (rootC zeroR).toArray
          have l_r8 := gg.size
          have ls_r8 := hS.size
          have r7_r8 := Nat.ne_of_lt (Blk.lt r7)
          have r7 := RB.keep0 r7 (gb_alloc u30 (.cells #[.int .u64 0, .int .i64 0, .int .i64 0, .int .i64 0, .int .i64 0, .int .i64 0, .int .i64 0, .int .i64 0, .int .i64 0, .int .i64 0] 25) none)
          have gg := gb_trans gg (gb_alloc u30 (.cells #[.int .u64 0, .int .i64 0, .int .i64 0, .int .i64 0, .int .i64 0, .int .i64 0, .int .i64 0, .int .i64 0, .int .i64 0, .int .i64 0] 25) none)
          have hS := gb_trans hS (gb_alloc u30 (.cells #[.int .u64 0, .int .i64 0, .int .i64 0, .int .i64 0, .int .i64 0, .int .i64 0, .int .i64 0, .int .i64 0, .int .i64 0, .int .i64 0] 25) none)
          generalize u30.alloc (.cells #[.int .u64 0, .int .i64 0, .int .i64 0, .int .i64 0, .int .i64 0, .int .i64 0, .int .i64 0, .int .i64 0, .int .i64 0, .int .i64 0] 25) = u35 at r7 r8 gg hS ⊢
          refine hK.out _ _ hS (fun hHeld => ?_)
          clear hK K
          try simp only [Act.put, List.setIfInBounds_toArray, List.set_cons_zero, List.set_cons_succ]
          refine wpAnyH_ready (rs := [3]) (by kernel_rfl) (by simp) ?_
          refine AllReadyH.cons (List.getElem?_toArray.trans rfl) (fun K hK => ?_) AllReadyH.nil
          go_simp
          go_at_call 9
          (with_reducible refine (HDr2.out _).mono ?_)
          rintro e u36 ⟨y, hy, rfl, gN⟩
          have r7 := RB.keep0 r7 gN
          have r8 := RB.keep0 r8 gN
          have gg := gb_trans gg gN
          have hS := gb_trans hS gN
          refine hK.out _ _ hS (fun hHeld => ?_)
          clear hK K
          try simp only [Act.put, List.setIfInBounds_toArray, List.set_cons_zero, List.set_cons_succ]
          refine wpAnyH_ready (rs := [6]) (by kernel_rfl) (by simp) ?_
          refine AllReadyH.cons (List.getElem?_toArray.trans rfl) (fun K hK => ?_) AllReadyH.nil
          with_reducible refine stR 7 21 (u0.heap.size) zeroR x zero_len hx.len r7 ?hx ?hy ?_
          case hx => rfl
          case hy => rfl
          have r7 := set_root r7 x
          have r8 := RB.keepS r8 (gb_setRow u36 (u0.heap.size) (rootC x).toArray) (ne_some (fun e => r7_r8 e.symm))
          have gg := gb_step gg (gb_setRow u36 (u0.heap.size) (rootC x).toArray) l_r7
          have hS := gb_step hS (gb_setRow u36 (u0.heap.size) (rootC x).toArray) ls_r7
          generalize u36.setRow (u0.heap.size) (rootC x).toArray = u37 at r7 r8 gg hS ⊢
          refine hK.out _ _ hS (fun hHeld => ?_)
          clear hK K
          try simp only [Act.put, List.setIfInBounds_toArray, List.set_cons_zero, List.set_cons_succ]
          refine wpAnyH_ready (rs := [7]) (by kernel_rfl) (by simp) ?_
          refine AllReadyH.cons (List.getElem?_toArray.trans rfl) (fun K hK => ?_) AllReadyH.nil
          with_reducible refine stR 8 23 (u30.heap.size) zeroR y zero_len hy.len r8 ?hx ?hy ?_
          case hx => rfl
          case hy => rfl
          have r8 := set_root r8 y
          have r7 := RB.keepS r7 (gb_setRow u37 (u30.heap.size) (rootC y).toArray) (ne_some r7_r8)
          have gg := gb_step gg (gb_setRow u37 (u30.heap.size) (rootC y).toArray) l_r8
          have hS := gb_step hS (gb_setRow u37 (u30.heap.size) (rootC y).toArray) ls_r8
          generalize u37.setRow (u30.heap.size) (rootC y).toArray = u38 at r7 r8 gg hS ⊢
          refine hK.out _ _ hS (fun hHeld => ?_)
          clear hK K
          try simp only [Act.put, List.setIfInBounds_toArray, List.set_cons_zero, List.set_cons_succ]
          refine wpAnyH_done (by kernel_rfl) ?_ _
          refine NoPanic.normal ?_
          exact key u0.heap.size u30.heap.size x y u38 hx hy r7 r8 r7_r8 l_r7 l_r8 gg
      · skip
        go_simp
        have r8 : RB (u29.alloc (.cells #[.int .u64 0, .int .i64 0, .int .i64 0, .int .i64 0, .int .i64 0, .int .i64 0, .int .i64 0, .int .i64 0, .int .i64 0, .int .i64 0] 25)) u29.heap.size zeroR := Blk.mk u29 25 (rootC zeroR).toArray
        have l_r8 := gg.size
        have ls_r8 := hS.size
        have r7_r8 := Nat.ne_of_lt (Blk.lt r7)
        have r7 := RB.keep0 r7 (gb_alloc u29 (.cells #[.int .u64 0, .int .i64 0, .int .i64 0, .int .i64 0, .int .i64 0, .int .i64 0, .int .i64 0, .int .i64 0, .int .i64 0, .int .i64 0] 25) none)
        have gg := gb_trans gg (gb_alloc u29 (.cells #[.int .u64 0, .int .i64 0, .int .i64 0, .int .i64 0, .int .i64 0, .int .i64 0, .int .i64 0, .int .i64 0, .int .i64 0, .int .i64 0] 25) none)
        have hS := gb_trans hS (gb_alloc u29 (.cells #[.int .u64 0, .int .i64 0, .int .i64 0, .int .i64 0, .int .i64 0, .int .i64 0, .int .i64 0, .int .i64 0, .int .i64 0, .int .i64 0] 25) none)
        generalize u29.alloc (.cells #[.int .u64 0, .int .i64 0, .int .i64 0, .int .i64 0, .int .i64 0, .int .i64 0, .int .i64 0, .int .i64 0, .int .i64 0, .int .i64 0] 25) = u39 at r7 r8 gg hS ⊢
        refine hK.out _ _ hS (fun hHeld => ?_)
        clear hK K
        try simp only [Act.put, List.setIfInBounds_toArray, List.set_cons_zero, List.set_cons_succ]
        refine wpAnyH_ready (rs := [1]) (by kernel_rfl) (by simp) ?_
        refine AllReadyH.cons (List.getElem?_toArray.trans rfl) (fun K hK => ?_) AllReadyH.nil
        go_simp
        go_at_call 9
        (with_reducible refine (HDr.out _).mono ?_)
        rintro e u40 ⟨x, hx, rfl, gN⟩
        have r7 := RB.keep0 r7 gN
        have r8 := RB.keep0 r8 gN
        have gg := gb_trans gg gN
        have hS := gb_trans hS gN
        refine hK.out _ _ hS (fun hHeld => ?_)
        clear hK K
        try simp only [Act.put, List.setIfInBounds_toArray, List.set_cons_zero, List.set_cons_succ]
        refine wpAnyH_ready (rs := [3]) (by kernel_rfl) (by simp) ?_
        refine AllReadyH.cons (List.getElem?_toArray.trans rfl) (fun K hK => ?_) AllReadyH.nil
        go_simp
        go_at_call 9
        (with_reducible refine (HDr2.out _).mono ?_)
        rintro e u41 ⟨y, hy, rfl, gN⟩
        have r7 := RB.keep0 r7 gN
        have r8 := RB.keep0 r8 gN
        have gg := gb_trans gg gN
        have hS := gb_trans hS gN
        refine hK.out _ _ hS (fun hHeld => ?_)
        clear hK K
        try simp only [Act.put, List.setIfInBounds_toArray, List.set_cons_zero, List.set_cons_succ]
        refine wpAnyH_ready (rs := [6]) (by kernel_rfl) (by simp) ?_
        refine AllReadyH.cons (List.getElem?_toArray.trans rfl) (fun K hK => ?_) AllReadyH.nil
        with_reducible refine stR 7 21 (u0.heap.size) zeroR x zero_len hx.len r7 ?hx ?hy ?_
        case hx => rfl
        case hy => rfl
        have r7 := set_root r7 x
        have r8 := RB.keepS r8 (gb_setRow u41 (u0.heap.size) (rootC x).toArray) (ne_some (fun e => r7_r8 e.symm))
        have gg := gb_step gg (gb_setRow u41 (u0.heap.size) (rootC x).toArray) l_r7
        have hS := gb_step hS (gb_setRow u41 (u0.heap.size) (rootC x).toArray) ls_r7
        generalize u41.setRow (u0.heap.size) (rootC x).toArray = u42 at r7 r8 gg hS ⊢
        refine hK.out _ _ hS (fun hHeld => ?_)
        clear hK K
        try simp only [Act.put, List.setIfInBounds_toArray, List.set_cons_zero, List.set_cons_succ]
        refine wpAnyH_ready (rs := [7]) (by kernel_rfl) (by simp) ?_
        refine AllReadyH.cons (List.getElem?_toArray.trans rfl) (fun K hK => ?_) AllReadyH.nil
        with_reducible refine stR 8 23 (u29.heap.size) zeroR y zero_len hy.len r8 ?hx ?hy ?_
        case hx => rfl
        case hy => rfl
        have r8 := set_root r8 y
        have r7 := RB.keepS r7 (gb_setRow u42 (u29.heap.size) (rootC y).toArray) (ne_some r7_r8)
        have gg := gb_step gg (gb_setRow u42 (u29.heap.size) (rootC y).toArray) l_r8
        have hS := gb_step hS (gb_setRow u42 (u29.heap.size) (rootC y).toArray) ls_r8
        generalize u42.setRow (u29.heap.size) (rootC y).toArray = u43 at r7 r8 gg hS ⊢
        refine hK.out _ _ hS (fun hHeld => ?_)
        clear hK K
        try simp only [Act.put, List.setIfInBounds_toArray, List.set_cons_zero, List.set_cons_succ]
        refine wpAnyH_done (by kernel_rfl) ?_ _
        refine NoPanic.normal ?_
        exact key u0.heap.size u29.heap.size x y u43 hx hy r7 r8 r7_r8 l_r7 l_r8 gg
    · skip
      go_simp
      have r8 : RB (u0.alloc (.cells #[.int .u64 0, .int .i64 0, .int .i64 0, .int .i64 0, .int .i64 0, .int .i64 0, .int .i64 0, .int .i64 0, .int .i64 0, .int .i64 0] 25)) u0.heap.size zeroR := Blk.mk u0 25 (rootC zeroR).toArray
      have l_r8 := gg.size
      have ls_r8 := hS.size
      have gg := gb_trans gg (gb_alloc u0 (.cells #[.int .u64 0, .int .i64 0, .int .i64 0, .int .i64 0, .int .i64 0, .int .i64 0, .int .i64 0, .int .i64 0, .int .i64 0, .int .i64 0] 25) none)
      have hS := gb_trans hS (gb_alloc u0 (.cells #[.int .u64 0, .int .i64 0, .int .i64 0, .int .i64 0, .int .i64 0, .int .i64 0, .int .i64 0, .int .i64 0, .int .i64 0, .int .i64 0] 25) none)
      generalize u0.alloc (.cells #[.int .u64 0, .int .i64 0, .int .i64 0, .int .i64 0, .int .i64 0, .int .i64 0, .int .i64 0, .int .i64 0, .int .i64 0, .int .i64 0] 25) = u44 at r8 gg hS ⊢
      refine hK.out _ _ hS (fun hHeld => ?_)
      clear hK K
      try simp only [Act.put, List.setIfInBounds_toArray, List.set_cons_zero, List.set_cons_succ]
      refine wpAnyH_ready (rs := [1, 4]) (by kernel_rfl) (by simp) ?_
      refine AllReadyH.cons (List.getElem?_toArray.trans rfl) (fun K hK => ?_) (AllReadyH.cons (List.getElem?_toArray.trans rfl) (fun K hK => ?_) AllReadyH.nil)
      · skip
        go_simp
        go_at_call 9
        (with_reducible refine (HDr.out _).mono ?_)
        rintro e u45 ⟨x, hx, rfl, gN⟩
        have r8 := RB.keep0 r8 gN
        have gg := gb_trans gg gN
        have hS := gb_trans hS gN
        refine hK.out _ _ hS (fun hHeld => ?_)
        clear hK K
        try simp only [Act.put, List.setIfInBounds_toArray, List.set_cons_zero, List.set_cons_succ]
        refine wpAnyH_ready (rs := [3, 4]) (by kernel_rfl) (by simp) ?_
        refine AllReadyH.cons (List.getElem?_toArray.trans rfl) (fun K hK => ?_) (AllReadyH.cons (List.getElem?_toArray.trans rfl) (fun K hK => ?_) AllReadyH.nil)
        · skip
          go_simp
          go_at_call 9
          (with_reducible refine (HDr2.out _).mono ?_)
          rintro e u46 ⟨y, hy, rfl, gN⟩
          have r8 := RB.keep0 r8 gN
          have gg := gb_trans gg gN
          have hS := gb_trans hS gN
          refine hK.out _ _ hS (fun hHeld => ?_)
          clear hK K
          try simp only [Act.put, List.setIfInBounds_toArray, List.set_cons_zero, List.set_cons_succ]
          refine wpAnyH_ready (rs := [4]) (by kernel_rfl) (by simp) ?_
          refine AllReadyH.cons (List.getElem?_toArray.trans rfl) (fun K hK => ?_) AllReadyH.nil
          go_simp
          have r7 : RB (u46.alloc (.cells #[.int .u64 0, .int .i64 0, .int .i64 0, .int .i64 0, .int .i64 0, .int .i64 0, .int .i64 0, .int .i64 0, .int .i64 0, .int .i64 0] 25)) u46.heap.size zeroR := Blk.mk u46 25 (rootC zeroR).toArray
          have l_r7 := gg.size
          have ls_r7 := hS.size
          have r8_r7 := Nat.ne_of_lt (Blk.lt r8)
          have r8 := RB.keep0 r8 (gb_alloc u46 (.cells #[.int .u64 0, .int .i64 0, .int .i64 0, .int .i64 0, .int .i64 0, .int .i64 0, .int .i64 0, .int .i64 0, .int .i64 0, .int .i64 0] 25) none)
          have gg := gb_trans gg (gb_alloc u46 (.cells #[.int .u64 0, .int .i64 0, .int .i64 0, .int .i64 0, .int .i64 0, .int .i64 0, .int .i64 0, .int .i64 0, .int .i64 0, .int .i64 0] 25) none)
          have hS := gb_trans hS (gb_alloc u46 (.cells #[.int .u64 0, .int .i64 0, .int .i64 0, .int .i64 0, .int .i64 0, .int .i64 0, .int .i64 0, .int .i64 0, .int .i64 0, .int .i64 0] 25) none)
          generalize u46.alloc (.cells #[.int .u64 0, .int .i64 0, .int .i64 0, .int .i64 0, .int .i64 0, .int .i64 0, .int .i64 0, .int .i64 0, .int .i64 0, .int .i64 0] 25) = u47 at r8 r7 gg hS ⊢
          refine hK.out _ _ hS (fun hHeld => ?_)
          clear hK K
          try simp only [Act.put, List.setIfInBounds_toArray, List.set_cons_zero, List.set_cons_succ]
          refine wpAnyH_ready (rs := [6]) (by kernel_rfl) (by simp) ?_
          refine AllReadyH.cons (List.getElem?_toArray.trans rfl) (fun K hK => ?_) AllReadyH.nil
          with_reducible refine stR 7 21 (u46.heap.size) zeroR x zero_len hx.len r7 ?hx ?hy ?_
          case hx => rfl
          case hy => rfl
          have r7 := set_root r7 x
          have r8 := RB.keepS r8 (gb_setRow u47 (u46.heap.size) (rootC x).toArray) (ne_some r8_r7)
          have gg := gb_step gg (gb_setRow u47 (u46.heap.size) (rootC x).toArray) l_r7
          have hS := gb_step hS (gb_setRow u47 (u46.heap.size) (rootC x).toArray) ls_r7
          generalize u47.setRow (u46.heap.size) (rootC x).toArray = u48 at r8 r7 gg hS ⊢
          refine hK.out _ _ hS (fun hHeld => ?_)
          clear hK K
          try simp only [Act.put, List.setIfInBounds_toArray, List.set_cons_zero, List.set_cons_succ]
          refine wpAnyH_ready (rs := [7]) (by kernel_rfl) (by simp) ?_
          refine AllReadyH.cons (List.getElem?_toArray.trans rfl) (fun K hK => ?_) AllReadyH.nil
          with_reducible refine stR 8 23 (u0.heap.size) zeroR y zero_len hy.len r8 ?hx ?hy ?_
          case hx => rfl
          case hy => rfl
          have r8 := set_root r8 y
          have r7 := RB.keepS r7 (gb_setRow u48 (u0.heap.size) (rootC y).toArray) (ne_some (fun e => r8_r7 e.symm))
          have gg := gb_step gg (gb_setRow u48 (u0.heap.size) (rootC y).toArray) l_r8
          have hS := gb_step hS (gb_setRow u48 (u0.heap.size) (rootC y).toArray) ls_r8
          generalize u48.setRow (u0.heap.size) (rootC y).toArray = u49 at r8 r7 gg hS ⊢
          refine hK.out _ _ hS (fun hHeld => ?_)
          clear hK K
          try simp only [Act.put, List.setIfInBounds_toArray, List.set_cons_zero, List.set_cons_succ]
          refine wpAnyH_done (by kernel_rfl) ?_ _
          refine NoPanic.normal ?_
          exact key u46.heap.size u0.heap.size x y u49 hx hy r7 r8 (fun e => r8_r7 e.symm) l_r7 l_r8 gg
        · skip
          go_simp
          have r7 : RB (u45.alloc (.cells #[.int .u64 0, .int .i64 0, .int .i64 0, .int .i64 0, .int .i64 0, .int .i64 0, .int .i64 0, .int .i64 0, .int .i64 0, .int .i64 0] 25)) u45.heap.size zeroR := Blk.mk u45 25 (rootC zeroR).toArray
          have l_r7 := gg.size
          have ls_r7 := hS.size
          have r8_r7 := Nat.ne_of_lt (Blk.lt r8)
          have r8 := RB.keep0 r8 (gb_alloc u45 (.cells #[.int .u64 0, .int .i64 0, .int .i64 0, .int .i64 0, .int .i64 0, .int .i64 0, .int .i64 0, .int .i64 0, .int .i64 0, .int .i64 0] 25) none)
          have gg := gb_trans gg (gb_alloc u45 (.cells #[.int .u64 0, .int .i64 0, .int .i64 0, .int .i64 0, .int .i64 0, .int .i64 0, .int .i64 0, .int .i64 0, .int .i64 0, .int .i64 0] 25) none)
          have hS := gb_trans hS (gb_alloc u45 (.cells #[.int .u64 0, .int .i64 0, .int .i64 0, .int .i64 0, .int .i64 0, .int .i64 0, .int .i64 0, .int .i64 0, .int .i64 0, .int .i64 0] 25) none)
          generalize u45.alloc (.cells #[.int .u64 0, .int .i64 0, .int .i64 0, .int .i64 0, .int .i64 0, .int .i64 0, .int .i64 0, .int .i64 0, .int .i64 0, .int .i64 0] 25) = u50 at r8 r7 gg hS ⊢
          refine hK.out _ _ hS (fun hHeld => ?_)
          clear hK K
          try simp only [Act.put, List.setIfInBounds_toArray, List.set_cons_zero, List.set_cons_succ]
          refine wpAnyH_ready (rs := [3]) (by kernel_rfl) (by simp) ?_
          refine AllReadyH.cons (List.getElem?_toArray.trans rfl) (fun K hK => ?_) AllReadyH.nil
          go_simp
          go_at_call 9
          (with_reducible refine (HDr2.out _).mono ?_)
          rintro e u51 ⟨y, hy, rfl, gN⟩
          have r8 := RB.keep0 r8 gN
          have r7 := RB.keep0 r7 gN
          have gg := gb_trans gg gN
          have hS := gb_trans hS gN
          refine hK.out _ _ hS (fun hHeld => ?_)
          clear hK K
          try simp only [Act.put, List.setIfInBounds_toArray, List.set_cons_zero, List.set_cons_succ]
          refine wpAnyH_ready (rs := [6]) (by kernel_rfl) (by simp) ?_
          refine AllReadyH.cons (List.getElem?_toArray.trans rfl) (fun K hK => ?_) AllReadyH.nil
          with_reducible refine stR 7 21 (u45.heap.size) zeroR x zero_len hx.len r7 ?hx ?hy ?_
          case hx => rfl
          case hy => rfl
          have r7 := set_root r7 x
          have r8 := RB.keepS r8 (gb_setRow u51 (u45.heap.size) (rootC x).toArray) (ne_some r8_r7)
          have gg := gb_step gg (gb_setRow u51 (u45.heap.size) (rootC x).toArray) l_r7
          have hS := gb_step hS (gb_setRow u51 (u45.heap.size) (rootC x).toArray) ls_r7
          generalize u51.setRow (u45.heap.size) (rootC x).toArray = u52 at r8 r7 gg hS ⊢
          refine hK.out _ _ hS (fun hHeld => ?_)
          clear hK K
          try simp only [Act.put, List.setIfInBounds_toArray, List.set_cons_zero, List.set_cons_succ]
          refine wpAnyH_ready (rs := [7]) (by kernel_rfl) (by simp) ?_
          refine AllReadyH.cons (List.getElem?_toArray.trans rfl) (fun K hK => ?_) AllReadyH.nil
          with_reducible refine stR 8 23 (u0.heap.size) zeroR y zero_len hy.len r8 ?hx ?hy ?_
          case hx => rfl
          case hy => rfl
          have r8 := set_root r8 y
          have r7 := RB.keepS r7 (gb_setRow u52 (u0.heap.size) (rootC y).toArray) (ne_some (fun e => r8_r7 e.symm))
          have gg := gb_step gg (gb_setRow u52 (u0.heap.size) (rootC y).toArray) l_r8
          have hS := gb_step hS (gb_setRow u52 (u0.heap.size) (rootC y).toArray) ls_r8
          generalize u52.setRow (u0.heap.size) (rootC y).toArray = u53 at r8 r7 gg hS ⊢
          refine hK.out _ _ hS (fun hHeld => ?_)
          clear hK K
          try simp only [Act.put, List.setIfInBounds_toArray, List.set_cons_zero, List.set_cons_succ]
          refine wpAnyH_done (by kernel_rfl) ?_ _
          refine NoPanic.normal ?_
          exact key u45.heap.size u0.heap.size x y u53 hx hy r7 r8 (fun e => r8_r7 e.symm) l_r7 l_r8 gg
      · skip
        go_simp
        have r7 : RB (u44.alloc (.cells #[.int .u64 0, .int .i64 0, .int .i64 0, .int .i64 0, .int .i64 0, .int .i64 0, .int .i64 0, .int .i64 0, .int .i64 0, .int .i64 0] 25)) u44.heap.size zeroR := Blk.mk u44 25 (rootC zeroR).toArray
        have l_r7 := gg.size
        have ls_r7 := hS.size
        have r8_r7 := Nat.ne_of_lt (Blk.lt r8)
        have r8 := RB.keep0 r8 (gb_alloc u44 (.cells #[.int .u64 0, .int .i64 0, .int .i64 0, .int .i64 0, .int .i64 0, .int .i64 0, .int .i64 0, .int .i64 0, .int .i64 0, .int .i64 0] 25) none)
        have gg := gb_trans gg (gb_alloc u44 (.cells #[.int .u64 0, .int .i64 0, .int .i64 0, .int .i64 0, .int .i64 0, .int .i64 0, .int .i64 0, .int .i64 0, .int .i64 0, .int .i64 0] 25) none)
        have hS := gb_trans hS (gb_alloc u44 (.cells #[.int .u64 0, .int .i64 0, .int .i64 0, .int .i64 0, .int .i64 0, .int .i64 0, .int .i64 0, .int .i64 0, .int .i64 0, .int .i64 0] 25) none)
        generalize u44.alloc (.cells #[.int .u64 0, .int .i64 0, .int .i64 0, .int .i64 0, .int .i64 0, .int .i64 0, .int .i64 0, .int .i64 0, .int .i64 0, .int .i64 0] 25) = u54 at r8 r7 gg hS ⊢
        refine hK.out _ _ hS (fun hHeld => ?_)
        clear hK K
        try simp only [Act.put, List.setIfInBounds_toArray, List.set_cons_zero, List.set_cons_succ]
        refine wpAnyH_ready (rs := [1]) (by kernel_rfl) (by simp) ?_
        refine AllReadyH.cons (List.getElem?_toArray.trans rfl) (fun K hK => ?_) AllReadyH.nil
        go_simp
        go_at_call 9
        (with_reducible refine (HDr.out _).mono ?_)
        rintro e u55 ⟨x, hx, rfl, gN⟩
        have r8 := RB.keep0 r8 gN
        have r7 := RB.keep0 r7 gN
        have gg := gb_trans gg gN
        have hS := gb_trans hS gN
        refine hK.out _ _ hS (fun hHeld => ?_)
        clear hK K
        try simp only [Act.put, List.setIfInBounds_toArray, List.set_cons_zero, List.set_cons_succ]
        refine wpAnyH_ready (rs := [3]) (by kernel_rfl) (by simp) ?_
        refine AllReadyH.cons (List.getElem?_toArray.trans rfl) (fun K hK => ?_) AllReadyH.nil
        go_simp
        go_at_call 9
        (with_reducible refine (HDr2.out _).mono ?_)
        rintro e u56 ⟨y, hy, rfl, gN⟩
        have r8 := RB.keep0 r8 gN
        have r7 := RB.keep0 r7 gN
        have gg := gb_trans gg gN
        have hS := gb_trans hS gN
        refine hK.out _ _ hS (fun hHeld => ?_)
        clear hK K
        try simp only [Act.put, List.setIfInBounds_toArray, List.set_cons_zero, List.set_cons_succ]
        refine wpAnyH_ready (rs := [6]) (by kernel_rfl) (by simp) ?_
        refine AllReadyH.cons (List.getElem?_toArray.trans rfl) (fun K hK => ?_) AllReadyH.nil
        with_reducible refine stR 7 21 (u44.heap.size) zeroR x zero_len hx.len r7 ?hx ?hy ?_
        case hx => rfl
        case hy => rfl
        have r7 := set_root r7 x
        have r8 := RB.keepS r8 (gb_setRow u56 (u44.heap.size) (rootC x).toArray) (ne_some r8_r7)
        have gg := gb_step gg (gb_setRow u56 (u44.heap.size) (rootC x).toArray) l_r7
        have hS := gb_step hS (gb_setRow u56 (u44.heap.size) (rootC x).toArray) ls_r7
        generalize u56.setRow (u44.heap.size) (rootC x).toArray = u57 at r8 r7 gg hS ⊢
        refine hK.out _ _ hS (fun hHeld => ?_)
        clear hK K
        try simp only [Act.put, List.setIfInBounds_toArray, List.set_cons_zero, List.set_cons_succ]
        refine wpAnyH_ready (rs := [7]) (by kernel_rfl) (by simp) ?_
        refine AllReadyH.cons (List.getElem?_toArray.trans rfl) (fun K hK => ?_) AllReadyH.nil
        with_reducible refine stR 8 23 (u0.heap.size) zeroR y zero_len hy.len r8 ?hx ?hy ?_
        case hx => rfl
        case hy => rfl
        have r8 := set_root r8 y
        have r7 := RB.keepS r7 (gb_setRow u57 (u0.heap.size) (rootC y).toArray) (ne_some (fun e => r8_r7 e.symm))
        have gg := gb_step gg (gb_setRow u57 (u0.heap.size) (rootC y).toArray) l_r8
        have hS := gb_step hS (gb_setRow u57 (u0.heap.size) (rootC y).toArray) ls_r8
        generalize u57.setRow (u0.heap.size) (rootC y).toArray = u58 at r8 r7 gg hS ⊢
        refine hK.out _ _ hS (fun hHeld => ?_)
        clear hK K
        try simp only [Act.put, List.setIfInBounds_toArray, List.set_cons_zero, List.set_cons_succ]
        refine wpAnyH_done (by kernel_rfl) ?_ _
        refine NoPanic.normal ?_
        exact key u44.heap.size u0.heap.size x y u58 hx hy r7 r8 (fun e => r8_r7 e.symm) l_r7 l_r8 gg
  intro b7 b8 x y0 W hx hy r7 r8 hne l7 l8 gg
  refine hK _ _ ?_
  refine wp_seq_k (fun K6 hK6 => ?_)
  suffices key6 : ∀ (y : Rt) (W : World) {p24 p25 p26 p27 p28 p29 p30 p31 p32 p33 p34 p35 p36 p37 : Value}, Fit y → RB W b7 x → RB W b8 y → w.grownBy W none → K6 ⟨#[.agg C, .agg C2, .int .u16 (k0 : Nat), .pointer (some ⟨w.heap.size, 0, none⟩), .pointer (some ⟨w.heap.size + 1, 0, none⟩), undef, .bool false, .pointer (some ⟨b7, 0, none⟩), .pointer (some ⟨b8, 0, none⟩), undef, undef, undef, undef, undef, undef, undef, undef, undef, .bool true, .bool false, .agg C, .agg (rootC x).toArray, .agg C2, .agg (rootC y0).toArray, p24, p25, p26, p27, p28, p29, p30, p31, p32, p33, p34, p35, p36, p37, undef, undef, undef, undef, undef, undef, undef, undef, undef, undef, undef, undef, undef, undef, undef, undef, undef, undef, undef, undef, undef, undef, undef, undef, undef, undef, undef, undef, undef, undef, undef, undef, undef, undef, undef, undef, undef, undef, undef, undef, undef, undef, undef, undef, undef, undef, undef, undef, undef, undef, undef, undef, undef, undef, undef, undef, undef, undef, undef, undef, undef, undef, undef, undef, undef, undef, undef, undef, undef, undef, undef, undef, undef, undef, undef, undef, undef, undef, undef, undef, undef, undef, undef, undef, undef, undef, undef, undef, undef, undef], []⟩ W by
    clear hK6
    have cx := r7.epoch
    have cy := r8.epoch
    have hcf := Blk.free r8 0
    by_cases heq : x.e = y0.e
    · have hq : ((x.e : Int) == (y0.e : Int)) = true := by rw [heq]; exact beq_self_eq_true _
      obtain ⟨z, hz⟩ : ∃ z : Nat, x.e % 7 + x.e / 2 + 1 = z := ⟨_, rfl⟩
      have hxe := hx.2.1
      have hzb : z < 18446744073709551616 := by omega
      have z1 : (x.e : Int) % 7 + (x.e : Int) / 2 + 1 = (z : Int) := by omega
      have z2 : IntKind.u64.wrap ((x.e : Int) % 7) = (x.e : Int) % 7 := by rw [IntKind.wrap_u64]; omega
      have z3 : IntKind.u64.wrap ((x.e : Int) / 2) = (x.e : Int) / 2 := by rw [IntKind.wrap_u64]; omega
      have z4 : IntKind.u64.wrap ((x.e : Int) % 7 + (x.e : Int) / 2) = (x.e : Int) % 7 + (x.e : Int) / 2 := by rw [IntKind.wrap_u64]; omega
      have z5 : IntKind.u64.wrap (z : Int) = (z : Int) := u64_small _ hzb
      have r8z : RB (W.setCell ⟨b8, 0, none⟩ (.int .u64 (z : Nat))) b8 ⟨z, y0.n, y0.cs⟩ := Blk.set r8 0 _
      have r7z := RB.keepS r7 (gb_set W b8 0 none (.int .u64 (z : Nat))) (ne_some hne)
      have gz := gb_step gg (gb_set W b8 0 none (.int .u64 (z : Nat))) l8
      have hyz : Fit ⟨z, y0.n, y0.cs⟩ := ⟨hy.1, hzb, hy.2.2⟩
      clear heq hz
      go_wp2
      exact key6 ⟨z, y0.n, y0.cs⟩ _ hyz r7z r8z gz
    · have hq : ((x.e : Int) == (y0.e : Int)) = false := by rw [beq_eq_false_iff_ne]; omega
      go_wp2
      exact key6 y0 W hy r7 r8 gg
  intro y W p24 p25 p26 p27 p28 p29 p30 p31 p32 p33 p34 p35 p36 p37 hy r7 r8 gg
  have HXL := Lib.hid hx.1
  have HYL := Lib.hid hy.1
  have HPx := Lib.hid (fun W (g : w.grownBy W none) => put_b x W (HPl.out.keep0 g) hx)
  have HPy := Lib.hid (fun W (g : w.grownBy W none) => put_b y W (HPl.out.keep0 g) hy)
  unfold RV at HPx HPy
  refine hK6 _ _ ?_
  by_cases hmx : MayR x
  · rw [show putC x = 0 from if_pos hmx] at HPx
    by_cases hmy : MayR y
    · rw [show putC y = 0 from if_pos hmy] at HPy
      by_cases hxy : x.e = y.e
      · have hq : ((x.e : Int) == (y.e : Int)) = true := by rw [hxy]; exact beq_self_eq_true _
        clear hxy
        repeat (first
          | (go_big_may; first
            | ((with_reducible refine ld 7 (b7) x HXL.out r7 ?_ ?_); rfl)
            | ((with_reducible refine ld 8 (b8) y HYL.out r8 ?_ ?_); rfl)
            | (go_at_call 10; (with_reducible refine (HPx.out _ gg).mono ?_); rintro e v1 ⟨rfl, gN⟩; have r7 := RB.keep0 r7 gN; have r8 := RB.keep0 r8 gN; have gg := gb_trans gg gN; dsimp only)
            | (go_at_call 10; (with_reducible refine (HPy.out _ gg).mono ?_); rintro e v2 ⟨rfl, gN⟩; have r7 := RB.keep0 r7 gN; have r8 := RB.keep0 r8 gN; have gg := gb_trans gg gN; have cx := r7.epoch; have cy := r8.epoch; dsimp only)
            | fail)
          | go_values
          | go_skip
          | go_guarded
          | go_step
          | go_upon)
        go_ret
        exact ⟨rfl, gg⟩
      · have hq : ((x.e : Int) == (y.e : Int)) = false := by rw [beq_eq_false_iff_ne]; omega
        have hgx : Good x := ⟨hmx, hx.1, hx.2.1⟩
        have hgy : Good y := ⟨hmy, hy.1, hy.2.1⟩
        obtain ⟨k, hk⟩ : ∃ k, k0 % 257 = k := ⟨_, rfl⟩
        have hk2 : k ≤ 256 := by omega
        have hki : (k0 : Int) % 257 = (k : Int) := by omega
        have hkw : IntKind.i64.wrap (k0 : Int) = (k0 : Int) := IntWalk.i64_in _ (by omega)
        have hS : (putB x).data.toList = putL x := by rw [putB_list]; unfold putS; rw [if_pos hmx]
        have hU : (putB y).data.toList = putL y := by rw [putB_list]; unfold putS; rw [if_pos hmy]
        have hSs : (putB x).size = 256 := by show (putB x).data.size = 256; rw [← Array.length_toList, hS, putL_length x hx.1]
        have hUs : (putB y).size = 256 := by show (putB y).data.size = 256; rw [← Array.length_toList, hU, putL_length y hy.1]
        have hT1 := torn_text (putB y) (putB x) k hUs hSs hk2
        have hT2 := torn_text (putB y) zeroB k hUs zeroB_size hk2
        have hT1s := torn_size (putB y) (putB x) k hUs hSs hk2
        have hT2s := torn_size (putB y) zeroB k hUs zeroB_size hk2
        rw [hS, hU] at hT1
        rw [hU, zeroB_list] at hT2
        have c1 := fun W => cut_to Tryd.prog 9 Tryd.underlying9 (putB y) k k rfl (by omega) W
        have c2 := fun W => cut_from Tryd.prog 9 Tryd.underlying9 (putB x) k k rfl (by omega) W
        have c3 := fun W => cut_from Tryd.prog 9 Tryd.underlying9 zeroB k k rfl (by rw [zeroB_size]; omega) W
        have no1 : ¬ 9223372036854775807 < ((putB y).extract 0 k).size + ((putB x).extract k (putB x).size).size := by rw [ByteArray.size_extract, ByteArray.size_extract]; omega
        have no2 : ¬ 9223372036854775807 < ((putB y).extract 0 k).size + (zeroB.extract k zeroB.size).size := by rw [ByteArray.size_extract, ByteArray.size_extract, zeroB_size]; omega
        obtain ⟨T1, hT1e⟩ : ∃ T1, (putB y).extract 0 k ++ (putB x).extract k (putB x).size = T1 := ⟨_, rfl⟩
        obtain ⟨T2, hT2e⟩ : ∃ T2, (putB y).extract 0 k ++ zeroB.extract k zeroB.size = T2 := ⟨_, rfl⟩
        rw [hT1e] at hT1 hT1s
        rw [hT2e] at hT2 hT2s
        have htx := torn_roots x y hgx hgy hxy k hk2
        rw [← hT1] at htx
        have htb := torn_blank y hgy k hk2
        rw [← hT2] at htb
        have hblank : getF T2.data.toList = (y, 0) ∨ ∃ m, getF T2.data.toList = (zeroR, m) ∧ m ≠ 0 := by
          rcases htb with h | ⟨h1, h2, _⟩
          · exact Or.inl h
          · exact Or.inr ⟨_, Prod.ext h2 rfl, h1⟩
        have hz0 : k = 0 → getF T1.data.toList = (x, 0) := fun e => by rw [hT1, e, torn_zero]; exact hgx.get
        have hz2 : k = 256 → getF T1.data.toList = (y, 0) := fun e => by rw [hT1, e, torn_all _ _ hgy.len hgx.len]; exact hgy.get
        have HBl := Lib.hid (fun W => blank_b W)
        have HG1 := Lib.hid (fun W (g : w.grownBy W none) => get_any T1 W (HPl.out.keep0 g))
        have HT2s := Lib.hid hT2s
        have he1 := fun W => equal_roots x x hx.1 hx.1 W
        have he2 := fun W => equal_roots y y hy.1 hy.1 W
        have he3 := fun W => equal_roots x y hx.1 hy.1 W
        have he4 := fun W => equal_roots y x hy.1 hx.1 W
        have se1 : sameR x x = true := (sameR_iff x x hx.1 hx.1).2 rfl
        have se2 : sameR y y = true := (sameR_iff y y hy.1 hy.1).2 rfl
        have se3 : sameR x y = false := by cases h : sameR x y; rfl; exact absurd (congrArg Rt.e ((sameR_iff x y hx.1 hy.1).1 h)) hxy
        have se4 : sameR y x = false := by cases h : sameR y x; rfl; exact absurd (congrArg Rt.e ((sameR_iff y x hy.1 hx.1).1 h)).symm hxy
        have hg := root_guard
        have hzl : ∀ W, (Op.equalIn 10000 25 (.agg (rootC zeroR).toArray) (.agg #[.int .u64 0, .int .i64 0, .int .i64 0, .int .i64 0, .int .i64 0, .int .i64 0, .int .i64 0, .int .i64 0, .int .i64 0, .int .i64 0])).run Tryd.prog W = .ok true W := fun W => equal_roots zeroR zeroR rfl rfl W
        generalize putB x = S at *
        generalize putB y = U at *
        generalize zeroB = Z at *
        generalize U.extract 0 k = U1 at *
        generalize S.extract k S.size = S2 at *
        generalize Z.extract k Z.size = Z2 at *
        have M1 := Lib.hid (And.intro c1 (And.intro c2 (And.intro no1 hT1e)))
        have M2 := Lib.hid (And.intro c1 (And.intro c3 (And.intro no2 hT2e)))
        have M3 := Lib.hid (And.intro he1 (And.intro he2 (And.intro he3 (And.intro he4 (And.intro se1 (And.intro se2 (And.intro se3 se4)))))))
        have M4 := Lib.hid (And.intro he2 (And.intro se2 (And.intro hzl hg)))
        have M5 := Lib.hid htx
        have M6 := Lib.hid hblank
        have M7 := Lib.hid (And.intro hz0 hz2)
        have M8 := Lib.hid hk2
        have M9 := Lib.hid hg
        clear hS hU hT1 hT2 htb hk c1 c2 c3 no1 no2 hT1e hT2e he1 he2 he3 he4 se1 se2 se3 se4 hzl hg htx hblank hz0 hz2 hSs hUs hT1s hT2s hk0 hgx hgy hmx hmy hxy hx hy hne l7 l8
        repeat (first
          | (go_big_may; first
            | ((with_reducible refine ld 7 (b7) x HXL.out r7 ?_ ?_); rfl)
            | ((with_reducible refine ld 8 (b8) y HYL.out r8 ?_ ?_); rfl)
            | (go_at_call 10; (with_reducible refine (HPx.out _ gg).mono ?_); rintro e v1 ⟨rfl, gN⟩; have r7 := RB.keep0 r7 gN; have r8 := RB.keep0 r8 gN; have gg := gb_trans gg gN; dsimp only)
            | (go_at_call 10; (with_reducible refine (HPy.out _ gg).mono ?_); rintro e v2 ⟨rfl, gN⟩; have r7 := RB.keep0 r7 gN; have r8 := RB.keep0 r8 gN; have gg := gb_trans gg gN; have cx := r7.epoch; have cy := r8.epoch; dsimp only)
            | fail)
          | go_values
          | go_skip
          | go_guarded
          | go_step
          | go_upon)
        rename_i K11 hK11
        clear cx cy
        obtain ⟨rr, n, hrn, hrl, _, _⟩ := get_parts T1.data.toList
        rw [hrn] at HG1
        unfold RootGot RV at HG1
        suffices key11 : ∀ (b14 : Nat) (W : World) {p0 p1 p2 p6 p10 p12 p18 p19 p20 p21 p22 p23 p24 p25 p26 p27 p28 p29 p30 p31 p32 p33 p34 p35 p36 p37 p38 p39 p40 p41 p42 p43 p44 p45 p46 p47 p48 p49 p50 p51 p52 p53 p54 p55 p56 p57 p58 p59 p60 p61 p62 p63 p64 p65 p66 p67 p68 p69 p70 p71 p72 p73 p74 : Value}, RB W b14 rr → RB W b7 x → RB W b8 y → w.grownBy W none → K11 ⟨#[p0, p1, p2, .pointer (some ⟨w.heap.size, 0, none⟩), .pointer (some ⟨w.heap.size + 1, 0, none⟩), undef, p6, .pointer (some ⟨b7, 0, none⟩), .pointer (some ⟨b8, 0, none⟩), .string S, p10, .string U, p12, .int .i64 (k : Nat), .pointer (some ⟨b14, 0, none⟩), .int .i64 (n : Nat), undef, undef, p18, p19, p20, p21, p22, p23, p24, p25, p26, p27, p28, p29, p30, p31, p32, p33, p34, p35, p36, p37, p38, p39, p40, p41, p42, p43, p44, p45, p46, p47, p48, p49, p50, p51, p52, p53, p54, p55, p56, p57, p58, p59, p60, p61, p62, p63, p64, p65, p66, p67, p68, p69, p70, p71, p72, p73, p74, undef, undef, undef, undef, undef, undef, undef, undef, undef, undef, undef, undef, undef, undef, undef, undef, undef, undef, undef, undef, undef, undef, undef, undef, undef, undef, undef, undef, undef, undef, undef, undef, undef, undef, undef, undef, undef, undef, undef, undef, undef, undef, undef, undef, undef, undef, undef, undef, undef, undef, undef, undef, undef], []⟩ W by
          clear hK11
          obtain ⟨c1, c2, no1, hT1e⟩ := M1.out
          refine wp_region_noPanic ?_
          refine wp_region_held_drew (S := fun w' => (v2).grownBy w' none) (by kernel_rfl) (gb_drew _ _) (fun hHeld => ?_)
          have hS := gb_drew (v2) none
          have r7 := RB.keep0 r7 (gb_drew (v2) none)
          have r8 := RB.keep0 r8 (gb_drew (v2) none)
          have gg := gb_trans gg (gb_drew (v2) none)
          generalize (v2).drew = u0 at r7 r8 gg hS hHeld ⊢
          refine wpAnyH_take (i := 0) (v := ?_) (List.getElem?_toArray.trans rfl) (by kernel_rfl) (by kernel_rfl) (by kernel_rfl) (fun _ _ _ h => h) (Or.inl ⟨by rfl, ?_⟩) hHeld ?_
          rotate_left
          · intro w' hSw; go_simp; try with_reducible rfl
          try simp only [Act.put, List.setIfInBounds_toArray, List.set_cons_zero, List.set_cons_succ]
          refine wpAnyH_take (i := 1) (v := ?_) (List.getElem?_toArray.trans rfl) (by kernel_rfl) (by kernel_rfl) (by kernel_rfl) (fun _ _ _ h => h) (Or.inl ⟨by rfl, ?_⟩) hHeld ?_
          rotate_left
          · intro w' hSw; go_simp; try with_reducible rfl
          try simp only [Act.put, List.setIfInBounds_toArray, List.set_cons_zero, List.set_cons_succ]
          refine wpAnyH_take (i := 2) (v := ?_) (List.getElem?_toArray.trans rfl) (by kernel_rfl) (by kernel_rfl) (by kernel_rfl) (fun _ _ _ h => h) (Or.inl ⟨by rfl, ?_⟩) hHeld ?_
          rotate_left
          · intro w' hSw; go_simp; try with_reducible rfl
          try simp only [Act.put, List.setIfInBounds_toArray, List.set_cons_zero, List.set_cons_succ]
          refine wpAnyH_take (i := 3) (v := ?_) (List.getElem?_toArray.trans rfl) (by kernel_rfl) (by kernel_rfl) (by kernel_rfl) (fun _ _ _ h => h) (Or.inl ⟨by rfl, ?_⟩) hHeld ?_
          rotate_left
          · intro w' hSw; go_simp; try with_reducible rfl
          try simp only [Act.put, List.setIfInBounds_toArray, List.set_cons_zero, List.set_cons_succ]
          refine wpAnyH_take (i := 4) (v := ?_) (List.getElem?_toArray.trans rfl) (by kernel_rfl) (by kernel_rfl) (by kernel_rfl) (fun _ _ _ h => h) (Or.inl ⟨by rfl, ?_⟩) hHeld ?_
          rotate_left
          · intro w' hSw; go_simp; try with_reducible rfl
          try simp only [Act.put, List.setIfInBounds_toArray, List.set_cons_zero, List.set_cons_succ]
          refine wpAnyH_take (i := 5) (v := ?_) (List.getElem?_toArray.trans rfl) (by kernel_rfl) (by kernel_rfl) (by kernel_rfl) (fun _ _ _ h => h) (Or.inl ⟨by rfl, ?_⟩) hHeld ?_
          rotate_left
          · intro w' hSw; go_simp; try with_reducible rfl
          try simp only [Act.put, List.setIfInBounds_toArray, List.set_cons_zero, List.set_cons_succ]
          refine wpAnyH_take (i := 6) (v := ?_) (List.getElem?_toArray.trans rfl) (by kernel_rfl) (by kernel_rfl) (by kernel_rfl) (fun _ _ _ h => h) (Or.inl ⟨by rfl, ?_⟩) hHeld ?_
          rotate_left
          · intro w' hSw; go_simp; try with_reducible rfl
          try simp only [Act.put, List.setIfInBounds_toArray, List.set_cons_zero, List.set_cons_succ]
          refine wpAnyH_ready (rs := [7, 11]) (by kernel_rfl) (by simp) ?_
          refine AllReadyH.cons (List.getElem?_toArray.trans rfl) (fun K hK => ?_) (AllReadyH.cons (List.getElem?_toArray.trans rfl) (fun K hK => ?_) AllReadyH.nil)
          · skip
            go_simp
            go_at_call 14
            (with_reducible refine (HG1.out _ gg).mono ?_)
            rintro e u1 ⟨rfl, gN⟩
            have r7 := RB.keep0 r7 gN
            have r8 := RB.keep0 r8 gN
            have gg := gb_trans gg gN
            have hS := gb_trans hS gN
            refine hK.out _ _ hS (fun hHeld => ?_)
            clear hK K
            try simp only [Act.put, List.setIfInBounds_toArray, List.set_cons_zero, List.set_cons_succ]
            refine wpAnyH_take (i := 8) (v := ?_) (List.getElem?_toArray.trans rfl) (by kernel_rfl) (by kernel_rfl) (by kernel_rfl) (fun _ _ _ h => h) (Or.inl ⟨by rfl, ?_⟩) hHeld ?_
            rotate_left
            · intro w' hSw; go_simp; try with_reducible rfl
            try simp only [Act.put, List.setIfInBounds_toArray, List.set_cons_zero, List.set_cons_succ]
            refine wpAnyH_take (i := 9) (v := ?_) (List.getElem?_toArray.trans rfl) (by kernel_rfl) (by kernel_rfl) (by kernel_rfl) (fun _ _ _ h => h) (Or.inl ⟨by rfl, ?_⟩) hHeld ?_
            rotate_left
            · intro w' hSw; go_simp; try with_reducible rfl
            try simp only [Act.put, List.setIfInBounds_toArray, List.set_cons_zero, List.set_cons_succ]
            refine wpAnyH_take (i := 10) (v := ?_) (List.getElem?_toArray.trans rfl) (by kernel_rfl) (by kernel_rfl) (by kernel_rfl) (fun _ _ _ h => h) (Or.inl ⟨by rfl, ?_⟩) hHeld ?_
            rotate_left
            · intro w' hSw; go_simp; try with_reducible rfl
            try simp only [Act.put, List.setIfInBounds_toArray, List.set_cons_zero, List.set_cons_succ]
            refine wpAnyH_ready (rs := [11]) (by kernel_rfl) (by simp) ?_
            refine AllReadyH.cons (List.getElem?_toArray.trans rfl) (fun K hK => ?_) AllReadyH.nil
            go_simp
            have r14 : RB (u1.alloc (.cells #[.int .u64 0, .int .i64 0, .int .i64 0, .int .i64 0, .int .i64 0, .int .i64 0, .int .i64 0, .int .i64 0, .int .i64 0, .int .i64 0] 25)) u1.heap.size zeroR := Blk.mk u1 25 (rootC zeroR).toArray
            have l_r14 := gg.size
            have ls_r14 := hS.size
            have r7_r14 := Nat.ne_of_lt (Blk.lt r7)
            have r8_r14 := Nat.ne_of_lt (Blk.lt r8)
            have r7 := RB.keep0 r7 (gb_alloc u1 (.cells #[.int .u64 0, .int .i64 0, .int .i64 0, .int .i64 0, .int .i64 0, .int .i64 0, .int .i64 0, .int .i64 0, .int .i64 0, .int .i64 0] 25) none)
            have r8 := RB.keep0 r8 (gb_alloc u1 (.cells #[.int .u64 0, .int .i64 0, .int .i64 0, .int .i64 0, .int .i64 0, .int .i64 0, .int .i64 0, .int .i64 0, .int .i64 0, .int .i64 0] 25) none)
            have gg := gb_trans gg (gb_alloc u1 (.cells #[.int .u64 0, .int .i64 0, .int .i64 0, .int .i64 0, .int .i64 0, .int .i64 0, .int .i64 0, .int .i64 0, .int .i64 0, .int .i64 0] 25) none)
            have hS := gb_trans hS (gb_alloc u1 (.cells #[.int .u64 0, .int .i64 0, .int .i64 0, .int .i64 0, .int .i64 0, .int .i64 0, .int .i64 0, .int .i64 0, .int .i64 0, .int .i64 0] 25) none)
            generalize u1.alloc (.cells #[.int .u64 0, .int .i64 0, .int .i64 0, .int .i64 0, .int .i64 0, .int .i64 0, .int .i64 0, .int .i64 0, .int .i64 0, .int .i64 0] 25) = u2 at r7 r8 r14 gg hS ⊢
            refine hK.out _ _ hS (fun hHeld => ?_)
            clear hK K
            try simp only [Act.put, List.setIfInBounds_toArray, List.set_cons_zero, List.set_cons_succ]
            refine wpAnyH_ready (rs := [12]) (by kernel_rfl) (by simp) ?_
            refine AllReadyH.cons (List.getElem?_toArray.trans rfl) (fun K hK => ?_) AllReadyH.nil
            with_reducible refine stR 14 73 (u1.heap.size) zeroR rr zero_len hrl r14 ?hx ?hy ?_
            case hx => rfl
            case hy => rfl
            have r14 := set_root r14 rr
            have r7 := RB.keepS r7 (gb_setRow u2 (u1.heap.size) (rootC rr).toArray) (ne_some r7_r14)
            have r8 := RB.keepS r8 (gb_setRow u2 (u1.heap.size) (rootC rr).toArray) (ne_some r8_r14)
            have gg := gb_step gg (gb_setRow u2 (u1.heap.size) (rootC rr).toArray) l_r14
            have hS := gb_step hS (gb_setRow u2 (u1.heap.size) (rootC rr).toArray) ls_r14
            generalize u2.setRow (u1.heap.size) (rootC rr).toArray = u3 at r7 r8 r14 gg hS ⊢
            refine hK.out _ _ hS (fun hHeld => ?_)
            clear hK K
            try simp only [Act.put, List.setIfInBounds_toArray, List.set_cons_zero, List.set_cons_succ]
            refine wpAnyH_take (i := 13) (v := ?_) (List.getElem?_toArray.trans rfl) (by kernel_rfl) (by kernel_rfl) (by kernel_rfl) (fun _ _ _ h => h) (Or.inl ⟨by rfl, ?_⟩) hHeld ?_
            rotate_left
            · intro w' hSw; go_simp; try with_reducible rfl
            try simp only [Act.put, List.setIfInBounds_toArray, List.set_cons_zero, List.set_cons_succ]
            refine wpAnyH_done (by kernel_rfl) ?_ _
            refine NoPanic.normal ?_
            exact key11 u1.heap.size u3 r14 r7 r8 gg
          · skip
            go_simp
            have r14 : RB (u0.alloc (.cells #[.int .u64 0, .int .i64 0, .int .i64 0, .int .i64 0, .int .i64 0, .int .i64 0, .int .i64 0, .int .i64 0, .int .i64 0, .int .i64 0] 25)) u0.heap.size zeroR := Blk.mk u0 25 (rootC zeroR).toArray
            have l_r14 := gg.size
            have ls_r14 := hS.size
            have r7_r14 := Nat.ne_of_lt (Blk.lt r7)
            have r8_r14 := Nat.ne_of_lt (Blk.lt r8)
            have r7 := RB.keep0 r7 (gb_alloc u0 (.cells #[.int .u64 0, .int .i64 0, .int .i64 0, .int .i64 0, .int .i64 0, .int .i64 0, .int .i64 0, .int .i64 0, .int .i64 0, .int .i64 0] 25) none)
            have r8 := RB.keep0 r8 (gb_alloc u0 (.cells #[.int .u64 0, .int .i64 0, .int .i64 0, .int .i64 0, .int .i64 0, .int .i64 0, .int .i64 0, .int .i64 0, .int .i64 0, .int .i64 0] 25) none)
            have gg := gb_trans gg (gb_alloc u0 (.cells #[.int .u64 0, .int .i64 0, .int .i64 0, .int .i64 0, .int .i64 0, .int .i64 0, .int .i64 0, .int .i64 0, .int .i64 0, .int .i64 0] 25) none)
            have hS := gb_trans hS (gb_alloc u0 (.cells #[.int .u64 0, .int .i64 0, .int .i64 0, .int .i64 0, .int .i64 0, .int .i64 0, .int .i64 0, .int .i64 0, .int .i64 0, .int .i64 0] 25) none)
            generalize u0.alloc (.cells #[.int .u64 0, .int .i64 0, .int .i64 0, .int .i64 0, .int .i64 0, .int .i64 0, .int .i64 0, .int .i64 0, .int .i64 0, .int .i64 0] 25) = u4 at r7 r8 r14 gg hS ⊢
            refine hK.out _ _ hS (fun hHeld => ?_)
            clear hK K
            try simp only [Act.put, List.setIfInBounds_toArray, List.set_cons_zero, List.set_cons_succ]
            refine wpAnyH_ready (rs := [7]) (by kernel_rfl) (by simp) ?_
            refine AllReadyH.cons (List.getElem?_toArray.trans rfl) (fun K hK => ?_) AllReadyH.nil
            go_simp
            go_at_call 14
            (with_reducible refine (HG1.out _ gg).mono ?_)
            rintro e u5 ⟨rfl, gN⟩
            have r7 := RB.keep0 r7 gN
            have r8 := RB.keep0 r8 gN
            have r14 := RB.keep0 r14 gN
            have gg := gb_trans gg gN
            have hS := gb_trans hS gN
            refine hK.out _ _ hS (fun hHeld => ?_)
            clear hK K
            try simp only [Act.put, List.setIfInBounds_toArray, List.set_cons_zero, List.set_cons_succ]
            refine wpAnyH_take (i := 8) (v := ?_) (List.getElem?_toArray.trans rfl) (by kernel_rfl) (by kernel_rfl) (by kernel_rfl) (fun _ _ _ h => h) (Or.inl ⟨by rfl, ?_⟩) hHeld ?_
            rotate_left
            · intro w' hSw; go_simp; try with_reducible rfl
            try simp only [Act.put, List.setIfInBounds_toArray, List.set_cons_zero, List.set_cons_succ]
            refine wpAnyH_take (i := 9) (v := ?_) (List.getElem?_toArray.trans rfl) (by kernel_rfl) (by kernel_rfl) (by kernel_rfl) (fun _ _ _ h => h) (Or.inl ⟨by rfl, ?_⟩) hHeld ?_
            rotate_left
            · intro w' hSw; go_simp; try with_reducible rfl
            try simp only [Act.put, List.setIfInBounds_toArray, List.set_cons_zero, List.set_cons_succ]
            refine wpAnyH_take (i := 10) (v := ?_) (List.getElem?_toArray.trans rfl) (by kernel_rfl) (by kernel_rfl) (by kernel_rfl) (fun _ _ _ h => h) (Or.inl ⟨by rfl, ?_⟩) hHeld ?_
            rotate_left
            · intro w' hSw; go_simp; try with_reducible rfl
            try simp only [Act.put, List.setIfInBounds_toArray, List.set_cons_zero, List.set_cons_succ]
            refine wpAnyH_ready (rs := [12]) (by kernel_rfl) (by simp) ?_
            refine AllReadyH.cons (List.getElem?_toArray.trans rfl) (fun K hK => ?_) AllReadyH.nil
            with_reducible refine stR 14 73 (u0.heap.size) zeroR rr zero_len hrl r14 ?hx ?hy ?_
            case hx => rfl
            case hy => rfl
            have r14 := set_root r14 rr
            have r7 := RB.keepS r7 (gb_setRow u5 (u0.heap.size) (rootC rr).toArray) (ne_some r7_r14)
            have r8 := RB.keepS r8 (gb_setRow u5 (u0.heap.size) (rootC rr).toArray) (ne_some r8_r14)
            have gg := gb_step gg (gb_setRow u5 (u0.heap.size) (rootC rr).toArray) l_r14
            have hS := gb_step hS (gb_setRow u5 (u0.heap.size) (rootC rr).toArray) ls_r14
            generalize u5.setRow (u0.heap.size) (rootC rr).toArray = u6 at r7 r8 r14 gg hS ⊢
            refine hK.out _ _ hS (fun hHeld => ?_)
            clear hK K
            try simp only [Act.put, List.setIfInBounds_toArray, List.set_cons_zero, List.set_cons_succ]
            refine wpAnyH_take (i := 13) (v := ?_) (List.getElem?_toArray.trans rfl) (by kernel_rfl) (by kernel_rfl) (by kernel_rfl) (fun _ _ _ h => h) (Or.inl ⟨by rfl, ?_⟩) hHeld ?_
            rotate_left
            · intro w' hSw; go_simp; try with_reducible rfl
            try simp only [Act.put, List.setIfInBounds_toArray, List.set_cons_zero, List.set_cons_succ]
            refine wpAnyH_done (by kernel_rfl) ?_ _
            refine NoPanic.normal ?_
            exact key11 u0.heap.size u6 r14 r7 r8 gg
        intro b14 W p0 p1 p2 p6 p10 p12 p18 p19 p20 p21 p22 p23 p24 p25 p26 p27 p28 p29 p30 p31 p32 p33 p34 p35 p36 p37 p38 p39 p40 p41 p42 p43 p44 p45 p46 p47 p48 p49 p50 p51 p52 p53 p54 p55 p56 p57 p58 p59 p60 p61 p62 p63 p64 p65 p66 p67 p68 p69 p70 p71 p72 p73 p74 r14 r7 r8 gg
        refine hK11 _ _ ?_
        refine wp_seq_k (fun K14 hK14 => ?_)
        suffices key14 : ∀ (W : World) {p0 p1 p2 p6 p10 p12 p14 p15 p18 p19 p20 p21 p22 p23 p24 p25 p26 p27 p28 p29 p30 p31 p32 p33 p34 p35 p36 p37 p38 p39 p40 p41 p42 p43 p44 p45 p46 p47 p48 p49 p50 p51 p52 p53 p54 p55 p56 p57 p58 p59 p60 p61 p62 p63 p64 p65 p66 p67 p68 p69 p70 p71 p72 p73 p74 p75 p76 p77 p78 p79 p80 p81 p82 p83 p84 p85 p86 p87 p88 p89 p90 p91 p92 p93 p94 p95 p96 p97 p98 p99 p100 p101 p102 p103 p104 : Value}, RB W b7 x → RB W b8 y → w.grownBy W none → K14 ⟨#[p0, p1, p2, .pointer (some ⟨w.heap.size, 0, none⟩), .pointer (some ⟨w.heap.size + 1, 0, none⟩), undef, p6, .pointer (some ⟨b7, 0, none⟩), .pointer (some ⟨b8, 0, none⟩), .string S, p10, .string U, p12, .int .i64 (k : Nat), p14, p15, undef, undef, p18, p19, p20, p21, p22, p23, p24, p25, p26, p27, p28, p29, p30, p31, p32, p33, p34, p35, p36, p37, p38, p39, p40, p41, p42, p43, p44, p45, p46, p47, p48, p49, p50, p51, p52, p53, p54, p55, p56, p57, p58, p59, p60, p61, p62, p63, p64, p65, p66, p67, p68, p69, p70, p71, p72, p73, p74, p75, p76, p77, p78, p79, p80, p81, p82, p83, p84, p85, p86, p87, p88, p89, p90, p91, p92, p93, p94, p95, p96, p97, p98, p99, p100, p101, p102, p103, p104, undef, undef, undef, undef, undef, undef, undef, undef, undef, undef, undef, undef, undef, undef, undef, undef, undef, undef, undef, undef, undef, undef, undef], []⟩ W by
          clear hK14
          by_cases hn : (getF T1.data.toList).2 = 0
          · rcases M5.out hn with ⟨hk8, h⟩ | ⟨hk9, h⟩
            · obtain rfl : n = 0 := by rw [← hn, hrn]
              have e1 : rr = x := by rw [← h, hrn]
              rw [e1] at r14
              clear e1 h
              have k2 : ((k : Int) == 256) = false := by rw [beq_eq_false_iff_ne]; omega
              by_cases k1 : k = 0
              · have k3 : ((k : Int) == 0) = true := by rw [k1]; rfl
                clear k1 hk8
                obtain ⟨he1, he2, he3, he4, se1, se2, se3, se4⟩ := M3.out
                have hg := M9.out
                clear hn
                repeat (first
                  | (go_big_may; first
                    | ((with_reducible refine ldG 14 (b14) x HXL.out r14 ?_ ?_ ?_); rfl; rfl)
                    | ((with_reducible refine ldG 7 (b7) x HXL.out r7 ?_ ?_ ?_); rfl; rfl)
                    | ((with_reducible refine ldG 8 (b8) y HYL.out r8 ?_ ?_ ?_); rfl; rfl)
                    | fail)
                  | go_values
                  | go_skip
                  | go_guarded
                  | go_step
                  | go_upon)
                exact key14 W r7 r8 gg
              · have k3 : ((k : Int) == 0) = false := by rw [beq_eq_false_iff_ne]; omega
                obtain ⟨he1, he2, he3, he4, se1, se2, se3, se4⟩ := M3.out
                have hg := M9.out
                clear hn
                repeat (first
                  | (go_big_may; first
                    | ((with_reducible refine ldG 14 (b14) x HXL.out r14 ?_ ?_ ?_); rfl; rfl)
                    | ((with_reducible refine ldG 7 (b7) x HXL.out r7 ?_ ?_ ?_); rfl; rfl)
                    | ((with_reducible refine ldG 8 (b8) y HYL.out r8 ?_ ?_ ?_); rfl; rfl)
                    | fail)
                  | go_values
                  | go_skip
                  | go_guarded
                  | go_step
                  | go_upon)
                exact key14 W r7 r8 gg
            · obtain rfl : n = 0 := by rw [← hn, hrn]
              have e1 : rr = y := by rw [← h, hrn]
              rw [e1] at r14
              clear e1 h
              have k3 : ((k : Int) == 0) = false := by rw [beq_eq_false_iff_ne]; omega
              by_cases k1 : k = 256
              · have k2 : ((k : Int) == 256) = true := by rw [k1]; rfl
                clear k1 hk9
                obtain ⟨he1, he2, he3, he4, se1, se2, se3, se4⟩ := M3.out
                have hg := M9.out
                clear hn
                repeat (first
                  | (go_big_may; first
                    | ((with_reducible refine ldG 14 (b14) y HYL.out r14 ?_ ?_ ?_); rfl; rfl)
                    | ((with_reducible refine ldG 7 (b7) x HXL.out r7 ?_ ?_ ?_); rfl; rfl)
                    | ((with_reducible refine ldG 8 (b8) y HYL.out r8 ?_ ?_ ?_); rfl; rfl)
                    | fail)
                  | go_values
                  | go_skip
                  | go_guarded
                  | go_step
                  | go_upon)
                exact key14 W r7 r8 gg
              · have k2 : ((k : Int) == 256) = false := by rw [beq_eq_false_iff_ne]; omega
                obtain ⟨he1, he2, he3, he4, se1, se2, se3, se4⟩ := M3.out
                have hg := M9.out
                clear hn
                repeat (first
                  | (go_big_may; first
                    | ((with_reducible refine ldG 14 (b14) y HYL.out r14 ?_ ?_ ?_); rfl; rfl)
                    | ((with_reducible refine ldG 7 (b7) x HXL.out r7 ?_ ?_ ?_); rfl; rfl)
                    | ((with_reducible refine ldG 8 (b8) y HYL.out r8 ?_ ?_ ?_); rfl; rfl)
                    | fail)
                  | go_values
                  | go_skip
                  | go_guarded
                  | go_step
                  | go_upon)
                exact key14 W r7 r8 gg
          · have k3 : ((k : Int) == 0) = false := by rw [beq_eq_false_iff_ne]; intro e; exact hn (by rw [M7.out.1 (by omega)])
            have k2 : ((k : Int) == 256) = false := by rw [beq_eq_false_iff_ne]; intro e; exact hn (by rw [M7.out.2 (by omega)])
            have e1 : rr = zeroR := by
              rcases get_cases T1.data.toList with h | h | h
              · exact absurd h hn
              · rw [hrn] at h; exact congrArg Prod.fst h
              · rw [hrn] at h; exact congrArg Prod.fst h.1
            rw [e1] at r14
            have hn1 : ((n : Int) == 0) = false := by rw [beq_eq_false_iff_ne]; rw [hrn] at hn; exact fun e => hn (by simpa using e)
            obtain ⟨he1, he2, he3, he4, se1, se2, se3, se4⟩ := M3.out
            have hg := M9.out
            clear hn
            repeat (first
              | (go_big_may; first
                | ((with_reducible refine ldG 14 (b14) zeroR zero_len r14 ?_ ?_ ?_); rfl; rfl)
                | ((with_reducible refine ldG 7 (b7) x HXL.out r7 ?_ ?_ ?_); rfl; rfl)
                | ((with_reducible refine ldG 8 (b8) y HYL.out r8 ?_ ?_ ?_); rfl; rfl)
                | fail)
              | go_values
              | go_skip
              | go_guarded
              | go_step
              | go_upon)
            exact key14 W r7 r8 gg
        intro W p0 p1 p2 p6 p10 p12 p14 p15 p18 p19 p20 p21 p22 p23 p24 p25 p26 p27 p28 p29 p30 p31 p32 p33 p34 p35 p36 p37 p38 p39 p40 p41 p42 p43 p44 p45 p46 p47 p48 p49 p50 p51 p52 p53 p54 p55 p56 p57 p58 p59 p60 p61 p62 p63 p64 p65 p66 p67 p68 p69 p70 p71 p72 p73 p74 p75 p76 p77 p78 p79 p80 p81 p82 p83 p84 p85 p86 p87 p88 p89 p90 p91 p92 p93 p94 p95 p96 p97 p98 p99 p100 p101 p102 p103 p104 r7 r8 gg
        refine hK14 _ _ ?_
        refine wp_seq_k (fun K15 hK15 => ?_)
        obtain ⟨c1, c3, no2, hT2e⟩ := M2.out
        obtain ⟨he2, se2, hzl, hg⟩ := M4.out
        rcases M6.out with h2 | ⟨m, h2, hm0⟩
        · have HG2 := Lib.hid (fun W (g : w.grownBy W none) => get_any T2 W (HPl.out.keep0 g))
          rw [h2] at HG2
          unfold RootGot RV at HG2
          refine wp_region_noPanic ?_
          refine wp_region_held_drew (S := fun w' => (W).grownBy w' none) (by kernel_rfl) (gb_drew _ _) (fun hHeld => ?_)
          have hS := gb_drew (W) none
          have r7 := RB.keep0 r7 (gb_drew (W) none)
          have r8 := RB.keep0 r8 (gb_drew (W) none)
          have gg := gb_trans gg (gb_drew (W) none)
          generalize (W).drew = u0 at r7 r8 gg hS hHeld ⊢
          refine wpAnyH_take (i := 0) (v := ?_) (List.getElem?_toArray.trans rfl) (by kernel_rfl) (by kernel_rfl) (by kernel_rfl) (fun _ _ _ h => h) (Or.inl ⟨by rfl, ?_⟩) hHeld ?_
          rotate_left
          · intro w' hSw; go_simp; try with_reducible rfl
          try simp only [Act.put, List.setIfInBounds_toArray, List.set_cons_zero, List.set_cons_succ]
          refine wpAnyH_take (i := 1) (v := ?_) (List.getElem?_toArray.trans rfl) (by kernel_rfl) (by kernel_rfl) (by kernel_rfl) (fun _ _ _ h => h) (Or.inl ⟨by rfl, ?_⟩) hHeld ?_
          rotate_left
          · intro w' hSw; go_simp; try with_reducible rfl
          try simp only [Act.put, List.setIfInBounds_toArray, List.set_cons_zero, List.set_cons_succ]
          refine wpAnyH_take (i := 2) (v := ?_) (List.getElem?_toArray.trans rfl) (by kernel_rfl) (by kernel_rfl) (by kernel_rfl) (fun _ _ _ h => h) (Or.inl ⟨by rfl, ?_⟩) hHeld ?_
          rotate_left
          · intro w' hSw; go_simp; try with_reducible rfl
          try simp only [Act.put, List.setIfInBounds_toArray, List.set_cons_zero, List.set_cons_succ]
          refine wpAnyH_take (i := 4) (v := ?_) (List.getElem?_toArray.trans rfl) (by kernel_rfl) (by kernel_rfl) (by kernel_rfl) (fun _ _ _ h => h) (Or.inl ⟨by rfl, ?_⟩) hHeld ?_
          rotate_left
          · intro w' hSw; go_simp; try with_reducible rfl
          try simp only [Act.put, List.setIfInBounds_toArray, List.set_cons_zero, List.set_cons_succ]
          refine wpAnyH_ready (rs := [3, 11]) (by kernel_rfl) (by simp) ?_
          refine AllReadyH.cons (List.getElem?_toArray.trans rfl) (fun K hK => ?_) (AllReadyH.cons (List.getElem?_toArray.trans rfl) (fun K hK => ?_) AllReadyH.nil)
          · skip
            go_simp
            go_at_call 20
            (with_reducible refine (HBl.out _).mono ?_)
            rintro e u1 ⟨rfl, gN⟩
            have r7 := RB.keep0 r7 gN
            have r8 := RB.keep0 r8 gN
            have gg := gb_trans gg gN
            have hS := gb_trans hS gN
            refine hK.out _ _ hS (fun hHeld => ?_)
            clear hK K
            try simp only [Act.put, List.setIfInBounds_toArray, List.set_cons_zero, List.set_cons_succ]
            refine wpAnyH_take (i := 5) (v := ?_) (List.getElem?_toArray.trans rfl) (by kernel_rfl) (by kernel_rfl) (by kernel_rfl) (fun _ _ _ h => h) (Or.inl ⟨by rfl, ?_⟩) hHeld ?_
            rotate_left
            · intro w' hSw; go_simp; try with_reducible rfl
            try simp only [Act.put, List.setIfInBounds_toArray, List.set_cons_zero, List.set_cons_succ]
            refine wpAnyH_take (i := 6) (v := ?_) (List.getElem?_toArray.trans rfl) (by kernel_rfl) (by kernel_rfl) (by kernel_rfl) (fun _ _ _ h => h) (Or.inl ⟨by rfl, ?_⟩) hHeld ?_
            rotate_left
            · intro w' hSw; go_simp; try with_reducible rfl
            try simp only [Act.put, List.setIfInBounds_toArray, List.set_cons_zero, List.set_cons_succ]
            refine wpAnyH_ready (rs := [7, 11]) (by kernel_rfl) (by simp) ?_
            refine AllReadyH.cons (List.getElem?_toArray.trans rfl) (fun K hK => ?_) (AllReadyH.cons (List.getElem?_toArray.trans rfl) (fun K hK => ?_) AllReadyH.nil)
            · skip
              go_simp
              go_at_call 14
              (with_reducible refine (HG2.out _ gg).mono ?_)
              rintro e u2 ⟨rfl, gN⟩
              have r7 := RB.keep0 r7 gN
              have r8 := RB.keep0 r8 gN
              have gg := gb_trans gg gN
              have hS := gb_trans hS gN
              refine hK.out _ _ hS (fun hHeld => ?_)
              clear hK K
              try simp only [Act.put, List.setIfInBounds_toArray, List.set_cons_zero, List.set_cons_succ]
              refine wpAnyH_take (i := 8) (v := ?_) (List.getElem?_toArray.trans rfl) (by kernel_rfl) (by kernel_rfl) (by kernel_rfl) (fun _ _ _ h => h) (Or.inl ⟨by rfl, ?_⟩) hHeld ?_
              rotate_left
              · intro w' hSw; go_simp; try with_reducible rfl
              try simp only [Act.put, List.setIfInBounds_toArray, List.set_cons_zero, List.set_cons_succ]
              refine wpAnyH_take (i := 9) (v := ?_) (List.getElem?_toArray.trans rfl) (by kernel_rfl) (by kernel_rfl) (by kernel_rfl) (fun _ _ _ h => h) (Or.inl ⟨by rfl, ?_⟩) hHeld ?_
              rotate_left
              · intro w' hSw; go_simp; try with_reducible rfl
              try simp only [Act.put, List.setIfInBounds_toArray, List.set_cons_zero, List.set_cons_succ]
              refine wpAnyH_take (i := 10) (v := ?_) (List.getElem?_toArray.trans rfl) (by kernel_rfl) (by kernel_rfl) (by kernel_rfl) (fun _ _ _ h => h) (Or.inl ⟨by rfl, ?_⟩) hHeld ?_
              rotate_left
              · intro w' hSw; go_simp; try with_reducible rfl
              try simp only [Act.put, List.setIfInBounds_toArray, List.set_cons_zero, List.set_cons_succ]
              refine wpAnyH_ready (rs := [11]) (by kernel_rfl) (by simp) ?_
              refine AllReadyH.cons (List.getElem?_toArray.trans rfl) (fun K hK => ?_) AllReadyH.nil
              go_simp
              have r16 : RB (u2.alloc (.cells #[.int .u64 0, .int .i64 0, .int .i64 0, .int .i64 0, .int .i64 0, .int .i64 0, .int .i64 0, .int .i64 0, .int .i64 0, .int .i64 0] 25)) u2.heap.size zeroR := Blk.mk u2 25 (rootC zeroR).toArray
              have l_r16 := gg.size
              have ls_r16 := hS.size
              have r7_r16 := Nat.ne_of_lt (Blk.lt r7)
              have r8_r16 := Nat.ne_of_lt (Blk.lt r8)
              have r7 := RB.keep0 r7 (gb_alloc u2 (.cells #[.int .u64 0, .int .i64 0, .int .i64 0, .int .i64 0, .int .i64 0, .int .i64 0, .int .i64 0, .int .i64 0, .int .i64 0, .int .i64 0] 25) none)
              have r8 := RB.keep0 r8 (gb_alloc u2 (.cells #[.int .u64 0, .int .i64 0, .int .i64 0, .int .i64 0, .int .i64 0, .int .i64 0, .int .i64 0, .int .i64 0, .int .i64 0, .int .i64 0] 25) none)
              have gg := gb_trans gg (gb_alloc u2 (.cells #[.int .u64 0, .int .i64 0, .int .i64 0, .int .i64 0, .int .i64 0, .int .i64 0, .int .i64 0, .int .i64 0, .int .i64 0, .int .i64 0] 25) none)
              have hS := gb_trans hS (gb_alloc u2 (.cells #[.int .u64 0, .int .i64 0, .int .i64 0, .int .i64 0, .int .i64 0, .int .i64 0, .int .i64 0, .int .i64 0, .int .i64 0, .int .i64 0] 25) none)
              generalize u2.alloc (.cells #[.int .u64 0, .int .i64 0, .int .i64 0, .int .i64 0, .int .i64 0, .int .i64 0, .int .i64 0, .int .i64 0, .int .i64 0, .int .i64 0] 25) = u3 at r7 r8 r16 gg hS ⊢
              refine hK.out _ _ hS (fun hHeld => ?_)
              clear hK K
              try simp only [Act.put, List.setIfInBounds_toArray, List.set_cons_zero, List.set_cons_succ]
              refine wpAnyH_ready (rs := [12]) (by kernel_rfl) (by simp) ?_
              refine AllReadyH.cons (List.getElem?_toArray.trans rfl) (fun K hK => ?_) AllReadyH.nil
              with_reducible refine stR 16 114 (u2.heap.size) zeroR y zero_len HYL.out r16 ?hx ?hy ?_
              case hx => rfl
              case hy => rfl
              have r16 := set_root r16 y
              have r7 := RB.keepS r7 (gb_setRow u3 (u2.heap.size) (rootC y).toArray) (ne_some r7_r16)
              have r8 := RB.keepS r8 (gb_setRow u3 (u2.heap.size) (rootC y).toArray) (ne_some r8_r16)
              have gg := gb_step gg (gb_setRow u3 (u2.heap.size) (rootC y).toArray) l_r16
              have hS := gb_step hS (gb_setRow u3 (u2.heap.size) (rootC y).toArray) ls_r16
              generalize u3.setRow (u2.heap.size) (rootC y).toArray = u4 at r7 r8 r16 gg hS ⊢
              refine hK.out _ _ hS (fun hHeld => ?_)
              clear hK K
              try simp only [Act.put, List.setIfInBounds_toArray, List.set_cons_zero, List.set_cons_succ]
              refine wpAnyH_take (i := 13) (v := ?_) (List.getElem?_toArray.trans rfl) (by kernel_rfl) (by kernel_rfl) (by kernel_rfl) (fun _ _ _ h => h) (Or.inl ⟨by rfl, ?_⟩) hHeld ?_
              rotate_left
              · intro w' hSw; go_simp; try with_reducible rfl
              try simp only [Act.put, List.setIfInBounds_toArray, List.set_cons_zero, List.set_cons_succ]
              refine wpAnyH_done (by kernel_rfl) ?_ _
              refine NoPanic.normal ?_
              repeat (first
                | (go_big_may; first
                  | ((with_reducible refine ldG 16 (u2.heap.size) y HYL.out r16 ?_ ?_ ?_); rfl; rfl)
                  | ((with_reducible refine ldG 8 (b8) y HYL.out r8 ?_ ?_ ?_); rfl; rfl)
                  | fail)
                | go_values
                | go_skip
                | go_guarded
                | go_step
                | go_upon)
              go_ret
              exact ⟨rfl, gg⟩
            · skip
              go_simp
              have r16 : RB (u1.alloc (.cells #[.int .u64 0, .int .i64 0, .int .i64 0, .int .i64 0, .int .i64 0, .int .i64 0, .int .i64 0, .int .i64 0, .int .i64 0, .int .i64 0] 25)) u1.heap.size zeroR := Blk.mk u1 25 (rootC zeroR).toArray
              have l_r16 := gg.size
              have ls_r16 := hS.size
              have r7_r16 := Nat.ne_of_lt (Blk.lt r7)
              have r8_r16 := Nat.ne_of_lt (Blk.lt r8)
              have r7 := RB.keep0 r7 (gb_alloc u1 (.cells #[.int .u64 0, .int .i64 0, .int .i64 0, .int .i64 0, .int .i64 0, .int .i64 0, .int .i64 0, .int .i64 0, .int .i64 0, .int .i64 0] 25) none)
              have r8 := RB.keep0 r8 (gb_alloc u1 (.cells #[.int .u64 0, .int .i64 0, .int .i64 0, .int .i64 0, .int .i64 0, .int .i64 0, .int .i64 0, .int .i64 0, .int .i64 0, .int .i64 0] 25) none)
              have gg := gb_trans gg (gb_alloc u1 (.cells #[.int .u64 0, .int .i64 0, .int .i64 0, .int .i64 0, .int .i64 0, .int .i64 0, .int .i64 0, .int .i64 0, .int .i64 0, .int .i64 0] 25) none)
              have hS := gb_trans hS (gb_alloc u1 (.cells #[.int .u64 0, .int .i64 0, .int .i64 0, .int .i64 0, .int .i64 0, .int .i64 0, .int .i64 0, .int .i64 0, .int .i64 0, .int .i64 0] 25) none)
              generalize u1.alloc (.cells #[.int .u64 0, .int .i64 0, .int .i64 0, .int .i64 0, .int .i64 0, .int .i64 0, .int .i64 0, .int .i64 0, .int .i64 0, .int .i64 0] 25) = u5 at r7 r8 r16 gg hS ⊢
              refine hK.out _ _ hS (fun hHeld => ?_)
              clear hK K
              try simp only [Act.put, List.setIfInBounds_toArray, List.set_cons_zero, List.set_cons_succ]
              refine wpAnyH_ready (rs := [7]) (by kernel_rfl) (by simp) ?_
              refine AllReadyH.cons (List.getElem?_toArray.trans rfl) (fun K hK => ?_) AllReadyH.nil
              go_simp
              go_at_call 14
              (with_reducible refine (HG2.out _ gg).mono ?_)
              rintro e u6 ⟨rfl, gN⟩
              have r7 := RB.keep0 r7 gN
              have r8 := RB.keep0 r8 gN
              have r16 := RB.keep0 r16 gN
              have gg := gb_trans gg gN
              have hS := gb_trans hS gN
              refine hK.out _ _ hS (fun hHeld => ?_)
              clear hK K
              try simp only [Act.put, List.setIfInBounds_toArray, List.set_cons_zero, List.set_cons_succ]
              refine wpAnyH_take (i := 8) (v := ?_) (List.getElem?_toArray.trans rfl) (by kernel_rfl) (by kernel_rfl) (by kernel_rfl) (fun _ _ _ h => h) (Or.inl ⟨by rfl, ?_⟩) hHeld ?_
              rotate_left
              · intro w' hSw; go_simp; try with_reducible rfl
              try simp only [Act.put, List.setIfInBounds_toArray, List.set_cons_zero, List.set_cons_succ]
              refine wpAnyH_take (i := 9) (v := ?_) (List.getElem?_toArray.trans rfl) (by kernel_rfl) (by kernel_rfl) (by kernel_rfl) (fun _ _ _ h => h) (Or.inl ⟨by rfl, ?_⟩) hHeld ?_
              rotate_left
              · intro w' hSw; go_simp; try with_reducible rfl
              try simp only [Act.put, List.setIfInBounds_toArray, List.set_cons_zero, List.set_cons_succ]
              refine wpAnyH_take (i := 10) (v := ?_) (List.getElem?_toArray.trans rfl) (by kernel_rfl) (by kernel_rfl) (by kernel_rfl) (fun _ _ _ h => h) (Or.inl ⟨by rfl, ?_⟩) hHeld ?_
              rotate_left
              · intro w' hSw; go_simp; try with_reducible rfl
              try simp only [Act.put, List.setIfInBounds_toArray, List.set_cons_zero, List.set_cons_succ]
              refine wpAnyH_ready (rs := [12]) (by kernel_rfl) (by simp) ?_
              refine AllReadyH.cons (List.getElem?_toArray.trans rfl) (fun K hK => ?_) AllReadyH.nil
              with_reducible refine stR 16 114 (u1.heap.size) zeroR y zero_len HYL.out r16 ?hx ?hy ?_
              case hx => rfl
              case hy => rfl
              have r16 := set_root r16 y
              have r7 := RB.keepS r7 (gb_setRow u6 (u1.heap.size) (rootC y).toArray) (ne_some r7_r16)
              have r8 := RB.keepS r8 (gb_setRow u6 (u1.heap.size) (rootC y).toArray) (ne_some r8_r16)
              have gg := gb_step gg (gb_setRow u6 (u1.heap.size) (rootC y).toArray) l_r16
              have hS := gb_step hS (gb_setRow u6 (u1.heap.size) (rootC y).toArray) ls_r16
              generalize u6.setRow (u1.heap.size) (rootC y).toArray = u7 at r7 r8 r16 gg hS ⊢
              refine hK.out _ _ hS (fun hHeld => ?_)
              clear hK K
              try simp only [Act.put, List.setIfInBounds_toArray, List.set_cons_zero, List.set_cons_succ]
              refine wpAnyH_take (i := 13) (v := ?_) (List.getElem?_toArray.trans rfl) (by kernel_rfl) (by kernel_rfl) (by kernel_rfl) (fun _ _ _ h => h) (Or.inl ⟨by rfl, ?_⟩) hHeld ?_
              rotate_left
              · intro w' hSw; go_simp; try with_reducible rfl
              try simp only [Act.put, List.setIfInBounds_toArray, List.set_cons_zero, List.set_cons_succ]
              refine wpAnyH_done (by kernel_rfl) ?_ _
              refine NoPanic.normal ?_
              repeat (first
                | (go_big_may; first
                  | ((with_reducible refine ldG 16 (u1.heap.size) y HYL.out r16 ?_ ?_ ?_); rfl; rfl)
                  | ((with_reducible refine ldG 8 (b8) y HYL.out r8 ?_ ?_ ?_); rfl; rfl)
                  | fail)
                | go_values
                | go_skip
                | go_guarded
                | go_step
                | go_upon)
              go_ret
              exact ⟨rfl, gg⟩
          · skip
            go_simp
            have r16 : RB (u0.alloc (.cells #[.int .u64 0, .int .i64 0, .int .i64 0, .int .i64 0, .int .i64 0, .int .i64 0, .int .i64 0, .int .i64 0, .int .i64 0, .int .i64 0] 25)) u0.heap.size zeroR := Blk.mk u0 25 (rootC zeroR).toArray
            have l_r16 := gg.size
            have ls_r16 := hS.size
            have r7_r16 := Nat.ne_of_lt (Blk.lt r7)
            have r8_r16 := Nat.ne_of_lt (Blk.lt r8)
            have r7 := RB.keep0 r7 (gb_alloc u0 (.cells #[.int .u64 0, .int .i64 0, .int .i64 0, .int .i64 0, .int .i64 0, .int .i64 0, .int .i64 0, .int .i64 0, .int .i64 0, .int .i64 0] 25) none)
            have r8 := RB.keep0 r8 (gb_alloc u0 (.cells #[.int .u64 0, .int .i64 0, .int .i64 0, .int .i64 0, .int .i64 0, .int .i64 0, .int .i64 0, .int .i64 0, .int .i64 0, .int .i64 0] 25) none)
            have gg := gb_trans gg (gb_alloc u0 (.cells #[.int .u64 0, .int .i64 0, .int .i64 0, .int .i64 0, .int .i64 0, .int .i64 0, .int .i64 0, .int .i64 0, .int .i64 0, .int .i64 0] 25) none)
            have hS := gb_trans hS (gb_alloc u0 (.cells #[.int .u64 0, .int .i64 0, .int .i64 0, .int .i64 0, .int .i64 0, .int .i64 0, .int .i64 0, .int .i64 0, .int .i64 0, .int .i64 0] 25) none)
            generalize u0.alloc (.cells #[.int .u64 0, .int .i64 0, .int .i64 0, .int .i64 0, .int .i64 0, .int .i64 0, .int .i64 0, .int .i64 0, .int .i64 0, .int .i64 0] 25) = u8 at r7 r8 r16 gg hS ⊢
            refine hK.out _ _ hS (fun hHeld => ?_)
            clear hK K
            try simp only [Act.put, List.setIfInBounds_toArray, List.set_cons_zero, List.set_cons_succ]
            refine wpAnyH_ready (rs := [3]) (by kernel_rfl) (by simp) ?_
            refine AllReadyH.cons (List.getElem?_toArray.trans rfl) (fun K hK => ?_) AllReadyH.nil
            go_simp
            go_at_call 20
            (with_reducible refine (HBl.out _).mono ?_)
            rintro e u9 ⟨rfl, gN⟩
            have r7 := RB.keep0 r7 gN
            have r8 := RB.keep0 r8 gN
            have r16 := RB.keep0 r16 gN
            have gg := gb_trans gg gN
            have hS := gb_trans hS gN
            refine hK.out _ _ hS (fun hHeld => ?_)
            clear hK K
            try simp only [Act.put, List.setIfInBounds_toArray, List.set_cons_zero, List.set_cons_succ]
            refine wpAnyH_take (i := 5) (v := ?_) (List.getElem?_toArray.trans rfl) (by kernel_rfl) (by kernel_rfl) (by kernel_rfl) (fun _ _ _ h => h) (Or.inl ⟨by rfl, ?_⟩) hHeld ?_
            rotate_left
            · intro w' hSw; go_simp; try with_reducible rfl
            try simp only [Act.put, List.setIfInBounds_toArray, List.set_cons_zero, List.set_cons_succ]
            refine wpAnyH_take (i := 6) (v := ?_) (List.getElem?_toArray.trans rfl) (by kernel_rfl) (by kernel_rfl) (by kernel_rfl) (fun _ _ _ h => h) (Or.inl ⟨by rfl, ?_⟩) hHeld ?_
            rotate_left
            · intro w' hSw; go_simp; try with_reducible rfl
            try simp only [Act.put, List.setIfInBounds_toArray, List.set_cons_zero, List.set_cons_succ]
            refine wpAnyH_ready (rs := [7]) (by kernel_rfl) (by simp) ?_
            refine AllReadyH.cons (List.getElem?_toArray.trans rfl) (fun K hK => ?_) AllReadyH.nil
            go_simp
            go_at_call 14
            (with_reducible refine (HG2.out _ gg).mono ?_)
            rintro e u10 ⟨rfl, gN⟩
            have r7 := RB.keep0 r7 gN
            have r8 := RB.keep0 r8 gN
            have r16 := RB.keep0 r16 gN
            have gg := gb_trans gg gN
            have hS := gb_trans hS gN
            refine hK.out _ _ hS (fun hHeld => ?_)
            clear hK K
            try simp only [Act.put, List.setIfInBounds_toArray, List.set_cons_zero, List.set_cons_succ]
            refine wpAnyH_take (i := 8) (v := ?_) (List.getElem?_toArray.trans rfl) (by kernel_rfl) (by kernel_rfl) (by kernel_rfl) (fun _ _ _ h => h) (Or.inl ⟨by rfl, ?_⟩) hHeld ?_
            rotate_left
            · intro w' hSw; go_simp; try with_reducible rfl
            try simp only [Act.put, List.setIfInBounds_toArray, List.set_cons_zero, List.set_cons_succ]
            refine wpAnyH_take (i := 9) (v := ?_) (List.getElem?_toArray.trans rfl) (by kernel_rfl) (by kernel_rfl) (by kernel_rfl) (fun _ _ _ h => h) (Or.inl ⟨by rfl, ?_⟩) hHeld ?_
            rotate_left
            · intro w' hSw; go_simp; try with_reducible rfl
            try simp only [Act.put, List.setIfInBounds_toArray, List.set_cons_zero, List.set_cons_succ]
            refine wpAnyH_take (i := 10) (v := ?_) (List.getElem?_toArray.trans rfl) (by kernel_rfl) (by kernel_rfl) (by kernel_rfl) (fun _ _ _ h => h) (Or.inl ⟨by rfl, ?_⟩) hHeld ?_
            rotate_left
            · intro w' hSw; go_simp; try with_reducible rfl
            try simp only [Act.put, List.setIfInBounds_toArray, List.set_cons_zero, List.set_cons_succ]
            refine wpAnyH_ready (rs := [12]) (by kernel_rfl) (by simp) ?_
            refine AllReadyH.cons (List.getElem?_toArray.trans rfl) (fun K hK => ?_) AllReadyH.nil
            with_reducible refine stR 16 114 (u0.heap.size) zeroR y zero_len HYL.out r16 ?hx ?hy ?_
            case hx => rfl
            case hy => rfl
            have r16 := set_root r16 y
            have r7 := RB.keepS r7 (gb_setRow u10 (u0.heap.size) (rootC y).toArray) (ne_some r7_r16)
            have r8 := RB.keepS r8 (gb_setRow u10 (u0.heap.size) (rootC y).toArray) (ne_some r8_r16)
            have gg := gb_step gg (gb_setRow u10 (u0.heap.size) (rootC y).toArray) l_r16
            have hS := gb_step hS (gb_setRow u10 (u0.heap.size) (rootC y).toArray) ls_r16
            generalize u10.setRow (u0.heap.size) (rootC y).toArray = u11 at r7 r8 r16 gg hS ⊢
            refine hK.out _ _ hS (fun hHeld => ?_)
            clear hK K
            try simp only [Act.put, List.setIfInBounds_toArray, List.set_cons_zero, List.set_cons_succ]
            refine wpAnyH_take (i := 13) (v := ?_) (List.getElem?_toArray.trans rfl) (by kernel_rfl) (by kernel_rfl) (by kernel_rfl) (fun _ _ _ h => h) (Or.inl ⟨by rfl, ?_⟩) hHeld ?_
            rotate_left
            · intro w' hSw; go_simp; try with_reducible rfl
            try simp only [Act.put, List.setIfInBounds_toArray, List.set_cons_zero, List.set_cons_succ]
            refine wpAnyH_done (by kernel_rfl) ?_ _
            refine NoPanic.normal ?_
            repeat (first
              | (go_big_may; first
                | ((with_reducible refine ldG 16 (u0.heap.size) y HYL.out r16 ?_ ?_ ?_); rfl; rfl)
                | ((with_reducible refine ldG 8 (b8) y HYL.out r8 ?_ ?_ ?_); rfl; rfl)
                | fail)
              | go_values
              | go_skip
              | go_guarded
              | go_step
              | go_upon)
            go_ret
            exact ⟨rfl, gg⟩
        · have HG2 := Lib.hid (fun W (g : w.grownBy W none) => get_any T2 W (HPl.out.keep0 g))
          rw [h2] at HG2
          unfold RootGot RV at HG2
          have hmz : ((m : Int) != 0) = true := by simpa using hm0
          refine wp_region_noPanic ?_
          refine wp_region_held_drew (S := fun w' => (W).grownBy w' none) (by kernel_rfl) (gb_drew _ _) (fun hHeld => ?_)
          have hS := gb_drew (W) none
          have r7 := RB.keep0 r7 (gb_drew (W) none)
          have r8 := RB.keep0 r8 (gb_drew (W) none)
          have gg := gb_trans gg (gb_drew (W) none)
          generalize (W).drew = u0 at r7 r8 gg hS hHeld ⊢
          refine wpAnyH_take (i := 0) (v := ?_) (List.getElem?_toArray.trans rfl) (by kernel_rfl) (by kernel_rfl) (by kernel_rfl) (fun _ _ _ h => h) (Or.inl ⟨by rfl, ?_⟩) hHeld ?_
          rotate_left
          · intro w' hSw; go_simp; try with_reducible rfl
          try simp only [Act.put, List.setIfInBounds_toArray, List.set_cons_zero, List.set_cons_succ]
          refine wpAnyH_take (i := 1) (v := ?_) (List.getElem?_toArray.trans rfl) (by kernel_rfl) (by kernel_rfl) (by kernel_rfl) (fun _ _ _ h => h) (Or.inl ⟨by rfl, ?_⟩) hHeld ?_
          rotate_left
          · intro w' hSw; go_simp; try with_reducible rfl
          try simp only [Act.put, List.setIfInBounds_toArray, List.set_cons_zero, List.set_cons_succ]
          refine wpAnyH_take (i := 2) (v := ?_) (List.getElem?_toArray.trans rfl) (by kernel_rfl) (by kernel_rfl) (by kernel_rfl) (fun _ _ _ h => h) (Or.inl ⟨by rfl, ?_⟩) hHeld ?_
          rotate_left
          · intro w' hSw; go_simp; try with_reducible rfl
          try simp only [Act.put, List.setIfInBounds_toArray, List.set_cons_zero, List.set_cons_succ]
          refine wpAnyH_take (i := 4) (v := ?_) (List.getElem?_toArray.trans rfl) (by kernel_rfl) (by kernel_rfl) (by kernel_rfl) (fun _ _ _ h => h) (Or.inl ⟨by rfl, ?_⟩) hHeld ?_
          rotate_left
          · intro w' hSw; go_simp; try with_reducible rfl
          try simp only [Act.put, List.setIfInBounds_toArray, List.set_cons_zero, List.set_cons_succ]
          refine wpAnyH_ready (rs := [3, 11]) (by kernel_rfl) (by simp) ?_
          refine AllReadyH.cons (List.getElem?_toArray.trans rfl) (fun K hK => ?_) (AllReadyH.cons (List.getElem?_toArray.trans rfl) (fun K hK => ?_) AllReadyH.nil)
          · skip
            go_simp
            go_at_call 20
            (with_reducible refine (HBl.out _).mono ?_)
            rintro e u1 ⟨rfl, gN⟩
            have r7 := RB.keep0 r7 gN
            have r8 := RB.keep0 r8 gN
            have gg := gb_trans gg gN
            have hS := gb_trans hS gN
            refine hK.out _ _ hS (fun hHeld => ?_)
            clear hK K
            try simp only [Act.put, List.setIfInBounds_toArray, List.set_cons_zero, List.set_cons_succ]
            refine wpAnyH_take (i := 5) (v := ?_) (List.getElem?_toArray.trans rfl) (by kernel_rfl) (by kernel_rfl) (by kernel_rfl) (fun _ _ _ h => h) (Or.inl ⟨by rfl, ?_⟩) hHeld ?_
            rotate_left
            · intro w' hSw; go_simp; try with_reducible rfl
            try simp only [Act.put, List.setIfInBounds_toArray, List.set_cons_zero, List.set_cons_succ]
            refine wpAnyH_take (i := 6) (v := ?_) (List.getElem?_toArray.trans rfl) (by kernel_rfl) (by kernel_rfl) (by kernel_rfl) (fun _ _ _ h => h) (Or.inl ⟨by rfl, ?_⟩) hHeld ?_
            rotate_left
            · intro w' hSw; go_simp; try with_reducible rfl
            try simp only [Act.put, List.setIfInBounds_toArray, List.set_cons_zero, List.set_cons_succ]
            refine wpAnyH_ready (rs := [7, 11]) (by kernel_rfl) (by simp) ?_
            refine AllReadyH.cons (List.getElem?_toArray.trans rfl) (fun K hK => ?_) (AllReadyH.cons (List.getElem?_toArray.trans rfl) (fun K hK => ?_) AllReadyH.nil)
            · skip
              go_simp
              go_at_call 14
              (with_reducible refine (HG2.out _ gg).mono ?_)
              rintro e u2 ⟨rfl, gN⟩
              have r7 := RB.keep0 r7 gN
              have r8 := RB.keep0 r8 gN
              have gg := gb_trans gg gN
              have hS := gb_trans hS gN
              refine hK.out _ _ hS (fun hHeld => ?_)
              clear hK K
              try simp only [Act.put, List.setIfInBounds_toArray, List.set_cons_zero, List.set_cons_succ]
              refine wpAnyH_take (i := 8) (v := ?_) (List.getElem?_toArray.trans rfl) (by kernel_rfl) (by kernel_rfl) (by kernel_rfl) (fun _ _ _ h => h) (Or.inl ⟨by rfl, ?_⟩) hHeld ?_
              rotate_left
              · intro w' hSw; go_simp; try with_reducible rfl
              try simp only [Act.put, List.setIfInBounds_toArray, List.set_cons_zero, List.set_cons_succ]
              refine wpAnyH_take (i := 9) (v := ?_) (List.getElem?_toArray.trans rfl) (by kernel_rfl) (by kernel_rfl) (by kernel_rfl) (fun _ _ _ h => h) (Or.inl ⟨by rfl, ?_⟩) hHeld ?_
              rotate_left
              · intro w' hSw; go_simp; try with_reducible rfl
              try simp only [Act.put, List.setIfInBounds_toArray, List.set_cons_zero, List.set_cons_succ]
              refine wpAnyH_take (i := 10) (v := ?_) (List.getElem?_toArray.trans rfl) (by kernel_rfl) (by kernel_rfl) (by kernel_rfl) (fun _ _ _ h => h) (Or.inl ⟨by rfl, ?_⟩) hHeld ?_
              rotate_left
              · intro w' hSw; go_simp; try with_reducible rfl
              try simp only [Act.put, List.setIfInBounds_toArray, List.set_cons_zero, List.set_cons_succ]
              refine wpAnyH_ready (rs := [11]) (by kernel_rfl) (by simp) ?_
              refine AllReadyH.cons (List.getElem?_toArray.trans rfl) (fun K hK => ?_) AllReadyH.nil
              go_simp
              have r16 : RB (u2.alloc (.cells #[.int .u64 0, .int .i64 0, .int .i64 0, .int .i64 0, .int .i64 0, .int .i64 0, .int .i64 0, .int .i64 0, .int .i64 0, .int .i64 0] 25)) u2.heap.size zeroR := Blk.mk u2 25 (rootC zeroR).toArray
              have l_r16 := gg.size
              have ls_r16 := hS.size
              have r7_r16 := Nat.ne_of_lt (Blk.lt r7)
              have r8_r16 := Nat.ne_of_lt (Blk.lt r8)
              have r7 := RB.keep0 r7 (gb_alloc u2 (.cells #[.int .u64 0, .int .i64 0, .int .i64 0, .int .i64 0, .int .i64 0, .int .i64 0, .int .i64 0, .int .i64 0, .int .i64 0, .int .i64 0] 25) none)
              have r8 := RB.keep0 r8 (gb_alloc u2 (.cells #[.int .u64 0, .int .i64 0, .int .i64 0, .int .i64 0, .int .i64 0, .int .i64 0, .int .i64 0, .int .i64 0, .int .i64 0, .int .i64 0] 25) none)
              have gg := gb_trans gg (gb_alloc u2 (.cells #[.int .u64 0, .int .i64 0, .int .i64 0, .int .i64 0, .int .i64 0, .int .i64 0, .int .i64 0, .int .i64 0, .int .i64 0, .int .i64 0] 25) none)
              have hS := gb_trans hS (gb_alloc u2 (.cells #[.int .u64 0, .int .i64 0, .int .i64 0, .int .i64 0, .int .i64 0, .int .i64 0, .int .i64 0, .int .i64 0, .int .i64 0, .int .i64 0] 25) none)
              generalize u2.alloc (.cells #[.int .u64 0, .int .i64 0, .int .i64 0, .int .i64 0, .int .i64 0, .int .i64 0, .int .i64 0, .int .i64 0, .int .i64 0, .int .i64 0] 25) = u3 at r7 r8 r16 gg hS ⊢
              refine hK.out _ _ hS (fun hHeld => ?_)
              clear hK K
              try simp only [Act.put, List.setIfInBounds_toArray, List.set_cons_zero, List.set_cons_succ]
              refine wpAnyH_ready (rs := [12]) (by kernel_rfl) (by simp) ?_
              refine AllReadyH.cons (List.getElem?_toArray.trans rfl) (fun K hK => ?_) AllReadyH.nil
              with_reducible refine stR 16 114 (u2.heap.size) zeroR zeroR zero_len zero_len r16 ?hx ?hy ?_
              case hx => rfl
              case hy => rfl
              have r16 := set_root r16 zeroR
              have r7 := RB.keepS r7 (gb_setRow u3 (u2.heap.size) (rootC zeroR).toArray) (ne_some r7_r16)
              have r8 := RB.keepS r8 (gb_setRow u3 (u2.heap.size) (rootC zeroR).toArray) (ne_some r8_r16)
              have gg := gb_step gg (gb_setRow u3 (u2.heap.size) (rootC zeroR).toArray) l_r16
              have hS := gb_step hS (gb_setRow u3 (u2.heap.size) (rootC zeroR).toArray) ls_r16
              generalize u3.setRow (u2.heap.size) (rootC zeroR).toArray = u4 at r7 r8 r16 gg hS ⊢
              refine hK.out _ _ hS (fun hHeld => ?_)
              clear hK K
              try simp only [Act.put, List.setIfInBounds_toArray, List.set_cons_zero, List.set_cons_succ]
              refine wpAnyH_take (i := 13) (v := ?_) (List.getElem?_toArray.trans rfl) (by kernel_rfl) (by kernel_rfl) (by kernel_rfl) (fun _ _ _ h => h) (Or.inl ⟨by rfl, ?_⟩) hHeld ?_
              rotate_left
              · intro w' hSw; go_simp; try with_reducible rfl
              try simp only [Act.put, List.setIfInBounds_toArray, List.set_cons_zero, List.set_cons_succ]
              refine wpAnyH_done (by kernel_rfl) ?_ _
              refine NoPanic.normal ?_
              repeat (first
                | (go_big_may; first
                  | ((with_reducible refine ldG 16 (u2.heap.size) zeroR zero_len r16 ?_ ?_ ?_); rfl; rfl)
                  | ((with_reducible refine ldG 8 (b8) y HYL.out r8 ?_ ?_ ?_); rfl; rfl)
                  | fail)
                | go_values
                | go_skip
                | go_guarded
                | go_step
                | go_upon)
              go_ret
              exact ⟨rfl, gg⟩
            · skip
              go_simp
              have r16 : RB (u1.alloc (.cells #[.int .u64 0, .int .i64 0, .int .i64 0, .int .i64 0, .int .i64 0, .int .i64 0, .int .i64 0, .int .i64 0, .int .i64 0, .int .i64 0] 25)) u1.heap.size zeroR := Blk.mk u1 25 (rootC zeroR).toArray
              have l_r16 := gg.size
              have ls_r16 := hS.size
              have r7_r16 := Nat.ne_of_lt (Blk.lt r7)
              have r8_r16 := Nat.ne_of_lt (Blk.lt r8)
              have r7 := RB.keep0 r7 (gb_alloc u1 (.cells #[.int .u64 0, .int .i64 0, .int .i64 0, .int .i64 0, .int .i64 0, .int .i64 0, .int .i64 0, .int .i64 0, .int .i64 0, .int .i64 0] 25) none)
              have r8 := RB.keep0 r8 (gb_alloc u1 (.cells #[.int .u64 0, .int .i64 0, .int .i64 0, .int .i64 0, .int .i64 0, .int .i64 0, .int .i64 0, .int .i64 0, .int .i64 0, .int .i64 0] 25) none)
              have gg := gb_trans gg (gb_alloc u1 (.cells #[.int .u64 0, .int .i64 0, .int .i64 0, .int .i64 0, .int .i64 0, .int .i64 0, .int .i64 0, .int .i64 0, .int .i64 0, .int .i64 0] 25) none)
              have hS := gb_trans hS (gb_alloc u1 (.cells #[.int .u64 0, .int .i64 0, .int .i64 0, .int .i64 0, .int .i64 0, .int .i64 0, .int .i64 0, .int .i64 0, .int .i64 0, .int .i64 0] 25) none)
              generalize u1.alloc (.cells #[.int .u64 0, .int .i64 0, .int .i64 0, .int .i64 0, .int .i64 0, .int .i64 0, .int .i64 0, .int .i64 0, .int .i64 0, .int .i64 0] 25) = u5 at r7 r8 r16 gg hS ⊢
              refine hK.out _ _ hS (fun hHeld => ?_)
              clear hK K
              try simp only [Act.put, List.setIfInBounds_toArray, List.set_cons_zero, List.set_cons_succ]
              refine wpAnyH_ready (rs := [7]) (by kernel_rfl) (by simp) ?_
              refine AllReadyH.cons (List.getElem?_toArray.trans rfl) (fun K hK => ?_) AllReadyH.nil
              go_simp
              go_at_call 14
              (with_reducible refine (HG2.out _ gg).mono ?_)
              rintro e u6 ⟨rfl, gN⟩
              have r7 := RB.keep0 r7 gN
              have r8 := RB.keep0 r8 gN
              have r16 := RB.keep0 r16 gN
              have gg := gb_trans gg gN
              have hS := gb_trans hS gN
              refine hK.out _ _ hS (fun hHeld => ?_)
              clear hK K
              try simp only [Act.put, List.setIfInBounds_toArray, List.set_cons_zero, List.set_cons_succ]
              refine wpAnyH_take (i := 8) (v := ?_) (List.getElem?_toArray.trans rfl) (by kernel_rfl) (by kernel_rfl) (by kernel_rfl) (fun _ _ _ h => h) (Or.inl ⟨by rfl, ?_⟩) hHeld ?_
              rotate_left
              · intro w' hSw; go_simp; try with_reducible rfl
              try simp only [Act.put, List.setIfInBounds_toArray, List.set_cons_zero, List.set_cons_succ]
              refine wpAnyH_take (i := 9) (v := ?_) (List.getElem?_toArray.trans rfl) (by kernel_rfl) (by kernel_rfl) (by kernel_rfl) (fun _ _ _ h => h) (Or.inl ⟨by rfl, ?_⟩) hHeld ?_
              rotate_left
              · intro w' hSw; go_simp; try with_reducible rfl
              try simp only [Act.put, List.setIfInBounds_toArray, List.set_cons_zero, List.set_cons_succ]
              refine wpAnyH_take (i := 10) (v := ?_) (List.getElem?_toArray.trans rfl) (by kernel_rfl) (by kernel_rfl) (by kernel_rfl) (fun _ _ _ h => h) (Or.inl ⟨by rfl, ?_⟩) hHeld ?_
              rotate_left
              · intro w' hSw; go_simp; try with_reducible rfl
              try simp only [Act.put, List.setIfInBounds_toArray, List.set_cons_zero, List.set_cons_succ]
              refine wpAnyH_ready (rs := [12]) (by kernel_rfl) (by simp) ?_
              refine AllReadyH.cons (List.getElem?_toArray.trans rfl) (fun K hK => ?_) AllReadyH.nil
              with_reducible refine stR 16 114 (u1.heap.size) zeroR zeroR zero_len zero_len r16 ?hx ?hy ?_
              case hx => rfl
              case hy => rfl
              have r16 := set_root r16 zeroR
              have r7 := RB.keepS r7 (gb_setRow u6 (u1.heap.size) (rootC zeroR).toArray) (ne_some r7_r16)
              have r8 := RB.keepS r8 (gb_setRow u6 (u1.heap.size) (rootC zeroR).toArray) (ne_some r8_r16)
              have gg := gb_step gg (gb_setRow u6 (u1.heap.size) (rootC zeroR).toArray) l_r16
              have hS := gb_step hS (gb_setRow u6 (u1.heap.size) (rootC zeroR).toArray) ls_r16
              generalize u6.setRow (u1.heap.size) (rootC zeroR).toArray = u7 at r7 r8 r16 gg hS ⊢
              refine hK.out _ _ hS (fun hHeld => ?_)
              clear hK K
              try simp only [Act.put, List.setIfInBounds_toArray, List.set_cons_zero, List.set_cons_succ]
              refine wpAnyH_take (i := 13) (v := ?_) (List.getElem?_toArray.trans rfl) (by kernel_rfl) (by kernel_rfl) (by kernel_rfl) (fun _ _ _ h => h) (Or.inl ⟨by rfl, ?_⟩) hHeld ?_
              rotate_left
              · intro w' hSw; go_simp; try with_reducible rfl
              try simp only [Act.put, List.setIfInBounds_toArray, List.set_cons_zero, List.set_cons_succ]
              refine wpAnyH_done (by kernel_rfl) ?_ _
              refine NoPanic.normal ?_
              repeat (first
                | (go_big_may; first
                  | ((with_reducible refine ldG 16 (u1.heap.size) zeroR zero_len r16 ?_ ?_ ?_); rfl; rfl)
                  | ((with_reducible refine ldG 8 (b8) y HYL.out r8 ?_ ?_ ?_); rfl; rfl)
                  | fail)
                | go_values
                | go_skip
                | go_guarded
                | go_step
                | go_upon)
              go_ret
              exact ⟨rfl, gg⟩
          · skip
            go_simp
            have r16 : RB (u0.alloc (.cells #[.int .u64 0, .int .i64 0, .int .i64 0, .int .i64 0, .int .i64 0, .int .i64 0, .int .i64 0, .int .i64 0, .int .i64 0, .int .i64 0] 25)) u0.heap.size zeroR := Blk.mk u0 25 (rootC zeroR).toArray
            have l_r16 := gg.size
            have ls_r16 := hS.size
            have r7_r16 := Nat.ne_of_lt (Blk.lt r7)
            have r8_r16 := Nat.ne_of_lt (Blk.lt r8)
            have r7 := RB.keep0 r7 (gb_alloc u0 (.cells #[.int .u64 0, .int .i64 0, .int .i64 0, .int .i64 0, .int .i64 0, .int .i64 0, .int .i64 0, .int .i64 0, .int .i64 0, .int .i64 0] 25) none)
            have r8 := RB.keep0 r8 (gb_alloc u0 (.cells #[.int .u64 0, .int .i64 0, .int .i64 0, .int .i64 0, .int .i64 0, .int .i64 0, .int .i64 0, .int .i64 0, .int .i64 0, .int .i64 0] 25) none)
            have gg := gb_trans gg (gb_alloc u0 (.cells #[.int .u64 0, .int .i64 0, .int .i64 0, .int .i64 0, .int .i64 0, .int .i64 0, .int .i64 0, .int .i64 0, .int .i64 0, .int .i64 0] 25) none)
            have hS := gb_trans hS (gb_alloc u0 (.cells #[.int .u64 0, .int .i64 0, .int .i64 0, .int .i64 0, .int .i64 0, .int .i64 0, .int .i64 0, .int .i64 0, .int .i64 0, .int .i64 0] 25) none)
            generalize u0.alloc (.cells #[.int .u64 0, .int .i64 0, .int .i64 0, .int .i64 0, .int .i64 0, .int .i64 0, .int .i64 0, .int .i64 0, .int .i64 0, .int .i64 0] 25) = u8 at r7 r8 r16 gg hS ⊢
            refine hK.out _ _ hS (fun hHeld => ?_)
            clear hK K
            try simp only [Act.put, List.setIfInBounds_toArray, List.set_cons_zero, List.set_cons_succ]
            refine wpAnyH_ready (rs := [3]) (by kernel_rfl) (by simp) ?_
            refine AllReadyH.cons (List.getElem?_toArray.trans rfl) (fun K hK => ?_) AllReadyH.nil
            go_simp
            go_at_call 20
            (with_reducible refine (HBl.out _).mono ?_)
            rintro e u9 ⟨rfl, gN⟩
            have r7 := RB.keep0 r7 gN
            have r8 := RB.keep0 r8 gN
            have r16 := RB.keep0 r16 gN
            have gg := gb_trans gg gN
            have hS := gb_trans hS gN
            refine hK.out _ _ hS (fun hHeld => ?_)
            clear hK K
            try simp only [Act.put, List.setIfInBounds_toArray, List.set_cons_zero, List.set_cons_succ]
            refine wpAnyH_take (i := 5) (v := ?_) (List.getElem?_toArray.trans rfl) (by kernel_rfl) (by kernel_rfl) (by kernel_rfl) (fun _ _ _ h => h) (Or.inl ⟨by rfl, ?_⟩) hHeld ?_
            rotate_left
            · intro w' hSw; go_simp; try with_reducible rfl
            try simp only [Act.put, List.setIfInBounds_toArray, List.set_cons_zero, List.set_cons_succ]
            refine wpAnyH_take (i := 6) (v := ?_) (List.getElem?_toArray.trans rfl) (by kernel_rfl) (by kernel_rfl) (by kernel_rfl) (fun _ _ _ h => h) (Or.inl ⟨by rfl, ?_⟩) hHeld ?_
            rotate_left
            · intro w' hSw; go_simp; try with_reducible rfl
            try simp only [Act.put, List.setIfInBounds_toArray, List.set_cons_zero, List.set_cons_succ]
            refine wpAnyH_ready (rs := [7]) (by kernel_rfl) (by simp) ?_
            refine AllReadyH.cons (List.getElem?_toArray.trans rfl) (fun K hK => ?_) AllReadyH.nil
            go_simp
            go_at_call 14
            (with_reducible refine (HG2.out _ gg).mono ?_)
            rintro e u10 ⟨rfl, gN⟩
            have r7 := RB.keep0 r7 gN
            have r8 := RB.keep0 r8 gN
            have r16 := RB.keep0 r16 gN
            have gg := gb_trans gg gN
            have hS := gb_trans hS gN
            refine hK.out _ _ hS (fun hHeld => ?_)
            clear hK K
            try simp only [Act.put, List.setIfInBounds_toArray, List.set_cons_zero, List.set_cons_succ]
            refine wpAnyH_take (i := 8) (v := ?_) (List.getElem?_toArray.trans rfl) (by kernel_rfl) (by kernel_rfl) (by kernel_rfl) (fun _ _ _ h => h) (Or.inl ⟨by rfl, ?_⟩) hHeld ?_
            rotate_left
            · intro w' hSw; go_simp; try with_reducible rfl
            try simp only [Act.put, List.setIfInBounds_toArray, List.set_cons_zero, List.set_cons_succ]
            refine wpAnyH_take (i := 9) (v := ?_) (List.getElem?_toArray.trans rfl) (by kernel_rfl) (by kernel_rfl) (by kernel_rfl) (fun _ _ _ h => h) (Or.inl ⟨by rfl, ?_⟩) hHeld ?_
            rotate_left
            · intro w' hSw; go_simp; try with_reducible rfl
            try simp only [Act.put, List.setIfInBounds_toArray, List.set_cons_zero, List.set_cons_succ]
            refine wpAnyH_take (i := 10) (v := ?_) (List.getElem?_toArray.trans rfl) (by kernel_rfl) (by kernel_rfl) (by kernel_rfl) (fun _ _ _ h => h) (Or.inl ⟨by rfl, ?_⟩) hHeld ?_
            rotate_left
            · intro w' hSw; go_simp; try with_reducible rfl
            try simp only [Act.put, List.setIfInBounds_toArray, List.set_cons_zero, List.set_cons_succ]
            refine wpAnyH_ready (rs := [12]) (by kernel_rfl) (by simp) ?_
            refine AllReadyH.cons (List.getElem?_toArray.trans rfl) (fun K hK => ?_) AllReadyH.nil
            with_reducible refine stR 16 114 (u0.heap.size) zeroR zeroR zero_len zero_len r16 ?hx ?hy ?_
            case hx => rfl
            case hy => rfl
            have r16 := set_root r16 zeroR
            have r7 := RB.keepS r7 (gb_setRow u10 (u0.heap.size) (rootC zeroR).toArray) (ne_some r7_r16)
            have r8 := RB.keepS r8 (gb_setRow u10 (u0.heap.size) (rootC zeroR).toArray) (ne_some r8_r16)
            have gg := gb_step gg (gb_setRow u10 (u0.heap.size) (rootC zeroR).toArray) l_r16
            have hS := gb_step hS (gb_setRow u10 (u0.heap.size) (rootC zeroR).toArray) ls_r16
            generalize u10.setRow (u0.heap.size) (rootC zeroR).toArray = u11 at r7 r8 r16 gg hS ⊢
            refine hK.out _ _ hS (fun hHeld => ?_)
            clear hK K
            try simp only [Act.put, List.setIfInBounds_toArray, List.set_cons_zero, List.set_cons_succ]
            refine wpAnyH_take (i := 13) (v := ?_) (List.getElem?_toArray.trans rfl) (by kernel_rfl) (by kernel_rfl) (by kernel_rfl) (fun _ _ _ h => h) (Or.inl ⟨by rfl, ?_⟩) hHeld ?_
            rotate_left
            · intro w' hSw; go_simp; try with_reducible rfl
            try simp only [Act.put, List.setIfInBounds_toArray, List.set_cons_zero, List.set_cons_succ]
            refine wpAnyH_done (by kernel_rfl) ?_ _
            refine NoPanic.normal ?_
            repeat (first
              | (go_big_may; first
                | ((with_reducible refine ldG 16 (u0.heap.size) zeroR zero_len r16 ?_ ?_ ?_); rfl; rfl)
                | ((with_reducible refine ldG 8 (b8) y HYL.out r8 ?_ ?_ ?_); rfl; rfl)
                | fail)
              | go_values
              | go_skip
              | go_guarded
              | go_step
              | go_upon)
            go_ret
            exact ⟨rfl, gg⟩
    · rw [show putC y = 2 from if_neg hmy] at HPy
      repeat (first
        | (go_big_may; first
          | ((with_reducible refine ld 7 (b7) x HXL.out r7 ?_ ?_); rfl)
          | ((with_reducible refine ld 8 (b8) y HYL.out r8 ?_ ?_); rfl)
          | (go_at_call 10; (with_reducible refine (HPx.out _ gg).mono ?_); rintro e v1 ⟨rfl, gN⟩; have r7 := RB.keep0 r7 gN; have r8 := RB.keep0 r8 gN; have gg := gb_trans gg gN; dsimp only)
          | (go_at_call 10; (with_reducible refine (HPy.out _ gg).mono ?_); rintro e v2 ⟨rfl, gN⟩; have r7 := RB.keep0 r7 gN; have r8 := RB.keep0 r8 gN; have gg := gb_trans gg gN; have cx := r7.epoch; have cy := r8.epoch; dsimp only)
          | fail)
        | go_values
        | go_skip
        | go_guarded
        | go_step
        | go_upon)
      go_ret
      exact ⟨rfl, gg⟩
  · rw [show putC x = 2 from if_neg hmx] at HPx
    repeat (first
      | (go_big_may; first
        | ((with_reducible refine ld 7 (b7) x HXL.out r7 ?_ ?_); rfl)
        | ((with_reducible refine ld 8 (b8) y HYL.out r8 ?_ ?_); rfl)
        | (go_at_call 10; (with_reducible refine (HPx.out _ gg).mono ?_); rintro e v1 ⟨rfl, gN⟩; have r7 := RB.keep0 r7 gN; have r8 := RB.keep0 r8 gN; have gg := gb_trans gg gN; dsimp only)
        | (go_at_call 10; (with_reducible refine (HPy.out _ gg).mono ?_); rintro e v2 ⟨rfl, gN⟩; have r7 := RB.keep0 r7 gN; have r8 := RB.keep0 r8 gN; have gg := gb_trans gg gN; have cx := r7.epoch; have cy := r8.epoch; dsimp only)
        | fail)
      | go_values
      | go_skip
      | go_guarded
      | go_step
      | go_upon)
    go_ret
    exact ⟨rfl, gg⟩
end Go.Proofs.YtckkbcgolphajaaDoor
