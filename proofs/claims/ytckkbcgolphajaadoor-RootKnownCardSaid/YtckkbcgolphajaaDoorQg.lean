/-
  What the document's own Get answers, over this seat's translation; no conditions beside the model's own.
-/
import Derived.Test.YtckkbcgolphajaaDoorQw
import Derived.Laws.ResultCell
import Derived.Deep.WholeRow
namespace Go.Proofs.YtckkbcgolphajaaDoor
open Go.RowKit

theorem beq_text (x y : ByteArray) (l r : List UInt8) (hx : x.data.toList = l) (hy : y.data.toList = r) : (x.toList == y.toList) = (l == r) := by
  rw [ByteArray.toList_eq, ByteArray.toList_eq, hx, hy]
/-- A root and a number. -/
def RootGot (w : World) (p : Rt × Nat) (e : Ending) (w' : World) : Prop := e = .returned (.tuple #[RV p.1, .int .i64 (p.2 : Nat)]) ∧ w.grownBy w' none
theorem results_ct {fn : Func} {p u : Tmp} (h : fn.results = #[.cell p 25, .tmp u]) (tmps : Array Value) (w : World) (b : Nat) (r : Rt)
    (hp : tmps.getD p undef = .pointer (some ⟨b, 0, none⟩)) (hb : RB w b r) (hr : r.cs.length = 8) :
    (results fn tmps).run Tryd.prog w = .ok (.tuple #[RV r, tmps.getD u undef]) w := by
  have hp' : tmps[p]?.getD undef = .pointer (some ⟨b, 0, none⟩) := by simpa using hp
  simp [results, h, hp', asAddr, hb.load hr]
theorem gb_setRow (w : World) (g : Nat) (cs : Array Value) : w.grownBy (w.setRow g cs) (some g) := by
  refine ⟨rfl, rfl, rfl, by simp, fun k _ hk => ?_⟩
  exact setRow_other w g k cs (fun e => hk (by rw [e]))
theorem zero_len : zeroR.cs.length = 8 := rfl
/-- A new root's cells, behind what came later. -/
theorem new_zero {w w' : World} (g : (w.alloc (.cells #[.int .u64 0, .int .i64 0, .int .i64 0, .int .i64 0, .int .i64 0, .int .i64 0, .int .i64 0, .int .i64 0, .int .i64 0, .int .i64 0] 25)).grownBy w' none) : RB w' w.heap.size zeroR ∧ w.grownBy w' none :=
  ⟨Blk.keep0 (Blk.mk w 25 (rootC zeroR).toArray) g, gb_trans (gb_alloc _ _ _) g⟩
theorem set_root {w : World} {b : Nat} {q : Rt} (h : RB w b q) (r : Rt) : RB (w.setRow b (rootC r).toArray) b r := setRow_heap w b _ _ _ _ h
set_option maxRecDepth 100000 in
set_option maxHeartbeats 2000000 in
theorem refGet_blank (s : ByteArray) (w : World) (hs : s.data.toList = zer 256) : Calls Tryd.prog 15 #[.string s] w (RootGot w (getF s.data.toList)) := by
  have HE := Lib.hid (show getF s.data.toList = (zeroR, 9) by rw [hs]; rfl)
  have HQ := Lib.hid (fun (t : ByteArray) (ht : t.data.toList = zer 256) => show (s.toList == t.toList) = true by rw [beq_text s t _ _ hs ht]; exact beq_self_eq_true _)
  have HZ := Lib.hid (fun W => noughts_any 256 256 W rfl (by decide))
  clear hs
  go_enter Tryd.func15, Tryd.ntmps15
  go_wp2_with (first
    | (go_at_call 25; (with_reducible refine (HZ.out _).mono ?_); rintro e w2 ⟨t, rfl, ht, g2⟩; have hq := HQ.out t ht; obtain ⟨hb, g3⟩ := new_zero g2; clear g2)
    | (refine wpList_store_row rfl 25 (.tmp 2) (.tmp 11) rfl w.heap.size (rootC zeroR).toArray rfl rfl 25 _ hb (root_info _ zero_len) rfl (root_one _) ?_)
    | fail)
  refine bodyPost_ret (results_ct rfl _ _ _ zeroR rfl (set_root hb _) zero_len) rfl ⟨by rw [HE.out]; rfl, gb_step g3 (gb_setRow _ _ _) (Nat.le_refl _)⟩
set_option maxRecDepth 100000 in
set_option maxHeartbeats 2000000 in
theorem refGet_short (s : ByteArray) (w : World) (hs : s.size ≠ 256) : Calls Tryd.prog 15 #[.string s] w (RootGot w (getF s.data.toList)) := by
  have hne : s.data.toList ≠ zer 256 := fun e => hs (by have := congrArg List.length e; rw [zer_length] at this; exact this)
  have HE := Lib.hid (show getF s.data.toList = (zeroR, 5) by unfold getF; rw [if_neg hne, if_pos (by exact hs)])
  have HQ := Lib.hid (fun (t : ByteArray) (ht : t.data.toList = zer 256) => show (s.toList == t.toList) = false by rw [beq_text s t _ _ rfl ht]; simpa using hne)
  have HZ := Lib.hid (fun W => noughts_any 256 256 W rfl (by decide))
  have hs1 : ((s.size : Int) != 256) = true := by simp; omega
  clear hs hne
  go_enter Tryd.func15, Tryd.ntmps15
  go_wp2_with (first
    | (go_at_call 25; (with_reducible refine (HZ.out _).mono ?_); rintro e w2 ⟨t, rfl, ht, g2⟩; have hq := HQ.out t ht; obtain ⟨hb, g3⟩ := new_zero g2; clear g2)
    | (refine wpList_store_row rfl 25 (.tmp 2) (.tmp 15) rfl w.heap.size (rootC zeroR).toArray rfl rfl 25 _ hb (root_info _ zero_len) rfl (root_one _) ?_)
    | fail)
  refine bodyPost_ret (results_ct rfl _ _ _ zeroR rfl (set_root hb _) zero_len) rfl ⟨by rw [HE.out]; rfl, gb_step g3 (gb_setRow _ _ _) (Nat.le_refl _)⟩
theorem vl_two (l : List UInt8) (n : Nat) (h : l.length ≤ n + 2) : vl (l.drop n) < 65536 := by
  have h1 := vl_lt (l.drop n)
  have h2 : 256 ^ (l.drop n).length ≤ 256 ^ 2 := Nat.pow_le_pow_right (by decide) (by rw [List.length_drop]; omega)
  have h3 : (256 : Nat) ^ 2 = 65536 := by decide
  omega
theorem new_root {w w2 W : World} (hb : RB w2 w.heap.size zeroR) (g : w.grownBy w2 none) (hW : W = (w2.alloc (.cells (rootC zeroR).toArray 25)).drew) (r : Rt) :
    RB (W.setRow w2.heap.size (rootC r).toArray) w2.heap.size r ∧ RB (W.setRow w2.heap.size (rootC r).toArray) w.heap.size zeroR ∧ w.grownBy (W.setRow w2.heap.size (rootC r).toArray) none ∧ w2.grownBy (W.setRow w2.heap.size (rootC r).toArray) none := by
  have g1 : w2.grownBy W none := by rw [hW]; exact gb_trans (gb_alloc _ _ _) (gb_drew _ _)
  have h1 : RB W w2.heap.size zeroR := by rw [hW]; exact Blk.keep0 (Blk.mk w2 _ _) (gb_drew _ none)
  exact ⟨set_root h1 r, Blk.keep (Blk.keep0 hb g1) (gb_setRow _ _ _) (ne_some (Nat.ne_of_lt (Blk.lt hb))), gb_step (gb_trans g g1) (gb_setRow _ _ _) g.size, gb_step g1 (gb_setRow _ _ _) (Nat.le_refl _)⟩
theorem vl_chunk (l : List UInt8) (i : Nat) : vl ((l.take (12 + 2 * i)).drop (10 + 2 * i)) < 65536 := vl_two _ _ (by rw [List.length_take]; omega)
theorem read_fit (l : List UInt8) : Fit (readR l) := by
  refine ⟨read_len l, read_e l, ?_, fun i hi => ?_⟩
  · show -9223372036854775808 ≤ ((vl ((l.take 10).drop 8) : Nat) : Int) ∧ ((vl ((l.take 10).drop 8) : Nat) : Int) ≤ 9223372036854775807
    have := vl_two (l.take 10) 8 (by rw [List.length_take]; omega)
    omega
  · have h := vl_chunk l i
    have e : (readR l).cs.getD i 0 = ((vl ((l.take (12 + 2 * i)).drop (10 + 2 * i)) : Nat) : Int) := by
      rw [List.getD_eq_getElem?_getD, List.getElem?_eq_getElem (by rw [read_len]; exact hi)]
      simp [readR]
    rw [e]; omega
theorem cut_str (P : Program) (t : TypeId) (hu : P.underlying t = some .string) (s : ByteArray) (a b : Nat) (x y : Int) (hx : x = a) (hy : y = b) (h1 : a ≤ b) (h2 : b ≤ s.size) (W : World) :
    (Instr.slice t (.string s) (some (.int .i64 x)) (some (.int .i64 y)) none).run P W = .ok (.string (s.extract a b)) W := by
  subst hx; subst hy
  have := run_slice_string (P := P) W t s .i64 .i64 (a : Int) (b : Int) hu (by omega) (by omega) (by omega)
  simpa using this
/-- What is read of the first so many chunks. -/
def partR (l : List UInt8) (j : Nat) : Rt := ⟨vl (l.take 8), (vl ((l.take 10).drop 8) : Nat), (List.range 8).map fun i => if i < j then (vl ((l.take (12 + 2 * i)).drop (10 + 2 * i)) : Nat) else 0⟩
theorem part_zero (l : List UInt8) (v1 v2 : Nat) (h1 : vl (l.take 8) = v1) (h2 : vl ((l.take 10).drop 8) = v2) : partR l 0 = ⟨v1, (v2 : Nat), [0, 0, 0, 0, 0, 0, 0, 0]⟩ := by subst h1; subst h2; rfl
theorem part_all (l : List UInt8) : partR l 8 = readR l := by
  refine Rt.eq_of rfl rfl ?_
  unfold partR readR
  exact List.map_congr_left fun i hi => if_pos (List.mem_range.1 hi)
theorem part_len (l : List UInt8) (j : Nat) : (partR l j).cs.length = 8 := by simp [partR]
theorem part_set (l : List UInt8) (j : Nat) : (rootC (partR l j)).toArray.setIfInBounds (2 + j) (.int .i64 (vl ((l.take (12 + 2 * j)).drop (10 + 2 * j)) : Nat)) = (rootC (partR l (j + 1))).toArray := by
  rw [List.setIfInBounds_toArray]
  congr 1
  unfold rootC partR
  rw [show 2 + j = j + 1 + 1 by omega, List.set_cons_succ, List.set_cons_succ]
  congr 2
  refine List.ext_getElem (by simp) fun i h1 h2 => ?_
  rw [List.getElem_set]
  simp only [List.getElem_map, List.getElem_range]
  rcases Nat.lt_trichotomy j i with h3 | h3 | h3
  · rw [if_neg (by omega), if_neg (by omega), if_neg (by omega)]
  · subst h3; rw [if_pos rfl, if_pos (by omega)]
  · rw [if_neg (by omega), if_pos (by omega), if_pos (by omega)]
theorem part_store {W : World} {b : Nat} {l : List UInt8} {j : Nat} (h : RB W b (partR l j)) (v : Nat) (hv : vl ((l.take (12 + 2 * j)).drop (10 + 2 * j)) = v) :
    RB (W.setCell ⟨b, 2 + j, none⟩ (.int .i64 (v : Nat))) b (partR l (j + 1)) := by
  subst hv
  have := Blk.set h (2 + j) (.int .i64 (vl ((l.take (12 + 2 * j)).drop (10 + 2 * j)) : Nat))
  rw [part_set l j] at this
  exact this
set_option maxRecDepth 100000 in
set_option linter.unusedSimpArgs false in
set_option maxHeartbeats 2000000 in
theorem refGet_long (s : ByteArray) (w : World) (hs : s.size = 256) (hne : s.data.toList ≠ zer 256) : Calls Tryd.prog 15 #[.string s] w (RootGot w (getF s.data.toList)) := by
  have HS := Lib.hid (show getF s.data.toList = if MayR (readR s.data.toList) ∧ putL (readR s.data.toList) = s.data.toList then (readR s.data.toList, 0) else (zeroR, 5) by unfold getF; rw [if_neg hne, if_neg (by rw [show s.data.toList.length = s.size from rfl, hs]; simp)])
  have HQ := Lib.hid (fun (t : ByteArray) (ht : t.data.toList = zer 256) => show (s.toList == t.toList) = false by rw [beq_text s t _ _ rfl ht]; simpa using hne)
  have HZ := Lib.hid (fun W => noughts_any 256 256 W rfl (by decide))
  have hs1 : ((s.size : Int) != 256) = false := by simp; omega
  obtain ⟨v1, hv1⟩ : ∃ v, vl (s.data.toList.take 8) = v := ⟨_, rfl⟩
  obtain ⟨v2, hv2⟩ : ∃ v, vl ((s.data.toList.take 10).drop 8) = v := ⟨_, rfl⟩
  have hv2b : v2 < 65536 := by rw [← hv2]; exact vl_two _ _ (by rw [List.length_take]; omega)
  have HV1 := Lib.hid (fun W => (value_any (s.extract 0 8) W (by rw [ByteArray.size_extract]; omega)).mono (fun e w' h => (⟨by rw [h.1, ex_list, List.drop_zero, hv1], h.2⟩ : e = .returned (.int .u64 (v1 : Nat)) ∧ W = w')))
  have HV2 := Lib.hid (fun W => (value_any (s.extract 8 10) W (by rw [ByteArray.size_extract]; omega)).mono (fun e w' h => (⟨by rw [h.1, ex_list, hv2], h.2⟩ : e = .returned (.int .u64 (v2 : Nat)) ∧ W = w')))
  have hw2 : IntKind.i64.wrap (v2 : Int) = (v2 : Int) := IntWalk.i64_in _ (by omega)
  go_enter Tryd.func15, Tryd.ntmps15
  go_wp2_with (first
    | (go_at_call 25; (with_reducible refine (HZ.out _).mono ?_); rintro e w2 ⟨t, rfl, ht, g2⟩; have hq := HQ.out t ht; obtain ⟨hb, g3⟩ := new_zero g2; clear g2)
    | fail)
  refine wp_region_noPanic ?_
  refine wp_region_held_drew (S := fun w' => w2.grownBy w' none) (by kernel_rfl) (gb_drew _ _) (fun hHeld => ?_)
  refine wpAnyH_take (i := 0) (v := ?_) (List.getElem?_toArray.trans rfl) (by kernel_rfl) (by kernel_rfl) (by kernel_rfl) (fun _ _ _ h => h) (Or.inl ⟨by rfl, ?_⟩) hHeld ?_
  rotate_left
  · intro w' hSw; go_simp; try with_reducible rfl
  try simp only [Act.put, List.setIfInBounds_toArray, List.set_cons_zero, List.set_cons_succ]
  refine wpAnyH_take (i := 1) (v := ?_) (List.getElem?_toArray.trans rfl) (by kernel_rfl) (by kernel_rfl) (by kernel_rfl) (fun _ _ _ h => h) (Or.inl ⟨by rfl, ?_⟩) hHeld ?_
  rotate_left
  · intro w' hSw; go_simp; try with_reducible rfl
  try simp only [Act.put, List.setIfInBounds_toArray, List.set_cons_zero, List.set_cons_succ]
  refine wpAnyH_take (i := 3) (v := ?_) (List.getElem?_toArray.trans rfl) (by kernel_rfl) (by kernel_rfl) (by kernel_rfl) (fun _ _ _ h => h) (Or.inl ⟨by rfl, ?_⟩) hHeld ?_
  rotate_left
  · intro w' hSw; go_simp; try with_reducible rfl
  try simp only [Act.put, List.setIfInBounds_toArray, List.set_cons_zero, List.set_cons_succ]
  refine wpAnyH_take (i := 4) (v := ?_) (List.getElem?_toArray.trans rfl) (by kernel_rfl) (by kernel_rfl) (by kernel_rfl) (fun _ _ _ h => h) (Or.inl ⟨by rfl, ?_⟩) hHeld ?_
  rotate_left
  · intro w' hSw; go_simp; try with_reducible rfl
  try simp only [Act.put, List.setIfInBounds_toArray, List.set_cons_zero, List.set_cons_succ]
  refine wpAnyH_ready (rs := [2, 8]) (by kernel_rfl) (by simp) ?_
  refine AllReadyH.cons (List.getElem?_toArray.trans rfl) (fun K hK => ?_) (AllReadyH.cons (List.getElem?_toArray.trans rfl) (fun K hK => ?_) AllReadyH.nil)
  · skip
    go_simp
    go_at_call 27
    (with_reducible refine (HV1.out _).mono ?_)
    rintro e w' ⟨rfl, rfl⟩
    refine hK.out _ _ (hHeld) (fun hHeld => ?_)
    clear hK K
    try simp only [Act.put, List.setIfInBounds_toArray, List.set_cons_zero, List.set_cons_succ]
    refine wpAnyH_ready (rs := [5, 8]) (by kernel_rfl) (by simp) ?_
    refine AllReadyH.cons (List.getElem?_toArray.trans rfl) (fun K hK => ?_) (AllReadyH.cons (List.getElem?_toArray.trans rfl) (fun K hK => ?_) AllReadyH.nil)
    · skip
      go_simp
      go_at_call 27
      (with_reducible refine (HV2.out _).mono ?_)
      rintro e w' ⟨rfl, rfl⟩
      refine hK.out _ _ (hHeld) (fun hHeld => ?_)
      clear hK K
      try simp only [Act.put, List.setIfInBounds_toArray, List.set_cons_zero, List.set_cons_succ]
      refine wpAnyH_take (i := 6) (v := ?_) (List.getElem?_toArray.trans rfl) (by kernel_rfl) (by kernel_rfl) (by kernel_rfl) (fun _ _ _ h => h) (Or.inl ⟨by rfl, ?_⟩) hHeld ?_
      rotate_left
      · intro w' hSw; go_simp; try with_reducible rfl
      try simp only [Act.put, List.setIfInBounds_toArray, List.set_cons_zero, List.set_cons_succ]
      refine wpAnyH_take (i := 7) (v := ?_) (List.getElem?_toArray.trans rfl) (by kernel_rfl) (by kernel_rfl) (by kernel_rfl) (fun _ _ _ h => h) (Or.inl ⟨by rfl, ?_⟩) hHeld ?_
      rotate_left
      · intro w' hSw; go_simp; try with_reducible rfl
      try simp only [Act.put, List.setIfInBounds_toArray, List.set_cons_zero, List.set_cons_succ]
      refine wpAnyH_ready (rs := [8]) (by kernel_rfl) (by simp) ?_
      refine AllReadyH.cons (List.getElem?_toArray.trans rfl) (fun K hK => ?_) AllReadyH.nil
      go_simp
      refine hK.out _ _ (gb_trans hHeld (gb_alloc _ _ _)) (fun hHeld => ?_)
      clear hK K
      try simp only [Act.put, List.setIfInBounds_toArray, List.set_cons_zero, List.set_cons_succ]
      have hz : RB ((w2.alloc (.cells #[.int .u64 0, .int .i64 0, .int .i64 0, .int .i64 0, .int .i64 0, .int .i64 0, .int .i64 0, .int .i64 0, .int .i64 0, .int .i64 0] 25)).drew) w2.heap.size zeroR := Blk.keep0 (Blk.mk w2 25 (rootC zeroR).toArray) (gb_drew _ none)
      refine wpAnyH_ready (rs := [9]) (by kernel_rfl) (by simp) ?_
      refine AllReadyH.cons (List.getElem?_toArray.trans rfl) (fun K hK => ?_) AllReadyH.nil
      refine wp_store_row 25 (.tmp 4) (.tmp 23) rfl w2.heap.size (rootC ⟨v1, (v2 : Nat), [0, 0, 0, 0, 0, 0, 0, 0]⟩).toArray rfl rfl 25 _ hz (root_info _ rfl) rfl (root_one _) ?_
      obtain ⟨hr, hb2, hg2, hh⟩ := new_root hb g3 (show (w2.alloc (.cells #[.int .u64 0, .int .i64 0, .int .i64 0, .int .i64 0, .int .i64 0, .int .i64 0, .int .i64 0, .int .i64 0, .int .i64 0, .int .i64 0] 25)).drew = (w2.alloc (.cells (rootC zeroR).toArray 25)).drew from rfl) ⟨v1, (v2 : Nat), [0, 0, 0, 0, 0, 0, 0, 0]⟩
      refine hK.out _ _ (hh) (fun hHeld => ?_)
      clear hK K
      try simp only [Act.put, List.setIfInBounds_toArray, List.set_cons_zero, List.set_cons_succ]
      generalize (w2.alloc (.cells #[.int .u64 0, .int .i64 0, .int .i64 0, .int .i64 0, .int .i64 0, .int .i64 0, .int .i64 0, .int .i64 0, .int .i64 0, .int .i64 0] 25)).drew.setRow w2.heap.size (rootC ⟨v1, (v2 : Nat), [0, 0, 0, 0, 0, 0, 0, 0]⟩).toArray = W at hr hb2 hg2 ⊢
      refine wpAnyH_done (by kernel_rfl) ?_ _
      refine NoPanic.normal ?_
      rw [← part_zero s.data.toList v1 v2 hv1 hv2] at hr
      have hlp : w.heap.size < w2.heap.size := Blk.lt hb
      go_wp2
      go_loopw [5] (fun i wr => ∃ j : Nat, j ≤ 8 ∧ i = .int .i64 j ∧ RB wr w2.heap.size (partR s.data.toList j) ∧ RB wr w.heap.size zeroR ∧ w.grownBy wr none) (fun i _ => 9 - (intOf i).toNat)
      case atStart => exact ⟨0, by omega, rfl, hr, hb2, hg2⟩
      case round =>
        obtain ⟨j, hj, rfl, r1, b1, g1⟩ := hrel
        by_cases hlt : j < 8
        · have hcell := r1.chunk j (by rw [part_len]; exact hlt)
          rw [Nat.add_comm] at hcell
          have hfree := Blk.free r1 (2 + j)
          obtain ⟨v, hv⟩ : ∃ v, vl ((s.data.toList.take (12 + 2 * j)).drop (10 + 2 * j)) = v := ⟨_, rfl⟩
          have hvb : v < 65536 := by rw [← hv]; exact vl_two _ _ (by rw [List.length_take]; omega)
          have hvw : IntKind.i64.wrap (v : Int) = (v : Int) := IntWalk.i64_in _ (by omega)
          have hsl := fun W => cut_str Tryd.prog 9 Tryd.underlying9 s (10 + 2 * j) (12 + 2 * j) (10 + 2 * (j : Int)) (12 + 2 * (j : Int)) (by omega) (by omega) (by omega) (by omega) W
          have HVJ := Lib.hid (fun W => (value_any (s.extract (10 + 2 * j) (12 + 2 * j)) W (by rw [ByteArray.size_extract]; omega)).mono (fun e w' h => (⟨by rw [h.1, ex_list, hv], h.2⟩ : e = .returned (.int .u64 (v : Nat)) ∧ W = w')))
          generalize s.extract (10 + 2 * j) (12 + 2 * j) = u at hsl HVJ
          have HR := Lib.hid (And.intro (part_store r1 v hv) (And.intro b1 g1))
          clear hv r1 b1 g1 hr hb2 hg2 hHeld
          go_wp2_with (go_at_call 27; (with_reducible refine (HVJ.out _).mono ?_); rintro e w' ⟨rfl, rfl⟩)
          go_roundw
          case rel => exact ⟨j + 1, by omega, by go_num, HR.out.1, Blk.keep HR.out.2.1 (gb_set _ _ _ _ _) (ne_some (by omega)), gb_step HR.out.2.2 (gb_set _ _ _ _ _) (by omega)⟩
          case measure => simp [intOf]; omega
        · obtain rfl : j = 8 := by omega
          rw [part_all] at r1
          clear hr hb2 hg2 hHeld
          have HI := Lib.hid (root_info (readR s.data.toList) (read_len _))
          have HO := Lib.hid (root_one (readR s.data.toList))
          have HP := Lib.hid (fun W => refPut_any (readR s.data.toList) W (read_fit _))
          have HB := Lib.hid b1
          have HG := Lib.hid g1
          have HR := Lib.hid r1
          unfold RV at HP
          obtain ⟨C, hC⟩ : ∃ C, (rootC (readR s.data.toList)).toArray = C := ⟨_, rfl⟩
          have HC := Lib.hid hC
          rw [hC] at HI HP HO
          have hr1 : wr.heap[w2.heap.size]? = some (.cells C 25 (0, 0)) := by rw [← hC]; exact r1
          clear hC r1 b1 g1
          by_cases hm : MayR (readR s.data.toList)
          · by_cases hp : putL (readR s.data.toList) = s.data.toList
            · have HE := Lib.hid (show getF s.data.toList = (readR s.data.toList, 0) by rw [HS.out, if_pos ⟨hm, hp⟩])
              have HK := Lib.hid (show putC (readR s.data.toList) = 0 from if_pos hm)
              have HQ2 := Lib.hid (fun (u : ByteArray) (hu : u.data.toList = putS (readR s.data.toList)) => show (u.toList == s.toList) = true by rw [beq_text u s _ _ hu rfl]; unfold putS; rw [if_pos hm, hp]; exact beq_self_eq_true _)
              clear hm hp
              go_wp2_with (first
                | (refine wpList_load_row rfl 25 (.tmp 4) rfl w2.heap.size rfl 25 C (0, 0) _ hr1 Tryd.underlying25 rfl HI.out ?_)
                | (go_at_call 11; (with_reducible refine (HP.out _).mono ?_); rintro e w5 ⟨u, rfl, hu, g5⟩; rw [HK.out]; have hqu := HQ2.out u hu; have hr1 := Blk.keep0 hr1 g5; have hb5 := Blk.keep0 HB.out g5)
                | (refine wpList_store_row rfl 25 (.tmp 2) (.tmp 54) rfl w.heap.size C rfl rfl 25 _ hb5 HI.out (by rw [← HC.out, List.size_toArray, List.size_toArray, rootC_length _ (read_len _)]; rfl) HO.out ?_)
                | fail)
              have hset := set_root hb5 (readR s.data.toList)
              rw [HC.out] at hset
              refine bodyPost_ret (results_ct rfl _ _ _ (readR s.data.toList) rfl hset (read_len _)) rfl ⟨by rw [HE.out]; rfl, gb_step (gb_trans HG.out g5) (gb_setRow _ _ _) (Nat.le_refl _)⟩
            · have HE := Lib.hid (show getF s.data.toList = (zeroR, 5) by rw [HS.out, if_neg (fun h => hp h.2)])
              have HK := Lib.hid (show putC (readR s.data.toList) = 0 from if_pos hm)
              have HQ2 := Lib.hid (fun (u : ByteArray) (hu : u.data.toList = putS (readR s.data.toList)) => show (u.toList == s.toList) = false by rw [beq_text u s _ _ hu rfl]; unfold putS; rw [if_pos hm]; simpa using hp)
              clear hm hp
              go_wp2_with (first
                | (refine wpList_load_row rfl 25 (.tmp 4) rfl w2.heap.size rfl 25 C (0, 0) _ hr1 Tryd.underlying25 rfl HI.out ?_)
                | (go_at_call 11; (with_reducible refine (HP.out _).mono ?_); rintro e w5 ⟨u, rfl, hu, g5⟩; rw [HK.out]; have hqu := HQ2.out u hu; have hb5 := Blk.keep0 HB.out g5)
                | (refine wpList_store_row rfl 25 (.tmp 2) (.tmp 53) rfl w.heap.size (rootC zeroR).toArray rfl rfl 25 _ hb5 (root_info _ zero_len) rfl (root_one _) ?_)
                | fail)
              refine bodyPost_ret (results_ct rfl _ _ _ zeroR rfl (set_root hb5 _) zero_len) rfl ⟨by rw [HE.out]; rfl, gb_step (gb_trans HG.out g5) (gb_setRow _ _ _) (Nat.le_refl _)⟩
          · have HE := Lib.hid (show getF s.data.toList = (zeroR, 5) by rw [HS.out, if_neg (fun h => hm h.1)])
            have HK := Lib.hid (show putC (readR s.data.toList) = 2 from if_neg hm)
            clear hm
            go_wp2_with (first
              | (refine wpList_load_row rfl 25 (.tmp 4) rfl w2.heap.size rfl 25 C (0, 0) _ hr1 Tryd.underlying25 rfl HI.out ?_)
              | (go_at_call 11; (with_reducible refine (HP.out _).mono ?_); rintro e w5 ⟨u, rfl, hu, g5⟩; rw [HK.out]; have hb5 := Blk.keep0 HB.out g5)
              | (refine wpList_store_row rfl 25 (.tmp 2) (.tmp 53) rfl w.heap.size (rootC zeroR).toArray rfl rfl 25 _ hb5 (root_info _ zero_len) rfl (root_one _) ?_)
              | fail)
            refine bodyPost_ret (results_ct rfl _ _ _ zeroR rfl (set_root hb5 _) zero_len) rfl ⟨by rw [HE.out]; rfl, gb_step (gb_trans HG.out g5) (gb_setRow _ _ _) (Nat.le_refl _)⟩
    · skip
      go_simp
      refine hK.out _ _ (gb_trans hHeld (gb_alloc _ _ _)) (fun hHeld => ?_)
      clear hK K
      try simp only [Act.put, List.setIfInBounds_toArray, List.set_cons_zero, List.set_cons_succ]
      refine wpAnyH_ready (rs := [5]) (by kernel_rfl) (by simp) ?_
      refine AllReadyH.cons (List.getElem?_toArray.trans rfl) (fun K hK => ?_) AllReadyH.nil
      go_simp
      go_at_call 27
      (with_reducible refine (HV2.out _).mono ?_)
      rintro e w' ⟨rfl, rfl⟩
      refine hK.out _ _ (hHeld) (fun hHeld => ?_)
      clear hK K
      try simp only [Act.put, List.setIfInBounds_toArray, List.set_cons_zero, List.set_cons_succ]
      refine wpAnyH_take (i := 6) (v := ?_) (List.getElem?_toArray.trans rfl) (by kernel_rfl) (by kernel_rfl) (by kernel_rfl) (fun _ _ _ h => h) (Or.inl ⟨by rfl, ?_⟩) hHeld ?_
      rotate_left
      · intro w' hSw; go_simp; try with_reducible rfl
      try simp only [Act.put, List.setIfInBounds_toArray, List.set_cons_zero, List.set_cons_succ]
      refine wpAnyH_take (i := 7) (v := ?_) (List.getElem?_toArray.trans rfl) (by kernel_rfl) (by kernel_rfl) (by kernel_rfl) (fun _ _ _ h => h) (Or.inl ⟨by rfl, ?_⟩) hHeld ?_
      rotate_left
      · intro w' hSw; go_simp; try with_reducible rfl
      try simp only [Act.put, List.setIfInBounds_toArray, List.set_cons_zero, List.set_cons_succ]
      have hz : RB ((w2.alloc (.cells #[.int .u64 0, .int .i64 0, .int .i64 0, .int .i64 0, .int .i64 0, .int .i64 0, .int .i64 0, .int .i64 0, .int .i64 0, .int .i64 0] 25)).drew) w2.heap.size zeroR := Blk.keep0 (Blk.mk w2 25 (rootC zeroR).toArray) (gb_drew _ none)
      refine wpAnyH_ready (rs := [9]) (by kernel_rfl) (by simp) ?_
      refine AllReadyH.cons (List.getElem?_toArray.trans rfl) (fun K hK => ?_) AllReadyH.nil
      refine wp_store_row 25 (.tmp 4) (.tmp 23) rfl w2.heap.size (rootC ⟨v1, (v2 : Nat), [0, 0, 0, 0, 0, 0, 0, 0]⟩).toArray rfl rfl 25 _ hz (root_info _ rfl) rfl (root_one _) ?_
      obtain ⟨hr, hb2, hg2, hh⟩ := new_root hb g3 (show (w2.alloc (.cells #[.int .u64 0, .int .i64 0, .int .i64 0, .int .i64 0, .int .i64 0, .int .i64 0, .int .i64 0, .int .i64 0, .int .i64 0, .int .i64 0] 25)).drew = (w2.alloc (.cells (rootC zeroR).toArray 25)).drew from rfl) ⟨v1, (v2 : Nat), [0, 0, 0, 0, 0, 0, 0, 0]⟩
      refine hK.out _ _ (hh) (fun hHeld => ?_)
      clear hK K
      try simp only [Act.put, List.setIfInBounds_toArray, List.set_cons_zero, List.set_cons_succ]
      generalize (w2.alloc (.cells #[.int .u64 0, .int .i64 0, .int .i64 0, .int .i64 0, .int .i64 0, .int .i64 0, .int .i64 0, .int .i64 0, .int .i64 0, .int .i64 0] 25)).drew.setRow w2.heap.size (rootC ⟨v1, (v2 : Nat), [0, 0, 0, 0, 0, 0, 0, 0]⟩).toArray = W at hr hb2 hg2 ⊢
      refine wpAnyH_done (by kernel_rfl) ?_ _
      refine NoPanic.normal ?_
      rw [← part_zero s.data.toList v1 v2 hv1 hv2] at hr
      have hlp : w.heap.size < w2.heap.size := Blk.lt hb
      go_wp2
      go_loopw [5] (fun i wr => ∃ j : Nat, j ≤ 8 ∧ i = .int .i64 j ∧ RB wr w2.heap.size (partR s.data.toList j) ∧ RB wr w.heap.size zeroR ∧ w.grownBy wr none) (fun i _ => 9 - (intOf i).toNat)
      case atStart => exact ⟨0, by omega, rfl, hr, hb2, hg2⟩
      case round =>
        obtain ⟨j, hj, rfl, r1, b1, g1⟩ := hrel
        by_cases hlt : j < 8
        · have hcell := r1.chunk j (by rw [part_len]; exact hlt)
          rw [Nat.add_comm] at hcell
          have hfree := Blk.free r1 (2 + j)
          obtain ⟨v, hv⟩ : ∃ v, vl ((s.data.toList.take (12 + 2 * j)).drop (10 + 2 * j)) = v := ⟨_, rfl⟩
          have hvb : v < 65536 := by rw [← hv]; exact vl_two _ _ (by rw [List.length_take]; omega)
          have hvw : IntKind.i64.wrap (v : Int) = (v : Int) := IntWalk.i64_in _ (by omega)
          have hsl := fun W => cut_str Tryd.prog 9 Tryd.underlying9 s (10 + 2 * j) (12 + 2 * j) (10 + 2 * (j : Int)) (12 + 2 * (j : Int)) (by omega) (by omega) (by omega) (by omega) W
          have HVJ := Lib.hid (fun W => (value_any (s.extract (10 + 2 * j) (12 + 2 * j)) W (by rw [ByteArray.size_extract]; omega)).mono (fun e w' h => (⟨by rw [h.1, ex_list, hv], h.2⟩ : e = .returned (.int .u64 (v : Nat)) ∧ W = w')))
          generalize s.extract (10 + 2 * j) (12 + 2 * j) = u at hsl HVJ
          have HR := Lib.hid (And.intro (part_store r1 v hv) (And.intro b1 g1))
          clear hv r1 b1 g1 hr hb2 hg2 hHeld
          go_wp2_with (go_at_call 27; (with_reducible refine (HVJ.out _).mono ?_); rintro e w' ⟨rfl, rfl⟩)
          go_roundw
          case rel => exact ⟨j + 1, by omega, by go_num, HR.out.1, Blk.keep HR.out.2.1 (gb_set _ _ _ _ _) (ne_some (by omega)), gb_step HR.out.2.2 (gb_set _ _ _ _ _) (by omega)⟩
          case measure => simp [intOf]; omega
        · obtain rfl : j = 8 := by omega
          rw [part_all] at r1
          clear hr hb2 hg2 hHeld
          have HI := Lib.hid (root_info (readR s.data.toList) (read_len _))
          have HO := Lib.hid (root_one (readR s.data.toList))
          have HP := Lib.hid (fun W => refPut_any (readR s.data.toList) W (read_fit _))
          have HB := Lib.hid b1
          have HG := Lib.hid g1
          have HR := Lib.hid r1
          unfold RV at HP
          obtain ⟨C, hC⟩ : ∃ C, (rootC (readR s.data.toList)).toArray = C := ⟨_, rfl⟩
          have HC := Lib.hid hC
          rw [hC] at HI HP HO
          have hr1 : wr.heap[w2.heap.size]? = some (.cells C 25 (0, 0)) := by rw [← hC]; exact r1
          clear hC r1 b1 g1
          by_cases hm : MayR (readR s.data.toList)
          · by_cases hp : putL (readR s.data.toList) = s.data.toList
            · have HE := Lib.hid (show getF s.data.toList = (readR s.data.toList, 0) by rw [HS.out, if_pos ⟨hm, hp⟩])
              have HK := Lib.hid (show putC (readR s.data.toList) = 0 from if_pos hm)
              have HQ2 := Lib.hid (fun (u : ByteArray) (hu : u.data.toList = putS (readR s.data.toList)) => show (u.toList == s.toList) = true by rw [beq_text u s _ _ hu rfl]; unfold putS; rw [if_pos hm, hp]; exact beq_self_eq_true _)
              clear hm hp
              go_wp2_with (first
                | (refine wpList_load_row rfl 25 (.tmp 4) rfl w2.heap.size rfl 25 C (0, 0) _ hr1 Tryd.underlying25 rfl HI.out ?_)
                | (go_at_call 11; (with_reducible refine (HP.out _).mono ?_); rintro e w5 ⟨u, rfl, hu, g5⟩; rw [HK.out]; have hqu := HQ2.out u hu; have hr1 := Blk.keep0 hr1 g5; have hb5 := Blk.keep0 HB.out g5)
                | (refine wpList_store_row rfl 25 (.tmp 2) (.tmp 54) rfl w.heap.size C rfl rfl 25 _ hb5 HI.out (by rw [← HC.out, List.size_toArray, List.size_toArray, rootC_length _ (read_len _)]; rfl) HO.out ?_)
                | fail)
              have hset := set_root hb5 (readR s.data.toList)
              rw [HC.out] at hset
              refine bodyPost_ret (results_ct rfl _ _ _ (readR s.data.toList) rfl hset (read_len _)) rfl ⟨by rw [HE.out]; rfl, gb_step (gb_trans HG.out g5) (gb_setRow _ _ _) (Nat.le_refl _)⟩
            · have HE := Lib.hid (show getF s.data.toList = (zeroR, 5) by rw [HS.out, if_neg (fun h => hp h.2)])
              have HK := Lib.hid (show putC (readR s.data.toList) = 0 from if_pos hm)
              have HQ2 := Lib.hid (fun (u : ByteArray) (hu : u.data.toList = putS (readR s.data.toList)) => show (u.toList == s.toList) = false by rw [beq_text u s _ _ hu rfl]; unfold putS; rw [if_pos hm]; simpa using hp)
              clear hm hp
              go_wp2_with (first
                | (refine wpList_load_row rfl 25 (.tmp 4) rfl w2.heap.size rfl 25 C (0, 0) _ hr1 Tryd.underlying25 rfl HI.out ?_)
                | (go_at_call 11; (with_reducible refine (HP.out _).mono ?_); rintro e w5 ⟨u, rfl, hu, g5⟩; rw [HK.out]; have hqu := HQ2.out u hu; have hb5 := Blk.keep0 HB.out g5)
                | (refine wpList_store_row rfl 25 (.tmp 2) (.tmp 53) rfl w.heap.size (rootC zeroR).toArray rfl rfl 25 _ hb5 (root_info _ zero_len) rfl (root_one _) ?_)
                | fail)
              refine bodyPost_ret (results_ct rfl _ _ _ zeroR rfl (set_root hb5 _) zero_len) rfl ⟨by rw [HE.out]; rfl, gb_step (gb_trans HG.out g5) (gb_setRow _ _ _) (Nat.le_refl _)⟩
          · have HE := Lib.hid (show getF s.data.toList = (zeroR, 5) by rw [HS.out, if_neg (fun h => hm h.1)])
            have HK := Lib.hid (show putC (readR s.data.toList) = 2 from if_neg hm)
            clear hm
            go_wp2_with (first
              | (refine wpList_load_row rfl 25 (.tmp 4) rfl w2.heap.size rfl 25 C (0, 0) _ hr1 Tryd.underlying25 rfl HI.out ?_)
              | (go_at_call 11; (with_reducible refine (HP.out _).mono ?_); rintro e w5 ⟨u, rfl, hu, g5⟩; rw [HK.out]; have hb5 := Blk.keep0 HB.out g5)
              | (refine wpList_store_row rfl 25 (.tmp 2) (.tmp 53) rfl w.heap.size (rootC zeroR).toArray rfl rfl 25 _ hb5 (root_info _ zero_len) rfl (root_one _) ?_)
              | fail)
            refine bodyPost_ret (results_ct rfl _ _ _ zeroR rfl (set_root hb5 _) zero_len) rfl ⟨by rw [HE.out]; rfl, gb_step (gb_trans HG.out g5) (gb_setRow _ _ _) (Nat.le_refl _)⟩
  · skip
    go_simp
    refine hK.out _ _ (gb_trans hHeld (gb_alloc _ _ _)) (fun hHeld => ?_)
    clear hK K
    try simp only [Act.put, List.setIfInBounds_toArray, List.set_cons_zero, List.set_cons_succ]
    refine wpAnyH_ready (rs := [2]) (by kernel_rfl) (by simp) ?_
    refine AllReadyH.cons (List.getElem?_toArray.trans rfl) (fun K hK => ?_) AllReadyH.nil
    go_simp
    go_at_call 27
    (with_reducible refine (HV1.out _).mono ?_)
    rintro e w' ⟨rfl, rfl⟩
    refine hK.out _ _ (hHeld) (fun hHeld => ?_)
    clear hK K
    try simp only [Act.put, List.setIfInBounds_toArray, List.set_cons_zero, List.set_cons_succ]
    refine wpAnyH_ready (rs := [5]) (by kernel_rfl) (by simp) ?_
    refine AllReadyH.cons (List.getElem?_toArray.trans rfl) (fun K hK => ?_) AllReadyH.nil
    go_simp
    go_at_call 27
    (with_reducible refine (HV2.out _).mono ?_)
    rintro e w' ⟨rfl, rfl⟩
    refine hK.out _ _ (hHeld) (fun hHeld => ?_)
    clear hK K
    try simp only [Act.put, List.setIfInBounds_toArray, List.set_cons_zero, List.set_cons_succ]
    refine wpAnyH_take (i := 6) (v := ?_) (List.getElem?_toArray.trans rfl) (by kernel_rfl) (by kernel_rfl) (by kernel_rfl) (fun _ _ _ h => h) (Or.inl ⟨by rfl, ?_⟩) hHeld ?_
    rotate_left
    · intro w' hSw; go_simp; try with_reducible rfl
    try simp only [Act.put, List.setIfInBounds_toArray, List.set_cons_zero, List.set_cons_succ]
    refine wpAnyH_take (i := 7) (v := ?_) (List.getElem?_toArray.trans rfl) (by kernel_rfl) (by kernel_rfl) (by kernel_rfl) (fun _ _ _ h => h) (Or.inl ⟨by rfl, ?_⟩) hHeld ?_
    rotate_left
    · intro w' hSw; go_simp; try with_reducible rfl
    try simp only [Act.put, List.setIfInBounds_toArray, List.set_cons_zero, List.set_cons_succ]
    have hz : RB ((w2.alloc (.cells #[.int .u64 0, .int .i64 0, .int .i64 0, .int .i64 0, .int .i64 0, .int .i64 0, .int .i64 0, .int .i64 0, .int .i64 0, .int .i64 0] 25)).drew) w2.heap.size zeroR := Blk.keep0 (Blk.mk w2 25 (rootC zeroR).toArray) (gb_drew _ none)
    refine wpAnyH_ready (rs := [9]) (by kernel_rfl) (by simp) ?_
    refine AllReadyH.cons (List.getElem?_toArray.trans rfl) (fun K hK => ?_) AllReadyH.nil
    refine wp_store_row 25 (.tmp 4) (.tmp 23) rfl w2.heap.size (rootC ⟨v1, (v2 : Nat), [0, 0, 0, 0, 0, 0, 0, 0]⟩).toArray rfl rfl 25 _ hz (root_info _ rfl) rfl (root_one _) ?_
    obtain ⟨hr, hb2, hg2, hh⟩ := new_root hb g3 (show (w2.alloc (.cells #[.int .u64 0, .int .i64 0, .int .i64 0, .int .i64 0, .int .i64 0, .int .i64 0, .int .i64 0, .int .i64 0, .int .i64 0, .int .i64 0] 25)).drew = (w2.alloc (.cells (rootC zeroR).toArray 25)).drew from rfl) ⟨v1, (v2 : Nat), [0, 0, 0, 0, 0, 0, 0, 0]⟩
    refine hK.out _ _ (hh) (fun hHeld => ?_)
    clear hK K
    try simp only [Act.put, List.setIfInBounds_toArray, List.set_cons_zero, List.set_cons_succ]
    generalize (w2.alloc (.cells #[.int .u64 0, .int .i64 0, .int .i64 0, .int .i64 0, .int .i64 0, .int .i64 0, .int .i64 0, .int .i64 0, .int .i64 0, .int .i64 0] 25)).drew.setRow w2.heap.size (rootC ⟨v1, (v2 : Nat), [0, 0, 0, 0, 0, 0, 0, 0]⟩).toArray = W at hr hb2 hg2 ⊢
    refine wpAnyH_done (by kernel_rfl) ?_ _
    refine NoPanic.normal ?_
    rw [← part_zero s.data.toList v1 v2 hv1 hv2] at hr
    have hlp : w.heap.size < w2.heap.size := Blk.lt hb
    go_wp2
    go_loopw [5] (fun i wr => ∃ j : Nat, j ≤ 8 ∧ i = .int .i64 j ∧ RB wr w2.heap.size (partR s.data.toList j) ∧ RB wr w.heap.size zeroR ∧ w.grownBy wr none) (fun i _ => 9 - (intOf i).toNat)
    case atStart => exact ⟨0, by omega, rfl, hr, hb2, hg2⟩
    case round =>
      obtain ⟨j, hj, rfl, r1, b1, g1⟩ := hrel
      by_cases hlt : j < 8
      · have hcell := r1.chunk j (by rw [part_len]; exact hlt)
        rw [Nat.add_comm] at hcell
        have hfree := Blk.free r1 (2 + j)
        obtain ⟨v, hv⟩ : ∃ v, vl ((s.data.toList.take (12 + 2 * j)).drop (10 + 2 * j)) = v := ⟨_, rfl⟩
        have hvb : v < 65536 := by rw [← hv]; exact vl_two _ _ (by rw [List.length_take]; omega)
        have hvw : IntKind.i64.wrap (v : Int) = (v : Int) := IntWalk.i64_in _ (by omega)
        have hsl := fun W => cut_str Tryd.prog 9 Tryd.underlying9 s (10 + 2 * j) (12 + 2 * j) (10 + 2 * (j : Int)) (12 + 2 * (j : Int)) (by omega) (by omega) (by omega) (by omega) W
        have HVJ := Lib.hid (fun W => (value_any (s.extract (10 + 2 * j) (12 + 2 * j)) W (by rw [ByteArray.size_extract]; omega)).mono (fun e w' h => (⟨by rw [h.1, ex_list, hv], h.2⟩ : e = .returned (.int .u64 (v : Nat)) ∧ W = w')))
        generalize s.extract (10 + 2 * j) (12 + 2 * j) = u at hsl HVJ
        have HR := Lib.hid (And.intro (part_store r1 v hv) (And.intro b1 g1))
        clear hv r1 b1 g1 hr hb2 hg2 hHeld
        go_wp2_with (go_at_call 27; (with_reducible refine (HVJ.out _).mono ?_); rintro e w' ⟨rfl, rfl⟩)
        go_roundw
        case rel => exact ⟨j + 1, by omega, by go_num, HR.out.1, Blk.keep HR.out.2.1 (gb_set _ _ _ _ _) (ne_some (by omega)), gb_step HR.out.2.2 (gb_set _ _ _ _ _) (by omega)⟩
        case measure => simp [intOf]; omega
      · obtain rfl : j = 8 := by omega
        rw [part_all] at r1
        clear hr hb2 hg2 hHeld
        have HI := Lib.hid (root_info (readR s.data.toList) (read_len _))
        have HO := Lib.hid (root_one (readR s.data.toList))
        have HP := Lib.hid (fun W => refPut_any (readR s.data.toList) W (read_fit _))
        have HB := Lib.hid b1
        have HG := Lib.hid g1
        have HR := Lib.hid r1
        unfold RV at HP
        obtain ⟨C, hC⟩ : ∃ C, (rootC (readR s.data.toList)).toArray = C := ⟨_, rfl⟩
        have HC := Lib.hid hC
        rw [hC] at HI HP HO
        have hr1 : wr.heap[w2.heap.size]? = some (.cells C 25 (0, 0)) := by rw [← hC]; exact r1
        clear hC r1 b1 g1
        by_cases hm : MayR (readR s.data.toList)
        · by_cases hp : putL (readR s.data.toList) = s.data.toList
          · have HE := Lib.hid (show getF s.data.toList = (readR s.data.toList, 0) by rw [HS.out, if_pos ⟨hm, hp⟩])
            have HK := Lib.hid (show putC (readR s.data.toList) = 0 from if_pos hm)
            have HQ2 := Lib.hid (fun (u : ByteArray) (hu : u.data.toList = putS (readR s.data.toList)) => show (u.toList == s.toList) = true by rw [beq_text u s _ _ hu rfl]; unfold putS; rw [if_pos hm, hp]; exact beq_self_eq_true _)
            clear hm hp
            go_wp2_with (first
              | (refine wpList_load_row rfl 25 (.tmp 4) rfl w2.heap.size rfl 25 C (0, 0) _ hr1 Tryd.underlying25 rfl HI.out ?_)
              | (go_at_call 11; (with_reducible refine (HP.out _).mono ?_); rintro e w5 ⟨u, rfl, hu, g5⟩; rw [HK.out]; have hqu := HQ2.out u hu; have hr1 := Blk.keep0 hr1 g5; have hb5 := Blk.keep0 HB.out g5)
              | (refine wpList_store_row rfl 25 (.tmp 2) (.tmp 54) rfl w.heap.size C rfl rfl 25 _ hb5 HI.out (by rw [← HC.out, List.size_toArray, List.size_toArray, rootC_length _ (read_len _)]; rfl) HO.out ?_)
              | fail)
            have hset := set_root hb5 (readR s.data.toList)
            rw [HC.out] at hset
            refine bodyPost_ret (results_ct rfl _ _ _ (readR s.data.toList) rfl hset (read_len _)) rfl ⟨by rw [HE.out]; rfl, gb_step (gb_trans HG.out g5) (gb_setRow _ _ _) (Nat.le_refl _)⟩
          · have HE := Lib.hid (show getF s.data.toList = (zeroR, 5) by rw [HS.out, if_neg (fun h => hp h.2)])
            have HK := Lib.hid (show putC (readR s.data.toList) = 0 from if_pos hm)
            have HQ2 := Lib.hid (fun (u : ByteArray) (hu : u.data.toList = putS (readR s.data.toList)) => show (u.toList == s.toList) = false by rw [beq_text u s _ _ hu rfl]; unfold putS; rw [if_pos hm]; simpa using hp)
            clear hm hp
            go_wp2_with (first
              | (refine wpList_load_row rfl 25 (.tmp 4) rfl w2.heap.size rfl 25 C (0, 0) _ hr1 Tryd.underlying25 rfl HI.out ?_)
              | (go_at_call 11; (with_reducible refine (HP.out _).mono ?_); rintro e w5 ⟨u, rfl, hu, g5⟩; rw [HK.out]; have hqu := HQ2.out u hu; have hb5 := Blk.keep0 HB.out g5)
              | (refine wpList_store_row rfl 25 (.tmp 2) (.tmp 53) rfl w.heap.size (rootC zeroR).toArray rfl rfl 25 _ hb5 (root_info _ zero_len) rfl (root_one _) ?_)
              | fail)
            refine bodyPost_ret (results_ct rfl _ _ _ zeroR rfl (set_root hb5 _) zero_len) rfl ⟨by rw [HE.out]; rfl, gb_step (gb_trans HG.out g5) (gb_setRow _ _ _) (Nat.le_refl _)⟩
        · have HE := Lib.hid (show getF s.data.toList = (zeroR, 5) by rw [HS.out, if_neg (fun h => hm h.1)])
          have HK := Lib.hid (show putC (readR s.data.toList) = 2 from if_neg hm)
          clear hm
          go_wp2_with (first
            | (refine wpList_load_row rfl 25 (.tmp 4) rfl w2.heap.size rfl 25 C (0, 0) _ hr1 Tryd.underlying25 rfl HI.out ?_)
            | (go_at_call 11; (with_reducible refine (HP.out _).mono ?_); rintro e w5 ⟨u, rfl, hu, g5⟩; rw [HK.out]; have hb5 := Blk.keep0 HB.out g5)
            | (refine wpList_store_row rfl 25 (.tmp 2) (.tmp 53) rfl w.heap.size (rootC zeroR).toArray rfl rfl 25 _ hb5 (root_info _ zero_len) rfl (root_one _) ?_)
            | fail)
          refine bodyPost_ret (results_ct rfl _ _ _ zeroR rfl (set_root hb5 _) zero_len) rfl ⟨by rw [HE.out]; rfl, gb_step (gb_trans HG.out g5) (gb_setRow _ _ _) (Nat.le_refl _)⟩
theorem refGet_any (s : ByteArray) (w : World) : Calls Tryd.prog 15 #[.string s] w (RootGot w (getF s.data.toList)) := by
  by_cases h1 : s.data.toList = zer 256
  · exact refGet_blank s w h1
  · by_cases h2 : s.size = 256
    · exact refGet_long s w h2 h1
    · exact refGet_short s w h2
end Go.Proofs.YtckkbcgolphajaaDoor
