/-
  What the program's own Get answers, over this seat's translation; conditions: the table of places lies as the program's text lays it.
-/
import Derived.Test.YtckkbcgolphajaaDoorQy
namespace Go.Proofs.YtckkbcgolphajaaDoor
open Go.RowKit

theorem bytes_one (l : List UInt8) : ∀ v ∈ bytesC l, v.oneCell' = true := by
  intro v hv
  simp only [bytesC, List.mem_map] at hv
  obtain ⟨b, _, rfl⟩ := hv
  rfl
theorem bytesC_length (l : List UInt8) : (bytesC l).length = l.length := by simp [bytesC]
theorem copy_whole {W : World} {b : Nat} {l : List UInt8} (h : Sec W b l) (s : ByteArray) (hs : s.size = 256) (ty : TypeId) :
    (Builtin.copy_ #[43, 9] ty #[.slice (some ⟨b, 0, none⟩) 256 256, .string s]).run Tryd.prog W = .ok (goInt 256) (W.setRow b (bytesC s.data.toList).toArray) := by
  obtain ⟨cs, hcs⟩ : ∃ cs, cs = bytesC s.data.toList := ⟨_, rfl⟩
  have hsl : s.data.toList.length = 256 := hs
  have hl : cs.length = 256 := by rw [hcs, bytesC_length]; exact hsl
  have hbl : (bytesC l).length = 256 := by rw [bytesC_length]; exact h.2
  have hst := run_storeCells_at Tryd.prog b 0 61 cs 0 (bytesC l).toArray W h.1 (by rw [List.size_toArray, hbl]; omega) (by rw [hcs]; exact bytes_one _)
  have hput : ((bytesC l).toArray.toList.take (0 + 0) ++ cs ++ (bytesC l).toArray.toList.drop (0 + 0 + cs.length)).toArray = (bytesC s.data.toList).toArray := by
    congr 1
    rw [List.drop_of_length_le (by rw [hl]; simp [hbl])]
    simp [hcs]
  rw [hput] at hst
  have htk : List.take (Nat.min s.size 256) (List.map (fun b : UInt8 => Value.int IntKind.u8 (b.toNat : Int)) s.data.toList) = cs := by
    rw [hcs, hs]
    exact List.take_of_length_le (by rw [List.length_map, hsl]; decide)
  have hq : (Tryd.prog.info? 5).map (·.size) = some 1 := by kernel_rfl
  cases hq2 : Tryd.prog.info? 5 with
  | none => simp [hq2] at hq
  | some i =>
    simp [Builtin.copy_, run_underlying Tryd.underlying43, Builtin.lenOf, Builtin.firstCells, sizeOf, typeInfo, hq2]
    rw [htk, hst, hs]
    simp [Result.andThen]
theorem part_byte (l : List UInt8) (k : Nat) (hk : k < l.length) (w : World) : (part 5 (bytesC l).toArray (k * Tryd.prog.cellsOf 5)).run Tryd.prog w = .ok (.int .u8 ((l.getD k 0).toNat : Nat)) w := by
  have h := bytes_at hk
  have hc : Tryd.prog.cellsOf 5 = 1 := by kernel_rfl
  rw [hc, Nat.mul_one]
  simp [part, Tryd.isAgg5, Sem.run_bind, h]
theorem eqItems_bytes (d : Nat) (l r : List UInt8) (hl : l.length = 256) (hr : r.length = 256) (w : World) : ∀ is : List Nat, (∀ k ∈ is, k < 256) → (Op.eqItems (d + 1) 5 (Tryd.prog.cellsOf 5) (bytesC l).toArray (bytesC r).toArray is).run Tryd.prog w = .ok (is.all fun k => l.getD k 0 == r.getD k 0) w
  | [], _ => by simp [Op.eqItems]
  | k :: is, h => by
    have ih := eqItems_bytes d l r hl hr w is (fun x hx => h x (List.mem_cons_of_mem _ hx))
    have hk := h k (List.mem_cons_self ..)
    have he := run_equalIn_int (P := Tryd.prog) (w := w) d 5 .u8 .u8 ((l.getD k 0).toNat : Nat) ((r.getD k 0).toNat : Nat) Tryd.underlying5
    have hb : ((((l.getD k 0).toNat : Nat) : Int) == (((r.getD k 0).toNat : Nat) : Int)) = (l.getD k 0 == r.getD k 0) := by
      rw [Bool.eq_iff_iff, beq_iff_eq, beq_iff_eq, Int.ofNat_inj, UInt8.toNat_inj]
    rw [hb] at he
    simp only [Op.eqItems, Sem.run_bind, part_byte l k (by omega), part_byte r k (by omega), Result.andThen_ok, he, List.all_cons]
    cases l.getD k 0 == r.getD k 0
    · simp
    · simpa using ih
theorem same_bytes (l r : List UInt8) (hl : l.length = 256) (hr : r.length = 256) : ((List.range 256).all fun k => l.getD k 0 == r.getD k 0) = (l == r) := by
  rw [Bool.eq_iff_iff, List.all_eq_true, beq_iff_eq]
  constructor
  · intro h
    refine List.ext_getElem (by omega) fun i h1 h2 => ?_
    have := h i (List.mem_range.2 (by omega))
    rw [beq_iff_eq, List.getD_eq_getElem?_getD, List.getD_eq_getElem?_getD, List.getElem?_eq_getElem h1, List.getElem?_eq_getElem h2] at this
    exact this
  · rintro rfl k _
    exact beq_self_eq_true _
theorem equal_secs (l r : List UInt8) (hl : l.length = 256) (hr : r.length = 256) (w : World) : (Op.equalIn 10000 61 (.agg (bytesC l).toArray) (.agg (bytesC r).toArray)).run Tryd.prog w = .ok (l == r) w := by
  cases hi : Tryd.prog.info? 5 with
  | none => exact absurd hi (by have h : (Tryd.prog.info? 5).isSome = true := by kernel_rfl
                                intro e; rw [e] at h; cases h)
  | some i =>
    rw [show (10000 : Nat) = 9998 + 1 + 1 from rfl, run_equalIn_array w (9998 + 1) _ _ Tryd.underlying61 hi, ← same_bytes l r hl hr]
    exact eqItems_bytes 9998 l r hl hr w _ (fun k hk => List.mem_range.1 hk)
theorem sec_info (l : List UInt8) (h : l.length = 256) : (Tryd.prog.info? 61).map (·.size) = some (bytesC l).toArray.size := by
  rw [List.size_toArray, bytesC_length, h]; kernel_rfl
set_option maxRecDepth 100000 in
set_option maxHeartbeats 2000000 in
theorem get_short (s : ByteArray) (w : World) (hs : s.size ≠ 256) : Calls Tryd.prog 14 #[.string s] w (RootGot w (getF s.data.toList)) := by
  have hne : s.data.toList ≠ zer 256 := fun e => hs (by have := congrArg List.length e; rw [zer_length] at this; exact this)
  have HE := Lib.hid (show getF s.data.toList = (zeroR, 5) by unfold getF; rw [if_neg hne, if_pos (by exact hs)])
  have hs1 : ((s.size : Int) != 256) = true := by simp; omega
  have hb : RB (w.alloc (.cells #[.int .u64 0, .int .i64 0, .int .i64 0, .int .i64 0, .int .i64 0, .int .i64 0, .int .i64 0, .int .i64 0, .int .i64 0, .int .i64 0] 25)) w.heap.size zeroR := Blk.mk w _ _
  clear hs hne
  go_enter Tryd.func14, Tryd.ntmps14
  go_wp2_with (refine wpList_store_row rfl 25 (.tmp 2) (.tmp 11) rfl w.heap.size (rootC zeroR).toArray rfl rfl 25 _ hb (root_info _ zero_len) rfl (root_one _) ?_)
  refine bodyPost_ret (results_ct rfl _ _ _ zeroR rfl (set_root hb _) zero_len) rfl ⟨by rw [HE.out]; rfl, gb_step (gb_alloc _ _ _) (gb_setRow _ _ _) (Nat.le_refl _)⟩
/-- The sector that a text was copied to. -/
theorem copied (w : World) (s : ByteArray) (hs : s.size = 256) : ∃ W b, b = w.heap.size + 1 ∧ (∀ ty, (Builtin.copy_ #[43, 9] ty #[.slice (some ⟨w.heap.size + 1, 0, none⟩) 256 256, .string s]).run Tryd.prog ((w.alloc (.cells #[.int .u64 0, .int .i64 0, .int .i64 0, .int .i64 0, .int .i64 0, .int .i64 0, .int .i64 0, .int .i64 0, .int .i64 0, .int .i64 0] 25)).alloc (.cells (bytesC (zer 256)).toArray 61)) = .ok (goInt 256) W) ∧ Sec W b s.data.toList ∧ RB W w.heap.size zeroR ∧ w.grownBy W none := by
  have k0 : RB (w.alloc (.cells #[.int .u64 0, .int .i64 0, .int .i64 0, .int .i64 0, .int .i64 0, .int .i64 0, .int .i64 0, .int .i64 0, .int .i64 0, .int .i64 0] 25)) w.heap.size zeroR := Blk.mk w _ _
  have g0 := gb_alloc w (.cells #[.int .u64 0, .int .i64 0, .int .i64 0, .int .i64 0, .int .i64 0, .int .i64 0, .int .i64 0, .int .i64 0, .int .i64 0, .int .i64 0] 25) none
  have hsz := World.size_alloc w (.cells #[.int .u64 0, .int .i64 0, .int .i64 0, .int .i64 0, .int .i64 0, .int .i64 0, .int .i64 0, .int .i64 0, .int .i64 0, .int .i64 0] 25)
  generalize w.alloc (.cells #[.int .u64 0, .int .i64 0, .int .i64 0, .int .i64 0, .int .i64 0, .int .i64 0, .int .i64 0, .int .i64 0, .int .i64 0, .int .i64 0] 25) = w1 at k0 g0 hsz ⊢
  have s1 := Sec.mk w1
  have g1 := gb_alloc w1 (.cells (bytesC (zer 256)).toArray 61) none
  rw [hsz] at s1
  refine ⟨_, w.heap.size + 1, rfl, fun ty => copy_whole s1 s hs ty, ⟨setRow_heap _ _ _ _ _ _ s1.1, hs⟩, Blk.keep (RB.keep0 k0 g1) (gb_setRow _ _ _) (ne_some (by omega)), gb_step (gb_trans g0 g1) (gb_setRow _ _ _) (by omega)⟩
set_option maxRecDepth 100000 in
set_option maxHeartbeats 2000000 in
theorem get_blank_any (s : ByteArray) (w : World) (hs : s.data.toList = zer 256) : Calls Tryd.prog 14 #[.string s] w (RootGot w (getF s.data.toList)) := by
  have HE := Lib.hid (show getF s.data.toList = (zeroR, 9) by rw [hs]; rfl)
  have hsz : s.size = 256 := by show s.data.size = 256; rw [← Array.length_toList, hs, zer_length]
  have hs1 : ((s.size : Int) != 256) = false := by simp; omega
  obtain ⟨W, b, hbw, hcp, hsec, hb, hg⟩ := copied w s hsz
  subst hbw
  have hz := zeroSec
  have HI := Lib.hid (sec_info s.data.toList hsec.2)
  have he := fun W => equal_secs s.data.toList (zer 256) hsec.2 (zer_length _) W
  rw [show (s.data.toList == zer 256) = true from by rw [hs]; exact beq_self_eq_true _] at he
  have HB := Lib.hid hsec.1
  have HG := Lib.hid (And.intro hb hg)
  clear hsec hb hg hs
  generalize (bytesC s.data.toList).toArray = C at HI HB he
  go_enter Tryd.func14, Tryd.ntmps14
  go_wp2_with (first
    | (refine wpList_load_row rfl 61 (.tmp 4) rfl (w.heap.size + 1) rfl 61 C (0, 0) _ HB.out Tryd.underlying61 rfl HI.out ?_)
    | (refine wpList_store_row rfl 25 (.tmp 2) (.tmp 18) rfl w.heap.size (rootC zeroR).toArray rfl rfl 25 _ HG.out.1 (root_info _ zero_len) rfl (root_one _) ?_)
    | fail)
  refine bodyPost_ret (results_ct rfl _ _ _ zeroR rfl (set_root HG.out.1 _) zero_len) rfl ⟨by rw [HE.out]; rfl, gb_step HG.out.2 (gb_setRow _ _ _) (Nat.le_refl _)⟩
set_option maxRecDepth 100000 in
set_option maxHeartbeats 4000000 in
theorem get_long (s : ByteArray) (w : World) (hP : Pl w) (hsz : s.size = 256) (hne : s.data.toList ≠ zer 256) : Calls Tryd.prog 14 #[.string s] w (RootGot w (getF s.data.toList)) := by
  have HS := Lib.hid (show getF s.data.toList = if MayR (readR s.data.toList) ∧ putL (readR s.data.toList) = s.data.toList then (readR s.data.toList, 0) else (zeroR, 5) by unfold getF; rw [if_neg hne, if_neg (by rw [show s.data.toList.length = s.size from rfl, hsz]; simp)])
  have hs1 : ((s.size : Int) != 256) = false := by simp; omega
  obtain ⟨W, b, hbw, hcp, hsec, hb, hg⟩ := copied w s hsz
  subst hbw
  have hz := zeroSec
  have HI := Lib.hid (sec_info s.data.toList hsec.2)
  have he := fun W => equal_secs s.data.toList (zer 256) hsec.2 (zer_length _) W
  rw [show (s.data.toList == zer 256) = false from by simpa using hne] at he
  have HT := Lib.hid (told_any (w.heap.size + 1) s.data.toList W (hP.keep0 hg) hsec)
  have HB := Lib.hid hsec.1
  have HG := Lib.hid (And.intro hb hg)
  have HR := Lib.hid (read_len s.data.toList)
  have HP := Lib.hid (fun W (h : Pl W) => put_any (readR s.data.toList) W h (read_fit _))
  have HW := Lib.hid hP
  have HX := Lib.hid (show MayR (readR s.data.toList) ∧ putL (readR s.data.toList) = s.data.toList → ∀ u : ByteArray, u.data.toList = putS (readR s.data.toList) → (u.toList == s.toList) = true from fun h u hu => by rw [beq_text u s _ _ hu rfl]; unfold putS; rw [if_pos h.1, h.2]; exact beq_self_eq_true _)
  have HY := Lib.hid (show ¬ (MayR (readR s.data.toList) ∧ putL (readR s.data.toList) = s.data.toList) → ∀ u : ByteArray, u.data.toList = putS (readR s.data.toList) → (u.toList == s.toList) = false from fun h u hu => by
    rw [beq_text u s _ _ hu rfl]
    unfold putS
    by_cases hm : MayR (readR s.data.toList)
    · rw [if_pos hm]; simpa using fun e => h ⟨hm, e⟩
    · rw [if_neg hm]
      have hl : s.data.toList.length = 256 := hsz
      cases hc : s.data.toList with
      | nil => rw [hc] at hl; cases hl
      | cons a l => rfl)
  clear hsec hb hg hne hP
  generalize (bytesC s.data.toList).toArray = C at HI HB he
  unfold RV at HP HT
  obtain ⟨q, hq⟩ : ∃ q, readR s.data.toList = q := ⟨_, rfl⟩
  rw [hq] at HS HT HR HP HX HY
  clear hq
  by_cases hm : MayR q ∧ putL q = s.data.toList
  · have HE := Lib.hid (show getF s.data.toList = (q, 0) by rw [HS.out, if_pos hm])
    have HQ := Lib.hid (HX.out hm)
    clear hm
    go_enter Tryd.func14, Tryd.ntmps14
    go_wp2_with (first
      | (refine wpList_load_row rfl 61 (.tmp 4) rfl (w.heap.size + 1) rfl 61 C (0, 0) _ HB.out Tryd.underlying61 rfl HI.out ?_)
      | (go_at_call 26; (with_reducible refine (HT.out).mono ?_); rintro e w2 ⟨rfl, g2⟩; have k2 := RB.keep0 HG.out.1 g2; have gg := gb_trans HG.out.2 g2)
      | ((with_reducible refine stN 5 19 q HR.out ?_ ?_ ?_); rfl; rfl; have q3 : RB (w2.alloc (.cells (rootC q).toArray 25)) w2.heap.size q := Blk.mk w2 _ _; have k3 := RB.keep0 k2 (gb_alloc w2 (.cells (rootC q).toArray 25) none); have gg3 := gb_trans gg (gb_alloc w2 (.cells (rootC q).toArray 25) none); generalize w2.alloc (.cells (rootC q).toArray 25) = w3 at q3 k3 gg3 ⊢)
      | ((with_reducible refine ld 5 (w2.heap.size) q HR.out q3 ?_ ?_); rfl)
      | (go_at_call 10; (with_reducible refine (HP.out _ (HW.out.keep0 gg3)).mono ?_); rintro e w4 ⟨u, rfl, hu, g4⟩; have hbq := HQ.out u hu; have q3 := RB.keep0 q3 g4; have k3 := RB.keep0 k3 g4; have gg3 := gb_trans gg3 g4)
      | (refine wpList_store_row rfl 25 (.tmp 2) (.tmp 29) rfl w.heap.size (rootC q).toArray rfl rfl 25 _ k3 (root_info _ HR.out) (root_size _ HR.out) (root_one _) ?_)
      | fail)
    refine bodyPost_ret (results_ct rfl _ _ _ q rfl (set_root k3 _) HR.out) rfl ⟨by rw [HE.out]; rfl, gb_step gg3 (gb_setRow _ _ _) (Nat.le_refl _)⟩
  · have HE := Lib.hid (show getF s.data.toList = (zeroR, 5) by rw [HS.out, if_neg hm])
    have HQ := Lib.hid (HY.out hm)
    clear hm
    go_enter Tryd.func14, Tryd.ntmps14
    go_wp2_with (first
      | (refine wpList_load_row rfl 61 (.tmp 4) rfl (w.heap.size + 1) rfl 61 C (0, 0) _ HB.out Tryd.underlying61 rfl HI.out ?_)
      | (go_at_call 26; (with_reducible refine (HT.out).mono ?_); rintro e w2 ⟨rfl, g2⟩; have k2 := RB.keep0 HG.out.1 g2; have gg := gb_trans HG.out.2 g2)
      | ((with_reducible refine stN 5 19 q HR.out ?_ ?_ ?_); rfl; rfl; have q3 : RB (w2.alloc (.cells (rootC q).toArray 25)) w2.heap.size q := Blk.mk w2 _ _; have k3 := RB.keep0 k2 (gb_alloc w2 (.cells (rootC q).toArray 25) none); have gg3 := gb_trans gg (gb_alloc w2 (.cells (rootC q).toArray 25) none); generalize w2.alloc (.cells (rootC q).toArray 25) = w3 at q3 k3 gg3 ⊢)
      | ((with_reducible refine ld 5 (w2.heap.size) q HR.out q3 ?_ ?_); rfl)
      | (go_at_call 10; (with_reducible refine (HP.out _ (HW.out.keep0 gg3)).mono ?_); rintro e w4 ⟨u, rfl, hu, g4⟩; have hbq := HQ.out u hu; have q3 := RB.keep0 q3 g4; have k3 := RB.keep0 k3 g4; have gg3 := gb_trans gg3 g4)
      | (refine wpList_store_row rfl 25 (.tmp 2) (.tmp 28) rfl w.heap.size (rootC zeroR).toArray rfl rfl 25 _ k3 (root_info _ zero_len) rfl (root_one _) ?_)
      | fail)
    refine bodyPost_ret (results_ct rfl _ _ _ zeroR rfl (set_root k3 _) zero_len) rfl ⟨by rw [HE.out]; rfl, gb_step gg3 (gb_setRow _ _ _) (Nat.le_refl _)⟩
theorem get_any (s : ByteArray) (w : World) (hP : Pl w) : Calls Tryd.prog 14 #[.string s] w (RootGot w (getF s.data.toList)) := by
  by_cases h1 : s.size = 256
  · by_cases h2 : s.data.toList = zer 256
    · exact get_blank_any s w h2
    · exact get_long s w hP h1 h2
  · exact get_short s w h1
end Go.Proofs.YtckkbcgolphajaaDoor
