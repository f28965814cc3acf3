/-
  What the program's own Put answers, over this seat's translation; conditions: the root's numbers fit, the table of places lies as the program's text lays it.
-/
import Derived.Test.YtckkbcgolphajaaDoorQu
namespace Go.Proofs.YtckkbcgolphajaaDoor
open Go.RowKit

theorem zeroSec (w : World) : (zeroValue 61).run Tryd.prog w = .ok (.agg (bytesC (zer 256)).toArray) w := by
  have : (zeroValue 61).run Tryd.prog w = .ok (.agg (List.replicate 256 (Value.int .u8 0)).toArray) w := by kernel_rfl
  rw [this, bytes_zero]
theorem Sec.mk (w : World) : Sec (w.alloc (.cells (bytesC (zer 256)).toArray 61)) w.heap.size (zer 256) := ⟨Blk.mk _ _ _, zer_length _⟩
theorem sec_str {W : World} {b : Nat} {l : List UInt8} (h : Sec W b l) (cap : Nat) : (convert 43 9 (.slice (some ⟨b, 0, none⟩) 256 cap)).run Tryd.prog W = .ok (.string ⟨l.toArray⟩) W :=
  run_convert_bytes_back W 43 9 5 ⟨b, 0, none⟩ cap l Tryd.underlying43 Tryd.underlying5 Tryd.underlying9 (fun j hj => by
    have hj' : j < 256 := by rw [← h.2]; exact hj
    rw [add_at, Nat.zero_add, h.byte j hj']
    simp [List.getD_eq_getElem?_getD, hj]) |> fun e => by rw [h.2] at e; exact e
theorem putAt_pre (p r : List UInt8) (m n : Nat) (hm : n = p.length) (h : r.length ≤ m) : putAt (p ++ zer m) n r = (p ++ r) ++ zer (m - r.length) := by
  subst hm
  unfold putAt
  rw [take_at _ _ _ rfl, drop_at p (zer m) (p.length + r.length) r.length rfl, zer_drop]
theorem putAt_gap (p r : List UInt8) (m n k : Nat) (hn : n = p.length + k) (h : k + r.length = m) : putAt (p ++ zer m) n r = p ++ (zer k ++ r) := by
  subst hn; subst h
  unfold putAt
  rw [drop_at p _ _ (k + r.length) (by omega), zer_drop, Nat.sub_self]
  rw [List.take_append, List.take_of_length_le (by omega), show p.length + k - p.length = k by omega, zer_take k _ (by omega)]
  simp [zer]
/-- The sector as far as it is laid: the Epoch, Sectors, so many chunks. -/
def preL (r : Rt) (i : Nat) : List UInt8 := dg r.e 8 ++ (dg r.n.toNat 2 ++ chunksL (r.cs.take i))
theorem preL_length (r : Rt) (i : Nat) (h : i ≤ r.cs.length) : (preL r i).length = 10 + 2 * i := by
  unfold preL
  rw [List.length_append, List.length_append, dg_length, dg_length, chunksL_length, List.length_take]; omega
theorem lay0 (r : Rt) : putAt (zer 256) 0 (dg r.e 8) = dg r.e 8 ++ zer 248 := by
  have := putAt_pre [] (dg r.e 8) 256 0 rfl (by rw [dg_length]; decide)
  rw [dg_length] at this
  exact this
theorem lay1 (r : Rt) : putAt (dg r.e 8 ++ zer 248) 8 (dg r.n.toNat 2) = preL r 0 ++ zer 246 := by
  have := putAt_pre (dg r.e 8) (dg r.n.toNat 2) 248 8 (by rw [dg_length]) (by rw [dg_length]; decide)
  rw [dg_length] at this
  rw [this]
  unfold preL chunksL
  simp
theorem lay2 (r : Rt) (i : Nat) (hi : i < 8) (hl : r.cs.length = 8) : putAt (preL r i ++ zer (246 - 2 * i)) (10 + 2 * i) (dg (r.cs.getD i 0).toNat 2) = preL r (i + 1) ++ zer (246 - 2 * (i + 1)) := by
  have := putAt_pre (preL r i) (dg (r.cs.getD i 0).toNat 2) (246 - 2 * i) (10 + 2 * i) (preL_length r i (by omega)).symm (by rw [dg_length]; omega)
  rw [dg_length] at this
  rw [this]
  congr 1
  · unfold preL
    rw [chunks_snoc r.cs i (by omega)]
    simp
theorem lay3 (r : Rt) (hl : r.cs.length = 8) : putAt (preL r 8 ++ zer 230) 248 (dg r.e 8) = putL r := by
  rw [putAt_gap (preL r 8) (dg r.e 8) 230 248 222 (by rw [preL_length r 8 (by omega)]) (by rw [dg_length])]
  unfold preL putL
  rw [chunks_all r.cs hl]
  simp
/-- What a number laid leaves of the rest. -/
theorem after_lay {w W W1 W2 : World} {b p x a n h : Nat} {r : Rt} {l : List UInt8} {e : Ending} (hg : w.grownBy W none) (hb : w.heap.size ≤ b) (hbW : b < W.heap.size) (hh : RB W h r) (hhb : h ≠ b) (M : Made W W1 b p x a n) (L : Laid W1 b p x a n l e W2) : RB W2 h r ∧ w.grownBy W2 none := by
  obtain ⟨m1, m2, m3, m4, m5, m6⟩ := M
  obtain ⟨_, _, _, _, l5⟩ := L
  have hlt := Blk.lt hh
  have hsz := hg.size
  exact ⟨l5.blk (RB.keep0 hh m6) hhb (by omega), l5.grown (gb_trans hg m6) hb (by omega)⟩
theorem lay_made {W W1 : World} {b p x a n N : Nat} {l : List UInt8} (hbW : b < W.heap.size) (M : Made W W1 b p x a n) (hs : Sec W b l) (han : a + n ≤ 256) (hn : n ≤ 8) (hN : N < 18446744073709551616) :
    Calls Tryd.prog 29 #[.int .u64 (N : Nat), .pointer (some ⟨p, 0, none⟩), .pointer (some ⟨x, 0, none⟩)] W1 (Laid W1 b p x a n (putAt l a (dg N n))) := by
  obtain ⟨m1, m2, m3, m4, m5, m6⟩ := M
  exact lay_any b p x a n N l W1 (hs.keep0 m6) m4 m5 (by omega) (by omega) m3 han hn hN
set_option maxRecDepth 100000 in
set_option maxHeartbeats 2000000 in
theorem put_no (r : Rt) (w : World) (hr : Fit r) (hm : ¬ MayR r) : Calls Tryd.prog 10 #[RV r] w (PutGot w r) := by
  have HC := Lib.hid (show putC r = 2 from if_neg hm)
  have HS := Lib.hid (show putS r = [] from if_neg hm)
  have HI := Lib.hid (root_info r hr.1)
  have HF := Lib.hid (fun W => refused_any r W hr)
  rw [HC.out] at HF
  unfold RV at HF ⊢
  generalize (rootC r).toArray = C at HF HI ⊢
  clear hr hm
  go_enter Tryd.func10, Tryd.ntmps10
  go_wp2_with (first
    | (refine wpList_load_row rfl 25 (.tmp 1) rfl w.heap.size rfl 25 C (0, 0) _ (heap_alloc_new _ _) Tryd.underlying25 rfl HI.out ?_)
    | (go_at_call 21; (with_reducible refine (HF.out _).mono ?_); rintro e w2 ⟨rfl, g2⟩)
    | fail)
  go_ret2
  exact ⟨⟨#[]⟩, by rw [HC.out]; rfl, by rw [HS.out], gb_trans (gb_alloc _ _ _) g2⟩
set_option maxRecDepth 100000 in
set_option maxHeartbeats 4000000 in
theorem put_yes (r : Rt) (w : World) (hP : Pl w) (hr : Fit r) (hm : MayR r) : Calls Tryd.prog 10 #[RV r] w (PutGot w r) := by
  have HC := Lib.hid (show putC r = 0 from if_pos hm)
  have HS := Lib.hid (show putS r = putL r from if_pos hm)
  have HI := Lib.hid (root_info r hr.1)
  have HF := Lib.hid (fun W => refused_any r W hr)
  rw [HC.out] at HF
  have k0 : RB (w.alloc (.cells (rootC r).toArray 25)) w.heap.size r := Blk.mk w _ _
  have g0 := gb_alloc w (.cells (rootC r).toArray 25) none
  have HR := Lib.hid hr
  have HM := Lib.hid hm
  have HP := Lib.hid hP
  have hz := zeroSec
  unfold RV at HF ⊢
  clear hr hm hP
  go_enter Tryd.func10, Tryd.ntmps10
  go_wp2_with (first
    | (refine wpList_load_row rfl 25 (.tmp 1) rfl w.heap.size rfl 25 (rootC r).toArray (0, 0) _ (heap_alloc_new _ _) Tryd.underlying25 rfl HI.out ?_)
    | (go_at_call 21; (with_reducible refine (HF.out _).mono ?_); rintro e w2 ⟨rfl, g2⟩; have k2 := RB.keep0 k0 g2; have gg := gb_trans g0 g2)
    | fail)
  have s3 := Sec.mk w2
  have k3 := RB.keep0 k2 (gb_alloc w2 (.cells (bytesC (zer 256)).toArray 61) none)
  have gg := gb_trans gg (gb_alloc w2 (.cells (bytesC (zer 256)).toArray 61) none)
  have hbw := g2.size
  rw [World.size_alloc] at hbw
  have hbW : w2.heap.size < (w2.alloc (.cells (bytesC (zer 256)).toArray 61)).heap.size := by rw [World.size_alloc]; omega
  generalize w2.alloc (.cells (bytesC (zer 256)).toArray 61) = w3 at s3 k3 gg hbW ⊢
  generalize w2.heap.size = b at s3 k3 gg hbW hbw ⊢
  have hb : w.heap.size ≤ b := by omega
  have hhb : w.heap.size ≠ b := by omega
  have hcs : r.cs.length = 8 := HR.out.1
  have he : r.e < 18446744073709551616 := HR.out.2.1
  obtain ⟨n, hn⟩ : ∃ n : Nat, r.n = (n : Int) := ⟨r.n.toNat, by have := HM.out.2.1; omega⟩
  have HNN := Lib.hid (show n = r.n.toNat by rw [hn]; rfl)
  have hn1 : n ≤ 1024 := by have := HM.out.2.2.1; omega
  have hnw : IntKind.u64.wrap (n : Int) = (n : Int) := u64_small _ (by omega)
  have HB := Lib.hid (fun i (hi : i < 8) => may_chunk HM.out i hi)
  have HI8 := Lib.hid (eight_info r hcs)
  have s := s3
  have kk := k3
  clear k0 g0 k2 g2 hz s3 k3
  -- BEHIND qx.py
  have s5 := Sec.keep0 s (gb_drew w3 none)
  have k5 := RB.keep0 kk (gb_drew w3 none)
  have g5 := gb_trans gg (gb_drew w3 none)
  have b5 : b < w3.drew.heap.size := hbW
  refine wp_region_noPanic ?_
  refine wp_region_held_drew (S := fun w' => RB w' w.heap.size r) (by kernel_rfl) k5 (fun hHeld => ?_)
  generalize w3.drew = u5 at s5 k5 g5 b5 hHeld ⊢
  clear s kk gg hbW
  refine wpAnyH_take (i := 1) (v := ?_) (List.getElem?_toArray.trans rfl) (by kernel_rfl) (by kernel_rfl) (by kernel_rfl) (fun _ _ _ h => h) (Or.inl ⟨by rfl, ?_⟩) hHeld ?_
  rotate_left
  · intro w' hSw; go_simp; try with_reducible rfl
  try simp only [Act.put, List.setIfInBounds_toArray, List.set_cons_zero, List.set_cons_succ]
  refine wpAnyH_take (i := 2) (v := ?_) (List.getElem?_toArray.trans rfl) (by kernel_rfl) (by kernel_rfl) (by kernel_rfl) (fun _ _ _ h => h) (Or.inl ⟨by rfl, ?_⟩) hHeld ?_
  rotate_left
  · intro w' hSw; have hc := RB.epoch hSw; go_simp; try with_reducible rfl
  try simp only [Act.put, List.setIfInBounds_toArray, List.set_cons_zero, List.set_cons_succ]
  refine wpAnyH_ready (rs := [0]) (by kernel_rfl) (by simp) ?_
  refine AllReadyH.cons (List.getElem?_toArray.trans rfl) (fun K hK => ?_) AllReadyH.nil
  go_simp
  go_at_call 22
  (with_reducible refine (layer_any b 0 0 8 0 _ (HP.out.keep0 g5) rfl (by decide) rfl rfl).mono ?_)
  rintro e v5 ⟨p5, x5, rfl, M5⟩
  refine hK.out _ _ (RB.keep0 k5 M5.2.2.2.2.2) (fun hHeld => ?_)
  clear hK K
  try simp only [Act.put, List.setIfInBounds_toArray, List.set_cons_zero, List.set_cons_succ]
  refine wpAnyH_ready (rs := [3]) (by kernel_rfl) (by simp) ?_
  refine AllReadyH.cons (List.getElem?_toArray.trans rfl) (fun K hK => ?_) AllReadyH.nil
  go_simp
  go_at_call 29
  (with_reducible refine (lay_made b5 M5 s5 (by decide) (by decide) he).mono ?_)
  rintro e w5 L5
  obtain ⟨kk, gg⟩ := after_lay g5 hb b5 k5 hhb M5 L5
  have hbW : b < w5.heap.size := Blk.lt L5.2.1.1
  obtain ⟨rfl, s, _, _, _⟩ := L5
  rw [lay0] at s
  refine hK.out _ _ kk (fun hHeld => ?_)
  clear hK K
  try simp only [Act.put, List.setIfInBounds_toArray, List.set_cons_zero, List.set_cons_succ]
  clear s5 k5 g5 b5 M5
  refine wpAnyH_done (by kernel_rfl) ?_ _
  refine NoPanic.normal ?_
  go_wp2
  have s6 := Sec.keep0 s (gb_drew w5 none)
  have k6 := RB.keep0 kk (gb_drew w5 none)
  have g6 := gb_trans gg (gb_drew w5 none)
  have b6 : b < w5.drew.heap.size := hbW
  refine wp_region_noPanic ?_
  refine wp_region_held_drew (S := fun w' => RB w' w.heap.size r) (by kernel_rfl) k6 (fun hHeld => ?_)
  generalize w5.drew = u6 at s6 k6 g6 b6 hHeld ⊢
  clear s kk gg hbW
  refine wpAnyH_take (i := 1) (v := ?_) (List.getElem?_toArray.trans rfl) (by kernel_rfl) (by kernel_rfl) (by kernel_rfl) (fun _ _ _ h => h) (Or.inl ⟨by rfl, ?_⟩) hHeld ?_
  rotate_left
  · intro w' hSw; go_simp; try with_reducible rfl
  try simp only [Act.put, List.setIfInBounds_toArray, List.set_cons_zero, List.set_cons_succ]
  refine wpAnyH_take (i := 2) (v := ?_) (List.getElem?_toArray.trans rfl) (by kernel_rfl) (by kernel_rfl) (by kernel_rfl) (fun _ _ _ h => h) (Or.inl ⟨by rfl, ?_⟩) hHeld ?_
  rotate_left
  · intro w' hSw; have hc := RB.sectors hSw; rw [hn] at hc; go_simp; try with_reducible rfl
  try simp only [Act.put, List.setIfInBounds_toArray, List.set_cons_zero, List.set_cons_succ]
  refine wpAnyH_take (i := 3) (v := ?_) (List.getElem?_toArray.trans rfl) (by kernel_rfl) (by kernel_rfl) (by kernel_rfl) (fun _ _ _ h => h) (Or.inl ⟨by rfl, ?_⟩) hHeld ?_
  rotate_left
  · intro w' hSw; go_simp; try with_reducible rfl
  try simp only [Act.put, List.setIfInBounds_toArray, List.set_cons_zero, List.set_cons_succ]
  refine wpAnyH_ready (rs := [0]) (by kernel_rfl) (by simp) ?_
  refine AllReadyH.cons (List.getElem?_toArray.trans rfl) (fun K hK => ?_) AllReadyH.nil
  go_simp
  go_at_call 22
  (with_reducible refine (layer_any b 1 8 2 1 _ (HP.out.keep0 g6) rfl (by decide) rfl rfl).mono ?_)
  rintro e v6 ⟨p6, x6, rfl, M6⟩
  refine hK.out _ _ (RB.keep0 k6 M6.2.2.2.2.2) (fun hHeld => ?_)
  clear hK K
  try simp only [Act.put, List.setIfInBounds_toArray, List.set_cons_zero, List.set_cons_succ]
  refine wpAnyH_ready (rs := [4]) (by kernel_rfl) (by simp) ?_
  refine AllReadyH.cons (List.getElem?_toArray.trans rfl) (fun K hK => ?_) AllReadyH.nil
  go_simp
  go_at_call 29
  (with_reducible refine (lay_made b6 M6 s6 (by decide) (by decide) (by omega)).mono ?_)
  rintro e w6 L6
  obtain ⟨kk, gg⟩ := after_lay g6 hb b6 k6 hhb M6 L6
  have hbW : b < w6.heap.size := Blk.lt L6.2.1.1
  obtain ⟨rfl, s, _, _, _⟩ := L6
  rw [HNN.out, lay1] at s
  refine hK.out _ _ kk (fun hHeld => ?_)
  clear hK K
  try simp only [Act.put, List.setIfInBounds_toArray, List.set_cons_zero, List.set_cons_succ]
  clear s6 k6 g6 b6 M6
  refine wpAnyH_done (by kernel_rfl) ?_ _
  refine NoPanic.normal ?_
  go_wp2_with (first
    | (go_at_call 22; (with_reducible refine (layer_any b 2 10 2 2 _ (HP.out.keep0 gg) rfl (by decide) rfl rfl).mono ?_); rintro e w7 ⟨p, x, rfl, M7⟩; have kk := RB.keep0 kk M7.2.2.2.2.2; have s := Sec.keep0 s M7.2.2.2.2.2; have hR8 := rb_range kk hcs; have hpx := And.intro M7.1 M7.2.1; have hxp := M7.2.2.1; have mp := M7.2.2.2.1; have mx := M7.2.2.2.2.1; have gg := gb_trans gg M7.2.2.2.2.2; have hbW7 := hbW; have hbW : b < w7.heap.size := Blk.lt s.1)
    | (refine wpList_load_mid rfl 23 (.tmp 24) rfl w.heap.size 2 rfl (eightC r) _ hR8 Tryd.underlying23 rfl HI8.out ?_)
    | fail)
  have hbp : b < p := by have := hpx.1; omega
  have hbx : b < x := by have := hpx.2; omega
  clear M7 hR8
  have HP7 := Lib.hid gg
  go_loopw [26] (fun v wr => ∃ i : Nat, i ≤ 8 ∧ v = .int .i64 i ∧ Sec wr b (preL r i ++ zer (246 - 2 * i)) ∧ Plc wr p (10 + 2 * i) 2 ∧ Box wr x b ∧ RB wr w.heap.size r ∧ w.grownBy wr none) (fun v _ => 9 - (intOf v).toNat)
  case atStart => exact ⟨0, by omega, rfl, s, mp, mx, kk, gg⟩
  case round =>
    obtain ⟨i, hi, rfl, s, mp, mx, kk, gg⟩ := hrel
    by_cases hlt : i < 8
    · have hix := index_eight r i hlt hcs
      have hcb := HB.out i hlt
      obtain ⟨c, hc⟩ : ∃ c : Nat, r.cs.getD i 0 = (c : Int) := ⟨(r.cs.getD i 0).toNat, by omega⟩
      rw [hc] at hix hcb
      have hcw : IntKind.u64.wrap (c : Int) = (c : Int) := u64_small _ (by omega)
      have HC2 := Lib.hid (show c = (r.cs.getD i 0).toNat by rw [hc]; rfl)
      clear hc
      go_wp2_with (first
        | (go_at_call 29; (with_reducible refine (lay_any b p x (10 + 2 * i) 2 c _ _ s mp mx (by omega) (by omega) hxp (by omega) (by decide) (by omega)).mono ?_); rintro e w8 ⟨rfl, s8, m8, x8, ch⟩)
        | fail)
      rw [HC2.out, lay2 r i hlt hcs] at s8
      have k8 := ch.blk kk hhb (by omega)
      have g8 := ch.grown gg hb (by omega)
      go_roundw
      case rel => exact ⟨i + 1, by omega, by go_num, s8, m8, x8, k8, g8⟩
      case measure => simp [intOf]; omega
    · obtain rfl : i = 8 := by omega
      have hbW : b < wr.heap.size := Blk.lt s.1
      clear mp mx
      go_wp2
      have s13 := Sec.keep0 s (gb_drew wr none)
      have k13 := RB.keep0 kk (gb_drew wr none)
      have g13 := gb_trans gg (gb_drew wr none)
      have b13 : b < wr.drew.heap.size := hbW
      refine wp_region_noPanic ?_
      refine wp_region_held_drew (S := fun w' => RB w' w.heap.size r) (by kernel_rfl) k13 (fun hHeld => ?_)
      generalize wr.drew = u13 at s13 k13 g13 b13 hHeld ⊢
      clear s kk gg hbW
      refine wpAnyH_take (i := 1) (v := ?_) (List.getElem?_toArray.trans rfl) (by kernel_rfl) (by kernel_rfl) (by kernel_rfl) (fun _ _ _ h => h) (Or.inl ⟨by rfl, ?_⟩) hHeld ?_
      rotate_left
      · intro w' hSw; go_simp; try with_reducible rfl
      try simp only [Act.put, List.setIfInBounds_toArray, List.set_cons_zero, List.set_cons_succ]
      refine wpAnyH_take (i := 2) (v := ?_) (List.getElem?_toArray.trans rfl) (by kernel_rfl) (by kernel_rfl) (by kernel_rfl) (fun _ _ _ h => h) (Or.inl ⟨by rfl, ?_⟩) hHeld ?_
      rotate_left
      · intro w' hSw; have hc := RB.epoch hSw; go_simp; try with_reducible rfl
      try simp only [Act.put, List.setIfInBounds_toArray, List.set_cons_zero, List.set_cons_succ]
      refine wpAnyH_ready (rs := [0]) (by kernel_rfl) (by simp) ?_
      refine AllReadyH.cons (List.getElem?_toArray.trans rfl) (fun K hK => ?_) AllReadyH.nil
      go_simp
      go_at_call 22
      (with_reducible refine (layer_any b 3 248 8 3 _ (HP.out.keep0 g13) rfl (by decide) rfl rfl).mono ?_)
      rintro e v13 ⟨p13, x13, rfl, M13⟩
      refine hK.out _ _ (RB.keep0 k13 M13.2.2.2.2.2) (fun hHeld => ?_)
      clear hK K
      try simp only [Act.put, List.setIfInBounds_toArray, List.set_cons_zero, List.set_cons_succ]
      refine wpAnyH_ready (rs := [3]) (by kernel_rfl) (by simp) ?_
      refine AllReadyH.cons (List.getElem?_toArray.trans rfl) (fun K hK => ?_) AllReadyH.nil
      go_simp
      go_at_call 29
      (with_reducible refine (lay_made b13 M13 s13 (by decide) (by decide) he).mono ?_)
      rintro e w13 L13
      obtain ⟨kk, gg⟩ := after_lay g13 hb b13 k13 hhb M13 L13
      have hbW : b < w13.heap.size := Blk.lt L13.2.1.1
      obtain ⟨rfl, s, _, _, _⟩ := L13
      rw [lay3 r hcs] at s
      refine hK.out _ _ kk (fun hHeld => ?_)
      clear hK K
      try simp only [Act.put, List.setIfInBounds_toArray, List.set_cons_zero, List.set_cons_succ]
      clear s13 k13 g13 b13 M13
      refine wpAnyH_done (by kernel_rfl) ?_ _
      refine NoPanic.normal ?_
      have hst := sec_str s 256
      go_wp2
      go_ret2
      exact ⟨⟨(putL r).toArray⟩, by rw [HC.out]; rfl, by rw [HS.out], gg⟩
theorem put_any (r : Rt) (w : World) (hP : Pl w) (hr : Fit r) : Calls Tryd.prog 10 #[RV r] w (PutGot w r) := by
  by_cases hm : MayR r
  · exact put_yes r w hP hr hm
  · exact put_no r w hr hm
end Go.Proofs.YtckkbcgolphajaaDoor
