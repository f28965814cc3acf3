/-
  What vary.readField answers, over this seat's translation; conditions: the variable 'left' is a block of its own that holds a slice of bytes, at most a million of them; the slice of fields reads as a list, at most a million of them.
-/
import Derived.Test.YtcifabichcjjjaaDoorVRf
namespace Go.Proofs.YtcifabichcjjjaaDoor
open Go.RowKit

theorem Lf.keepR {w w' : World} {b r : Nat} {l : List UInt8} (h : Lf w b l) (g : w.grownBy w' (some r)) (hr : b < r) : Lf w' b l := by
  obtain ⟨ao, cap, h1, h2, h3, h4⟩ := h
  refine ⟨ao, cap, h1.keep g (ne_some (by omega)), h2, h3, fun a e => ⟨(h4 a e).1, fun j u hj => g.cell ((h4 a e).2 j u hj) (ne_some ?_)⟩⟩
  have := (h4 a e).1
  rw [add_block]; omega
/-- The field's two blocks at the call's start. -/
theorem fd_start (w : World) (t : Int) (x : Bool) : ∃ w0 : World, w0 = (w.alloc (.cells #[.int .i64 0, .bool false, .int .u64 0, .string ⟨#[]⟩] 29)).alloc (.cells #[.int .i64 t, .bool x, .int .u64 0, .string ⟨#[]⟩] 29) ∧ w.grownBy w0 none ∧
    Blk w0 w.heap.size 29 #[.int .i64 0, .bool false, .int .u64 0, .string ⟨#[]⟩] ∧ Blk w0 (w.heap.size + 1) 29 #[.int .i64 t, .bool x, .int .u64 0, .string ⟨#[]⟩] := by
  refine ⟨_, rfl, gb_trans (gb_alloc _ _ _) (gb_alloc _ _ _), (Blk.mk _ _ _).keep0 (gb_alloc _ _ _), ?_⟩
  have := Blk.mk (w.alloc (.cells #[.int .i64 0, .bool false, .int .u64 0, .string ⟨#[]⟩] 29)) 29 #[.int .i64 t, .bool x, .int .u64 0, .string ⟨#[]⟩]
  simpa using this
/-- The call answers an error's number, and takes of the bytes that are left alone. -/
def FdErr (w : World) (b c : Nat) (e : Ending) (w' : World) : Prop :=
  e = .returned (.tuple #[.agg #[.int .i64 0, .bool false, .int .u64 0, .string ⟨#[]⟩], .int .i64 c]) ∧ w.grownBy w' (some b)
/-- A field was read. -/
def FdGot (w : World) (b : Nat) (f : Fd) (r : List UInt8) (e : Ending) (w' : World) : Prop :=
  e = .returned (.tuple #[.agg #[.int .i64 f.tag, .bool f.text, .int .u64 f.n, .string f.s], .int .i64 0]) ∧ Lf w' b r ∧ w.grownBy w' (some b)

set_option maxHeartbeats 400000 in
theorem readField_head (b c : Nat) (h : UInt8) (v : Value) (l : List Fd) (w : World) (hv : Fs w v l) (hl : l.length ≤ 1000000) (hc : headR ((h.toNat / 2 : Nat) : Int) l = c) (hc0 : c ≠ 0) :
    Calls Tryd.prog 28 #[.func (.func 27) #[] #[.pointer (some ⟨b, 0, none⟩)], .int .u8 h.toNat, v] w (FdErr w b c) := by
  have hb : h.toNat < 256 := h.toNat_lt
  have hc' : ((c : Int) != 0) = true := by rw [bne_iff_ne]; omega
  have hc2 : headR ((h.toNat : Int) / 2) l = c := by rw [← hc]; congr 1
  have HC := Lib.hid hc2
  clear hc hc2
  have v0 := hv.keep0 (gb_trans (gb_alloc w (.cells #[.int .i64 0, .bool false, .int .u64 0, .string ⟨#[]⟩] 29) none) (gb_alloc _ (.cells #[.int .i64 ((h.toNat : Int) / 2), .bool ((h.toNat : Int) % 2 == 1), .int .u64 0, .string ⟨#[]⟩] 29) none))
  go_enter Tryd.func28, Tryd.ntmps28
  go_wp2_with fail
  refine (refusedHead_any _ v l _ v0 hl).mono ?_
  rw [HC.out]
  rintro e w1 ⟨rfl, rfl⟩
  go_wp2
  refine bodyPost_ret (v := .tuple #[.agg #[.int .i64 0, .bool false, .int .u64 0, .string ⟨#[]⟩], .int .i64 c]) (by simp [results, Tryd.results28, go_sem]) rfl ⟨rfl, ?_⟩
  exact gb_trans (gb_alloc _ _ _) (gb_alloc _ _ _)

set_option maxHeartbeats 1000000 in
theorem readField_num (b c : Nat) (h : UInt8) (v : Value) (l : List Fd) (r : List UInt8) (w : World) (hv : Fs w v l) (hl : l.length ≤ 1000000) (hh : headR ((h.toNat / 2 : Nat) : Int) l = 0) (hL : Lf w b r) (hr : r.length ≤ 1000000) (hn : numR r = .error c) (hc0 : c ≠ 0) :
    Calls Tryd.prog 28 #[.func (.func 27) #[] #[.pointer (some ⟨b, 0, none⟩)], .int .u8 h.toNat, v] w (FdErr w b c) := by
  have hb : h.toNat < 256 := h.toNat_lt
  have hc' : ((c : Int) != 0) = true := by rw [bne_iff_ne]; omega
  have hc2 : headR ((h.toNat : Int) / 2) l = 0 := by rw [← hh]; congr 1
  have HC := Lib.hid hc2
  have HN := Lib.hid hn
  clear hh hc2 hn
  obtain ⟨w0, hw0, g0, k0, k1⟩ := fd_start w ((h.toNat : Int) / 2) ((h.toNat : Int) % 2 == 1)
  have v0 := hv.keep0 g0
  have L0 := hL.keep0 g0
  have hlt := hL.lt
  have HW := Lib.hid hw0
  clear hw0 hv
  go_enter Tryd.func28, Tryd.ntmps28
  go_wp2_with fail
  rw [← HW.out]
  refine (refusedHead_any _ v l _ v0 hl).mono ?_
  rw [HC.out]
  rintro e w1 ⟨rfl, rfl⟩
  go_wp2_with fail
  refine (readNumber_err b c r _ L0 hr HN.out).mono ?_
  rintro e w2 ⟨rfl, g2⟩
  have m0 := k0.keep g2 (ne_some (by omega))
  have c0 := Blk.cell m0 0 rfl
  have c1 := Blk.cell m0 1 rfl
  have c2 := Blk.cell m0 2 rfl
  have c3 := Blk.cell m0 3 rfl
  have f0 := Blk.free m0 0
  have f1 := Blk.free m0 1
  have f2 := Blk.free m0 2
  have f3 := Blk.free m0 3
  go_wp2
  refine bodyPost_ret (v := .tuple #[.agg #[.int .i64 0, .bool false, .int .u64 0, .string ⟨#[]⟩], .int .i64 c]) (by simp [results, Tryd.results28, go_sem, c0, c1, c2, c3]) rfl ⟨rfl, ?_⟩
  have g3 := gb_trans (gb_weak g0 (some b)) g2
  exact gb_step (gb_step (gb_step (gb_step g3 (gb_set _ _ _ _ _) (Nat.le_refl _)) (gb_set _ _ _ _ _) (Nat.le_refl _)) (gb_set _ _ _ _ _) (Nat.le_refl _)) (gb_set _ _ _ _ _) (Nat.le_refl _)

theorem numR_small {r r' : List UInt8} {n : Nat} (h : numR r = .ok (n, r')) : n < 18446744073709551616 := by
  cases r with
  | nil => cases h
  | cons k r =>
    rw [numR_cons] at h
    by_cases h1 : 8 < k.toNat
    · rw [if_pos h1] at h; cases h
    · rw [if_neg h1] at h
      by_cases h2 : r.length < k.toNat
      · rw [if_pos h2] at h; cases h
      · rw [if_neg h2] at h
        by_cases h3 : (r.take k.toNat).head? = some 0
        · rw [if_pos h3] at h; cases h
        · rw [if_neg h3] at h
          injection h with h; injection h with e1 e2; subst e1
          refine Nat.lt_of_lt_of_le (nat8_lt _) ?_
          have h4 : (r.take k.toNat).length ≤ 8 := by simp; omega
          have h5 : (256 : Nat) ^ (r.take k.toNat).length ≤ 256 ^ 8 := Nat.pow_le_pow_right (by omega) h4
          have h6 : (256 : Nat) ^ 8 = 18446744073709551616 := by decide
          omega

set_option maxHeartbeats 1000000 in
theorem readField_plain (b n : Nat) (h : UInt8) (v : Value) (l : List Fd) (r r1 : List UInt8) (w : World) (hv : Fs w v l) (hl : l.length ≤ 1000000) (hh : headR ((h.toNat / 2 : Nat) : Int) l = 0) (hL : Lf w b r) (hr : r.length ≤ 1000000) (hn : numR r = .ok (n, r1)) (hx : h.toNat % 2 ≠ 1) :
    Calls Tryd.prog 28 #[.func (.func 27) #[] #[.pointer (some ⟨b, 0, none⟩)], .int .u8 h.toNat, v] w (FdGot w b ⟨((h.toNat / 2 : Nat) : Int), false, n, ⟨#[]⟩⟩ r1) := by
  have hb : h.toNat < 256 := h.toNat_lt
  have hx' : ((h.toNat : Int) % 2 == 1) = false := by rw [beq_eq_false_iff_ne]; omega
  have hc2 : headR ((h.toNat : Int) / 2) l = 0 := by rw [← hh]; congr 1
  have HC := Lib.hid hc2
  have HN := Lib.hid hn
  have HT := Lib.hid (show ((h.toNat / 2 : Nat) : Int) = (h.toNat : Int) / 2 by omega)
  clear hh hc2 hn hx
  obtain ⟨w0, hw0, g0, k0, k1⟩ := fd_start w ((h.toNat : Int) / 2) false
  have v0 := hv.keep0 g0
  have L0 := hL.keep0 g0
  have hlt := hL.lt
  have HW := Lib.hid hw0
  clear hw0 hv
  go_enter Tryd.func28, Tryd.ntmps28
  go_wp2_with fail
  rw [← HW.out]
  refine (refusedHead_any _ v l _ v0 hl).mono ?_
  rw [HC.out]
  rintro e w1 ⟨rfl, rfl⟩
  go_wp2_with fail
  refine (readNumber_got b n r r1 _ L0 hr HN.out).mono ?_
  rintro e w2 ⟨rfl, l2, g2⟩
  have m0 := k0.keep g2 (ne_some (by omega))
  have m1 := k1.keep g2 (ne_some (by omega))
  have c0 := Blk.cell m0 0 rfl
  have c1 := Blk.cell m0 1 rfl
  have c2 := Blk.cell m0 2 rfl
  have c3 := Blk.cell m0 3 rfl
  have f0 := Blk.free m0 0
  have f1 := Blk.free m0 1
  have f2 := Blk.free m0 2
  have f3 := Blk.free m0 3
  have d0 := Blk.cell m1 0 rfl
  have d1 := Blk.cell m1 1 rfl
  have d2 := Blk.cell m1 2 rfl
  have d3 := Blk.cell m1 3 rfl
  have q2 := Blk.free m1 2
  go_wp2
  refine bodyPost_ret (v := .tuple #[.agg #[.int .i64 ((h.toNat : Int) / 2), .bool false, .int .u64 n, .string ⟨#[]⟩], .int .i64 0]) (by simp [results, Tryd.results28, go_sem, c0, c1, c2, c3]) rfl ?_
  refine ⟨by rw [HT.out], ?_, ?_⟩
  · have hs := l2.keepR (gb_set w2 (w.heap.size + 1) 2 none (.int .u64 n)) (by omega)
    exact (((hs.keepR (gb_set _ w.heap.size _ _ _) hlt).keepR (gb_set _ w.heap.size _ _ _) hlt).keepR (gb_set _ w.heap.size _ _ _) hlt).keepR (gb_set _ w.heap.size _ _ _) hlt
  · have g3 := gb_step (gb_trans (gb_weak g0 (some b)) g2) (gb_set _ (w.heap.size + 1) 2 none (.int .u64 n)) (by omega)
    exact gb_step (gb_step (gb_step (gb_step g3 (gb_set _ _ _ _ _) (Nat.le_refl _)) (gb_set _ _ _ _ _) (Nat.le_refl _)) (gb_set _ _ _ _ _) (Nat.le_refl _)) (gb_set _ _ _ _ _) (Nat.le_refl _)

set_option maxHeartbeats 1000000 in
theorem readField_terr (b n c : Nat) (h : UInt8) (v : Value) (l : List Fd) (r r1 : List UInt8) (w : World) (hv : Fs w v l) (hl : l.length ≤ 1000000) (hh : headR ((h.toNat / 2 : Nat) : Int) l = 0) (hL : Lf w b r) (hr : r.length ≤ 1000000) (hn : numR r = .ok (n, r1)) (hx : h.toNat % 2 = 1) (ht : textR n r1 = .error c) (hc0 : c ≠ 0) :
    Calls Tryd.prog 28 #[.func (.func 27) #[] #[.pointer (some ⟨b, 0, none⟩)], .int .u8 h.toNat, v] w (FdErr w b c) := by
  have hb : h.toNat < 256 := h.toNat_lt
  have hc' : ((c : Int) != 0) = true := by rw [bne_iff_ne]; omega
  have hx' : ((h.toNat : Int) % 2 == 1) = true := by rw [beq_iff_eq]; omega
  have hc2 : headR ((h.toNat : Int) / 2) l = 0 := by rw [← hh]; congr 1
  have hnl := numR_small hn
  have HC := Lib.hid hc2
  have HN := Lib.hid hn
  have HT := Lib.hid ht
  have HNL := Lib.hid hnl
  clear hh hc2 hn hx ht hnl
  obtain ⟨w0, hw0, g0, k0, k1⟩ := fd_start w ((h.toNat : Int) / 2) true
  have v0 := hv.keep0 g0
  have L0 := hL.keep0 g0
  have hlt := hL.lt
  have HW := Lib.hid hw0
  clear hw0 hv
  go_enter Tryd.func28, Tryd.ntmps28
  go_wp2_with fail
  rw [← HW.out]
  refine (refusedHead_any _ v l _ v0 hl).mono ?_
  rw [HC.out]
  rintro e w1 ⟨rfl, rfl⟩
  go_wp2_with fail
  refine (readNumber_got b n r r1 _ L0 hr HN.out).mono ?_
  rintro e w2 ⟨rfl, l2, g2⟩
  have m0 := k0.keep g2 (ne_some (by omega))
  have m1 := k1.keep g2 (ne_some (by omega))
  have d1 := Blk.cell m1 1 rfl
  go_wp2_with fail
  refine (readText_err b c n r1 _ l2 HNL.out HT.out).mono ?_
  rintro e w3 ⟨rfl, g3⟩
  clear d1
  replace m0 := m0.keep g3 (ne_some (by omega))
  replace m1 := m1.keep g3 (ne_some (by omega))
  have c0 := Blk.cell m0 0 rfl
  have c1 := Blk.cell m0 1 rfl
  have c2 := Blk.cell m0 2 rfl
  have c3 := Blk.cell m0 3 rfl
  have f0 := Blk.free m0 0
  have f1 := Blk.free m0 1
  have f2 := Blk.free m0 2
  have f3 := Blk.free m0 3
  have d3 := Blk.cell m1 3 rfl
  have q3 := Blk.free m1 3
  go_wp2
  refine bodyPost_ret (v := .tuple #[.agg #[.int .i64 0, .bool false, .int .u64 0, .string ⟨#[]⟩], .int .i64 c]) (by simp [results, Tryd.results28, go_sem, c0, c1, c2, c3]) rfl ⟨rfl, ?_⟩
  have g4 := gb_step (gb_trans (gb_trans (gb_weak g0 (some b)) g2) g3) (gb_set _ (w.heap.size + 1) 3 none (.string ⟨#[]⟩)) (by omega)
  exact gb_step (gb_step (gb_step (gb_step g4 (gb_set _ _ _ _ _) (Nat.le_refl _)) (gb_set _ _ _ _ _) (Nat.le_refl _)) (gb_set _ _ _ _ _) (Nat.le_refl _)) (gb_set _ _ _ _ _) (Nat.le_refl _)

set_option maxHeartbeats 1000000 in
theorem readField_text (b n : Nat) (h : UInt8) (v : Value) (l : List Fd) (r r1 t r2 : List UInt8) (w : World) (hv : Fs w v l) (hl : l.length ≤ 1000000) (hh : headR ((h.toNat / 2 : Nat) : Int) l = 0) (hL : Lf w b r) (hr : r.length ≤ 1000000) (hn : numR r = .ok (n, r1)) (hx : h.toNat % 2 = 1) (ht : textR n r1 = .ok (t, r2)) :
    Calls Tryd.prog 28 #[.func (.func 27) #[] #[.pointer (some ⟨b, 0, none⟩)], .int .u8 h.toNat, v] w (FdGot w b ⟨((h.toNat / 2 : Nat) : Int), true, 0, ⟨t.toArray⟩⟩ r2) := by
  have hb : h.toNat < 256 := h.toNat_lt
  have hx' : ((h.toNat : Int) % 2 == 1) = true := by rw [beq_iff_eq]; omega
  have hc2 : headR ((h.toNat : Int) / 2) l = 0 := by rw [← hh]; congr 1
  have hless := numR_less hn
  have HC := Lib.hid hc2
  have HN := Lib.hid hn
  have HT := Lib.hid ht
  have HG := Lib.hid (show ((h.toNat / 2 : Nat) : Int) = (h.toNat : Int) / 2 by omega)
  clear hh hc2 hn hx ht
  obtain ⟨s, hs⟩ : ∃ s : ByteArray, s = ⟨t.toArray⟩ := ⟨_, rfl⟩
  have HS := Lib.hid hs
  rw [← hs]
  clear hs
  obtain ⟨w0, hw0, g0, k0, k1⟩ := fd_start w ((h.toNat : Int) / 2) true
  have v0 := hv.keep0 g0
  have L0 := hL.keep0 g0
  have hlt := hL.lt
  have HW := Lib.hid hw0
  clear hw0 hv
  go_enter Tryd.func28, Tryd.ntmps28
  go_wp2_with fail
  rw [← HW.out]
  refine (refusedHead_any _ v l _ v0 hl).mono ?_
  rw [HC.out]
  rintro e w1 ⟨rfl, rfl⟩
  go_wp2_with fail
  refine (readNumber_got b n r r1 _ L0 hr HN.out).mono ?_
  rintro e w2 ⟨rfl, l2, g2⟩
  have m0 := k0.keep g2 (ne_some (by omega))
  have m1 := k1.keep g2 (ne_some (by omega))
  have d1 := Blk.cell m1 1 rfl
  go_wp2_with fail
  refine (readText_got b n r1 t r2 _ l2 (by omega) HT.out).mono ?_
  rintro e w3 ⟨rfl, l3, g3⟩
  rw [← HS.out]
  clear d1
  replace m0 := m0.keep g3 (ne_some (by omega))
  replace m1 := m1.keep g3 (ne_some (by omega))
  have c0 := Blk.cell m0 0 rfl
  have c1 := Blk.cell m0 1 rfl
  have c2 := Blk.cell m0 2 rfl
  have c3 := Blk.cell m0 3 rfl
  have f0 := Blk.free m0 0
  have f1 := Blk.free m0 1
  have f2 := Blk.free m0 2
  have f3 := Blk.free m0 3
  have d0 := Blk.cell m1 0 rfl
  have d1 := Blk.cell m1 1 rfl
  have d2 := Blk.cell m1 2 rfl
  have d3 := Blk.cell m1 3 rfl
  have q3 := Blk.free m1 3
  go_wp2
  refine bodyPost_ret (v := .tuple #[.agg #[.int .i64 ((h.toNat : Int) / 2), .bool true, .int .u64 0, .string s], .int .i64 0]) (by simp [results, Tryd.results28, go_sem, c0, c1, c2, c3]) rfl ?_
  refine ⟨by rw [HG.out, HS.out]; rfl, ?_, ?_⟩
  · have hs := l3.keepR (gb_set w3 (w.heap.size + 1) 3 none (.string s)) (by omega)
    exact (((hs.keepR (gb_set _ w.heap.size _ _ _) hlt).keepR (gb_set _ w.heap.size _ _ _) hlt).keepR (gb_set _ w.heap.size _ _ _) hlt).keepR (gb_set _ w.heap.size _ _ _) hlt
  · have g4 := gb_step (gb_trans (gb_trans (gb_weak g0 (some b)) g2) g3) (gb_set _ (w.heap.size + 1) 3 none (.string s)) (by omega)
    exact gb_step (gb_step (gb_step (gb_step g4 (gb_set _ _ _ _ _) (Nat.le_refl _)) (gb_set _ _ _ _ _) (Nat.le_refl _)) (gb_set _ _ _ _ _) (Nat.le_refl _)) (gb_set _ _ _ _ _) (Nat.le_refl _)
end Go.Proofs.YtcifabichcjjjaaDoor
