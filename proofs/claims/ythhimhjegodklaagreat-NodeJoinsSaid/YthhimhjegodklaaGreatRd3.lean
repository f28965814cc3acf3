/-
  What the Reader's Text and End answer and leave, over this seat's translation; conditions: the Reader's block is there (or the Reader is nil), its place is not behind the text's end, the text is no longer than a machine's numbers tell.
-/
import Derived.Test.YthhimhjegodklaaGreatNx
namespace Go.Proofs.YthhimhjegodklaaGreat
open Go.RowKit

/-- A value beside a new Fault; nothing that was there has turned. -/
def Faulted (w : World) (v : Value) (c p : Int) (e : Ending) (w' : World) : Prop :=
  ∃ a : Nat, e = .returned (.tuple #[v, .iface 78 (.pointer (some ⟨a, 0, none⟩))]) ∧ w.heap.size ≤ a ∧ Ft w' a c p ∧ w.grownBy w' none

theorem text_nil (m : Int) (w : World) :
    Calls Tryz.prog 62 #[.pointer none, .int .i64 m] w (Faulted w (.string ⟨#[]⟩) 1 0) := by
  go_enter Tryz.func62, Tryz.ntmps62
  go_wp2_with (go_at_call 53; refine (fault_nil _ _).mono ?_; rintro e w' ⟨rfl, rfl⟩)
  go_ret2
  exact ⟨_, rfl, Nat.le_refl _, Blk.mk _ _ _, gb_alloc _ _ _⟩
theorem text_neg (b : Nat) (s : ByteArray) (p : Nat) (m : Int) (w : World) (h : Rd w b s p) (hm : m < 0) :
    Calls Tryz.prog 62 #[.pointer (some ⟨b, 0, none⟩), .int .i64 m] w (Faulted w (.string ⟨#[]⟩) 2 p) := by
  go_enter Tryz.func62, Tryz.ntmps62
  go_wp2_with (go_at_call 53; refine (fault_any b s p _ _ h).mono ?_; rintro e w' ⟨rfl, rfl⟩)
  go_ret2
  exact ⟨_, rfl, Nat.le_refl _, Blk.mk _ _ _, gb_alloc _ _ _⟩
theorem text_end (b : Nat) (s : ByteArray) (p : Nat) (m : Int) (w : World) (h : Rd w b s p) (hm : 0 ≤ m) (hp : p ≤ s.size) (hs : s.size ≤ 9223372036854775807) (he : s.size < p + 1) :
    Calls Tryz.prog 62 #[.pointer (some ⟨b, 0, none⟩), .int .i64 m] w (Faulted w (.string ⟨#[]⟩) 3 p) := by
  have h0 := h.c0
  have h1 := h.c1
  have hm' : ¬ m < 0 := by omega
  go_enter Tryz.func62, Tryz.ntmps62
  go_wp2_with (go_at_call 45; refine (u8_short w.heap.size s p _ (Blk.mk _ _ _) hp hs he).mono ?_; rintro e w1 ⟨rfl, hf, hg⟩)
  go_ret2
  exact ⟨_, rfl, by simp, by simpa using hf, gb_trans (gb_alloc _ _ _) hg⟩
theorem text_long (b : Nat) (s : ByteArray) (p : Nat) (m : Int) (w : World) (h : Rd w b s p) (hm : 0 ≤ m) (hp : p + 1 ≤ s.size) (hs : s.size ≤ 9223372036854775807) (hl : m < (valAt s p 1 : Int)) :
    Calls Tryz.prog 62 #[.pointer (some ⟨b, 0, none⟩), .int .i64 m] w (Faulted w (.string ⟨#[]⟩) 4 p) := by
  have h0 := h.c0
  have h1 := h.c1
  have hm' : ¬ m < 0 := by omega
  have hv := valAt_lt s p 1
  go_enter Tryz.func62, Tryz.ntmps62
  go_wp2_with (first | (go_at_call 45; refine (u8_ok w.heap.size s p _ (Blk.mk _ _ _) hp hs).mono ?_; rintro e w1 ⟨rfl, h2, hg⟩; have g1 := gb_later (gb_trans (gb_alloc _ _ _) hg) (Nat.le_refl _)) | (go_at_call 53; refine (fault_any b s p _ _ (h.keep0 g1)).mono ?_; rintro e w' ⟨rfl, rfl⟩))
  go_ret2
  exact ⟨_, rfl, g1.size, Blk.mk _ _ _, gb_trans g1 (gb_alloc _ _ _)⟩
theorem text_short (b : Nat) (s : ByteArray) (p : Nat) (m : Int) (w : World) (h : Rd w b s p) (hm : 0 ≤ m) (hp : p + 1 ≤ s.size) (hs : s.size ≤ 9223372036854775807) (hl : (valAt s p 1 : Int) ≤ m) (hq : s.size < p + 1 + valAt s p 1) :
    Calls Tryz.prog 62 #[.pointer (some ⟨b, 0, none⟩), .int .i64 m] w (Faulted w (.string ⟨#[]⟩) 3 p) := by
  have h0 := h.c0
  have h1 := h.c1
  have hm' : ¬ m < 0 := by omega
  have hv := valAt_lt s p 1
  have hl' : ¬ (m < (valAt s p 1 : Int)) := by omega
  go_enter Tryz.func62, Tryz.ntmps62
  go_wp2_with (first | (go_at_call 45; refine (u8_ok w.heap.size s p _ (Blk.mk _ _ _) hp hs).mono ?_; rintro e w1 ⟨rfl, h2, hg⟩; have g1 := gb_later (gb_trans (gb_alloc _ _ _) hg) (Nat.le_refl _)) | (go_at_call 55; refine (take_short w.heap.size s (p + 1) _ _ h2 hp hs (by omega)).mono ?_; rintro e w2 ⟨rfl, hf, hg2⟩; have g2 := gb_trans g1 hg2) | (go_at_call 70; refine (is_hit _ 3 _ (Blk.cell hf 0 rfl)).mono ?_; rintro e w3 ⟨rfl, rfl⟩) | (go_at_call 53; refine (fault_any b s p _ _ (h.keep0 g2)).mono ?_; rintro e w' ⟨rfl, rfl⟩))
  go_ret2
  exact ⟨_, rfl, g2.size, Blk.mk _ _ _, gb_trans g2 (gb_alloc _ _ _)⟩
theorem text_ok (b : Nat) (s : ByteArray) (p : Nat) (m : Int) (w : World) (h : Rd w b s p) (hm : 0 ≤ m) (hs : s.size ≤ 9223372036854775807) (hl : (valAt s p 1 : Int) ≤ m) (hq : p + 1 + valAt s p 1 ≤ s.size) :
    Calls Tryz.prog 62 #[.pointer (some ⟨b, 0, none⟩), .int .i64 m] w fun e w' => e = .returned (.tuple #[.string (s.extract (p + 1) (p + 1 + valAt s p 1)), .nilIface]) ∧ Rd w' b s (p + 1 + valAt s p 1) ∧ w.grownBy w' (some b) := by
  have h0 := h.c0
  have h1 := h.c1
  have hm' : ¬ m < 0 := by omega
  have hv := valAt_lt s p 1
  have hl' : ¬ (m < (valAt s p 1 : Int)) := by omega
  have hlt := h.lt
  have hne : some b ≠ some w.heap.size := by intro e; cases e; omega
  go_enter Tryz.func62, Tryz.ntmps62
  go_wp2_with (first | (go_at_call 45; refine (u8_ok w.heap.size s p _ (Blk.mk _ _ _) (by omega) hs).mono ?_; rintro e w1 ⟨rfl, h2, hg⟩; have g1 := gb_trans (gb_alloc _ _ _) hg) | (go_at_call 55; refine (take_ok w.heap.size s (p + 1) (valAt s p 1) _ h2 hq hs).mono ?_; rintro e w2 ⟨rfl, h3, hg2⟩; have g2 := gb_trans g1 hg2; have k0 := h3.c0; have k1 := h3.c1; have hb2 := h.keep g2 hne; have b0 := hb2.c0; have b1 := hb2.c1; have f0 := hb2.free 0; have f1 := hb2.free 1) | (go_at_call 70; refine (is_nil _ _).mono ?_; rintro e w3 ⟨rfl, rfl⟩))
  go_ret2
  refine ⟨rfl, ?_, ?_⟩
  · exact Blk.set (Blk.set hb2 0 (.string s)) 1 (.int .i64 ((p + 1 + valAt s p 1 : Nat) : Int))
  · exact gb_trans (gb_weak (gb_later g2 (Nat.le_refl _)) _) (gb_trans (gb_set _ _ _ _ _) (gb_set _ _ _ _ _))
theorem end_nil (w : World) :
    Calls Tryz.prog 48 #[.pointer none] w fun e w' => e = .returned (.iface 78 (.pointer (some ⟨w.heap.size, 0, none⟩))) ∧ Ft w' w.heap.size 1 0 ∧ w.grownBy w' none := by
  go_enter Tryz.func48, Tryz.ntmps48
  go_wp2_with (go_at_call 53; refine (fault_nil _ _).mono ?_; rintro e w' ⟨rfl, rfl⟩)
  go_ret
  exact ⟨rfl, Blk.mk _ _ _, gb_alloc _ _ _⟩
theorem end_all (b : Nat) (s : ByteArray) (p : Nat) (w : World) (h : Rd w b s p) (hp : p = s.size) (hs : s.size ≤ 9223372036854775807) :
    Calls Tryz.prog 48 #[.pointer (some ⟨b, 0, none⟩)] w fun e w' => e = .returned .nilIface ∧ w.grownBy w' none := by
  have h1 : ¬ (0 < (s.size : Int) - p) := by omega
  have h2 : p ≤ s.size := by omega
  clear hp
  go_enter Tryz.func48, Tryz.ntmps48
  go_wp2_with (go_at_call 54; refine (left_any b s p _ h h2 hs).mono ?_; rintro e w1 ⟨rfl, hg, hh⟩; clear hh)
  go_ret
  exact ⟨rfl, hg⟩
theorem end_left (b : Nat) (s : ByteArray) (p : Nat) (w : World) (h : Rd w b s p) (hp : p < s.size) (hs : s.size ≤ 9223372036854775807) :
    Calls Tryz.prog 48 #[.pointer (some ⟨b, 0, none⟩)] w fun e w' => e = .returned (.iface 78 (.pointer (some ⟨w.heap.size, 0, none⟩))) ∧ Ft w' w.heap.size 4 p ∧ w.grownBy w' none := by
  have h1 : 0 < (s.size : Int) - p := by omega
  go_enter Tryz.func48, Tryz.ntmps48
  go_wp2_with (first | (go_at_call 54; refine (left_any b s p _ h (by omega) hs).mono ?_; rintro e w1 ⟨rfl, hg, hh⟩; have hz := Lib.hid (congrArg Array.size hh); clear hh) | (go_at_call 53; refine (fault_any b s p _ _ (h.keep0 hg)).mono ?_; rintro e w' ⟨rfl, rfl⟩))
  go_ret
  rw [← hz.out]
  exact ⟨rfl, Blk.mk _ _ _, gb_trans hg (gb_alloc _ _ _)⟩
end Go.Proofs.YthhimhjegodklaaGreat

