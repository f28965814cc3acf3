/-
  What the document's answers Text and Num read, over this seat's translation; conditions: the reader's block is there with its text and place, the place not behind the text's end, the text of at most a million bytes.
-/
import Derived.Test.YtcoedakbagbenaaDoorRn
import Derived.IntWalk
namespace Go.Proofs.YtcoedakbagbenaaDoor
open Go.RowKit

theorem valAt_step (s : ByteArray) (p k : Nat) (h : p + k < s.size) : valAt s p (k + 1) = valAt s p k * 256 + s[p + k].toNat := by
  unfold valAt
  have h2 : k < (s.data.toList.drop p).length := by simp; omega
  rw [List.take_succ_eq_append_getElem h2, nat8_snoc]
  congr 2
  simp
  rfl
theorem valAt_bound (s : ByteArray) (p k : Nat) (h : k < 8) : (valAt s p k : Int) < 72057594037927936 := by
  have h1 := valAt_lt s p k
  have h2 : (256 : Nat) ^ k ≤ 256 ^ 7 := Nat.pow_le_pow_right (by omega) (by omega)
  have h3 : (256 : Nat) ^ 7 = 72057594037927936 := by decide
  omega
theorem wrap_mul (s : ByteArray) (p k : Nat) (h : k < 8) : IntKind.u64.wrap ((valAt s p k : Int) * 256) = (valAt s p k : Int) * 256 := by
  have hb := valAt_bound s p k h
  simp only [IntKind.wrap, IntKind.bits, IntKind.signed]; simp; omega
theorem wrap_step (s : ByteArray) (p k j : Nat) (hj : j = p + k) (hi : j < s.size) (h : k < 8) : IntKind.u64.wrap ((valAt s p k : Int) * 256 + IntKind.u64.wrap (s[j].toNat : Int)) = (valAt s p (k + 1) : Int) := by
  subst hj
  have hb := valAt_bound s p k h
  have hc : s[p + k].toNat < 256 := s[p + k].toNat_lt
  rw [valAt_step s p k hi]
  simp only [IntKind.wrap, IntKind.bits, IntKind.signed]; simp; omega
theorem valAt_one (s : ByteArray) (p : Nat) (h : p < s.size) : valAt s p 1 = s[p].toNat := by
  have h2 : p < s.data.toList.length := by simpa using h
  unfold valAt
  rw [List.drop_eq_getElem_cons h2]
  simp [nat8]
  rfl
/-- What is left where a Fault is told beside a value. -/
def RFaulted (w : World) (v : Value) (c p : Int) (e : Ending) (w' : World) : Prop := e = .returned (.tuple #[v, .agg #[.int .i64 c, .int .i64 p]]) ∧ w.grownBy w' none
theorem rtext_neg (b : Nat) (s : ByteArray) (p : Nat) (m : Int) (w : World) (h : Qd w b s p) (hm : m < 0) :
    Calls Tryd.prog 13 #[.pointer (some ⟨b, 0, none⟩), .int .i64 m] w (RFaulted w (.string ⟨#[]⟩) 2 p) := by
  have hl := h.lt
  have h1 := h.keep0 (gb_alloc w (.cells #[.int .i64 0, .int .i64 0] 36) none)
  have rb := Blk.mk w 36 #[.int .i64 0, .int .i64 0]
  have hc0 := h1.c0
  have hc1 := h1.c1
  go_enter Tryd.func13, Tryd.ntmps13
  go_wp2_with (go_at_call 29; go_must (refine (rfault_any b s p _ _ h1).mono ?_; rintro e w1 ⟨rfl, g1⟩; replace rb := rb.keep0 g1; have r0 := Blk.cell rb 0 rfl; have r1 := Blk.cell rb 1 rfl; have f0 := Blk.free rb 0; have f1 := Blk.free rb 1))
  have rb2 := Blk.set (Blk.set rb 0 (.int .i64 2)) 1 (.int .i64 p)
  have k0 := Blk.cell rb2 0 rfl
  have k1 := Blk.cell rb2 1 rfl
  refine bodyPost_ret (v := .tuple #[.string ⟨#[]⟩, .agg #[.int .i64 2, .int .i64 p]]) (by simp [results, Tryd.results13, go_sem, k0, k1]) rfl ⟨rfl, ?_⟩
  exact gb_step (gb_step (gb_trans (gb_alloc _ _ _) g1) (gb_set _ _ _ _ _) (Nat.le_refl _)) (gb_set _ _ _ _ _) (Nat.le_refl _)
theorem rtext_end (b : Nat) (s : ByteArray) (p : Nat) (m : Int) (w : World) (h : Qd w b s p) (hm : 0 ≤ m) (hp : s.size ≤ p) :
    Calls Tryd.prog 13 #[.pointer (some ⟨b, 0, none⟩), .int .i64 m] w (RFaulted w (.string ⟨#[]⟩) 3 p) := by
  have hm1 : ¬ m < 0 := by omega
  have hl := h.lt
  have h1 := h.keep0 (gb_alloc w (.cells #[.int .i64 0, .int .i64 0] 36) none)
  have rb := Blk.mk w 36 #[.int .i64 0, .int .i64 0]
  have hc0 := h1.c0
  have hc1 := h1.c1
  go_enter Tryd.func13, Tryd.ntmps13
  go_wp2
  go_quiet (fail)
  go_wp2_with (go_at_call 29; go_must (refine (rfault_any b s p _ _ (h1.keep0 (gb_drewN _ _ _))).mono ?_; rintro e w1 ⟨rfl, g1⟩; replace rb := (rb.keep0 (gb_drewN _ _ _)).keep0 g1; have r0 := Blk.cell rb 0 rfl; have r1 := Blk.cell rb 1 rfl; have f0 := Blk.free rb 0; have f1 := Blk.free rb 1))
  have rb2 := Blk.set (Blk.set rb 0 (.int .i64 3)) 1 (.int .i64 p)
  have k0 := Blk.cell rb2 0 rfl
  have k1 := Blk.cell rb2 1 rfl
  refine bodyPost_ret (v := .tuple #[.string ⟨#[]⟩, .agg #[.int .i64 3, .int .i64 p]]) (by simp [results, Tryd.results13, go_sem, k0, k1]) rfl ⟨rfl, ?_⟩
  exact gb_step (gb_step (gb_trans (gb_trans (gb_alloc _ _ _) (gb_drewN _ _ _)) g1) (gb_set _ _ _ _ _) (Nat.le_refl _)) (gb_set _ _ _ _ _) (Nat.le_refl _)
theorem rtext_long (b : Nat) (s : ByteArray) (p : Nat) (m : Int) (w : World) (h : Qd w b s p) (hm : 0 ≤ m) (hp : p + 1 ≤ s.size) (_hs : s.size ≤ 1000000) (hv : m < (valAt s p 1 : Int)) :
    Calls Tryd.prog 13 #[.pointer (some ⟨b, 0, none⟩), .int .i64 m] w (RFaulted w (.string ⟨#[]⟩) 4 p) := by
  have hm1 : ¬ m < 0 := by omega
  have hp1 : p < s.size := by omega
  have hp2 : ¬ s.size ≤ p := by omega
  rw [valAt_one s p hp1] at hv
  have hc256 : s[p].toNat < 256 := s[p].toNat_lt
  have hl := h.lt
  have h1 := h.keep0 (gb_alloc w (.cells #[.int .i64 0, .int .i64 0] 36) none)
  have rb := Blk.mk w 36 #[.int .i64 0, .int .i64 0]
  have hc0 := h1.c0
  have hc1 := h1.c1
  go_enter Tryd.func13, Tryd.ntmps13
  go_wp2
  go_quiet (fail)
  go_wp2
  go_quiet (fail)
  go_wp2_with (go_at_call 29; go_must (refine (rfault_any b s p _ _ (h1.keep0 (gb_drewN _ _ _))).mono ?_; rintro e w1 ⟨rfl, g1⟩; replace rb := (rb.keep0 (gb_drewN _ _ _)).keep0 g1; have r0 := Blk.cell rb 0 rfl; have r1 := Blk.cell rb 1 rfl; have f0 := Blk.free rb 0; have f1 := Blk.free rb 1))
  have rb2 := Blk.set (Blk.set rb 0 (.int .i64 4)) 1 (.int .i64 p)
  have k0 := Blk.cell rb2 0 rfl
  have k1 := Blk.cell rb2 1 rfl
  refine bodyPost_ret (v := .tuple #[.string ⟨#[]⟩, .agg #[.int .i64 4, .int .i64 p]]) (by simp [results, Tryd.results13, go_sem, k0, k1]) rfl ⟨rfl, ?_⟩
  exact gb_step (gb_step (gb_trans (gb_trans (gb_alloc _ _ _) (gb_drewN _ _ _)) g1) (gb_set _ _ _ _ _) (Nat.le_refl _)) (gb_set _ _ _ _ _) (Nat.le_refl _)
theorem rtext_short (b : Nat) (s : ByteArray) (p : Nat) (m : Int) (w : World) (h : Qd w b s p) (hm : 0 ≤ m) (hp : p + 1 ≤ s.size) (_hs : s.size ≤ 1000000) (hv : (valAt s p 1 : Int) ≤ m) (hq : s.size < p + 1 + valAt s p 1) :
    Calls Tryd.prog 13 #[.pointer (some ⟨b, 0, none⟩), .int .i64 m] w (RFaulted w (.string ⟨#[]⟩) 3 p) := by
  have hm1 : ¬ m < 0 := by omega
  have hp1 : p < s.size := by omega
  have hp2 : ¬ s.size ≤ p := by omega
  rw [valAt_one s p hp1] at hv hq
  have hc256 : s[p].toNat < 256 := s[p].toNat_lt
  have hv1 : ¬ m < (s[p].toNat : Int) := by omega
  have hq1 : (s.size : Int) - p - 1 < (s[p].toNat : Int) := by omega
  have hl := h.lt
  have h1 := h.keep0 (gb_alloc w (.cells #[.int .i64 0, .int .i64 0] 36) none)
  have rb := Blk.mk w 36 #[.int .i64 0, .int .i64 0]
  have hc0 := h1.c0
  have hc1 := h1.c1
  go_enter Tryd.func13, Tryd.ntmps13
  go_wp2
  go_quiet (fail)
  go_wp2
  go_quiet (fail)
  go_wp2
  go_quiet (fail)
  go_wp2_with (go_at_call 29; go_must (refine (rfault_any b s p _ _ (h1.keep0 (gb_drewN _ _ _))).mono ?_; rintro e w1 ⟨rfl, g1⟩; replace rb := (rb.keep0 (gb_drewN _ _ _)).keep0 g1; have r0 := Blk.cell rb 0 rfl; have r1 := Blk.cell rb 1 rfl; have f0 := Blk.free rb 0; have f1 := Blk.free rb 1))
  have rb2 := Blk.set (Blk.set rb 0 (.int .i64 3)) 1 (.int .i64 p)
  have k0 := Blk.cell rb2 0 rfl
  have k1 := Blk.cell rb2 1 rfl
  refine bodyPost_ret (v := .tuple #[.string ⟨#[]⟩, .agg #[.int .i64 3, .int .i64 p]]) (by simp [results, Tryd.results13, go_sem, k0, k1]) rfl ⟨rfl, ?_⟩
  exact gb_step (gb_step (gb_trans (gb_trans (gb_alloc _ _ _) (gb_drewN _ _ _)) g1) (gb_set _ _ _ _ _) (Nat.le_refl _)) (gb_set _ _ _ _ _) (Nat.le_refl _)
theorem rtext_ok (b : Nat) (s : ByteArray) (p : Nat) (m : Int) (w : World) (h : Qd w b s p) (hm : 0 ≤ m) (hs : s.size ≤ 1000000) (hv : (valAt s p 1 : Int) ≤ m) (hq : p + 1 + valAt s p 1 ≤ s.size) :
    Calls Tryd.prog 13 #[.pointer (some ⟨b, 0, none⟩), .int .i64 m] w fun e w' => e = .returned (.tuple #[.string (s.extract (p + 1) (p + 1 + valAt s p 1)), .agg #[.int .i64 0, .int .i64 0]]) ∧ Qd w' b s (p + 1 + valAt s p 1) ∧ w.grownBy w' (some b) := by
  have hm1 : ¬ m < 0 := by omega
  have hp1 : p < s.size := by omega
  have hp2 : ¬ s.size ≤ p := by omega
  rw [valAt_one s p hp1] at hv hq ⊢
  have hc256 : s[p].toNat < 256 := s[p].toNat_lt
  have hv1 : ¬ m < (s[p].toNat : Int) := by omega
  have hq1 : ¬ ((s.size : Int) - p - 1 < (s[p].toNat : Int)) := by omega
  have hsl := slice_str Tryd.prog 9 Tryd.underlying9 s (p + 1) (p + 1 + s[p].toNat) ((p : Int) + 1) ((p : Int) + 1 + (s[p].toNat : Int)) (by omega) (by omega) (by omega) hq
  have hl := h.lt
  have h1 := h.keep0 (gb_alloc w (.cells #[.int .i64 0, .int .i64 0] 36) none)
  have rb := Blk.mk w 36 #[.int .i64 0, .int .i64 0]
  have hc0 := h1.c0
  have hc1 := h1.c1
  go_enter Tryd.func13, Tryd.ntmps13
  go_wp2
  go_quiet (fail)
  go_wp2
  go_quiet (fail)
  go_wp2
  go_quiet (fail)
  go_wp2
  go_quiet (fail)
  have fq := h1.free 1
  go_wp2
  have q1 := fun N => (h1.keep0 (gb_drewN _ N none)).setI ((p : Int) + 1 + (s[p].toNat : Int)) (p + 1 + s[p].toNat) (by omega)
  have rb1 := fun N => (rb.keep0 (gb_drewN _ N none)).keep (gb_set _ b 1 none (.int .i64 ((p : Int) + 1 + (s[p].toNat : Int)))) (ne_some (by omega))
  have k0 := fun N => Blk.cell (Blk.set (Blk.set (rb1 N) 0 (.int .i64 0)) 1 (.int .i64 0)) 0 rfl
  have k1 := fun N => Blk.cell (Blk.set (Blk.set (rb1 N) 0 (.int .i64 0)) 1 (.int .i64 0)) 1 rfl
  refine bodyPost_ret (v := .tuple #[.string (s.extract (p + 1) (p + 1 + s[p].toNat)), .agg #[.int .i64 0, .int .i64 0]]) (by simp [results, Tryd.results13, go_sem, k0, k1]) rfl ⟨rfl, ?_, ?_⟩
  · exact ((q1 _).keep (gb_set _ _ _ _ _) (ne_some (by omega))).keep (gb_set _ _ _ _ _) (ne_some (by omega))
  · exact gb_step (gb_step (gb_trans (gb_trans (gb_alloc _ _ _) (gb_drewN _ _ _)) (gb_set _ _ _ _ _)) (gb_set _ _ _ _ _) (Nat.le_refl _)) (gb_set _ _ _ _ _) (Nat.le_refl _)
theorem rnum1_short (b : Nat) (s : ByteArray) (p : Nat) (w : World) (h : Qd w b s p) (hp : p ≤ s.size) (_hs : s.size ≤ 1000000) (hn : s.size < p + 1) :
    Calls Tryd.prog 10 #[.pointer (some ⟨b, 0, none⟩), .int .i64 1] w (RFaulted w (.int .u64 0) 3 p) := by
  have hn1 : (s.size : Int) - p < 1 := by omega
  have hl := h.lt
  have h1 := h.keep0 (gb_alloc w (.cells #[.int .i64 0, .int .i64 0] 36) none)
  have rb := Blk.mk w 36 #[.int .i64 0, .int .i64 0]
  have hc0 := h1.c0
  have hc1 := h1.c1
  go_enter Tryd.func10, Tryd.ntmps10
  go_wp2
  go_quiet (fail)
  go_wp2_with (go_at_call 29; go_must (refine (rfault_any b s p _ _ (h1.keep0 (gb_drewN _ _ _))).mono ?_; rintro e w1 ⟨rfl, g1⟩; replace rb := (rb.keep0 (gb_drewN _ _ _)).keep0 g1; have r0 := Blk.cell rb 0 rfl; have r1 := Blk.cell rb 1 rfl; have f0 := Blk.free rb 0; have f1 := Blk.free rb 1))
  have rb2 := Blk.set (Blk.set rb 0 (.int .i64 3)) 1 (.int .i64 p)
  have k0 := Blk.cell rb2 0 rfl
  have k1 := Blk.cell rb2 1 rfl
  refine bodyPost_ret (v := .tuple #[.int .u64 0, .agg #[.int .i64 3, .int .i64 p]]) (by simp [results, Tryd.results10, go_sem, k0, k1]) rfl ⟨rfl, ?_⟩
  exact gb_step (gb_step (gb_trans (gb_trans (gb_alloc _ _ _) (gb_drewN _ _ _)) g1) (gb_set _ _ _ _ _) (Nat.le_refl _)) (gb_set _ _ _ _ _) (Nat.le_refl _)
set_option maxRecDepth 100000 in
set_option maxHeartbeats 400000 in
theorem rnum1_ok (b : Nat) (s : ByteArray) (p : Nat) (w : World) (h : Qd w b s p) (hp : p + 1 ≤ s.size) (hs : s.size ≤ 1000000) :
    Calls Tryd.prog 10 #[.pointer (some ⟨b, 0, none⟩), .int .i64 1] w fun e w' => e = .returned (.tuple #[.int .u64 (valAt s p 1), .agg #[.int .i64 0, .int .i64 0]]) ∧ Qd w' b s (p + 1) ∧ w.grownBy w' (some b) := by
  have hn1 : ¬ ((s.size : Int) - p < 1) := by omega
  have hl := h.lt
  have h1 := h.keep0 (gb_alloc w (.cells #[.int .i64 0, .int .i64 0] 36) none)
  have rb := Blk.mk w 36 #[.int .i64 0, .int .i64 0]
  have hc0 := h1.c0
  have hc1 := h1.c1
  go_enter Tryd.func10, Tryd.ntmps10
  go_wp2
  go_quiet (fail)
  go_wp2
  go_loopw [6, 7] (fun n i wr => ∃ k N : Nat, k ≤ 1 ∧ i = .int .i64 k ∧ n = .int .u64 (valAt s p k) ∧ wr = (w.alloc (.cells #[.int .i64 0, .int .i64 0] 36)).drewN N) (fun _ i _ => 1 - (intOf i).toNat)
  case atStart => exact ⟨0, _, by omega, rfl, rfl, rfl⟩
  case round =>
    obtain ⟨k, N, hk, rfl, rfl, rfl⟩ := hrel
    by_cases hlt : k < 1
    · obtain ⟨j, hj⟩ : ∃ j : Nat, j = p + k := ⟨_, rfl⟩
      have hi : j < s.size := by omega
      have e1 := wrap_mul s p k (by omega)
      have e3 := wrap_step s p k j hj hi (by omega)
      have e2 : IntKind.i64.wrap ((p : Int) + k) = (j : Int) := by rw [IntWalk.i64_in _ (by omega)]; omega
      clear hj
      obtain ⟨x, hx⟩ : ∃ x : Nat, x = valAt s p k := ⟨_, rfl⟩
      rw [← hx] at e1 e3 ⊢
      clear hx
      have E3 := Lib.hid e3
      clear e3
      go_wp2
      go_quiet (fail)
      go_wp2
      go_roundw
      case rel => exact ⟨k + 1, _, by omega, by go_num, congrArg (Value.int .u64) E3.out, rfl⟩
      case measure => simp [intOf]; omega
    · have hk1 : k = 1 := by omega
      subst hk1
      have fq := h1.free 1
      have q1 := (h1.keep0 (gb_drewN _ N none)).setI ((p : Int) + 1) (p + 1) (by omega)
      have rb1 := (rb.keep0 (gb_drewN _ N none)).keep (gb_set _ b 1 none (.int .i64 ((p : Int) + 1))) (ne_some (by omega))
      have k0 := Blk.cell (Blk.set (Blk.set rb1 0 (.int .i64 0)) 1 (.int .i64 0)) 0 rfl
      have k1 := Blk.cell (Blk.set (Blk.set rb1 0 (.int .i64 0)) 1 (.int .i64 0)) 1 rfl
      go_wp2
      refine bodyPost_ret (v := .tuple #[.int .u64 (valAt s p 1), .agg #[.int .i64 0, .int .i64 0]]) (by simp [results, Tryd.results10, go_sem, k0, k1]) rfl ⟨rfl, ?_, ?_⟩
      · exact (q1.keep (gb_set _ _ _ _ _) (ne_some (by omega))).keep (gb_set _ _ _ _ _) (ne_some (by omega))
      · exact gb_step (gb_step (gb_trans (gb_trans (gb_alloc _ _ _) (gb_drewN _ _ _)) (gb_set _ _ _ _ _)) (gb_set _ _ _ _ _) (Nat.le_refl _)) (gb_set _ _ _ _ _) (Nat.le_refl _)
theorem rnum2_short (b : Nat) (s : ByteArray) (p : Nat) (w : World) (h : Qd w b s p) (hp : p ≤ s.size) (_hs : s.size ≤ 1000000) (hn : s.size < p + 2) :
    Calls Tryd.prog 10 #[.pointer (some ⟨b, 0, none⟩), .int .i64 2] w (RFaulted w (.int .u64 0) 3 p) := by
  have hn1 : (s.size : Int) - p < 2 := by omega
  have hl := h.lt
  have h1 := h.keep0 (gb_alloc w (.cells #[.int .i64 0, .int .i64 0] 36) none)
  have rb := Blk.mk w 36 #[.int .i64 0, .int .i64 0]
  have hc0 := h1.c0
  have hc1 := h1.c1
  go_enter Tryd.func10, Tryd.ntmps10
  go_wp2
  go_quiet (fail)
  go_wp2_with (go_at_call 29; go_must (refine (rfault_any b s p _ _ (h1.keep0 (gb_drewN _ _ _))).mono ?_; rintro e w1 ⟨rfl, g1⟩; replace rb := (rb.keep0 (gb_drewN _ _ _)).keep0 g1; have r0 := Blk.cell rb 0 rfl; have r1 := Blk.cell rb 1 rfl; have f0 := Blk.free rb 0; have f1 := Blk.free rb 1))
  have rb2 := Blk.set (Blk.set rb 0 (.int .i64 3)) 1 (.int .i64 p)
  have k0 := Blk.cell rb2 0 rfl
  have k1 := Blk.cell rb2 1 rfl
  refine bodyPost_ret (v := .tuple #[.int .u64 0, .agg #[.int .i64 3, .int .i64 p]]) (by simp [results, Tryd.results10, go_sem, k0, k1]) rfl ⟨rfl, ?_⟩
  exact gb_step (gb_step (gb_trans (gb_trans (gb_alloc _ _ _) (gb_drewN _ _ _)) g1) (gb_set _ _ _ _ _) (Nat.le_refl _)) (gb_set _ _ _ _ _) (Nat.le_refl _)
set_option maxRecDepth 100000 in
set_option maxHeartbeats 400000 in
theorem rnum2_ok (b : Nat) (s : ByteArray) (p : Nat) (w : World) (h : Qd w b s p) (hp : p + 2 ≤ s.size) (hs : s.size ≤ 1000000) :
    Calls Tryd.prog 10 #[.pointer (some ⟨b, 0, none⟩), .int .i64 2] w fun e w' => e = .returned (.tuple #[.int .u64 (valAt s p 2), .agg #[.int .i64 0, .int .i64 0]]) ∧ Qd w' b s (p + 2) ∧ w.grownBy w' (some b) := by
  have hn1 : ¬ ((s.size : Int) - p < 2) := by omega
  have hl := h.lt
  have h1 := h.keep0 (gb_alloc w (.cells #[.int .i64 0, .int .i64 0] 36) none)
  have rb := Blk.mk w 36 #[.int .i64 0, .int .i64 0]
  have hc0 := h1.c0
  have hc1 := h1.c1
  go_enter Tryd.func10, Tryd.ntmps10
  go_wp2
  go_quiet (fail)
  go_wp2
  go_loopw [6, 7] (fun n i wr => ∃ k N : Nat, k ≤ 2 ∧ i = .int .i64 k ∧ n = .int .u64 (valAt s p k) ∧ wr = (w.alloc (.cells #[.int .i64 0, .int .i64 0] 36)).drewN N) (fun _ i _ => 2 - (intOf i).toNat)
  case atStart => exact ⟨0, _, by omega, rfl, rfl, rfl⟩
  case round =>
    obtain ⟨k, N, hk, rfl, rfl, rfl⟩ := hrel
    by_cases hlt : k < 2
    · obtain ⟨j, hj⟩ : ∃ j : Nat, j = p + k := ⟨_, rfl⟩
      have hi : j < s.size := by omega
      have e1 := wrap_mul s p k (by omega)
      have e3 := wrap_step s p k j hj hi (by omega)
      have e2 : IntKind.i64.wrap ((p : Int) + k) = (j : Int) := by rw [IntWalk.i64_in _ (by omega)]; omega
      clear hj
      obtain ⟨x, hx⟩ : ∃ x : Nat, x = valAt s p k := ⟨_, rfl⟩
      rw [← hx] at e1 e3 ⊢
      clear hx
      have E3 := Lib.hid e3
      clear e3
      go_wp2
      go_quiet (fail)
      go_wp2
      go_roundw
      case rel => exact ⟨k + 1, _, by omega, by go_num, congrArg (Value.int .u64) E3.out, rfl⟩
      case measure => simp [intOf]; omega
    · have hk2 : k = 2 := by omega
      subst hk2
      have fq := h1.free 1
      have q1 := (h1.keep0 (gb_drewN _ N none)).setI ((p : Int) + 2) (p + 2) (by omega)
      have rb1 := (rb.keep0 (gb_drewN _ N none)).keep (gb_set _ b 1 none (.int .i64 ((p : Int) + 2))) (ne_some (by omega))
      have k0 := Blk.cell (Blk.set (Blk.set rb1 0 (.int .i64 0)) 1 (.int .i64 0)) 0 rfl
      have k1 := Blk.cell (Blk.set (Blk.set rb1 0 (.int .i64 0)) 1 (.int .i64 0)) 1 rfl
      go_wp2
      refine bodyPost_ret (v := .tuple #[.int .u64 (valAt s p 2), .agg #[.int .i64 0, .int .i64 0]]) (by simp [results, Tryd.results10, go_sem, k0, k1]) rfl ⟨rfl, ?_, ?_⟩
      · exact (q1.keep (gb_set _ _ _ _ _) (ne_some (by omega))).keep (gb_set _ _ _ _ _) (ne_some (by omega))
      · exact gb_step (gb_step (gb_trans (gb_trans (gb_alloc _ _ _) (gb_drewN _ _ _)) (gb_set _ _ _ _ _)) (gb_set _ _ _ _ _) (Nat.le_refl _)) (gb_set _ _ _ _ _) (Nat.le_refl _)
theorem rnum4_short (b : Nat) (s : ByteArray) (p : Nat) (w : World) (h : Qd w b s p) (hp : p ≤ s.size) (_hs : s.size ≤ 1000000) (hn : s.size < p + 4) :
    Calls Tryd.prog 10 #[.pointer (some ⟨b, 0, none⟩), .int .i64 4] w (RFaulted w (.int .u64 0) 3 p) := by
  have hn1 : (s.size : Int) - p < 4 := by omega
  have hl := h.lt
  have h1 := h.keep0 (gb_alloc w (.cells #[.int .i64 0, .int .i64 0] 36) none)
  have rb := Blk.mk w 36 #[.int .i64 0, .int .i64 0]
  have hc0 := h1.c0
  have hc1 := h1.c1
  go_enter Tryd.func10, Tryd.ntmps10
  go_wp2
  go_quiet (fail)
  go_wp2_with (go_at_call 29; go_must (refine (rfault_any b s p _ _ (h1.keep0 (gb_drewN _ _ _))).mono ?_; rintro e w1 ⟨rfl, g1⟩; replace rb := (rb.keep0 (gb_drewN _ _ _)).keep0 g1; have r0 := Blk.cell rb 0 rfl; have r1 := Blk.cell rb 1 rfl; have f0 := Blk.free rb 0; have f1 := Blk.free rb 1))
  have rb2 := Blk.set (Blk.set rb 0 (.int .i64 3)) 1 (.int .i64 p)
  have k0 := Blk.cell rb2 0 rfl
  have k1 := Blk.cell rb2 1 rfl
  refine bodyPost_ret (v := .tuple #[.int .u64 0, .agg #[.int .i64 3, .int .i64 p]]) (by simp [results, Tryd.results10, go_sem, k0, k1]) rfl ⟨rfl, ?_⟩
  exact gb_step (gb_step (gb_trans (gb_trans (gb_alloc _ _ _) (gb_drewN _ _ _)) g1) (gb_set _ _ _ _ _) (Nat.le_refl _)) (gb_set _ _ _ _ _) (Nat.le_refl _)
set_option maxRecDepth 100000 in
set_option maxHeartbeats 400000 in
theorem rnum4_ok (b : Nat) (s : ByteArray) (p : Nat) (w : World) (h : Qd w b s p) (hp : p + 4 ≤ s.size) (hs : s.size ≤ 1000000) :
    Calls Tryd.prog 10 #[.pointer (some ⟨b, 0, none⟩), .int .i64 4] w fun e w' => e = .returned (.tuple #[.int .u64 (valAt s p 4), .agg #[.int .i64 0, .int .i64 0]]) ∧ Qd w' b s (p + 4) ∧ w.grownBy w' (some b) := by
  have hn1 : ¬ ((s.size : Int) - p < 4) := by omega
  have hl := h.lt
  have h1 := h.keep0 (gb_alloc w (.cells #[.int .i64 0, .int .i64 0] 36) none)
  have rb := Blk.mk w 36 #[.int .i64 0, .int .i64 0]
  have hc0 := h1.c0
  have hc1 := h1.c1
  go_enter Tryd.func10, Tryd.ntmps10
  go_wp2
  go_quiet (fail)
  go_wp2
  go_loopw [6, 7] (fun n i wr => ∃ k N : Nat, k ≤ 4 ∧ i = .int .i64 k ∧ n = .int .u64 (valAt s p k) ∧ wr = (w.alloc (.cells #[.int .i64 0, .int .i64 0] 36)).drewN N) (fun _ i _ => 4 - (intOf i).toNat)
  case atStart => exact ⟨0, _, by omega, rfl, rfl, rfl⟩
  case round =>
    obtain ⟨k, N, hk, rfl, rfl, rfl⟩ := hrel
    by_cases hlt : k < 4
    · obtain ⟨j, hj⟩ : ∃ j : Nat, j = p + k := ⟨_, rfl⟩
      have hi : j < s.size := by omega
      have e1 := wrap_mul s p k (by omega)
      have e3 := wrap_step s p k j hj hi (by omega)
      have e2 : IntKind.i64.wrap ((p : Int) + k) = (j : Int) := by rw [IntWalk.i64_in _ (by omega)]; omega
      clear hj
      obtain ⟨x, hx⟩ : ∃ x : Nat, x = valAt s p k := ⟨_, rfl⟩
      rw [← hx] at e1 e3 ⊢
      clear hx
      have E3 := Lib.hid e3
      clear e3
      go_wp2
      go_quiet (fail)
      go_wp2
      go_roundw
      case rel => exact ⟨k + 1, _, by omega, by go_num, congrArg (Value.int .u64) E3.out, rfl⟩
      case measure => simp [intOf]; omega
    · have hk4 : k = 4 := by omega
      subst hk4
      have fq := h1.free 1
      have q1 := (h1.keep0 (gb_drewN _ N none)).setI ((p : Int) + 4) (p + 4) (by omega)
      have rb1 := (rb.keep0 (gb_drewN _ N none)).keep (gb_set _ b 1 none (.int .i64 ((p : Int) + 4))) (ne_some (by omega))
      have k0 := Blk.cell (Blk.set (Blk.set rb1 0 (.int .i64 0)) 1 (.int .i64 0)) 0 rfl
      have k1 := Blk.cell (Blk.set (Blk.set rb1 0 (.int .i64 0)) 1 (.int .i64 0)) 1 rfl
      go_wp2
      refine bodyPost_ret (v := .tuple #[.int .u64 (valAt s p 4), .agg #[.int .i64 0, .int .i64 0]]) (by simp [results, Tryd.results10, go_sem, k0, k1]) rfl ⟨rfl, ?_, ?_⟩
      · exact (q1.keep (gb_set _ _ _ _ _) (ne_some (by omega))).keep (gb_set _ _ _ _ _) (ne_some (by omega))
      · exact gb_step (gb_step (gb_trans (gb_trans (gb_alloc _ _ _) (gb_drewN _ _ _)) (gb_set _ _ _ _ _)) (gb_set _ _ _ _ _) (Nat.le_refl _)) (gb_set _ _ _ _ _) (Nat.le_refl _)
theorem rnum8_short (b : Nat) (s : ByteArray) (p : Nat) (w : World) (h : Qd w b s p) (hp : p ≤ s.size) (_hs : s.size ≤ 1000000) (hn : s.size < p + 8) :
    Calls Tryd.prog 10 #[.pointer (some ⟨b, 0, none⟩), .int .i64 8] w (RFaulted w (.int .u64 0) 3 p) := by
  have hn1 : (s.size : Int) - p < 8 := by omega
  have hl := h.lt
  have h1 := h.keep0 (gb_alloc w (.cells #[.int .i64 0, .int .i64 0] 36) none)
  have rb := Blk.mk w 36 #[.int .i64 0, .int .i64 0]
  have hc0 := h1.c0
  have hc1 := h1.c1
  go_enter Tryd.func10, Tryd.ntmps10
  go_wp2
  go_quiet (fail)
  go_wp2_with (go_at_call 29; go_must (refine (rfault_any b s p _ _ (h1.keep0 (gb_drewN _ _ _))).mono ?_; rintro e w1 ⟨rfl, g1⟩; replace rb := (rb.keep0 (gb_drewN _ _ _)).keep0 g1; have r0 := Blk.cell rb 0 rfl; have r1 := Blk.cell rb 1 rfl; have f0 := Blk.free rb 0; have f1 := Blk.free rb 1))
  have rb2 := Blk.set (Blk.set rb 0 (.int .i64 3)) 1 (.int .i64 p)
  have k0 := Blk.cell rb2 0 rfl
  have k1 := Blk.cell rb2 1 rfl
  refine bodyPost_ret (v := .tuple #[.int .u64 0, .agg #[.int .i64 3, .int .i64 p]]) (by simp [results, Tryd.results10, go_sem, k0, k1]) rfl ⟨rfl, ?_⟩
  exact gb_step (gb_step (gb_trans (gb_trans (gb_alloc _ _ _) (gb_drewN _ _ _)) g1) (gb_set _ _ _ _ _) (Nat.le_refl _)) (gb_set _ _ _ _ _) (Nat.le_refl _)
set_option maxRecDepth 100000 in
set_option maxHeartbeats 400000 in
theorem rnum8_ok (b : Nat) (s : ByteArray) (p : Nat) (w : World) (h : Qd w b s p) (hp : p + 8 ≤ s.size) (hs : s.size ≤ 1000000) :
    Calls Tryd.prog 10 #[.pointer (some ⟨b, 0, none⟩), .int .i64 8] w fun e w' => e = .returned (.tuple #[.int .u64 (valAt s p 8), .agg #[.int .i64 0, .int .i64 0]]) ∧ Qd w' b s (p + 8) ∧ w.grownBy w' (some b) := by
  have hn1 : ¬ ((s.size : Int) - p < 8) := by omega
  have hl := h.lt
  have h1 := h.keep0 (gb_alloc w (.cells #[.int .i64 0, .int .i64 0] 36) none)
  have rb := Blk.mk w 36 #[.int .i64 0, .int .i64 0]
  have hc0 := h1.c0
  have hc1 := h1.c1
  go_enter Tryd.func10, Tryd.ntmps10
  go_wp2
  go_quiet (fail)
  go_wp2
  go_loopw [6, 7] (fun n i wr => ∃ k N : Nat, k ≤ 8 ∧ i = .int .i64 k ∧ n = .int .u64 (valAt s p k) ∧ wr = (w.alloc (.cells #[.int .i64 0, .int .i64 0] 36)).drewN N) (fun _ i _ => 8 - (intOf i).toNat)
  case atStart => exact ⟨0, _, by omega, rfl, rfl, rfl⟩
  case round =>
    obtain ⟨k, N, hk, rfl, rfl, rfl⟩ := hrel
    by_cases hlt : k < 8
    · obtain ⟨j, hj⟩ : ∃ j : Nat, j = p + k := ⟨_, rfl⟩
      have hi : j < s.size := by omega
      have e1 := wrap_mul s p k (by omega)
      have e3 := wrap_step s p k j hj hi (by omega)
      have e2 : IntKind.i64.wrap ((p : Int) + k) = (j : Int) := by rw [IntWalk.i64_in _ (by omega)]; omega
      clear hj
      obtain ⟨x, hx⟩ : ∃ x : Nat, x = valAt s p k := ⟨_, rfl⟩
      rw [← hx] at e1 e3 ⊢
      clear hx
      have E3 := Lib.hid e3
      clear e3
      go_wp2
      go_quiet (fail)
      go_wp2
      go_roundw
      case rel => exact ⟨k + 1, _, by omega, by go_num, congrArg (Value.int .u64) E3.out, rfl⟩
      case measure => simp [intOf]; omega
    · have hk8 : k = 8 := by omega
      subst hk8
      have fq := h1.free 1
      have q1 := (h1.keep0 (gb_drewN _ N none)).setI ((p : Int) + 8) (p + 8) (by omega)
      have rb1 := (rb.keep0 (gb_drewN _ N none)).keep (gb_set _ b 1 none (.int .i64 ((p : Int) + 8))) (ne_some (by omega))
      have k0 := Blk.cell (Blk.set (Blk.set rb1 0 (.int .i64 0)) 1 (.int .i64 0)) 0 rfl
      have k1 := Blk.cell (Blk.set (Blk.set rb1 0 (.int .i64 0)) 1 (.int .i64 0)) 1 rfl
      go_wp2
      refine bodyPost_ret (v := .tuple #[.int .u64 (valAt s p 8), .agg #[.int .i64 0, .int .i64 0]]) (by simp [results, Tryd.results10, go_sem, k0, k1]) rfl ⟨rfl, ?_, ?_⟩
      · exact (q1.keep (gb_set _ _ _ _ _) (ne_some (by omega))).keep (gb_set _ _ _ _ _) (ne_some (by omega))
      · exact gb_step (gb_step (gb_trans (gb_trans (gb_alloc _ _ _) (gb_drewN _ _ _)) (gb_set _ _ _ _ _)) (gb_set _ _ _ _ _) (Nat.le_refl _)) (gb_set _ _ _ _ _) (Nat.le_refl _)
end Go.Proofs.YtcoedakbagbenaaDoor
