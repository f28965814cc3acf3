/-
  FixedReads' walk, over this seat's translation: whatever text and calls: it returns true, and nothing that was there has turned; conditions: the variable errors.errorType holds its type's handle; the slice reads as numbers of 16 bits.
-/
import Derived.Test.YtcoedakbagbenaaDoorWorks
import Derived.Test.YtcoedakbagbenaaDoorRt
import Derived.Deep.RegionHeld3
namespace Go.Proofs.YtcoedakbagbenaaDoor
open Go.RowKit

/-- Both readers stand at one place of the text; nothing that was there has turned. -/
def Both (w : World) (B C : Nat) (t : ByteArray) (W : World) : Prop := ∃ p : Nat, p ≤ t.size ∧ Rd W B t p ∧ Qd W C t p ∧ w.grownBy W none

set_option maxRecDepth 100000 in
set_option maxHeartbeats 16000000 in
theorem reads_some (s : ByteArray) (a : Addr) (len cap : Nat) (zs : List Int) (w : World) (hd : Hd w) (hs : s.size ≤ 9223372036854775807) (_hlen : len ≤ 9223372036854775807)
    (hcell : ∀ i, i < len → w.cell? (a.add i) = some (.int .i16 (zs.getD i 0))) (hr : ∀ i, i < len → -32768 ≤ zs.getD i 0 ∧ zs.getD i 0 ≤ 32767) :
    Calls Tryd.prog 3 #[.string s, .slice (some a) len cap] w fun e w' => e = .returned (.bool true) ∧ w.grownBy w' none := by
  have HC := Lib.hid hcell
  have HR := Lib.hid hr
  clear hcell hr
  go_enter Tryd.func3, Tryd.ntmps3
  go_wp2_with (go_at_call 8; go_must (refine (new_any _ _).mono ?_; rintro e w1 ⟨rfl, rfl⟩))
  obtain ⟨t, ht⟩ : ∃ t : ByteArray, t = s.extract 0 (min (s.size : Int) 500).toNat := ⟨_, rfl⟩
  have ht1 : t.size ≤ 500 := by rw [ht]; simp; omega
  rw [← ht]
  clear ht
  obtain ⟨w0, hw0⟩ : ∃ w0 : World, w0 = (w.alloc (.cells #[.string t, .int .i64 0] 70)).alloc (.cells #[.string t, .int .i64 0] 27) := ⟨_, rfl⟩
  have g0 : w.grownBy w0 none := by rw [hw0]; exact gb_trans (gb_alloc _ _ _) (gb_alloc _ _ _)
  have r0 : Rd w0 w.heap.size t 0 := by rw [hw0]; exact (Blk.mk _ _ _).keep0 (gb_alloc _ _ _)
  have q0 : Qd w0 (w.heap.size + 1) t 0 := by
    have h := Blk.mk (w.alloc (.cells #[.string t, .int .i64 0] 70)) 27 #[.string t, .int .i64 0]
    rw [show (w.alloc (.cells #[.string t, .int .i64 0] 70)).heap.size = w.heap.size + 1 from by simp] at h
    rw [hw0]; exact h
  rw [← hw0]
  clear hw0
  go_loopw [7] (fun i wr => ∃ k : Nat, k ≤ 40 ∧ i = .int .i64 k ∧ Both w w.heap.size (w.heap.size + 1) t wr) (fun i _ => 40 - (intOf i).toNat)
  case atStart => exact ⟨0, by omega, rfl, 0, by omega, r0, q0, g0⟩
  case round =>
    obtain ⟨k, hk, rfl, p, hp, hr, hq, hg⟩ := hrel
    have hd1 := hd.keep0 hg
    by_cases hlt : k < len ∧ k < 40
    · obtain ⟨h1, h2⟩ := hlt
      have hc := hg.cell (HC.out k h1) (by simp)
      have hz := HR.out k h1
      obtain ⟨z, hz0⟩ : ∃ z : Int, z = zs.getD k 0 := ⟨_, rfl⟩
      rw [← hz0] at hc hz
      clear hz0
      obtain ⟨hz1, hz2⟩ := hz
      by_cases hz3 : z < 0
      · go_upto_if 49 with fail
        go_cut [5] (fun s5 wx => s5 = .pointer (some ⟨w.heap.size, 0, none⟩) ∧ Both w w.heap.size (w.heap.size + 1) t wx)
        case first =>
          have hm : z - 4 < 0 := by omega
          go_wp2_with fail
          ((with_reducible refine (text_neg _ t p _ _ hr hm).mono ?_); rintro e w1 ⟨fb, rfl, _, f1, a1⟩)
          have q1 := hq.keep0 a1
          have g1 := gb_trans hg a1
          go_wp2_with fail
          ((with_reducible refine (rtext_neg _ t p _ _ q1 hm).mono ?_); rintro e w2 ⟨rfl, a2⟩)
          have a3 := gb_trans a2 (gb_alloc w2 (.cells #[.int .i64 2, .int .i64 p] 36) none)
          have f3 := f1.keep0 a3
          have d3 := hd.keep0 (gb_trans g1 a3)
          go_wp2_with fail
          ((with_reducible refine (law_is_fault _ 2 p _ d3 f3 rfl).mono ?_); rintro e w3 ⟨rfl, a4⟩)
          have a5 := gb_trans (gb_trans a1 a3) a4
          go_wp2_with fail
          go_meet
          exact ⟨rfl, _, hp, hr.keep0 a5, hq.keep0 a5, gb_trans hg a5⟩
        case rest =>
          obtain ⟨rfl, p1, hp1, r1, q1, g1⟩ := hcut
          have rk := r1.keep0 (gb_drew wc none)
          have qk := q1.keep0 (gb_drew wc none)
          have gk := gb_trans g1 (gb_drew wc none)
          have hdk := hd.keep0 gk
          have qc := qk.c1
          have ew : IntKind.i64.wrap ((t.size : Int) - p1) = (t.size : Int) - p1 := IntWalk.i64_in _ (by omega)
          by_cases hlt1 : p1 < t.size
          · go_wp2_with fail
            clear HC HR hc hz1 hz2 h1 hr hq hg hd1 r0 q0 g0 r1 q1 g1 hd hp
            go_region_held3 (fun w' => w'.cell? ⟨w.heap.size + 1, 1, none⟩ = some (.int .i64 (p1 : Int))) (exact qk.c1) (first | (go_at_call 14; go_must (refine (place_any w.heap.size t p1 _ rk).mono ?_; rintro e wn ⟨rfl, rfl⟩)) | (go_at_call 15; go_must (refine (left_any w.heap.size t p1 _ rk hp1 (by omega)).mono ?_; rintro e wn ⟨rfl, an, hh⟩; clear hh; replace rk := rk.keep0 an; replace qk := qk.keep0 an; replace gk := gb_trans gk an; replace hdk := hdk.keep0 an; clear qc; have qc := qk.c1; clear an)) | (go_at_call 16; go_must (refine (end_left w.heap.size t p1 _ rk hlt1 (by omega)).mono ?_; rintro e wn ⟨rfl, fe, an⟩; replace rk := rk.keep0 an; replace qk := qk.keep0 an; replace gk := gb_trans gk an; replace hdk := hdk.keep0 an; clear qc; have qc := qk.c1; clear an)) | (go_at_call 17; go_must (refine (rend_left (w.heap.size + 1) t p1 _ qk hlt1 (by omega)).mono ?_; rintro e wn ⟨rfl, an⟩; replace fe := fe.keep0 an; replace rk := rk.keep0 an; replace qk := qk.keep0 an; replace gk := gb_trans gk an; replace hdk := hdk.keep0 an; clear qc; have qc := qk.c1; clear an)) | (go_at_call 11; go_must (refine (law_is_fault _ 4 p1 _ hdk fe rfl).mono ?_; rintro e wn ⟨rfl, an⟩; replace rk := rk.keep0 an; replace qk := qk.keep0 an; replace gk := gb_trans gk an; replace hdk := hdk.keep0 an; clear qc; have qc := qk.c1; clear an)))
            all_goals
              go_wp2
              go_roundw
              case rel => exact ⟨k + 1, by omega, by go_num, p1, hp1, rk, qk, gk⟩
              case measure => simp [intOf]; omega
          · go_wp2_with fail
            clear HC HR hc hz1 hz2 h1 hr hq hg hd1 r0 q0 g0 r1 q1 g1 hd hp
            go_region_held3 (fun w' => w'.cell? ⟨w.heap.size + 1, 1, none⟩ = some (.int .i64 (p1 : Int))) (exact qk.c1) (first | (go_at_call 14; go_must (refine (place_any w.heap.size t p1 _ rk).mono ?_; rintro e wn ⟨rfl, rfl⟩)) | (go_at_call 15; go_must (refine (left_any w.heap.size t p1 _ rk hp1 (by omega)).mono ?_; rintro e wn ⟨rfl, an, hh⟩; clear hh; replace rk := rk.keep0 an; replace qk := qk.keep0 an; replace gk := gb_trans gk an; replace hdk := hdk.keep0 an; clear qc; have qc := qk.c1; clear an)) | (go_at_call 16; go_must (refine (end_all w.heap.size t p1 _ rk (by omega) (by omega)).mono ?_; rintro e wn ⟨rfl, an⟩; replace rk := rk.keep0 an; replace qk := qk.keep0 an; replace gk := gb_trans gk an; replace hdk := hdk.keep0 an; clear qc; have qc := qk.c1; clear an)) | (go_at_call 17; go_must (refine (rend_all (w.heap.size + 1) t p1 _ qk (by omega) (by omega)).mono ?_; rintro e wn ⟨rfl, an⟩; replace rk := rk.keep0 an; replace qk := qk.keep0 an; replace gk := gb_trans gk an; replace hdk := hdk.keep0 an; clear qc; have qc := qk.c1; clear an)) | (go_at_call 11; go_must (refine (law_is_nil 0 _).mono ?_; rintro e wn ⟨rfl, an⟩; replace rk := rk.keep0 an; replace qk := qk.keep0 an; replace gk := gb_trans gk an; replace hdk := hdk.keep0 an; clear qc; have qc := qk.c1; clear an)))
            all_goals
              go_wp2
              go_roundw
              case rel => exact ⟨k + 1, by omega, by go_num, p1, hp1, rk, qk, gk⟩
              case measure => simp [intOf]; omega
      by_cases hz4 : z < 4
      · have hz5 : 0 ≤ z := by omega
        go_upto_if 49 with fail
        go_cut [5] (fun s5 wx => s5 = .pointer (some ⟨w.heap.size, 0, none⟩) ∧ Both w w.heap.size (w.heap.size + 1) t wx)
        case first =>
          by_cases e0 : z = 0
          · subst e0
            by_cases hf : p + 1 ≤ t.size
            · go_wp2_with fail
              ((with_reducible refine (num1_ok _ t p _ hr hf (by omega)).mono ?_); rintro e w1 ⟨rfl, r1, a1⟩)
              have q1 := hq.keep a1 (ne_some (by omega))
              have g1 := gb_step hg a1 (Nat.le_refl _)
              go_wp2_with fail
              ((with_reducible refine (rnum1_ok _ t p _ q1 hf (by omega)).mono ?_); rintro e w2 ⟨rfl, q2, a2⟩)
              have r2 := r1.keep a2 (ne_some (by omega))
              have g2 := gb_step g1 a2 (by omega)
              go_wp2_with fail
              ((with_reducible refine (law_is_nil 0 _).mono ?_); rintro e w3 ⟨rfl, a3⟩)
              have a4 := gb_trans (gb_alloc w2 (.cells #[.int .i64 0, .int .i64 0] 36) none) a3
              go_wp2_with fail
              go_meet
              exact ⟨rfl, _, by omega, r2.keep0 a4, q2.keep0 a4, gb_trans g2 a4⟩
            · go_wp2_with fail
              ((with_reducible refine (num1_short _ t p _ hr hp (by omega) (by omega)).mono ?_); rintro e w1 ⟨fb, rfl, _, f1, a1⟩)
              have q1 := hq.keep0 a1
              have g1 := gb_trans hg a1
              go_wp2_with fail
              ((with_reducible refine (rnum1_short _ t p _ q1 hp (by omega) (by omega)).mono ?_); rintro e w2 ⟨rfl, a2⟩)
              have a3 := gb_trans a2 (gb_alloc w2 (.cells #[.int .i64 3, .int .i64 p] 36) none)
              have f3 := f1.keep0 a3
              have d3 := hd.keep0 (gb_trans g1 a3)
              go_wp2_with fail
              ((with_reducible refine (law_is_fault _ 3 p _ d3 f3 rfl).mono ?_); rintro e w3 ⟨rfl, a4⟩)
              have a5 := gb_trans (gb_trans a1 a3) a4
              go_wp2_with fail
              go_meet
              exact ⟨rfl, _, hp, hr.keep0 a5, hq.keep0 a5, gb_trans hg a5⟩
          by_cases e1 : z = 1
          · subst e1
            by_cases hf : p + 2 ≤ t.size
            · go_wp2_with fail
              ((with_reducible refine (num2_ok _ t p _ hr hf (by omega)).mono ?_); rintro e w1 ⟨rfl, r1, a1⟩)
              have q1 := hq.keep a1 (ne_some (by omega))
              have g1 := gb_step hg a1 (Nat.le_refl _)
              go_wp2_with fail
              ((with_reducible refine (rnum2_ok _ t p _ q1 hf (by omega)).mono ?_); rintro e w2 ⟨rfl, q2, a2⟩)
              have r2 := r1.keep a2 (ne_some (by omega))
              have g2 := gb_step g1 a2 (by omega)
              go_wp2_with fail
              ((with_reducible refine (law_is_nil 0 _).mono ?_); rintro e w3 ⟨rfl, a3⟩)
              have a4 := gb_trans (gb_alloc w2 (.cells #[.int .i64 0, .int .i64 0] 36) none) a3
              go_wp2_with fail
              go_meet
              exact ⟨rfl, _, by omega, r2.keep0 a4, q2.keep0 a4, gb_trans g2 a4⟩
            · go_wp2_with fail
              ((with_reducible refine (num2_short _ t p _ hr hp (by omega) (by omega)).mono ?_); rintro e w1 ⟨fb, rfl, _, f1, a1⟩)
              have q1 := hq.keep0 a1
              have g1 := gb_trans hg a1
              go_wp2_with fail
              ((with_reducible refine (rnum2_short _ t p _ q1 hp (by omega) (by omega)).mono ?_); rintro e w2 ⟨rfl, a2⟩)
              have a3 := gb_trans a2 (gb_alloc w2 (.cells #[.int .i64 3, .int .i64 p] 36) none)
              have f3 := f1.keep0 a3
              have d3 := hd.keep0 (gb_trans g1 a3)
              go_wp2_with fail
              ((with_reducible refine (law_is_fault _ 3 p _ d3 f3 rfl).mono ?_); rintro e w3 ⟨rfl, a4⟩)
              have a5 := gb_trans (gb_trans a1 a3) a4
              go_wp2_with fail
              go_meet
              exact ⟨rfl, _, hp, hr.keep0 a5, hq.keep0 a5, gb_trans hg a5⟩
          by_cases e2 : z = 2
          · subst e2
            by_cases hf : p + 4 ≤ t.size
            · go_wp2_with fail
              ((with_reducible refine (num4_ok _ t p _ hr hf (by omega)).mono ?_); rintro e w1 ⟨rfl, r1, a1⟩)
              have q1 := hq.keep a1 (ne_some (by omega))
              have g1 := gb_step hg a1 (Nat.le_refl _)
              go_wp2_with fail
              ((with_reducible refine (rnum4_ok _ t p _ q1 hf (by omega)).mono ?_); rintro e w2 ⟨rfl, q2, a2⟩)
              have r2 := r1.keep a2 (ne_some (by omega))
              have g2 := gb_step g1 a2 (by omega)
              go_wp2_with fail
              ((with_reducible refine (law_is_nil 0 _).mono ?_); rintro e w3 ⟨rfl, a3⟩)
              have a4 := gb_trans (gb_alloc w2 (.cells #[.int .i64 0, .int .i64 0] 36) none) a3
              go_wp2_with fail
              go_meet
              exact ⟨rfl, _, by omega, r2.keep0 a4, q2.keep0 a4, gb_trans g2 a4⟩
            · go_wp2_with fail
              ((with_reducible refine (num4_short _ t p _ hr hp (by omega) (by omega)).mono ?_); rintro e w1 ⟨fb, rfl, _, f1, a1⟩)
              have q1 := hq.keep0 a1
              have g1 := gb_trans hg a1
              go_wp2_with fail
              ((with_reducible refine (rnum4_short _ t p _ q1 hp (by omega) (by omega)).mono ?_); rintro e w2 ⟨rfl, a2⟩)
              have a3 := gb_trans a2 (gb_alloc w2 (.cells #[.int .i64 3, .int .i64 p] 36) none)
              have f3 := f1.keep0 a3
              have d3 := hd.keep0 (gb_trans g1 a3)
              go_wp2_with fail
              ((with_reducible refine (law_is_fault _ 3 p _ d3 f3 rfl).mono ?_); rintro e w3 ⟨rfl, a4⟩)
              have a5 := gb_trans (gb_trans a1 a3) a4
              go_wp2_with fail
              go_meet
              exact ⟨rfl, _, hp, hr.keep0 a5, hq.keep0 a5, gb_trans hg a5⟩
          have e3 : z = 3 := by omega
          subst e3
          by_cases hf : p + 8 ≤ t.size
          · go_wp2_with fail
            ((with_reducible refine (num8_ok _ t p _ hr hf (by omega)).mono ?_); rintro e w1 ⟨rfl, r1, a1⟩)
            have q1 := hq.keep a1 (ne_some (by omega))
            have g1 := gb_step hg a1 (Nat.le_refl _)
            go_wp2_with fail
            ((with_reducible refine (rnum8_ok _ t p _ q1 hf (by omega)).mono ?_); rintro e w2 ⟨rfl, q2, a2⟩)
            have r2 := r1.keep a2 (ne_some (by omega))
            have g2 := gb_step g1 a2 (by omega)
            go_wp2_with fail
            ((with_reducible refine (law_is_nil 0 _).mono ?_); rintro e w3 ⟨rfl, a3⟩)
            have a4 := gb_trans (gb_alloc w2 (.cells #[.int .i64 0, .int .i64 0] 36) none) a3
            go_wp2_with fail
            go_meet
            exact ⟨rfl, _, by omega, r2.keep0 a4, q2.keep0 a4, gb_trans g2 a4⟩
          · go_wp2_with fail
            ((with_reducible refine (num8_short _ t p _ hr hp (by omega) (by omega)).mono ?_); rintro e w1 ⟨fb, rfl, _, f1, a1⟩)
            have q1 := hq.keep0 a1
            have g1 := gb_trans hg a1
            go_wp2_with fail
            ((with_reducible refine (rnum8_short _ t p _ q1 hp (by omega) (by omega)).mono ?_); rintro e w2 ⟨rfl, a2⟩)
            have a3 := gb_trans a2 (gb_alloc w2 (.cells #[.int .i64 3, .int .i64 p] 36) none)
            have f3 := f1.keep0 a3
            have d3 := hd.keep0 (gb_trans g1 a3)
            go_wp2_with fail
            ((with_reducible refine (law_is_fault _ 3 p _ d3 f3 rfl).mono ?_); rintro e w3 ⟨rfl, a4⟩)
            have a5 := gb_trans (gb_trans a1 a3) a4
            go_wp2_with fail
            go_meet
            exact ⟨rfl, _, hp, hr.keep0 a5, hq.keep0 a5, gb_trans hg a5⟩
        case rest =>
          obtain ⟨rfl, p1, hp1, r1, q1, g1⟩ := hcut
          have rk := r1.keep0 (gb_drew wc none)
          have qk := q1.keep0 (gb_drew wc none)
          have gk := gb_trans g1 (gb_drew wc none)
          have hdk := hd.keep0 gk
          have qc := qk.c1
          have ew : IntKind.i64.wrap ((t.size : Int) - p1) = (t.size : Int) - p1 := IntWalk.i64_in _ (by omega)
          by_cases hlt1 : p1 < t.size
          · go_wp2_with fail
            clear HC HR hc hz1 hz2 h1 hr hq hg hd1 r0 q0 g0 r1 q1 g1 hd hp
            go_region_held3 (fun w' => w'.cell? ⟨w.heap.size + 1, 1, none⟩ = some (.int .i64 (p1 : Int))) (exact qk.c1) (first | (go_at_call 14; go_must (refine (place_any w.heap.size t p1 _ rk).mono ?_; rintro e wn ⟨rfl, rfl⟩)) | (go_at_call 15; go_must (refine (left_any w.heap.size t p1 _ rk hp1 (by omega)).mono ?_; rintro e wn ⟨rfl, an, hh⟩; clear hh; replace rk := rk.keep0 an; replace qk := qk.keep0 an; replace gk := gb_trans gk an; replace hdk := hdk.keep0 an; clear qc; have qc := qk.c1; clear an)) | (go_at_call 16; go_must (refine (end_left w.heap.size t p1 _ rk hlt1 (by omega)).mono ?_; rintro e wn ⟨rfl, fe, an⟩; replace rk := rk.keep0 an; replace qk := qk.keep0 an; replace gk := gb_trans gk an; replace hdk := hdk.keep0 an; clear qc; have qc := qk.c1; clear an)) | (go_at_call 17; go_must (refine (rend_left (w.heap.size + 1) t p1 _ qk hlt1 (by omega)).mono ?_; rintro e wn ⟨rfl, an⟩; replace fe := fe.keep0 an; replace rk := rk.keep0 an; replace qk := qk.keep0 an; replace gk := gb_trans gk an; replace hdk := hdk.keep0 an; clear qc; have qc := qk.c1; clear an)) | (go_at_call 11; go_must (refine (law_is_fault _ 4 p1 _ hdk fe rfl).mono ?_; rintro e wn ⟨rfl, an⟩; replace rk := rk.keep0 an; replace qk := qk.keep0 an; replace gk := gb_trans gk an; replace hdk := hdk.keep0 an; clear qc; have qc := qk.c1; clear an)))
            all_goals
              go_wp2
              go_roundw
              case rel => exact ⟨k + 1, by omega, by go_num, p1, hp1, rk, qk, gk⟩
              case measure => simp [intOf]; omega
          · go_wp2_with fail
            clear HC HR hc hz1 hz2 h1 hr hq hg hd1 r0 q0 g0 r1 q1 g1 hd hp
            go_region_held3 (fun w' => w'.cell? ⟨w.heap.size + 1, 1, none⟩ = some (.int .i64 (p1 : Int))) (exact qk.c1) (first | (go_at_call 14; go_must (refine (place_any w.heap.size t p1 _ rk).mono ?_; rintro e wn ⟨rfl, rfl⟩)) | (go_at_call 15; go_must (refine (left_any w.heap.size t p1 _ rk hp1 (by omega)).mono ?_; rintro e wn ⟨rfl, an, hh⟩; clear hh; replace rk := rk.keep0 an; replace qk := qk.keep0 an; replace gk := gb_trans gk an; replace hdk := hdk.keep0 an; clear qc; have qc := qk.c1; clear an)) | (go_at_call 16; go_must (refine (end_all w.heap.size t p1 _ rk (by omega) (by omega)).mono ?_; rintro e wn ⟨rfl, an⟩; replace rk := rk.keep0 an; replace qk := qk.keep0 an; replace gk := gb_trans gk an; replace hdk := hdk.keep0 an; clear qc; have qc := qk.c1; clear an)) | (go_at_call 17; go_must (refine (rend_all (w.heap.size + 1) t p1 _ qk (by omega) (by omega)).mono ?_; rintro e wn ⟨rfl, an⟩; replace rk := rk.keep0 an; replace qk := qk.keep0 an; replace gk := gb_trans gk an; replace hdk := hdk.keep0 an; clear qc; have qc := qk.c1; clear an)) | (go_at_call 11; go_must (refine (law_is_nil 0 _).mono ?_; rintro e wn ⟨rfl, an⟩; replace rk := rk.keep0 an; replace qk := qk.keep0 an; replace gk := gb_trans gk an; replace hdk := hdk.keep0 an; clear qc; have qc := qk.c1; clear an)))
            all_goals
              go_wp2
              go_roundw
              case rel => exact ⟨k + 1, by omega, by go_num, p1, hp1, rk, qk, gk⟩
              case measure => simp [intOf]; omega
      · have hz5 : ¬ z < 4 := hz4
        have hm : 0 ≤ z - 4 := by omega
        go_upto_if 49 with fail
        go_cut [5] (fun s5 wx => s5 = .pointer (some ⟨w.heap.size, 0, none⟩) ∧ Both w w.heap.size (w.heap.size + 1) t wx)
        case first =>
          by_cases he : t.size ≤ p
          · go_wp2_with fail
            ((with_reducible refine (text_end _ t p _ _ hr hm hp (by omega) (by omega)).mono ?_); rintro e w1 ⟨fb, rfl, _, f1, a1⟩)
            have q1 := hq.keep0 a1
            have g1 := gb_trans hg a1
            go_wp2_with fail
            ((with_reducible refine (rtext_end _ t p _ _ q1 hm he).mono ?_); rintro e w2 ⟨rfl, a2⟩)
            have a3 := gb_trans a2 (gb_alloc w2 (.cells #[.int .i64 3, .int .i64 p] 36) none)
            have f3 := f1.keep0 a3
            have d3 := hd.keep0 (gb_trans g1 a3)
            go_wp2_with fail
            ((with_reducible refine (law_is_fault _ 3 p _ d3 f3 rfl).mono ?_); rintro e w3 ⟨rfl, a4⟩)
            have a5 := gb_trans (gb_trans a1 a3) a4
            go_wp2_with fail
            go_meet
            exact ⟨rfl, _, hp, hr.keep0 a5, hq.keep0 a5, gb_trans hg a5⟩
          by_cases hlo : z - 4 < (valAt t p 1 : Int)
          · go_wp2_with fail
            ((with_reducible refine (text_long _ t p _ _ hr hm (by omega) (by omega) hlo).mono ?_); rintro e w1 ⟨fb, rfl, _, f1, a1⟩)
            have q1 := hq.keep0 a1
            have g1 := gb_trans hg a1
            go_wp2_with fail
            ((with_reducible refine (rtext_long _ t p _ _ q1 hm (by omega) (by omega) hlo).mono ?_); rintro e w2 ⟨rfl, a2⟩)
            have a3 := gb_trans a2 (gb_alloc w2 (.cells #[.int .i64 4, .int .i64 p] 36) none)
            have f3 := f1.keep0 a3
            have d3 := hd.keep0 (gb_trans g1 a3)
            go_wp2_with fail
            ((with_reducible refine (law_is_fault _ 4 p _ d3 f3 rfl).mono ?_); rintro e w3 ⟨rfl, a4⟩)
            have a5 := gb_trans (gb_trans a1 a3) a4
            go_wp2_with fail
            go_meet
            exact ⟨rfl, _, hp, hr.keep0 a5, hq.keep0 a5, gb_trans hg a5⟩
          by_cases hsh : t.size < p + 1 + valAt t p 1
          · go_wp2_with fail
            ((with_reducible refine (text_short _ t p _ _ hr hm (by omega) (by omega) (by omega) hsh).mono ?_); rintro e w1 ⟨fb, rfl, _, f1, a1⟩)
            have q1 := hq.keep0 a1
            have g1 := gb_trans hg a1
            go_wp2_with fail
            ((with_reducible refine (rtext_short _ t p _ _ q1 hm (by omega) (by omega) (by omega) hsh).mono ?_); rintro e w2 ⟨rfl, a2⟩)
            have a3 := gb_trans a2 (gb_alloc w2 (.cells #[.int .i64 3, .int .i64 p] 36) none)
            have f3 := f1.keep0 a3
            have d3 := hd.keep0 (gb_trans g1 a3)
            go_wp2_with fail
            ((with_reducible refine (law_is_fault _ 3 p _ d3 f3 rfl).mono ?_); rintro e w3 ⟨rfl, a4⟩)
            have a5 := gb_trans (gb_trans a1 a3) a4
            go_wp2_with fail
            go_meet
            exact ⟨rfl, _, hp, hr.keep0 a5, hq.keep0 a5, gb_trans hg a5⟩
          go_wp2_with fail
          ((with_reducible refine (text_ok _ t p _ _ hr hm (by omega) (by omega) (by omega)).mono ?_); rintro e w1 ⟨rfl, r1, a1⟩)
          have q1 := hq.keep a1 (ne_some (by omega))
          have g1 := gb_step hg a1 (Nat.le_refl _)
          go_wp2_with fail
          ((with_reducible refine (rtext_ok _ t p _ _ q1 hm (by omega) (by omega) (by omega)).mono ?_); rintro e w2 ⟨rfl, q2, a2⟩)
          have r2 := r1.keep a2 (ne_some (by omega))
          have g2 := gb_step g1 a2 (by omega)
          go_wp2_with fail
          ((with_reducible refine (law_is_nil 0 _).mono ?_); rintro e w3 ⟨rfl, a3⟩)
          have a4 := gb_trans (gb_alloc w2 (.cells #[.int .i64 0, .int .i64 0] 36) none) a3
          go_wp2_with fail
          go_meet
          exact ⟨rfl, _, by omega, r2.keep0 a4, q2.keep0 a4, gb_trans g2 a4⟩
        case rest =>
          obtain ⟨rfl, p1, hp1, r1, q1, g1⟩ := hcut
          have rk := r1.keep0 (gb_drew wc none)
          have qk := q1.keep0 (gb_drew wc none)
          have gk := gb_trans g1 (gb_drew wc none)
          have hdk := hd.keep0 gk
          have qc := qk.c1
          have ew : IntKind.i64.wrap ((t.size : Int) - p1) = (t.size : Int) - p1 := IntWalk.i64_in _ (by omega)
          by_cases hlt1 : p1 < t.size
          · go_wp2_with fail
            clear HC HR hc hz1 hz2 h1 hr hq hg hd1 r0 q0 g0 r1 q1 g1 hd hp
            go_region_held3 (fun w' => w'.cell? ⟨w.heap.size + 1, 1, none⟩ = some (.int .i64 (p1 : Int))) (exact qk.c1) (first | (go_at_call 14; go_must (refine (place_any w.heap.size t p1 _ rk).mono ?_; rintro e wn ⟨rfl, rfl⟩)) | (go_at_call 15; go_must (refine (left_any w.heap.size t p1 _ rk hp1 (by omega)).mono ?_; rintro e wn ⟨rfl, an, hh⟩; clear hh; replace rk := rk.keep0 an; replace qk := qk.keep0 an; replace gk := gb_trans gk an; replace hdk := hdk.keep0 an; clear qc; have qc := qk.c1; clear an)) | (go_at_call 16; go_must (refine (end_left w.heap.size t p1 _ rk hlt1 (by omega)).mono ?_; rintro e wn ⟨rfl, fe, an⟩; replace rk := rk.keep0 an; replace qk := qk.keep0 an; replace gk := gb_trans gk an; replace hdk := hdk.keep0 an; clear qc; have qc := qk.c1; clear an)) | (go_at_call 17; go_must (refine (rend_left (w.heap.size + 1) t p1 _ qk hlt1 (by omega)).mono ?_; rintro e wn ⟨rfl, an⟩; replace fe := fe.keep0 an; replace rk := rk.keep0 an; replace qk := qk.keep0 an; replace gk := gb_trans gk an; replace hdk := hdk.keep0 an; clear qc; have qc := qk.c1; clear an)) | (go_at_call 11; go_must (refine (law_is_fault _ 4 p1 _ hdk fe rfl).mono ?_; rintro e wn ⟨rfl, an⟩; replace rk := rk.keep0 an; replace qk := qk.keep0 an; replace gk := gb_trans gk an; replace hdk := hdk.keep0 an; clear qc; have qc := qk.c1; clear an)))
            all_goals
              go_wp2
              go_roundw
              case rel => exact ⟨k + 1, by omega, by go_num, p1, hp1, rk, qk, gk⟩
              case measure => simp [intOf]; omega
          · go_wp2_with fail
            clear HC HR hc hz1 hz2 h1 hr hq hg hd1 r0 q0 g0 r1 q1 g1 hd hp
            go_region_held3 (fun w' => w'.cell? ⟨w.heap.size + 1, 1, none⟩ = some (.int .i64 (p1 : Int))) (exact qk.c1) (first | (go_at_call 14; go_must (refine (place_any w.heap.size t p1 _ rk).mono ?_; rintro e wn ⟨rfl, rfl⟩)) | (go_at_call 15; go_must (refine (left_any w.heap.size t p1 _ rk hp1 (by omega)).mono ?_; rintro e wn ⟨rfl, an, hh⟩; clear hh; replace rk := rk.keep0 an; replace qk := qk.keep0 an; replace gk := gb_trans gk an; replace hdk := hdk.keep0 an; clear qc; have qc := qk.c1; clear an)) | (go_at_call 16; go_must (refine (end_all w.heap.size t p1 _ rk (by omega) (by omega)).mono ?_; rintro e wn ⟨rfl, an⟩; replace rk := rk.keep0 an; replace qk := qk.keep0 an; replace gk := gb_trans gk an; replace hdk := hdk.keep0 an; clear qc; have qc := qk.c1; clear an)) | (go_at_call 17; go_must (refine (rend_all (w.heap.size + 1) t p1 _ qk (by omega) (by omega)).mono ?_; rintro e wn ⟨rfl, an⟩; replace rk := rk.keep0 an; replace qk := qk.keep0 an; replace gk := gb_trans gk an; replace hdk := hdk.keep0 an; clear qc; have qc := qk.c1; clear an)) | (go_at_call 11; go_must (refine (law_is_nil 0 _).mono ?_; rintro e wn ⟨rfl, an⟩; replace rk := rk.keep0 an; replace qk := qk.keep0 an; replace gk := gb_trans gk an; replace hdk := hdk.keep0 an; clear qc; have qc := qk.c1; clear an)))
            all_goals
              go_wp2
              go_roundw
              case rel => exact ⟨k + 1, by omega, by go_num, p1, hp1, rk, qk, gk⟩
              case measure => simp [intOf]; omega
    · have hlt2 : ¬ (k < len) ∨ ¬ (k < 40) := by omega
      clear HC HR hr hq r0 q0 g0 hp
      rcases hlt2 with hx | hx
      · have hxI : ¬ ((k : Int) < (len : Int)) := by omega
        go_wp2_with (go_at_call 18; go_must (refine (works_any _ hd1).mono ?_; rintro e w1 ⟨rfl, g1⟩))
        go_ret
        exact ⟨rfl, gb_trans hg g1⟩
      · have hxI : ¬ ((k : Int) < 40) := by omega
        by_cases hy : k < len
        · go_wp2_with (go_at_call 18; go_must (refine (works_any _ hd1).mono ?_; rintro e w1 ⟨rfl, g1⟩))
          go_ret
          exact ⟨rfl, gb_trans hg g1⟩
        · go_wp2_with (go_at_call 18; go_must (refine (works_any _ hd1).mono ?_; rintro e w1 ⟨rfl, g1⟩))
          go_ret
          exact ⟨rfl, gb_trans hg g1⟩
end Go.Proofs.YtcoedakbagbenaaDoor
