/-
  What the document's field answers behind the number's bytes, over this seat's translation; conditions: the place lies in the text, the text has at most a million bytes.
-/
import Derived.Test.YteolinaiigopdaaDoorVRfd
import Derived.RegionTactic
namespace Go.Proofs.YteolinaiigopdaaDoor
open Go.RowKit

set_option maxRecDepth 100000 in
set_option maxHeartbeats 2000000 in
theorem rfield_loop (s : ByteArray) (p : Nat) (last : Int) (t : Nat) (x : Bool) (w : World) (hp : p < s.size) (hs : s.size ≤ 1000000) (h1 : 2 ≤ s[p].toNat) (h2 : s[p].toNat ≤ 127) (ht : s[p].toNat / 2 = t) (hx : (s[p].toNat % 2 == 1) = x) (h3 : last < (t : Int)) (h4 : p + 1 < s.size) (q k : Nat) (hq : q = p + 2) (hk : s[p + 1].toNat = k) (h5 : k ≤ 8) (h6 : q + k ≤ s.size) :
    Calls Tryd.prog 29 #[.string s, .int .i64 p, .int .i64 last] w (RFdRes w s q k t x) := by
  have h1' : 2 ≤ (s[p].toNat : Int) := by omega
  have h2' : (s[p].toNat : Int) ≤ 127 := by omega
  have HTX := Lib.hid (And.intro ht hx)
  clear ht hx
  go_enter Tryd.func29, Tryd.ntmps29
  go_upto_region 3 with (fail)
  go_cut [9] (fun s9 wx => s9 = .pointer (some ⟨w.heap.size + 1, 0, none⟩) ∧ Fd2 w t x wx)
  case first =>
    go_region
    go_wp2_with fail
    go_meet
    exact ⟨rfl, fd2_of w _ _ t x (by have := HTX.out.1; omega) (by rw [← HTX.out.2]; exact mod_bool _)⟩
  case rest =>
    obtain ⟨rfl, k0, k1, gx⟩ := hcut
    clear HTX
    have hz0 := Blk.lt k1
    have c0 := Blk.cell k0 0 rfl
    have c1 := Blk.cell k0 1 rfl
    have c2 := Blk.cell k0 2 rfl
    have c3 := Blk.cell k0 3 rfl
    have f0 := Blk.free k0 0
    have f1 := Blk.free k0 1
    have f2 := Blk.free k0 2
    have f3 := Blk.free k0 3
    have d0 := Blk.cell k1 0 rfl
    have h4' : (((p : Int) + 1) == (s.size : Int)) = false := by rw [beq_eq_false_iff_ne]; omega
    have h5' : (s[p + 1].toNat : Int) ≤ 8 := by omega
    have h6' : (s[p + 1].toNat : Int) ≤ (s.size : Int) - ((p : Int) + 1 + 1) := by omega
    go_wp2
    rw [show ((p : Int) + 1 + 1) = (q : Int) by omega]
    clear h4' h5' h6' hk hq
    go_loop [11, 12] (fun v11 v12 => ∃ j : Nat, j ≤ k ∧ v12 = .int .i64 j ∧ v11 = .int .u64 (valAt s q j)) (fun _ i => k - (intOf i).toNat)
    case atStart => exact ⟨0, by omega, rfl, rfl⟩
    case round =>
      obtain ⟨j, hj, rfl, rfl⟩ := hrel
      by_cases hlt : j < k
      · have hqj : q + j < s.size := by omega
        have hb := valAt_small s q j (by omega)
        have hbyte : (s[q + j].toNat : Int) < 256 := by have := s[q + j].toNat_lt; omega
        have e1 : IntKind.u64.wrap ((valAt s q j : Int) * 256) = (valAt s q j : Int) * 256 := by simp only [IntKind.wrap, IntKind.bits, IntKind.signed]; simp; omega
        have e3 : IntKind.u64.wrap ((valAt s q j : Int) * 256 + (s[q + j].toNat : Int)) = (valAt s q (j + 1) : Int) := by
          rw [valAt_next s q j hqj]; simp only [IntKind.wrap, IntKind.bits, IntKind.signed]; simp; omega
        have e4 : IntKind.u64.wrap ((valAt s q j : Int) * 256 + IntKind.u64.wrap (s[q + j].toNat : Int)) = (valAt s q (j + 1) : Int) := by
          rw [valAt_next s q j hqj]; simp only [IntKind.wrap, IntKind.bits, IntKind.signed]; simp; omega
        have E3 := Lib.hid e3
        have E4 := Lib.hid e4
        obtain ⟨y, hy⟩ : ∃ y : Nat, y = valAt s q j := ⟨_, rfl⟩
        rw [← hy] at e1 E3 E4 ⊢
        clear hy hb e3 e4
        go_wp2
        go_round
        case rel => first | exact ⟨j + 1, by omega, by go_num, congrArg (Value.int .u64) E3.out⟩ | exact ⟨j + 1, by omega, by go_num, congrArg (Value.int .u64) E4.out⟩
        case measure => simp [intOf]; omega
      · obtain rfl : k = j := by omega
        have hyl : valAt s q k < 18446744073709551616 := by
          have h1 := valAt_lt s q k
          have h2 : (256 : Nat) ^ k ≤ 256 ^ 8 := Nat.pow_le_pow_right (by omega) (by omega)
          have h3 : (256 : Nat) ^ 8 = 18446744073709551616 := by decide
          omega
        have HYL := Lib.hid hyl
        have HRES := Lib.hid (show rfdRes s q k t x = if 0 < k ∧ (s.data.toList.drop q).head? = some 0 then .error 5 else if x = false then .ok (⟨t, false, valAt s q k, ⟨#[]⟩⟩, q + k) else if 2000 < valAt s q k then .error 4 else if s.size < q + k + valAt s q k then .error 3 else .ok (⟨t, true, 0, s.extract (q + k) (q + k + valAt s q k)⟩, q + k + valAt s q k) from rfl)
        obtain ⟨y, hy⟩ : ∃ y : Nat, y = valAt s q k := ⟨_, rfl⟩
        rw [← hy] at HYL HRES ⊢
        clear hy hyl hlt hj
        have d1 := Blk.cell k1 1 rfl
        have d2 := Blk.cell k1 2 rfl
        have d3 := Blk.cell k1 3 rfl
        have e2 := Blk.free k1 2
        have e3 := Blk.free k1 3
        by_cases hk0 : k = 0
        · have hkd : decide (0 < k) = false := by simp; omega
          have hk0' : ¬ (0 : Int) < (k : Int) := by omega
          have hres := HRES.out
          rw [if_neg (by omega)] at hres
          have HRES2 := Lib.hid hres
          clear hres HRES hk0
          cases x with
          | false =>
            have hres := HRES2.out
            rw [if_pos rfl] at hres
            have HRES3 := Lib.hid hres
            clear hres HRES2
            go_wp2
            unfold RFdRes
            rw [HRES3.out]
            refine bodyPost_ret (v := .tuple #[.agg #[.int .i64 t, .bool false, .int .u64 y, .string ⟨#[]⟩], .int .i64 (q + k : Nat), .int .i64 0]) (by simp [results, Tryd.results29, go_sem, c0, c1, c2, c3]) rfl ⟨rfl, ?_⟩
            have g3 := gb_step gx (gb_set _ (w.heap.size + 1) 2 none (.int .u64 y)) (by omega)
            exact gb_step (gb_step (gb_step (gb_step g3 (gb_set _ _ _ _ _) (Nat.le_refl _)) (gb_set _ _ _ _ _) (Nat.le_refl _)) (gb_set _ _ _ _ _) (Nat.le_refl _)) (gb_set _ _ _ _ _) (Nat.le_refl _)
          | true =>
            have hres := HRES2.out
            rw [if_neg (by simp)] at hres
            by_cases hy2 : 2000 < y
            · rw [if_pos hy2] at hres
              have hy2' : 2000 < (y : Int) := by omega
              have HRES3 := Lib.hid hres
              clear hres HRES2
              go_wp2
              unfold RFdRes
              rw [HRES3.out]
              refine bodyPost_ret (v := .tuple #[.agg #[.int .i64 0, .bool false, .int .u64 0, .string ⟨#[]⟩], .int .i64 (q + k : Nat), .int .i64 4]) (by simp [results, Tryd.results29, go_sem, c0, c1, c2, c3]) rfl ⟨_, rfl, ?_⟩
              exact gb_step (gb_step (gb_step (gb_step gx (gb_set _ _ _ _ _) (Nat.le_refl _)) (gb_set _ _ _ _ _) (Nat.le_refl _)) (gb_set _ _ _ _ _) (Nat.le_refl _)) (gb_set _ _ _ _ _) (Nat.le_refl _)
            · rw [if_neg hy2] at hres
              have hy2' : (y : Int) ≤ 2000 := by omega
              have hqk : (0 : Int) ≤ (s.size : Int) - ((q : Int) + (k : Int)) := by omega
              by_cases hy3 : s.size < q + k + y
              · rw [if_pos hy3] at hres
                have hy3' : (s.size : Int) - ((q : Int) + (k : Int)) < (y : Int) := by omega
                have HRES3 := Lib.hid hres
                clear hres HRES2
                go_wp2
                unfold RFdRes
                rw [HRES3.out]
                refine bodyPost_ret (v := .tuple #[.agg #[.int .i64 0, .bool false, .int .u64 0, .string ⟨#[]⟩], .int .i64 (q + k : Nat), .int .i64 3]) (by simp [results, Tryd.results29, go_sem, c0, c1, c2, c3]) rfl ⟨_, rfl, ?_⟩
                exact gb_step (gb_step (gb_step (gb_step gx (gb_set _ _ _ _ _) (Nat.le_refl _)) (gb_set _ _ _ _ _) (Nat.le_refl _)) (gb_set _ _ _ _ _) (Nat.le_refl _)) (gb_set _ _ _ _ _) (Nat.le_refl _)
              · rw [if_neg hy3] at hres
                have hy3' : (y : Int) ≤ (s.size : Int) - ((q : Int) + (k : Int)) := by omega
                have HRES3 := Lib.hid hres
                clear hres HRES2
                go_wp2
                unfold RFdRes
                rw [HRES3.out]
                refine bodyPost_ret (v := .tuple #[.agg #[.int .i64 t, .bool true, .int .u64 0, .string (s.extract (q + k) (q + k + y))], .int .i64 (q + k + y : Nat), .int .i64 0]) (by simp [results, Tryd.results29, go_sem, c0, c1, c2, c3]) rfl ⟨rfl, ?_⟩
                have g3 := gb_step gx (gb_set _ (w.heap.size + 1) 3 none (.string (s.extract (q + k) (q + k + y)))) (by omega)
                exact gb_step (gb_step (gb_step (gb_step g3 (gb_set _ _ _ _ _) (Nat.le_refl _)) (gb_set _ _ _ _ _) (Nat.le_refl _)) (gb_set _ _ _ _ _) (Nat.le_refl _)) (gb_set _ _ _ _ _) (Nat.le_refl _)
        · have hq1 : q < s.size := by omega
          have hk0' : (0 : Int) < (k : Int) := by omega
          have hkd : decide (0 < k) = true := by simp; omega
          have hhead : (s.data.toList.drop q).head? = some s[q] := by
            rw [List.head?_drop, List.getElem?_eq_getElem (by simpa using hq1)]; rfl
          by_cases hz : s[q] = 0
          · have hz' : ((s[q].toNat : Int) == 0) = true := by rw [hz]; rfl
            have hres := HRES.out
            rw [hhead, if_pos ⟨by omega, by rw [hz]⟩] at hres
            have HRES2 := Lib.hid hres
            clear hres HRES hhead hz
            go_wp2
            unfold RFdRes
            rw [HRES2.out]
            refine bodyPost_ret (v := .tuple #[.agg #[.int .i64 0, .bool false, .int .u64 0, .string ⟨#[]⟩], .int .i64 q, .int .i64 5]) (by simp [results, Tryd.results29, go_sem, c0, c1, c2, c3]) rfl ⟨_, rfl, ?_⟩
            exact gb_step (gb_step (gb_step (gb_step gx (gb_set _ _ _ _ _) (Nat.le_refl _)) (gb_set _ _ _ _ _) (Nat.le_refl _)) (gb_set _ _ _ _ _) (Nat.le_refl _)) (gb_set _ _ _ _ _) (Nat.le_refl _)
          · have hz' : ((s[q].toNat : Int) == 0) = false := by
              rw [beq_eq_false_iff_ne]
              intro e
              exact hz (by rw [← UInt8.toNat_inj]; simpa using e)
            have hres := HRES.out
            rw [hhead, if_neg (by intro h; exact hz (by simpa using h.2))] at hres
            have HRES2 := Lib.hid hres
            clear hres HRES hhead hz
            cases x with
            | false =>
              have hres := HRES2.out
              rw [if_pos rfl] at hres
              have HRES3 := Lib.hid hres
              clear hres HRES2
              go_wp2
              unfold RFdRes
              rw [HRES3.out]
              refine bodyPost_ret (v := .tuple #[.agg #[.int .i64 t, .bool false, .int .u64 y, .string ⟨#[]⟩], .int .i64 (q + k : Nat), .int .i64 0]) (by simp [results, Tryd.results29, go_sem, c0, c1, c2, c3]) rfl ⟨rfl, ?_⟩
              have g3 := gb_step gx (gb_set _ (w.heap.size + 1) 2 none (.int .u64 y)) (by omega)
              exact gb_step (gb_step (gb_step (gb_step g3 (gb_set _ _ _ _ _) (Nat.le_refl _)) (gb_set _ _ _ _ _) (Nat.le_refl _)) (gb_set _ _ _ _ _) (Nat.le_refl _)) (gb_set _ _ _ _ _) (Nat.le_refl _)
            | true =>
              have hres := HRES2.out
              rw [if_neg (by simp)] at hres
              by_cases hy2 : 2000 < y
              · rw [if_pos hy2] at hres
                have hy2' : 2000 < (y : Int) := by omega
                have HRES3 := Lib.hid hres
                clear hres HRES2
                go_wp2
                unfold RFdRes
                rw [HRES3.out]
                refine bodyPost_ret (v := .tuple #[.agg #[.int .i64 0, .bool false, .int .u64 0, .string ⟨#[]⟩], .int .i64 (q + k : Nat), .int .i64 4]) (by simp [results, Tryd.results29, go_sem, c0, c1, c2, c3]) rfl ⟨_, rfl, ?_⟩
                exact gb_step (gb_step (gb_step (gb_step gx (gb_set _ _ _ _ _) (Nat.le_refl _)) (gb_set _ _ _ _ _) (Nat.le_refl _)) (gb_set _ _ _ _ _) (Nat.le_refl _)) (gb_set _ _ _ _ _) (Nat.le_refl _)
              · rw [if_neg hy2] at hres
                have hy2' : (y : Int) ≤ 2000 := by omega
                have hqk : (0 : Int) ≤ (s.size : Int) - ((q : Int) + (k : Int)) := by omega
                by_cases hy3 : s.size < q + k + y
                · rw [if_pos hy3] at hres
                  have hy3' : (s.size : Int) - ((q : Int) + (k : Int)) < (y : Int) := by omega
                  have HRES3 := Lib.hid hres
                  clear hres HRES2
                  go_wp2
                  unfold RFdRes
                  rw [HRES3.out]
                  refine bodyPost_ret (v := .tuple #[.agg #[.int .i64 0, .bool false, .int .u64 0, .string ⟨#[]⟩], .int .i64 (q + k : Nat), .int .i64 3]) (by simp [results, Tryd.results29, go_sem, c0, c1, c2, c3]) rfl ⟨_, rfl, ?_⟩
                  exact gb_step (gb_step (gb_step (gb_step gx (gb_set _ _ _ _ _) (Nat.le_refl _)) (gb_set _ _ _ _ _) (Nat.le_refl _)) (gb_set _ _ _ _ _) (Nat.le_refl _)) (gb_set _ _ _ _ _) (Nat.le_refl _)
                · rw [if_neg hy3] at hres
                  have hy3' : (y : Int) ≤ (s.size : Int) - ((q : Int) + (k : Int)) := by omega
                  have HRES3 := Lib.hid hres
                  clear hres HRES2
                  go_wp2
                  unfold RFdRes
                  rw [HRES3.out]
                  refine bodyPost_ret (v := .tuple #[.agg #[.int .i64 t, .bool true, .int .u64 0, .string (s.extract (q + k) (q + k + y))], .int .i64 (q + k + y : Nat), .int .i64 0]) (by simp [results, Tryd.results29, go_sem, c0, c1, c2, c3]) rfl ⟨rfl, ?_⟩
                  have g3 := gb_step gx (gb_set _ (w.heap.size + 1) 3 none (.string (s.extract (q + k) (q + k + y)))) (by omega)
                  exact gb_step (gb_step (gb_step (gb_step g3 (gb_set _ _ _ _ _) (Nat.le_refl _)) (gb_set _ _ _ _ _) (Nat.le_refl _)) (gb_set _ _ _ _ _) (Nat.le_refl _)) (gb_set _ _ _ _ _) (Nat.le_refl _)
end Go.Proofs.YteolinaiigopdaaDoor
