/-
  FateEach's walk: for all letters, all drawn writes and all choices the statement's function returns true; condition: the table of masks reads as the program lays it.
-/
import Derived.Test.YtefpnhckplcfgaaDoorFe
namespace Go.Proofs.YtefpnhckplcfgaaDoor
open Go.RowKit

set_option maxRecDepth 100000 in
set_option maxHeartbeats 2000000 in
theorem each_walk (v0 v1 v2 : Value) (l0 : List UInt8) (ly : List Lay) (l2 : List UInt8) (w : World) (hm : Masks w) (h0 : Bts w v0 l0) (h1 : Lys w v1 ly) (h2 : Bts w v2 l2) :
    Calls Tryd.prog 7 #[v0, v1, v2] w (TrueGot w) := by
  have HM := Lib.hid hm
  have H0 := Lib.hid h0
  have H1 := Lib.hid h1
  have H2 := Lib.hid h2
  obtain ⟨so, scap, rfl, hsc, _, hsn, hsx⟩ := h2
  clear hm hsn hsx h1 h0
  obtain ⟨N, hN⟩ : ∃ N, (wrsF ly).length = N := ⟨_, rfl⟩
  have hN20 : N ≤ 20 := by rw [← hN, wrsF_length]; omega
  have HN := Lib.hid hN
  obtain ⟨n, hn⟩ : ∃ n, (secsF l0).length = n := ⟨_, rfl⟩
  have hn8 : n ≤ 8 := by rw [← hn, secsF_length]; omega
  have HNN := Lib.hid hn
  have hcm : manyN ((N : Nat) : Int) = N := by unfold manyN; omega
  have hmay := read_may l2 N
  have hlen := cameF_length l2 N
  have HRd : ∀ W, w.grownBy W none → Calls Tryd.prog 10 #[.slice so l2.length scap, .int .i64 (N : Nat)] W (FateGot W (cameF l2 N) (tornF l2 N) (atF l2 N)) := by
    intro W g
    have h := read_any (.slice so l2.length scap) l2 (N : Nat) W (HM.out.keep0 g) (H2.out.keep0 g) (by omega) (by omega)
    rw [hcm] at h
    exact h
  generalize cameF l2 N = l at hmay hlen HRd
  generalize tornF l2 N = t at hmay HRd
  generalize atF l2 N = a at hmay HRd
  have HR0 := Lib.hid HRd
  have ha : 0 ≤ a ∧ a ≤ 256 := by
    rcases may_cases hmay with ⟨_, h⟩ | ⟨_, _, _, _, h⟩ <;> omega
  obtain ⟨A, hA⟩ := Int.eq_ofNat_of_zero_le ha.1
  have hA' : a = (A : Nat) := hA
  subst hA'
  have hA2 : A ≤ 256 := by omega
  have HR := HR0
  have HSL : Hid ((secsF l0).length ≤ 1000) := Lib.hid (by rw [secsF_length]; omega)
  have HWL : Hid ((wrsF ly).length ≤ 1000) := Lib.hid (by rw [HN.out]; omega)
  have hR : (afterF (secsF l0) (wrsF ly) l t (A : Nat)).length = n := by unfold afterF; rw [foldW_length, hn]
  have HRL := Lib.hid hR
  clear HRd hmay hcm hN hn hR
  go_enter Tryd.func7, Tryd.ntmps7
  go_wp2_with (first
    | (go_at_call 14; (with_reducible refine (works_any _ HM.out).mono ?_); rintro e w0 ⟨rfl, g0⟩)
    | (go_at_call 17; (with_reducible refine (sectors_any _ l0 _ (H0.out.keep0 g0)).mono ?_); rintro e w1 ⟨vs, rfl, hvs, g1⟩; replace g0 := gb_trans g0 g1; have HS := Lib.hid hvs; obtain ⟨xo, xcap, rfl, _, _, _, _⟩ := hvs; rw [HNN.out])
    | (go_at_call 18; (with_reducible refine (writes_any _ ly _ (H1.out.keep0 g0)).mono ?_); rintro e w2 ⟨vw, rfl, hvw, g2⟩; replace HS := Lib.hid (HS.out.keep0 g2); replace g0 := gb_trans g0 g2; have HW := Lib.hid hvw; obtain ⟨yo, ycap, rfl, _, _, _, _⟩ := hvw; rw [HN.out])
    | (go_at_call 10; (with_reducible refine (HR.out _ g0).mono ?_); rintro e w3 ⟨vf, rfl, hvf, g3⟩; replace HS := Lib.hid (HS.out.keep0 g3); replace HW := Lib.hid (HW.out.keep0 g3); replace g0 := gb_trans g0 g3; have HF := Lib.hid hvf; obtain ⟨zo, zcap, rfl, _, _⟩ := bls_parts hvf; rw [hlen])
    | (go_at_call 19
       have b0 := Blk.mk w3 27 #[.slice zo N zcap, .int .i64 t, .int .i64 (A : Nat)]
       have ga := gb_alloc w3 (.cells #[.slice zo N zcap, .int .i64 t, .int .i64 (A : Nat)] 27) none
       have hs := HS.out.keep0 ga
       have hw := HW.out.keep0 ga
       have hf := HF.out.keep0 ga
       rw [HNN.out] at hs
       rw [HN.out] at hw
       rw [hlen] at hf
       (with_reducible refine (after_any _ _ _ (secsF l0) (wrsF ly) l t (A : Nat) _ hs hw hf (by omega) HSL.out HWL.out (secsF_whole l0) (by omega) (by omega)).mono ?_)
       rintro e w5 ⟨vg, rfl, hvg, g5⟩
       replace b0 := b0.keep0 g5
       have h5 := gb_trans (gb_trans g0 ga) g5
       have HS5 := Lib.hid (hs.keep0 g5)
       have HW5 := Lib.hid (hw.keep0 g5)
       have HF5 := Lib.hid (hf.keep0 g5)
       have HG := Lib.hid hvg
       clear hs hw hf
       obtain ⟨go, gcap, rfl, _, _, _, _⟩ := hvg
       rw [HRL.out]
       have c00 := b0.cell 0 rfl
       have c01 := b0.cell 1 rfl
       have c02 := b0.cell 2 rfl))
  generalize w3.heap.size = b9 at b0 c00 c01 c02 ⊢
  go_loopw [11] (fun v wr => ∃ k : Nat, k ≤ n ∧ v = .int .i64 k ∧ w5.grownBy wr none) (fun v _ => n - (intOf v).toNat)
  case atStart => exact ⟨0, by omega, rfl, gb_refl _ _⟩
  case round =>
    obtain ⟨k, hk, rfl, hg⟩ := hrel
    by_cases hkn : k < n
    · have hkn' : (k : Int) < (n : Int) := by omega
      have hk0 : (0 : Int) ≤ (k : Int) := by omega
      obtain ⟨ax, rfl, d0⟩ := sts_cell (HS5.out.keep0 hg) (j := k) (by rw [HNN.out]; omega)
      have hkl : Hid (k < (secsF l0).length) := Lib.hid (by rw [HNN.out]; omega)
      have HE := Lib.hid (last_end (secsF l0) (wrsF ly) l t (A : Nat) k)
      have HZ := Lib.hid (last_zero (secsF l0) (wrsF ly) l t (A : Nat) k)
      rw [← HZ.out] at d0
      clear HZ
      have hkm : ¬ (k : Int) < 0 := by omega
      clear c00 c01 c02
      go_wp2_with fail
      go_quiet (fail)
      go_wp2_with fail
      go_loopw [12, 15] (fun v12 v15 ww => ∃ i : Nat, i ≤ N ∧ v12 = .string (lastF (secsF l0) (wrsF ly) l t (A : Nat) k i) ∧ v15 = .int .i64 i ∧ wr.grownBy ww none) (fun _ v _ => N - (intOf v).toNat)
      case atStart => exact ⟨0, by omega, rfl, rfl, gb_drewN _ _ _⟩
      case round =>
        obtain ⟨i, hi, rfl, rfl, hgi⟩ := hrel
        have hS := gb_trans hg hgi
        have b1 := b0.keep0 hS
        by_cases hiN : i < N
        · have hiN' : (i : Int) < (N : Int) := by omega
          have hi0 : (0 : Int) ≤ (i : Int) := by omega
          have c00 := b1.cell 0 rfl
          have c01 := b1.cell 1 rfl
          have c02 := b1.cell 2 rfl
          obtain ⟨aw, x, rfl, hx, e0, e1⟩ := wts_cell (HW5.out.keep0 hS) (j := i) (by rw [HN.out]; omega)
          obtain ⟨ab, rfl, f0⟩ := bls_cell (HF5.out.keep0 hS) (j := i) (by omega)
          obtain ⟨x1, x2⟩ := x
          simp only at e0 e1
          rw [← add_add] at e1
          replace e1 : wr.cell? ⟨(aw.add (i * 2)).block, (aw.add (i * 2)).off + 1, none⟩ = some (.string x2) := e1
          have hLs := last_size (secsF l0) (wrsF ly) l t (A : Nat) k i (secsF_whole l0) hkl.out
          have hno := last_no (secsF l0) (wrsF ly) l t (A : Nat) k i
          have hoff := fun hb => last_off (secsF l0) (wrsF ly) l t (A : Nat) k i hb _ hx
          have hat := fun hb => last_at (secsF l0) (wrsF ly) l t (A : Nat) k i hkl.out hb _ hx
          generalize lastF (secsF l0) (wrsF ly) l t (A : Nat) k i = L at hLs hno hoff hat ⊢
          by_cases hb : l.getD i false = true
          · rw [hb] at f0
            by_cases hx1 : x1 = (k : Int)
            · subst hx1
              by_cases hx2 : x2.size = 256
              · have E := Lib.hid (hat hb rfl hx2)
                clear hno hoff hat hb hx
                have hsz : ((x2.size : Int) != 256) = false := by rw [hx2]; rfl
                have hkk : ((k : Int) != (k : Int)) = false := by simp
                by_cases ht : (i : Int) = t
                · have hcl : clampN ((A : Nat) : Int) = A := by unfold clampN; omega
                  have hcut : cutS x2 (A : Nat) L = x2.extract 0 A ++ L.extract A 256 := by unfold cutS; rw [hcl]
                  rw [if_pos ht, hcut] at E
                  subst ht
                  have hti : ((i : Int) == (i : Int)) = true := by simp
                  have hs1 : (x2.extract 0 A).size = A := by simp; omega
                  have hs2 : (L.extract A 256).size = 256 - A := by simp; omega
                  have hcat : (9223372036854775807 < (x2.extract 0 A).size + (L.extract A 256).size) = False := by rw [hs1, hs2]; simp; omega
                  clear hcl hcut
                  have h7 : (A : Int) ≤ 256 := by omega
                  have h9 : (0 : Int) ≤ (A : Int) := by omega
                  rcases Nat.lt_or_ge A 256 with h5 | h5
                  · have h8 : (A : Int) < 256 := by omega
                    rcases Nat.eq_zero_or_pos A with h6 | h6
                    · have h10 : (A : Int) = 0 := by omega
                      go_wp2_with fail
                      go_quiet (fail)
                      go_wp2
                      go_roundw
                      case rel => exact ⟨i + 1, by omega, by rw [E.out, h6]; simp, by go_num, gb_trans hgi (gb_drewN _ _ _)⟩
                      case measure => simp [intOf]; omega
                    · go_wp2_with fail
                      go_quiet (fail)
                      go_wp2
                      go_roundw
                      case rel => exact ⟨i + 1, by omega, by rw [E.out], by go_num, gb_trans hgi (gb_drewN _ _ _)⟩
                      case measure => simp [intOf]; omega
                  · have h8 : A = 256 := by omega
                    go_wp2_with fail
                    go_quiet (fail)
                    go_wp2
                    go_roundw
                    case rel => exact ⟨i + 1, by omega, by rw [E.out, h8]; simp, by go_num, gb_trans hgi (gb_drewN _ _ _)⟩
                    case measure => simp [intOf]; omega
                · rw [if_neg ht] at E
                  have hti : ((i : Int) == t) = false := by simp [ht]
                  go_wp2
                  go_roundw
                  case rel => exact ⟨i + 1, by omega, by rw [E.out], by go_num, gb_trans hgi (gb_refl _ _)⟩
                  case measure => simp [intOf]; omega
              · have E := Lib.hid (hoff hb (Or.inr hx2))
                clear hno hoff hat hb hx
                have hsz : ((x2.size : Int) != 256) = true := by simp; omega
                have hkk : ((k : Int) != (k : Int)) = false := by simp
                go_wp2
                go_roundw
                case rel => exact ⟨i + 1, by omega, by rw [E.out], by go_num, gb_trans hgi (gb_refl _ _)⟩
                case measure => simp [intOf]; omega
            · have E := Lib.hid (hoff hb (Or.inl hx1))
              clear hno hoff hat hb hx
              have hkx : (x1 != (k : Int)) = true := by simp [hx1]
              go_wp2
              go_roundw
              case rel => exact ⟨i + 1, by omega, by rw [E.out], by go_num, gb_trans hgi (gb_refl _ _)⟩
              case measure => simp [intOf]; omega
          · rw [show l.getD i false = false by simpa using hb] at f0
            have E := Lib.hid (hno (by simpa using hb))
            clear hno hoff hat hb hx
            go_wp2
            go_roundw
            case rel => exact ⟨i + 1, by omega, by rw [E.out], by go_num, gb_trans hgi (gb_refl _ _)⟩
            case measure => simp [intOf]; omega
        · obtain rfl : i = N := by omega
          have hEn := HE.out
          rw [hlen] at hEn
          obtain ⟨ag, rfl, d1⟩ := sts_cell (HG.out.keep0 hS) (j := k) (by rw [HRL.out]; omega)
          rw [hEn] at d1
          clear hEn
          generalize lastF (secsF l0) (wrsF ly) l t (A : Nat) k i = L at d1 ⊢
          go_wp2
          go_roundw
          case rel => exact ⟨k + 1, by omega, by go_num, hS⟩
          case measure => simp [intOf]; omega
    · obtain rfl : k = n := by omega
      go_wp2
      go_ret
      exact ⟨rfl, gb_trans h5 hg⟩
end Go.Proofs.YtefpnhckplcfgaaDoor
