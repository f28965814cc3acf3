/-
  FateAfters' walk: for all letters, all drawn writes and all choices the statement's function returns true; condition: the table of masks reads as the program lays it.
-/
import Derived.Test.YtefpnhckplcfgaaDoorFd1
import Derived.Test.YtefpnhckplcfgaaDoorFb
namespace Go.Proofs.YtefpnhckplcfgaaDoor
open Go.RowKit

theorem Lys.keep0 {w w' : World} {v : Value} {l : List Lay} (h : Lys w v l) (g : w.grownBy w' none) : Lys w' v l := Sl.keep0 h g
theorem sts_cell {w : World} {ao : Option Addr} {n cap : Nat} {l : List ByteArray} (h : Sts w (.slice ao n cap) l) {j : Nat} (hj : j < l.length) : ∃ a, ao = some a ∧ w.cell? (a.add j) = some (.string (l.getD j noS)) := by
  obtain ⟨ao', cap', e, _, _, hn, hx⟩ := h
  injection e with e1 e2 e3
  subst e1
  cases ao with
  | none => have := (hn rfl).1; omega
  | some a => exact ⟨a, rfl, hx a rfl j _ (by simp [strsC, List.getD, hj])⟩
theorem idxF_0 (v v' : Value) (t a t' a' : Int) (w : World) : (Instr.index 41 (.agg #[v, .int .i64 t, .int .i64 a, v', .int .i64 t', .int .i64 a']) (.int .i64 ((0 : Nat) : Int))).run Tryd.prog w = .ok (.agg #[v, .int .i64 t, .int .i64 a]) w := by kernel_rfl
theorem idxF_1 (v v' : Value) (t a t' a' : Int) (w : World) : (Instr.index 41 (.agg #[v, .int .i64 t, .int .i64 a, v', .int .i64 t', .int .i64 a']) (.int .i64 ((1 : Nat) : Int))).run Tryd.prog w = .ok (.agg #[v', .int .i64 t', .int .i64 a']) w := by kernel_rfl
set_option maxRecDepth 100000 in
set_option maxHeartbeats 2000000 in
theorem afters_walk (v0 v1 v2 : Value) (l0 : List UInt8) (ly : List Lay) (l2 : List UInt8) (w : World) (hm : Masks w) (h0 : Bts w v0 l0) (h1 : Lys w v1 ly) (h2 : Bts w v2 l2) :
    Calls Tryd.prog 5 #[v0, v1, v2] w (TrueGot w) := by
  have HM := Lib.hid hm
  have H0 := Lib.hid h0
  have H1 := Lib.hid h1
  have H2 := Lib.hid h2
  obtain ⟨lo, lcap, rfl, hlc, _, hln, hlx⟩ := h0
  have HLN := Lib.hid hln
  have HLX := Lib.hid hlx
  obtain ⟨so, scap, rfl, hsc, _, hsn, hsx⟩ := h2
  clear hm hln hlx h1 hsn hsx
  obtain ⟨N, hN⟩ : ∃ N, (wrsF ly).length = N := ⟨_, rfl⟩
  have hN20 : N ≤ 20 := by rw [← hN, wrsF_length]; omega
  have HN := Lib.hid hN
  have hcm : manyN ((N : Nat) : Int) = N := by unfold manyN; omega
  have hmay := read_may l2 N
  have hlen := cameF_length l2 N
  have HRd : ∀ W, w.grownBy W none → Calls Tryd.prog 11 #[.slice so l2.length scap, .int .i64 (N : Nat)] W (FateGot W (cameF l2 N) (tornF l2 N) (atF l2 N)) := by
    intro W g
    have h := refRead_any (.slice so l2.length scap) l2 (N : Nat) W (H2.out.keep0 g) (by omega) (by omega)
    rw [hcm] at h
    exact h
  generalize cameF l2 N = l at hmay hlen HRd
  generalize tornF l2 N = t at hmay HRd
  generalize atF l2 N = a at hmay HRd
  have HR := Lib.hid HRd
  have ha : 0 ≤ a ∧ a ≤ 256 := by
    rcases may_cases hmay with ⟨_, h⟩ | ⟨_, _, _, _, h⟩ <;> omega
  have hw7 : IntKind.i64.wrap (a * 7) = a * 7 := IntWalk.i64_in _ (by omega)
  have hw8 : IntKind.i64.wrap (a * 7 - 300) = a * 7 - 300 := IntWalk.i64_in _ (by omega)
  clear HRd hmay hcm hN
  go_enter Tryd.func5, Tryd.ntmps5
  go_wp2_with (first
    | (go_at_call 17; (with_reducible refine (sectors_any _ l0 _ H0.out).mono ?_); rintro e w1 ⟨vs, rfl, hvs, g1⟩; have HS := Lib.hid hvs; obtain ⟨xo, xcap, rfl, _, _, _, _⟩ := hvs)
    | (go_at_call 18; (with_reducible refine (writes_any _ ly _ (H1.out.keep0 g1)).mono ?_); rintro e w2 ⟨vw, rfl, hvw, g2⟩; replace HS := Lib.hid (HS.out.keep0 g2); replace g1 := gb_trans g1 g2; have HW := Lib.hid hvw; obtain ⟨yo, ycap, rfl, _, _, _, _⟩ := hvw; rw [HN.out])
    | (go_at_call 11; (with_reducible refine (HR.out _ g1).mono ?_); rintro e w3 ⟨vf, rfl, hvf, g3⟩; replace HS := Lib.hid (HS.out.keep0 g3); replace HW := Lib.hid (HW.out.keep0 g3); replace g1 := gb_trans g1 g3; have HF := Lib.hid hvf; obtain ⟨zo, zcap, rfl, _, _⟩ := bls_parts hvf; rw [hlen]))
  have g5 := gb_trans g1 (gb_trans (gb_alloc w3 (.cells #[.slice zo N zcap, .int .i64 t, .int .i64 a] 27) none) (gb_alloc _ (.cells #[.slice zo N zcap, .int .i64 t, .int .i64 (a * 7 - 300)] 27) none))
  have gq := gb_trans (gb_alloc w3 (.cells #[.slice zo N zcap, .int .i64 t, .int .i64 a] 27) none) (gb_alloc _ (.cells #[.slice zo N zcap, .int .i64 t, .int .i64 (a * 7 - 300)] 27) none)
  obtain ⟨n, hn⟩ : ∃ n, (secsF l0).length = n := ⟨_, rfl⟩
  have hs := HS.out.keep0 gq
  have hw := HW.out.keep0 gq
  have hf := HF.out.keep0 gq
  rw [hn] at hs
  rw [HN.out] at hw
  rw [hlen] at hf
  clear HS HW HF
  have HS := Lib.hid hs
  have HW := Lib.hid hw
  have HF := Lib.hid hf
  clear hs hw hf
  generalize w3.heap.size = b9
  generalize w3.heap.size + 1 = b10
  generalize (w3.alloc (.cells #[.slice zo N zcap, .int .i64 t, .int .i64 a] 27)).alloc (.cells #[.slice zo N zcap, .int .i64 t, .int .i64 (a * 7 - 300)] 27) = w5 at g5 HS HW HF ⊢
  have HSL : Hid ((secsF l0).length ≤ 1000) := Lib.hid (by rw [secsF_length]; omega)
  have HWL : Hid ((wrsF ly).length ≤ 1000) := Lib.hid (by rw [HN.out]; omega)
  have hn1 : n ≤ l0.length := by rw [← hn, secsF_length]; omega
  have hn8 : n ≤ 8 := by rw [← hn, secsF_length]; omega
  have HNN := Lib.hid hn
  have HX0 := Lib.hid (idxF_0 (.slice zo N zcap) (.slice zo N zcap) t a t (a * 7 - 300))
  have HX1 := Lib.hid (idxF_1 (.slice zo N zcap) (.slice zo N zcap) t a t (a * 7 - 300))
  rw [hn]
  clear hn gq
  go_loopw [33] (fun v wr => ∃ k : Nat, k ≤ 2 ∧ v = .int .i64 k ∧ w5.grownBy wr none) (fun v _ => 2 - (intOf v).toNat)
  case atStart => exact ⟨0, by omega, rfl, gb_refl _ _⟩
  case round =>
    obtain ⟨k, hk, rfl, hg⟩ := hrel
    by_cases hk2 : k < 2
    · have hd1 : decide ((k : Int) < 2) = true := decide_eq_true (by omega)
      obtain ⟨A, hA, hA1, hA2⟩ : ∃ A : Int, (∀ w' : World, (Instr.index 41 (.agg #[.slice zo N zcap, .int .i64 t, .int .i64 a, .slice zo N zcap, .int .i64 t, .int .i64 (a * 7 - 300)]) (.int .i64 (k : Nat))).run Tryd.prog w' = .ok (.agg #[.slice zo N zcap, .int .i64 t, .int .i64 A]) w') ∧ -3000 ≤ A ∧ A ≤ 3000 := by
        rcases (show k = 0 ∨ k = 1 by omega) with rfl | rfl
        · exact ⟨a, HX0.out, by omega, by omega⟩
        · exact ⟨a * 7 - 300, HX1.out, by omega, by omega⟩
      have b12 := Blk.mk wr 27 #[.slice zo N zcap, .int .i64 t, .int .i64 A]
      have g6 := gb_trans hg (gb_alloc wr (.cells #[.slice zo N zcap, .int .i64 t, .int .i64 A] 27) none)
      go_wp2_with fail
      clear hA
      have c0 := b12.cell 0 rfl
      have c1 := b12.cell 1 rfl
      have c2 := b12.cell 2 rfl
      generalize wr.alloc (.cells #[.slice zo N zcap, .int .i64 t, .int .i64 A] 27) = w6 at g6 b12 c0 c1 c2 ⊢
      refine wp_region_noPanic ?_
      refine wp_region_held_drew (S := fun w' => (w6).grownBy w' none) (by kernel_rfl) (gb_drew _ _) (fun hHeld => ?_)
      refine wpAnyH_take (i := 0) (v := ?_) (List.getElem?_toArray.trans rfl) (by kernel_rfl) (by kernel_rfl) (by kernel_rfl) (fun _ _ _ h => h) (Or.inl ⟨by rfl, ?_⟩) hHeld ?_
      rotate_left
      · intro w' hSw; have q0 := hSw.cell c0 (by simp); have q1 := hSw.cell c1 (by simp); have q2 := hSw.cell c2 (by simp); go_simp; try with_reducible rfl
      try simp only [Act.put, List.setIfInBounds_toArray, List.set_cons_zero, List.set_cons_succ]
      refine wpAnyH_take (i := 1) (v := ?_) (List.getElem?_toArray.trans rfl) (by kernel_rfl) (by kernel_rfl) (by kernel_rfl) (fun _ _ _ h => h) (Or.inl ⟨by rfl, ?_⟩) hHeld ?_
      rotate_left
      · intro w' hSw; have q0 := hSw.cell c0 (by simp); have q1 := hSw.cell c1 (by simp); have q2 := hSw.cell c2 (by simp); go_simp; try with_reducible rfl
      try simp only [Act.put, List.setIfInBounds_toArray, List.set_cons_zero, List.set_cons_succ]
      refine wpAnyH_take (i := 2) (v := ?_) (List.getElem?_toArray.trans rfl) (by kernel_rfl) (by kernel_rfl) (by kernel_rfl) (fun _ _ _ h => h) (Or.inl ⟨by rfl, ?_⟩) hHeld ?_
      rotate_left
      · intro w' hSw; have q0 := hSw.cell c0 (by simp); have q1 := hSw.cell c1 (by simp); have q2 := hSw.cell c2 (by simp); go_simp; try with_reducible rfl
      try simp only [Act.put, List.setIfInBounds_toArray, List.set_cons_zero, List.set_cons_succ]
      refine wpAnyH_take (i := 4) (v := ?_) (List.getElem?_toArray.trans rfl) (by kernel_rfl) (by kernel_rfl) (by kernel_rfl) (fun _ _ _ h => h) (Or.inl ⟨by rfl, ?_⟩) hHeld ?_
      rotate_left
      · intro w' hSw; have q0 := hSw.cell c0 (by simp); have q1 := hSw.cell c1 (by simp); have q2 := hSw.cell c2 (by simp); go_simp; try with_reducible rfl
      try simp only [Act.put, List.setIfInBounds_toArray, List.set_cons_zero, List.set_cons_succ]
      refine wpAnyH_take (i := 5) (v := ?_) (List.getElem?_toArray.trans rfl) (by kernel_rfl) (by kernel_rfl) (by kernel_rfl) (fun _ _ _ h => h) (Or.inl ⟨by rfl, ?_⟩) hHeld ?_
      rotate_left
      · intro w' hSw; have q0 := hSw.cell c0 (by simp); have q1 := hSw.cell c1 (by simp); have q2 := hSw.cell c2 (by simp); go_simp; try with_reducible rfl
      try simp only [Act.put, List.setIfInBounds_toArray, List.set_cons_zero, List.set_cons_succ]
      refine wpAnyH_take (i := 6) (v := ?_) (List.getElem?_toArray.trans rfl) (by kernel_rfl) (by kernel_rfl) (by kernel_rfl) (fun _ _ _ h => h) (Or.inl ⟨by rfl, ?_⟩) hHeld ?_
      rotate_left
      · intro w' hSw; have q0 := hSw.cell c0 (by simp); have q1 := hSw.cell c1 (by simp); have q2 := hSw.cell c2 (by simp); go_simp; try with_reducible rfl
      try simp only [Act.put, List.setIfInBounds_toArray, List.set_cons_zero, List.set_cons_succ]
      refine wpAnyH_ready (rs := [3]) (by kernel_rfl) (by simp) ?_
      refine AllReadyH.cons (List.getElem?_toArray.trans rfl) (fun K hK => ?_) AllReadyH.nil
      go_simp
      go_at_call 19
      (with_reducible refine (after_any _ _ _ (secsF l0) (wrsF ly) l t A _ (HS.out.keep0 (gb_trans g6 hHeld)) (HW.out.keep0 (gb_trans g6 hHeld)) (HF.out.keep0 (gb_trans g6 hHeld)) (by omega) HSL.out HWL.out (secsF_whole l0) (by omega) (by omega)).mono ?_)
      rintro e wN ⟨vg, rfl, hvg, gN⟩
      have HG := Lib.hid hvg
      obtain ⟨go, gcap, rfl, _, _, _, _⟩ := hvg
      refine hK.out _ _ (gb_trans hHeld gN) (fun hHeld => ?_)
      clear hK K
      try simp only [Act.put, List.setIfInBounds_toArray, List.set_cons_zero, List.set_cons_succ]
      refine wpAnyH_ready (rs := [7]) (by kernel_rfl) (by simp) ?_
      refine AllReadyH.cons (List.getElem?_toArray.trans rfl) (fun K hK => ?_) AllReadyH.nil
      go_simp
      go_at_call 20
      (with_reducible refine (refAfter_any _ _ _ (secsF l0) (wrsF ly) l t A _ (HS.out.keep0 (gb_trans g6 hHeld)) (HW.out.keep0 (gb_trans g6 hHeld)) (HF.out.keep0 (gb_trans g6 hHeld)) (by omega) HSL.out HWL.out (secsF_whole l0)).mono ?_)
      rintro e wM ⟨vr, rfl, hvr, gN⟩
      replace HG := Lib.hid (HG.out.keep0 gN)
      have HE := Lib.hid hvr
      obtain ⟨eo, ecap, rfl, _, _, _, _⟩ := hvr
      refine hK.out _ _ (gb_trans hHeld gN) (fun hHeld => ?_)
      clear hK K
      try simp only [Act.put, List.setIfInBounds_toArray, List.set_cons_zero, List.set_cons_succ]
      refine wpAnyH_take (i := 8) (v := ?_) (List.getElem?_toArray.trans rfl) (by kernel_rfl) (by kernel_rfl) (by kernel_rfl) (fun _ _ _ h => h) (Or.inl ⟨by rfl, ?_⟩) hHeld ?_
      rotate_left
      · intro w' hSw; have q0 := hSw.cell c0 (by simp); have q1 := hSw.cell c1 (by simp); have q2 := hSw.cell c2 (by simp); go_simp; try with_reducible rfl
      try simp only [Act.put, List.setIfInBounds_toArray, List.set_cons_zero, List.set_cons_succ]
      refine wpAnyH_take (i := 9) (v := ?_) (List.getElem?_toArray.trans rfl) (by kernel_rfl) (by kernel_rfl) (by kernel_rfl) (fun _ _ _ h => h) (Or.inl ⟨by rfl, ?_⟩) hHeld ?_
      rotate_left
      · intro w' hSw; have q0 := hSw.cell c0 (by simp); have q1 := hSw.cell c1 (by simp); have q2 := hSw.cell c2 (by simp); go_simp; try with_reducible rfl
      try simp only [Act.put, List.setIfInBounds_toArray, List.set_cons_zero, List.set_cons_succ]
      refine wpAnyH_done (by kernel_rfl) ?_ _
      refine NoPanic.normal ?_
      have hR : (afterF (secsF l0) (wrsF ly) l t A).length = n := by unfold afterF; rw [foldW_length, HNN.out]
      generalize afterF (secsF l0) (wrsF ly) l t A = R at HG HE hR ⊢
      rw [hR]
      have g7 := gb_trans g6 hHeld
      replace HG := Lib.hid HG.out
      have HS7 := Lib.hid (HS.out.keep0 g7)
      clear c0 c1 c2 b12
      go_wp2_with fail
      go_loopw [15] (fun v ww => ∃ j : Nat, j ≤ n ∧ v = .int .i64 j ∧ wM.grownBy ww none) (fun v _ => n - (intOf v).toNat)
      case atStart => exact ⟨0, by omega, rfl, gb_refl _ _⟩
      case round =>
        obtain ⟨j, hj, rfl, hgj⟩ := hrel
        have hS := gb_trans g7 hgj
        have HGj := Lib.hid (HG.out.keep0 hgj)
        have HEj := Lib.hid (HE.out.keep0 hgj)
        have HSj := Lib.hid (HS.out.keep0 hS)
        by_cases hjn : j < n
        · have hjn' : (j : Int) < (n : Int) := by omega
          have hj0 : (0 : Int) ≤ (j : Int) := by omega
          have hjl : j < l0.length := by omega
          have hz : (secsF l0).getD j noS = secS (l0.getD j 0) := by
            have hj8 : j < 8 := by omega
            unfold secsF; simp [List.getD, hjl, hj8]
          obtain ⟨ag, rfl, d0⟩ := sts_cell HGj.out (j := j) (by omega)
          obtain ⟨ae, rfl, d1⟩ := sts_cell HEj.out (j := j) (by omega)
          obtain ⟨ax, rfl, d2⟩ := sts_cell HSj.out (j := j) (by rw [HNN.out]; omega)
          cases lo with
          | none => have := (HLN.out rfl).1; omega
          | some y =>
            have d3 := (gb_trans g5 hS).cell (HLX.out y rfl j _ (bytes_at hjl)) (by simp)
            rw [hz] at d2
            generalize R.getD j noS = x at d0 d1
            obtain ⟨z, hz0⟩ : ∃ z, l0.getD j 0 = z := ⟨_, rfl⟩
            rw [hz0] at d2 d3
            clear hz0
            clear hz HGj HEj HSj
            go_wp2_with fail
            refine wp_region_noPanic ?_
            refine wp_region_held_drew (S := fun w' => (wr).grownBy w' none) (by kernel_rfl) (gb_drew _ _) (fun hHeld => ?_)
            refine wpAnyH_take (i := 0) (v := ?_) (List.getElem?_toArray.trans rfl) (by kernel_rfl) (by kernel_rfl) (by kernel_rfl) (fun _ _ _ h => h) (Or.inl ⟨by rfl, ?_⟩) hHeld ?_
            rotate_left
            · intro w' hSw; have q0 := hSw.cell d0 (by simp); have q1 := hSw.cell d1 (by simp); have q2 := hSw.cell d2 (by simp); have q3 := hSw.cell d3 (by simp); go_simp; try with_reducible rfl
            try simp only [Act.put, List.setIfInBounds_toArray, List.set_cons_zero, List.set_cons_succ]
            refine wpAnyH_take (i := 1) (v := ?_) (List.getElem?_toArray.trans rfl) (by kernel_rfl) (by kernel_rfl) (by kernel_rfl) (fun _ _ _ h => h) (Or.inl ⟨by rfl, ?_⟩) hHeld ?_
            rotate_left
            · intro w' hSw; have q0 := hSw.cell d0 (by simp); have q1 := hSw.cell d1 (by simp); have q2 := hSw.cell d2 (by simp); have q3 := hSw.cell d3 (by simp); go_simp; try with_reducible rfl
            try simp only [Act.put, List.setIfInBounds_toArray, List.set_cons_zero, List.set_cons_succ]
            refine wpAnyH_take (i := 2) (v := ?_) (List.getElem?_toArray.trans rfl) (by kernel_rfl) (by kernel_rfl) (by kernel_rfl) (fun _ _ _ h => h) (Or.inl ⟨by rfl, ?_⟩) hHeld ?_
            rotate_left
            · intro w' hSw; have q0 := hSw.cell d0 (by simp); have q1 := hSw.cell d1 (by simp); have q2 := hSw.cell d2 (by simp); have q3 := hSw.cell d3 (by simp); go_simp; try with_reducible rfl
            try simp only [Act.put, List.setIfInBounds_toArray, List.set_cons_zero, List.set_cons_succ]
            refine wpAnyH_take (i := 3) (v := ?_) (List.getElem?_toArray.trans rfl) (by kernel_rfl) (by kernel_rfl) (by kernel_rfl) (fun _ _ _ h => h) (Or.inl ⟨by rfl, ?_⟩) hHeld ?_
            rotate_left
            · intro w' hSw; have q0 := hSw.cell d0 (by simp); have q1 := hSw.cell d1 (by simp); have q2 := hSw.cell d2 (by simp); have q3 := hSw.cell d3 (by simp); go_simp; try with_reducible rfl
            try simp only [Act.put, List.setIfInBounds_toArray, List.set_cons_zero, List.set_cons_succ]
            refine wpAnyH_take (i := 4) (v := ?_) (List.getElem?_toArray.trans rfl) (by kernel_rfl) (by kernel_rfl) (by kernel_rfl) (fun _ _ _ h => h) (Or.inl ⟨by rfl, ?_⟩) hHeld ?_
            rotate_left
            · intro w' hSw; have q0 := hSw.cell d0 (by simp); have q1 := hSw.cell d1 (by simp); have q2 := hSw.cell d2 (by simp); have q3 := hSw.cell d3 (by simp); go_simp; try with_reducible rfl
            try simp only [Act.put, List.setIfInBounds_toArray, List.set_cons_zero, List.set_cons_succ]
            refine wpAnyH_take (i := 5) (v := ?_) (List.getElem?_toArray.trans rfl) (by kernel_rfl) (by kernel_rfl) (by kernel_rfl) (fun _ _ _ h => h) (Or.inl ⟨by rfl, ?_⟩) hHeld ?_
            rotate_left
            · intro w' hSw; have q0 := hSw.cell d0 (by simp); have q1 := hSw.cell d1 (by simp); have q2 := hSw.cell d2 (by simp); have q3 := hSw.cell d3 (by simp); go_simp; try with_reducible rfl
            try simp only [Act.put, List.setIfInBounds_toArray, List.set_cons_zero, List.set_cons_succ]
            refine wpAnyH_take (i := 6) (v := ?_) (List.getElem?_toArray.trans rfl) (by kernel_rfl) (by kernel_rfl) (by kernel_rfl) (fun _ _ _ h => h) (Or.inl ⟨by rfl, ?_⟩) hHeld ?_
            rotate_left
            · intro w' hSw; have q0 := hSw.cell d0 (by simp); have q1 := hSw.cell d1 (by simp); have q2 := hSw.cell d2 (by simp); have q3 := hSw.cell d3 (by simp); go_simp; try with_reducible rfl
            try simp only [Act.put, List.setIfInBounds_toArray, List.set_cons_zero, List.set_cons_succ]
            refine wpAnyH_take (i := 7) (v := ?_) (List.getElem?_toArray.trans rfl) (by kernel_rfl) (by kernel_rfl) (by kernel_rfl) (fun _ _ _ h => h) (Or.inl ⟨by rfl, ?_⟩) hHeld ?_
            rotate_left
            · intro w' hSw; have q0 := hSw.cell d0 (by simp); have q1 := hSw.cell d1 (by simp); have q2 := hSw.cell d2 (by simp); have q3 := hSw.cell d3 (by simp); go_simp; try with_reducible rfl
            try simp only [Act.put, List.setIfInBounds_toArray, List.set_cons_zero, List.set_cons_succ]
            refine wpAnyH_take (i := 8) (v := ?_) (List.getElem?_toArray.trans rfl) (by kernel_rfl) (by kernel_rfl) (by kernel_rfl) (fun _ _ _ h => h) (Or.inl ⟨by rfl, ?_⟩) hHeld ?_
            rotate_left
            · intro w' hSw; have q0 := hSw.cell d0 (by simp); have q1 := hSw.cell d1 (by simp); have q2 := hSw.cell d2 (by simp); have q3 := hSw.cell d3 (by simp); go_simp; try with_reducible rfl
            try simp only [Act.put, List.setIfInBounds_toArray, List.set_cons_zero, List.set_cons_succ]
            refine wpAnyH_take (i := 9) (v := ?_) (List.getElem?_toArray.trans rfl) (by kernel_rfl) (by kernel_rfl) (by kernel_rfl) (fun _ _ _ h => h) (Or.inl ⟨by rfl, ?_⟩) hHeld ?_
            rotate_left
            · intro w' hSw; have q0 := hSw.cell d0 (by simp); have q1 := hSw.cell d1 (by simp); have q2 := hSw.cell d2 (by simp); have q3 := hSw.cell d3 (by simp); go_simp; try with_reducible rfl
            try simp only [Act.put, List.setIfInBounds_toArray, List.set_cons_zero, List.set_cons_succ]
            refine wpAnyH_take (i := 10) (v := ?_) (List.getElem?_toArray.trans rfl) (by kernel_rfl) (by kernel_rfl) (by kernel_rfl) (fun _ _ _ h => h) (Or.inl ⟨by rfl, ?_⟩) hHeld ?_
            rotate_left
            · intro w' hSw; have q0 := hSw.cell d0 (by simp); have q1 := hSw.cell d1 (by simp); have q2 := hSw.cell d2 (by simp); have q3 := hSw.cell d3 (by simp); go_simp; try with_reducible rfl
            try simp only [Act.put, List.setIfInBounds_toArray, List.set_cons_zero, List.set_cons_succ]
            refine wpAnyH_take (i := 11) (v := ?_) (List.getElem?_toArray.trans rfl) (by kernel_rfl) (by kernel_rfl) (by kernel_rfl) (fun _ _ _ h => h) (Or.inl ⟨by rfl, ?_⟩) hHeld ?_
            rotate_left
            · intro w' hSw; have q0 := hSw.cell d0 (by simp); have q1 := hSw.cell d1 (by simp); have q2 := hSw.cell d2 (by simp); have q3 := hSw.cell d3 (by simp); go_simp; try with_reducible rfl
            try simp only [Act.put, List.setIfInBounds_toArray, List.set_cons_zero, List.set_cons_succ]
            refine wpAnyH_take (i := 12) (v := ?_) (List.getElem?_toArray.trans rfl) (by kernel_rfl) (by kernel_rfl) (by kernel_rfl) (fun _ _ _ h => h) (Or.inl ⟨by rfl, ?_⟩) hHeld ?_
            rotate_left
            · intro w' hSw; have q0 := hSw.cell d0 (by simp); have q1 := hSw.cell d1 (by simp); have q2 := hSw.cell d2 (by simp); have q3 := hSw.cell d3 (by simp); go_simp; try with_reducible rfl
            try simp only [Act.put, List.setIfInBounds_toArray, List.set_cons_zero, List.set_cons_succ]
            refine wpAnyH_take (i := 13) (v := ?_) (List.getElem?_toArray.trans rfl) (by kernel_rfl) (by kernel_rfl) (by kernel_rfl) (fun _ _ _ h => h) (Or.inl ⟨by rfl, ?_⟩) hHeld ?_
            rotate_left
            · intro w' hSw; have q0 := hSw.cell d0 (by simp); have q1 := hSw.cell d1 (by simp); have q2 := hSw.cell d2 (by simp); have q3 := hSw.cell d3 (by simp); go_simp; try with_reducible rfl
            try simp only [Act.put, List.setIfInBounds_toArray, List.set_cons_zero, List.set_cons_succ]
            refine wpAnyH_take (i := 14) (v := ?_) (List.getElem?_toArray.trans rfl) (by kernel_rfl) (by kernel_rfl) (by kernel_rfl) (fun _ _ _ h => h) (Or.inl ⟨by rfl, ?_⟩) hHeld ?_
            rotate_left
            · intro w' hSw; have q0 := hSw.cell d0 (by simp); have q1 := hSw.cell d1 (by simp); have q2 := hSw.cell d2 (by simp); have q3 := hSw.cell d3 (by simp); go_simp; try with_reducible rfl
            try simp only [Act.put, List.setIfInBounds_toArray, List.set_cons_zero, List.set_cons_succ]
            refine wpAnyH_take (i := 15) (v := ?_) (List.getElem?_toArray.trans rfl) (by kernel_rfl) (by kernel_rfl) (by kernel_rfl) (fun _ _ _ h => h) (Or.inl ⟨by rfl, ?_⟩) hHeld ?_
            rotate_left
            · intro w' hSw; have q0 := hSw.cell d0 (by simp); have q1 := hSw.cell d1 (by simp); have q2 := hSw.cell d2 (by simp); have q3 := hSw.cell d3 (by simp); go_simp; try with_reducible rfl
            try simp only [Act.put, List.setIfInBounds_toArray, List.set_cons_zero, List.set_cons_succ]
            refine wpAnyH_take (i := 16) (v := ?_) (List.getElem?_toArray.trans rfl) (by kernel_rfl) (by kernel_rfl) (by kernel_rfl) (fun _ _ _ h => h) (Or.inl ⟨by rfl, ?_⟩) hHeld ?_
            rotate_left
            · intro w' hSw; have q0 := hSw.cell d0 (by simp); have q1 := hSw.cell d1 (by simp); have q2 := hSw.cell d2 (by simp); have q3 := hSw.cell d3 (by simp); go_simp; try with_reducible rfl
            try simp only [Act.put, List.setIfInBounds_toArray, List.set_cons_zero, List.set_cons_succ]
            refine wpAnyH_take (i := 17) (v := ?_) (List.getElem?_toArray.trans rfl) (by kernel_rfl) (by kernel_rfl) (by kernel_rfl) (fun _ _ _ h => h) (Or.inl ⟨by rfl, ?_⟩) hHeld ?_
            rotate_left
            · intro w' hSw; have q0 := hSw.cell d0 (by simp); have q1 := hSw.cell d1 (by simp); have q2 := hSw.cell d2 (by simp); have q3 := hSw.cell d3 (by simp); go_simp; try with_reducible rfl
            try simp only [Act.put, List.setIfInBounds_toArray, List.set_cons_zero, List.set_cons_succ]
            refine wpAnyH_ready (rs := [18]) (by kernel_rfl) (by simp) ?_
            refine AllReadyH.cons (List.getElem?_toArray.trans rfl) (fun K hK => ?_) AllReadyH.nil
            go_simp
            go_at_call 21
            (with_reducible refine (sector_any _ z _ rfl).mono ?_)
            rintro e wN ⟨rfl, gN⟩
            refine hK.out _ _ (gb_trans hHeld gN) (fun hHeld => ?_)
            clear hK K
            try simp only [Act.put, List.setIfInBounds_toArray, List.set_cons_zero, List.set_cons_succ]
            refine wpAnyH_take (i := 19) (v := ?_) (List.getElem?_toArray.trans rfl) (by kernel_rfl) (by kernel_rfl) (by kernel_rfl) (fun _ _ _ h => h) (Or.inl ⟨by rfl, ?_⟩) hHeld ?_
            rotate_left
            · intro w' hSw; have q0 := hSw.cell d0 (by simp); have q1 := hSw.cell d1 (by simp); have q2 := hSw.cell d2 (by simp); have q3 := hSw.cell d3 (by simp); go_simp; try with_reducible rfl
            try simp only [Act.put, List.setIfInBounds_toArray, List.set_cons_zero, List.set_cons_succ]
            refine wpAnyH_take (i := 20) (v := ?_) (List.getElem?_toArray.trans rfl) (by kernel_rfl) (by kernel_rfl) (by kernel_rfl) (fun _ _ _ h => h) (Or.inl ⟨by rfl, ?_⟩) hHeld ?_
            rotate_left
            · intro w' hSw; have q0 := hSw.cell d0 (by simp); have q1 := hSw.cell d1 (by simp); have q2 := hSw.cell d2 (by simp); have q3 := hSw.cell d3 (by simp); go_simp; try with_reducible rfl
            try simp only [Act.put, List.setIfInBounds_toArray, List.set_cons_zero, List.set_cons_succ]
            refine wpAnyH_done (by kernel_rfl) ?_ _
            refine NoPanic.normal ?_
            go_wp2
            go_roundw
            case rel => exact ⟨j + 1, by omega, by go_num, gb_trans hgj hHeld⟩
            case measure => simp [intOf]; omega
        · obtain rfl : j = n := by omega
          go_wp2
          go_roundw
          case rel => exact ⟨k + 1, by omega, by go_num, hS⟩
          case measure => simp [intOf]; omega
    · obtain rfl : k = 2 := by omega
      go_wp2_with (go_at_call 14; (with_reducible refine (works_any _ (HM.out.keep0 (gb_trans g5 hg))).mono ?_); rintro e w1 ⟨rfl, g1⟩)
      go_ret
      exact ⟨rfl, gb_trans (gb_trans g5 hg) g1⟩
end Go.Proofs.YtefpnhckplcfgaaDoor
