/-
  What the document's Fits and Join answer of nodes, over this seat's translation; conditions: the nodes lie as they are told, and have at most 300,000, and 100,000, of each.
-/
import Derived.Test.YthhimhjegodklaaGreatNzm
import Derived.Test.YthhimhjegodklaaGreatNzq
namespace Go.Proofs.YthhimhjegodklaaGreat.N11
set_option linter.unusedSimpArgs false
set_option linter.unusedVariables false
open Go.RowKit
theorem may_true {n : Nd} (hm : n.may = true) (ho : n.Lim) (W : World) (v : Value) (hv : NdV W v n) : Calls Tryz.prog 22 #[v] W fun e w' => e = .returned (.bool true) ∧ W.grownBy w' none :=
  (refMay_any v n W hv ho).mono fun e w' hq => by rw [hm] at hq; exact hq
theorem may_false {n : Nd} (hm : n.may = false) (ho : n.Lim) (W : World) (v : Value) (hv : NdV W v n) : Calls Tryz.prog 22 #[v] W fun e w' => e = .returned (.bool false) ∧ W.grownBy w' none :=
  (refMay_any v n W hv ho).mono fun e w' hq => by rw [hm] at hq; exact hq
set_option maxRecDepth 100000 in
set_option maxHeartbeats 4000000 in
theorem refFits_any (v : Value) (n : Nd) (w : World) (hv : NdV w v n) (ho : n.Lim) : Calls Tryz.prog 23 #[v] w fun e w' => e = .returned (.bool n.fits) ∧ w.grownBy w' none := by
  obtain ⟨p1, s1, p2, s2, p3, s3, rfl⟩ := NdV.parts hv
  obtain ⟨lf, hlf⟩ : ∃ lf, n.leaf = lf := ⟨_, rfl⟩
  obtain ⟨r1, hr1⟩ : ∃ r, n.cells.length = r := ⟨_, rfl⟩
  obtain ⟨r2, hr2⟩ : ∃ r, n.keys.length = r := ⟨_, rfl⟩
  obtain ⟨r3, hr3⟩ : ∃ r, n.kids.length = r := ⟨_, rfl⟩
  rw [hlf, hr1, hr2, hr3] at hv ⊢
  clear hlf hr1 hr2 hr3
  obtain ⟨w0, hw0, kP, g0, hz⟩ := new1 w 26 #[.bool lf, .slice p1 r1 s1, .slice p2 r2 s2, .slice p3 r3 s3]
  have HW := Lib.hid hw0
  have VN := Lib.hid (hv.keep0 g0)
  have a0 := kP.cell 0 rfl
  have a1 := kP.cell 1 rfl
  have a2 := kP.cell 2 rfl
  have a3 := kP.cell 3 rfl
  clear hw0 hz hv kP
  have HFT := Lib.hid (show n.fits = (n.may && decide (n.size ≤ 240)) from rfl)
  rcases hm : n.may with _ | _
  · have HM := Lib.hid (fun W v hv => may_false hm ho W v hv)
    have HR := Lib.hid (show n.fits = false by rw [HFT.out, hm]; rfl)
    clear hm HFT
    go_enter Tryz.func23, Tryz.ntmps23
    go_upto_region 1 with fail
    rw [← HW.out]
    go_wp2_with (go_at_call 22; (with_reducible refine (HM.out _ _ VN.out).mono ?_); rintro e w1 ⟨rfl, g1⟩)
    go_ret
    exact ⟨ret_b HR.out.symm, gb_trans g0 g1⟩
  · have HM := Lib.hid (fun W v hv => may_true hm ho W v hv)
    obtain ⟨t, ht⟩ : ∃ t : ByteArray, ⟨n.bytes.toArray⟩ = t := ⟨_, rfl⟩
    have hts : t.size = n.size := by rw [← ht, size_arr, Nd.bytes_length n hm]
    have HBY := Lib.hid (fun W v hv => (show Calls Tryz.prog 32 #[v] W (TextGot t W) from by rw [← ht]; exact refBytes_any v n W hv hm ho))
    have HR := Lib.hid (show n.fits = decide (t.size ≤ 240) by rw [HFT.out, hm, hts]; rfl)
    clear hm HFT ht hts
    go_enter Tryz.func23, Tryz.ntmps23
    go_upto_region 1 with fail
    rw [← HW.out]
    go_wp2_with (first | (go_at_call 22; (with_reducible refine (HM.out _ _ VN.out).mono ?_); rintro e w1 ⟨rfl, g1⟩; replace VN := Lib.hid (VN.out.keep0 g1); replace g0 := gb_trans g0 g1; replace a0 := World.grownBy.cell g1 a0 (by simp); replace a1 := World.grownBy.cell g1 a1 (by simp); replace a2 := World.grownBy.cell g1 a2 (by simp); replace a3 := World.grownBy.cell g1 a3 (by simp); clear g1) | (go_at_call 32; (with_reducible refine (HBY.out _ _ VN.out).mono ?_); rintro e w2 ⟨rfl, g2⟩))
    go_ret
    exact ⟨ret_b (by rw [HR.out]; exact le_cast t.size 240), gb_trans g0 g2⟩
theorem rfits_is {n : Nd} {b : Bool} (hf : n.fits = b) (ho : n.Lim) (W : World) (v : Value) (hv : NdV W v n) : Calls Tryz.prog 23 #[v] W fun e w' => e = .returned (.bool b) ∧ W.grownBy w' none :=
  (refFits_any v n W hv ho).mono fun e w' hq => by rw [hf] at hq; exact hq
structure Halves (A B : Nd) : Prop where
  halfA : A.Half
  halfB : B.Half
theorem all_is_false {w : World} {a b c : Value} {A B : Nd} {k : ByteArray} (ha : Ces w a (A.cells ++ B.cells)) (hb : Sts w b (A.keys ++ [k] ++ B.keys)) (hc : Ins w c (A.kids ++ B.kids)) : NdV w (.agg #[.bool false, a, b, c]) (allQ false A B k) := ⟨a, b, c, rfl, ha, hb, hc⟩
theorem all_is_true {w : World} {a b c : Value} {A B : Nd} {k : ByteArray} (ha : Ces w a (A.cells ++ B.cells)) (hb : Sts w b (A.keys ++ B.keys)) (hc : Ins w c (A.kids ++ B.kids)) : NdV w (.agg #[.bool true, a, b, c]) (allQ true A B k) := ⟨a, b, c, rfl, ha, hb, hc⟩
theorem join_not {n m : Nd} {k : ByteArray} {w w' : World} (hb : joinB n m k = false) (g : w.grownBy w' none) : JoinGot n m k w (.returned (.tuple #[.agg #[.bool false, .slice none 0 0, .slice none 0 0, .slice none 0 0], .bool false])) w' := by
  unfold JoinGot; rw [hb]; exact ⟨_, rfl, NdV.zero w', g⟩
theorem join_is {n m : Nd} {k : ByteArray} {w w' : World} {v : Value} (hb : joinB n m k = true) (hv : NdV w' v (joinN n m k)) (g : w.grownBy w' none) : JoinGot n m k w (.returned (.tuple #[v, .bool true])) w' := by
  unfold JoinGot; rw [hb]; exact ⟨_, rfl, hv, g⟩
set_option maxRecDepth 100000 in
set_option maxHeartbeats 4000000 in
theorem refJoin_any (v u : Value) (A B : Nd) (key : ByteArray) (w : World) (hv : NdV w v A) (hu : NdV w u B) (hA : A.Half) (hB : B.Half) : Calls Tryz.prog 11 #[v, u, .string key] w (JoinGot A B key w) := by
  obtain ⟨p1, s1, p2, s2, p3, s3, rfl⟩ := NdV.parts hv
  obtain ⟨o1, d1, o2, d2, o3, d3, rfl⟩ := NdV.parts hu
  have vA := hv
  have vB := hu
  clear hv hu
  obtain ⟨r1, hr1⟩ : ∃ r, A.cells.length = r := ⟨_, rfl⟩
  obtain ⟨r2, hr2⟩ : ∃ r, A.keys.length = r := ⟨_, rfl⟩
  obtain ⟨r3, hr3⟩ : ∃ r, A.kids.length = r := ⟨_, rfl⟩
  obtain ⟨l1, hl1⟩ : ∃ r, B.cells.length = r := ⟨_, rfl⟩
  obtain ⟨l2, hl2⟩ : ∃ r, B.keys.length = r := ⟨_, rfl⟩
  obtain ⟨l3, hl3⟩ : ∃ r, B.kids.length = r := ⟨_, rfl⟩
  rw [hr1, hr2, hr3] at vA ⊢
  rw [hl1, hl2, hl3] at vB ⊢
  clear hr1 hr2 hr3 hl1 hl2 hl3
  rcases hlA : A.leaf with _ | _
  · rcases hlB : B.leaf with _ | _
    · rw [hlA] at vA
      rw [hlB] at vB
      rcases hmA : A.may with _ | _
      · have HJB := Lib.hid (show joinB A B key = false by unfold joinB; rw [hmA]; simp)
        have HMA := Lib.hid (fun W v hv => may_false hmA hA.lim W v hv)
        obtain ⟨w0, hw0, kP, kQ, kR, g0, hz⟩ := new3 w 26 #[.bool false, .slice p1 r1 s1, .slice p2 r2 s2, .slice p3 r3 s3] 26 #[.bool false, .slice o1 l1 d1, .slice o2 l2 d2, .slice o3 l3 d3] 26 #[.bool false, .slice none 0 0, .slice none 0 0, .slice none 0 0]
        have HW := Lib.hid hw0
        have VA := Lib.hid (vA.keep0 g0)
        have VB := Lib.hid (vB.keep0 g0)
        have HG := Lib.hid g0
        have hwb : w.heap.size ≤ w.heap.size := Nat.le_refl _
        clear hw0 vA vB g0
        go_enter Tryz.func11, Tryz.ntmps11
        go_upto_region 1 with fail
        rw [← HW.out]
        clear HW
        generalize hbpe : w.heap.size = bp at kP kQ kR hz hwb ⊢
        obtain ⟨bq, hbq⟩ : ∃ bq, bp + 1 = bq := ⟨_, rfl⟩
        rw [hbq] at kQ kR ⊢
        obtain ⟨br, hbr⟩ : ∃ br, bq + 1 = br := ⟨_, rfl⟩
        rw [hbr] at kR ⊢
        have KP := Lib.hid kP
        have KQ := Lib.hid kQ
        have KR := Lib.hid kR
        have a0 := kP.cell 0 rfl
        have a1 := kP.cell 1 rfl
        have a2 := kP.cell 2 rfl
        have a3 := kP.cell 3 rfl
        have b0 := kQ.cell 0 rfl
        have b1 := kQ.cell 1 rfl
        have b2 := kQ.cell 2 rfl
        have b3 := kQ.cell 3 rfl
        have HBR := Lib.hid (show w.heap.size ≤ br by omega)
        clear kP kQ kR hwb hbpe
        go_wp2_with (first | (go_at_call 22; (with_reducible refine (HMA.out _ _ VA.out).mono ?_); rintro e w1 ⟨rfl, gw1⟩; replace KP := Lib.hid (KP.out.keep0 gw1); replace KQ := Lib.hid (KQ.out.keep0 gw1); replace KR := Lib.hid (KR.out.keep0 gw1); replace VA := Lib.hid (VA.out.keep0 gw1); replace VB := Lib.hid (VB.out.keep0 gw1); replace HG := Lib.hid (gb_trans HG.out gw1); replace a0 := World.grownBy.cell gw1 a0 (by simp); replace a1 := World.grownBy.cell gw1 a1 (by simp); replace a2 := World.grownBy.cell gw1 a2 (by simp); replace a3 := World.grownBy.cell gw1 a3 (by simp); replace b0 := World.grownBy.cell gw1 b0 (by simp); replace b1 := World.grownBy.cell gw1 b1 (by simp); replace b2 := World.grownBy.cell gw1 b2 (by simp); replace b3 := World.grownBy.cell gw1 b3 (by simp); clear gw1) | ((with_reducible refine st_node rfl br 26 false none none none 0 0 0 0 0 0 ?_ ?_ _ _ _ _ KR.out ?_); (· rfl); (· rfl); intro w9 nn9 g9))
        refine bodyPost_ret (results_cs rfl _ _ _ _ _ _ _ rfl nn9) rfl ?_
        exact join_not HJB.out (gb_step HG.out g9 HBR.out)
      · rcases hmB : B.may with _ | _
        · have HJB := Lib.hid (show joinB A B key = false by unfold joinB; rw [hmB]; simp)
          have HMA := Lib.hid (fun W v hv => may_true hmA hA.lim W v hv)
          have HMB := Lib.hid (fun W v hv => may_false hmB hB.lim W v hv)
          obtain ⟨w0, hw0, kP, kQ, kR, g0, hz⟩ := new3 w 26 #[.bool false, .slice p1 r1 s1, .slice p2 r2 s2, .slice p3 r3 s3] 26 #[.bool false, .slice o1 l1 d1, .slice o2 l2 d2, .slice o3 l3 d3] 26 #[.bool false, .slice none 0 0, .slice none 0 0, .slice none 0 0]
          have HW := Lib.hid hw0
          have VA := Lib.hid (vA.keep0 g0)
          have VB := Lib.hid (vB.keep0 g0)
          have HG := Lib.hid g0
          have hwb : w.heap.size ≤ w.heap.size := Nat.le_refl _
          clear hw0 vA vB g0
          go_enter Tryz.func11, Tryz.ntmps11
          go_upto_region 1 with fail
          rw [← HW.out]
          clear HW
          generalize hbpe : w.heap.size = bp at kP kQ kR hz hwb ⊢
          obtain ⟨bq, hbq⟩ : ∃ bq, bp + 1 = bq := ⟨_, rfl⟩
          rw [hbq] at kQ kR ⊢
          obtain ⟨br, hbr⟩ : ∃ br, bq + 1 = br := ⟨_, rfl⟩
          rw [hbr] at kR ⊢
          have KP := Lib.hid kP
          have KQ := Lib.hid kQ
          have KR := Lib.hid kR
          have a0 := kP.cell 0 rfl
          have a1 := kP.cell 1 rfl
          have a2 := kP.cell 2 rfl
          have a3 := kP.cell 3 rfl
          have b0 := kQ.cell 0 rfl
          have b1 := kQ.cell 1 rfl
          have b2 := kQ.cell 2 rfl
          have b3 := kQ.cell 3 rfl
          have HBR := Lib.hid (show w.heap.size ≤ br by omega)
          clear kP kQ kR hwb hbpe
          go_wp2_with (first | (go_at_call 22; (with_reducible refine (HMA.out _ _ VA.out).mono ?_); rintro e w1 ⟨rfl, gw1⟩; replace KP := Lib.hid (KP.out.keep0 gw1); replace KQ := Lib.hid (KQ.out.keep0 gw1); replace KR := Lib.hid (KR.out.keep0 gw1); replace VA := Lib.hid (VA.out.keep0 gw1); replace VB := Lib.hid (VB.out.keep0 gw1); replace HG := Lib.hid (gb_trans HG.out gw1); replace a0 := World.grownBy.cell gw1 a0 (by simp); replace a1 := World.grownBy.cell gw1 a1 (by simp); replace a2 := World.grownBy.cell gw1 a2 (by simp); replace a3 := World.grownBy.cell gw1 a3 (by simp); replace b0 := World.grownBy.cell gw1 b0 (by simp); replace b1 := World.grownBy.cell gw1 b1 (by simp); replace b2 := World.grownBy.cell gw1 b2 (by simp); replace b3 := World.grownBy.cell gw1 b3 (by simp); clear gw1) | (go_at_call 22; (with_reducible refine (HMB.out _ _ VB.out).mono ?_); rintro e w2 ⟨rfl, gw2⟩; replace KP := Lib.hid (KP.out.keep0 gw2); replace KQ := Lib.hid (KQ.out.keep0 gw2); replace KR := Lib.hid (KR.out.keep0 gw2); replace VA := Lib.hid (VA.out.keep0 gw2); replace VB := Lib.hid (VB.out.keep0 gw2); replace HG := Lib.hid (gb_trans HG.out gw2); replace a0 := World.grownBy.cell gw2 a0 (by simp); replace a1 := World.grownBy.cell gw2 a1 (by simp); replace a2 := World.grownBy.cell gw2 a2 (by simp); replace a3 := World.grownBy.cell gw2 a3 (by simp); replace b0 := World.grownBy.cell gw2 b0 (by simp); replace b1 := World.grownBy.cell gw2 b1 (by simp); replace b2 := World.grownBy.cell gw2 b2 (by simp); replace b3 := World.grownBy.cell gw2 b3 (by simp); clear gw2) | ((with_reducible refine st_node rfl br 26 false none none none 0 0 0 0 0 0 ?_ ?_ _ _ _ _ KR.out ?_); (· rfl); (· rfl); intro w9 nn9 g9))
          refine bodyPost_ret (results_cs rfl _ _ _ _ _ _ _ rfl nn9) rfl ?_
          exact join_not HJB.out (gb_step HG.out g9 HBR.out)
        · skip
          have HMA := Lib.hid (fun W v hv => may_true hmA hA.lim W v hv)
          have HMB := Lib.hid (fun W v hv => may_true hmB hB.lim W v hv)
          obtain ⟨w0, hw0, kP, kQ, kR, g0, hz⟩ := new3 w 26 #[.bool false, .slice p1 r1 s1, .slice p2 r2 s2, .slice p3 r3 s3] 26 #[.bool false, .slice o1 l1 d1, .slice o2 l2 d2, .slice o3 l3 d3] 26 #[.bool false, .slice none 0 0, .slice none 0 0, .slice none 0 0]
          have HW := Lib.hid hw0
          have VA := Lib.hid (vA.keep0 g0)
          have VB := Lib.hid (vB.keep0 g0)
          have HG := Lib.hid g0
          have hwb : w.heap.size ≤ w.heap.size := Nat.le_refl _
          clear hw0 vA vB g0
          go_enter Tryz.func11, Tryz.ntmps11
          go_upto_region 1 with fail
          rw [← HW.out]
          clear HW
          generalize hbpe : w.heap.size = bp at kP kQ kR hz hwb ⊢
          obtain ⟨bq, hbq⟩ : ∃ bq, bp + 1 = bq := ⟨_, rfl⟩
          rw [hbq] at kQ kR ⊢
          obtain ⟨br, hbr⟩ : ∃ br, bq + 1 = br := ⟨_, rfl⟩
          rw [hbr] at kR ⊢
          have KP := Lib.hid kP
          have KQ := Lib.hid kQ
          have KR := Lib.hid kR
          have a0 := kP.cell 0 rfl
          have a1 := kP.cell 1 rfl
          have a2 := kP.cell 2 rfl
          have a3 := kP.cell 3 rfl
          have b0 := kQ.cell 0 rfl
          have b1 := kQ.cell 1 rfl
          have b2 := kQ.cell 2 rfl
          have b3 := kQ.cell 3 rfl
          have HBR := Lib.hid (show w.heap.size ≤ br by omega)
          clear kP kQ kR hwb hbpe
          go_upto_region 4 with (first | (go_at_call 22; (with_reducible refine (HMA.out _ _ VA.out).mono ?_); rintro e w1 ⟨rfl, gw1⟩; replace KP := Lib.hid (KP.out.keep0 gw1); replace KQ := Lib.hid (KQ.out.keep0 gw1); replace KR := Lib.hid (KR.out.keep0 gw1); replace VA := Lib.hid (VA.out.keep0 gw1); replace VB := Lib.hid (VB.out.keep0 gw1); replace HG := Lib.hid (gb_trans HG.out gw1); replace a0 := World.grownBy.cell gw1 a0 (by simp); replace a1 := World.grownBy.cell gw1 a1 (by simp); replace a2 := World.grownBy.cell gw1 a2 (by simp); replace a3 := World.grownBy.cell gw1 a3 (by simp); replace b0 := World.grownBy.cell gw1 b0 (by simp); replace b1 := World.grownBy.cell gw1 b1 (by simp); replace b2 := World.grownBy.cell gw1 b2 (by simp); replace b3 := World.grownBy.cell gw1 b3 (by simp); clear gw1) | (go_at_call 22; (with_reducible refine (HMB.out _ _ VB.out).mono ?_); rintro e w2 ⟨rfl, gw2⟩; replace KP := Lib.hid (KP.out.keep0 gw2); replace KQ := Lib.hid (KQ.out.keep0 gw2); replace KR := Lib.hid (KR.out.keep0 gw2); replace VA := Lib.hid (VA.out.keep0 gw2); replace VB := Lib.hid (VB.out.keep0 gw2); replace HG := Lib.hid (gb_trans HG.out gw2); replace a0 := World.grownBy.cell gw2 a0 (by simp); replace a1 := World.grownBy.cell gw2 a1 (by simp); replace a2 := World.grownBy.cell gw2 a2 (by simp); replace a3 := World.grownBy.cell gw2 a3 (by simp); replace b0 := World.grownBy.cell gw2 b0 (by simp); replace b1 := World.grownBy.cell gw2 b1 (by simp); replace b2 := World.grownBy.cell gw2 b2 (by simp); replace b3 := World.grownBy.cell gw2 b3 (by simp); clear gw2))
          obtain ⟨z0, hu, kA, g5, hz5⟩ := new1 w2 26 #[.bool false, .slice none 0 0, .slice none 0 0, .slice none 0 0]
          rw [← hu]
          clear hu a0 a1 a2 a3 b0 b1 b2 b3
          have hbw : br < w2.heap.size := KR.out.lt
          replace KP := Lib.hid (KP.out.keep0 g5)
          replace KQ := Lib.hid (KQ.out.keep0 g5)
          replace KR := Lib.hid (KR.out.keep0 g5)
          replace VA := Lib.hid (VA.out.keep0 g5)
          replace VB := Lib.hid (VB.out.keep0 g5)
          replace HG := Lib.hid (gb_trans HG.out g5)
          generalize w2.heap.size = ba at kA hbw ⊢
          clear g5 hz5 hz
          have KA := Lib.hid kA
          have NB := Lib.hid (Nbl.node kA)
          have GA := Lib.hid (gb_refl z0 (some ba))
          have HPO := Lib.hid (show Halves A B from ⟨hA, hB⟩)
          clear kA
          have hab0 : ba < z0.heap.size := KA.out.lt
          go_upto_region 4 with fail
          have hSP : z0.cell? ⟨bp, 1, none⟩ = some (.slice p1 r1 s1) := (KP.out.keep GA.out (ne_some (by omega))).cell 1 rfl
          have hSQ : z0.cell? ⟨bq, 1, none⟩ = some (.slice o1 l1 d1) := (KQ.out.keep GA.out (ne_some (by omega))).cell 1 rfl
          have GD := Lib.hid (gb_trans GA.out (gb_drew z0 (some ba)))
          have KD := Lib.hid (KA.out.keep0 (gb_drew z0 none))
          clear KA GA
          refine wp_region_noPanic ?_
          refine wp_region_held_drew (S := fun w' => w'.cell? ⟨bp, 1, none⟩ = some (.slice p1 r1 s1) ∧ w'.cell? ⟨bq, 1, none⟩ = some (.slice o1 l1 d1)) (by kernel_rfl) ⟨hSP, hSQ⟩ (fun hHeld => ?_)
          refine wpAnyH_take (i := 0) (v := ?_) (List.getElem?_toArray.trans rfl) (by kernel_rfl) (by kernel_rfl) (by kernel_rfl) (fun _ _ _ h => h) (Or.inl ⟨by rfl, ?_⟩) hHeld ?_
          rotate_left
          · intro w' hSw; have m1 := hSw.1; have m2 := hSw.2; go_simp; try with_reducible rfl
          try simp only [Act.put, List.setIfInBounds_toArray, List.set_cons_zero, List.set_cons_succ]
          refine wpAnyH_take (i := 2) (v := ?_) (List.getElem?_toArray.trans rfl) (by kernel_rfl) (by kernel_rfl) (by kernel_rfl) (fun _ _ _ h => h) (Or.inl ⟨by rfl, ?_⟩) hHeld ?_
          rotate_left
          · intro w' hSw; have m1 := hSw.1; have m2 := hSw.2; go_simp; try with_reducible rfl
          try simp only [Act.put, List.setIfInBounds_toArray, List.set_cons_zero, List.set_cons_succ]
          refine wpAnyH_take (i := 5) (v := ?_) (List.getElem?_toArray.trans rfl) (by kernel_rfl) (by kernel_rfl) (by kernel_rfl) (fun _ _ _ h => h) (Or.inl ⟨by rfl, ?_⟩) hHeld ?_
          rotate_left
          · intro w' hSw; have m1 := hSw.1; have m2 := hSw.2; go_simp; try with_reducible rfl
          try simp only [Act.put, List.setIfInBounds_toArray, List.set_cons_zero, List.set_cons_succ]
          refine wpAnyH_take (i := 3) (v := ?_) (List.getElem?_toArray.trans rfl) (by kernel_rfl) (by kernel_rfl) (by kernel_rfl) (fun _ _ _ h => h) (Or.inl ⟨by rfl, ?_⟩) hHeld ?_
          rotate_left
          · intro w' hSw; have m1 := hSw.1; have m2 := hSw.2; go_simp; try with_reducible rfl
          try simp only [Act.put, List.setIfInBounds_toArray, List.set_cons_zero, List.set_cons_succ]
          refine wpAnyH_take (i := 6) (v := ?_) (List.getElem?_toArray.trans rfl) (by kernel_rfl) (by kernel_rfl) (by kernel_rfl) (fun _ _ _ h => h) (Or.inl ⟨by rfl, ?_⟩) hHeld ?_
          rotate_left
          · intro w' hSw; have m1 := hSw.1; have m2 := hSw.2; go_simp; try with_reducible rfl
          try simp only [Act.put, List.setIfInBounds_toArray, List.set_cons_zero, List.set_cons_succ]
          refine wpAnyH_ready (rs := [1]) (by kernel_rfl) (by simp) ?_
          refine AllReadyH.cons (List.getElem?_toArray.trans rfl) (fun K hK => ?_) AllReadyH.nil
          have n1 := KD.out.cell 1 rfl
          go_simp
          clear n1
          refine hK.out _ _ (⟨hSP, hSQ⟩) (fun hHeld => ?_)
          clear hK K
          try simp only [Act.put, List.setIfInBounds_toArray, List.set_cons_zero, List.set_cons_succ]
          refine wpAnyH_ready (rs := [4]) (by kernel_rfl) (by simp) ?_
          refine AllReadyH.cons (List.getElem?_toArray.trans rfl) (fun K hK => ?_) AllReadyH.nil
          obtain ⟨ya1, ya2, ya3, u4a, hr, hs1, hg1, GE⟩ := app_on_C GD.out (Nat.le_refl _) (RowC.nil z0.drew z0.heap.size) ((NdV.opens VA.out).1.keepN NB.out GD.out) (by simp) HPO.out.halfA.cells GD.out.size 22
          have KE := Lib.hid (KD.out.keep hg1 (row_other KD.out (RowC.nil z0.drew z0.heap.size) (by decide)))
          have HE := Lib.hid hs1
          have GF := Lib.hid GE
          clear hs1 GE hg1 KD GD
          refine Lib.wp_append_run _ _ _ _ _ rfl _ _ rfl rfl _ _ hr ?_
          clear hr
          refine hK.out _ _ (⟨(KP.out.keep GF.out (ne_some (by omega))).cell 1 rfl, (KQ.out.keep GF.out (ne_some (by omega))).cell 1 rfl⟩) (fun hHeld => ?_)
          clear hK K
          try simp only [Act.put, List.setIfInBounds_toArray, List.set_cons_zero, List.set_cons_succ]
          refine wpAnyH_ready (rs := [7]) (by kernel_rfl) (by simp) ?_
          refine AllReadyH.cons (List.getElem?_toArray.trans rfl) (fun K hK => ?_) AllReadyH.nil
          obtain ⟨tC1, tC2, tC3, u4b, hr, hs1, hg1, GE⟩ := app_on_C GF.out (Nat.le_refl _) HE.out ((NdV.opens VB.out).1.keepN NB.out GF.out) (by have := HPO.out.halfA.cells; simp only [List.nil_append]; omega) HPO.out.halfB.cells GF.out.size 22
          have KF := Lib.hid (KE.out.keep hg1 (row_other KE.out HE.out (by decide)))
          have HF := Lib.hid hs1
          have GH := Lib.hid GE
          clear hs1 GE hg1 KE GF HE
          refine Lib.wp_append_run _ _ _ _ _ rfl _ _ rfl rfl _ _ hr ?_
          clear hr
          refine hK.out _ _ (⟨(KP.out.keep GH.out (ne_some (by omega))).cell 1 rfl, (KQ.out.keep GH.out (ne_some (by omega))).cell 1 rfl⟩) (fun hHeld => ?_)
          clear hK K
          try simp only [Act.put, List.setIfInBounds_toArray, List.set_cons_zero, List.set_cons_succ]
          refine wpAnyH_take (i := 8) (v := ?_) (List.getElem?_toArray.trans rfl) (by kernel_rfl) (by kernel_rfl) (by kernel_rfl) (fun _ _ _ h => h) (Or.inl ⟨by rfl, ?_⟩) hHeld ?_
          rotate_left
          · intro w' hSw; have m1 := hSw.1; have m2 := hSw.2; go_simp; try with_reducible rfl
          try simp only [Act.put, List.setIfInBounds_toArray, List.set_cons_zero, List.set_cons_succ]
          refine wpAnyH_ready (rs := [9]) (by kernel_rfl) (by simp) ?_
          refine AllReadyH.cons (List.getElem?_toArray.trans rfl) (fun K hK => ?_) AllReadyH.nil
          have n1 := KF.out.cell 1 rfl
          have f1 := KF.out.free 1
          go_simp
          obtain ⟨u4c, hD⟩ : ∃ z : World, z = u4b.setCell ⟨ba, 1, none⟩ (.slice tC1 tC2 tC3) := ⟨_, rfl⟩
          rw [← hD]
          have gD : u4b.grownBy u4c (some ba) := by rw [hD]; exact gb_set _ _ _ _ _
          have KA := Lib.hid (show Blk u4c ba 26 (_ : Array Value) from by rw [hD]; exact KF.out.set 1 _)
          have RC := Lib.hid (RowC.keeps HF.out gD (.inr (row_other KF.out HF.out (by decide)).symm))
          have GA := Lib.hid (gb_trans GH.out gD)
          clear gD hD n1 f1 KF HF GH
          refine hK.out _ _ (⟨(KP.out.keep GA.out (ne_some (by omega))).cell 1 rfl, (KQ.out.keep GA.out (ne_some (by omega))).cell 1 rfl⟩) (fun hHeld => ?_)
          clear hK K
          try simp only [Act.put, List.setIfInBounds_toArray, List.set_cons_zero, List.set_cons_succ]
          refine wpAnyH_done (by kernel_rfl) ?_ _
          refine NoPanic.normal ?_
          clear hSP hSQ
          go_upto_region 5 with fail
          have hSP : u4c.cell? ⟨bp, 3, none⟩ = some (.slice p3 r3 s3) := (KP.out.keep GA.out (ne_some (by omega))).cell 3 rfl
          have hSQ : u4c.cell? ⟨bq, 3, none⟩ = some (.slice o3 l3 d3) := (KQ.out.keep GA.out (ne_some (by omega))).cell 3 rfl
          have GD := Lib.hid (gb_trans GA.out (gb_drew u4c (some ba)))
          have KD := Lib.hid (KA.out.keep0 (gb_drew u4c none))
          replace RC := Lib.hid (RowC.keep0 RC.out (gb_drew u4c none))
          clear KA GA
          refine wp_region_noPanic ?_
          refine wp_region_held_drew (S := fun w' => w'.cell? ⟨bp, 3, none⟩ = some (.slice p3 r3 s3) ∧ w'.cell? ⟨bq, 3, none⟩ = some (.slice o3 l3 d3)) (by kernel_rfl) ⟨hSP, hSQ⟩ (fun hHeld => ?_)
          refine wpAnyH_take (i := 0) (v := ?_) (List.getElem?_toArray.trans rfl) (by kernel_rfl) (by kernel_rfl) (by kernel_rfl) (fun _ _ _ h => h) (Or.inl ⟨by rfl, ?_⟩) hHeld ?_
          rotate_left
          · intro w' hSw; have m1 := hSw.1; have m2 := hSw.2; go_simp; try with_reducible rfl
          try simp only [Act.put, List.setIfInBounds_toArray, List.set_cons_zero, List.set_cons_succ]
          refine wpAnyH_take (i := 2) (v := ?_) (List.getElem?_toArray.trans rfl) (by kernel_rfl) (by kernel_rfl) (by kernel_rfl) (fun _ _ _ h => h) (Or.inl ⟨by rfl, ?_⟩) hHeld ?_
          rotate_left
          · intro w' hSw; have m1 := hSw.1; have m2 := hSw.2; go_simp; try with_reducible rfl
          try simp only [Act.put, List.setIfInBounds_toArray, List.set_cons_zero, List.set_cons_succ]
          refine wpAnyH_take (i := 5) (v := ?_) (List.getElem?_toArray.trans rfl) (by kernel_rfl) (by kernel_rfl) (by kernel_rfl) (fun _ _ _ h => h) (Or.inl ⟨by rfl, ?_⟩) hHeld ?_
          rotate_left
          · intro w' hSw; have m1 := hSw.1; have m2 := hSw.2; go_simp; try with_reducible rfl
          try simp only [Act.put, List.setIfInBounds_toArray, List.set_cons_zero, List.set_cons_succ]
          refine wpAnyH_take (i := 3) (v := ?_) (List.getElem?_toArray.trans rfl) (by kernel_rfl) (by kernel_rfl) (by kernel_rfl) (fun _ _ _ h => h) (Or.inl ⟨by rfl, ?_⟩) hHeld ?_
          rotate_left
          · intro w' hSw; have m1 := hSw.1; have m2 := hSw.2; go_simp; try with_reducible rfl
          try simp only [Act.put, List.setIfInBounds_toArray, List.set_cons_zero, List.set_cons_succ]
          refine wpAnyH_take (i := 6) (v := ?_) (List.getElem?_toArray.trans rfl) (by kernel_rfl) (by kernel_rfl) (by kernel_rfl) (fun _ _ _ h => h) (Or.inl ⟨by rfl, ?_⟩) hHeld ?_
          rotate_left
          · intro w' hSw; have m1 := hSw.1; have m2 := hSw.2; go_simp; try with_reducible rfl
          try simp only [Act.put, List.setIfInBounds_toArray, List.set_cons_zero, List.set_cons_succ]
          refine wpAnyH_ready (rs := [1]) (by kernel_rfl) (by simp) ?_
          refine AllReadyH.cons (List.getElem?_toArray.trans rfl) (fun K hK => ?_) AllReadyH.nil
          have n1 := KD.out.cell 3 rfl
          go_simp
          clear n1
          refine hK.out _ _ (⟨hSP, hSQ⟩) (fun hHeld => ?_)
          clear hK K
          try simp only [Act.put, List.setIfInBounds_toArray, List.set_cons_zero, List.set_cons_succ]
          refine wpAnyH_ready (rs := [4]) (by kernel_rfl) (by simp) ?_
          refine AllReadyH.cons (List.getElem?_toArray.trans rfl) (fun K hK => ?_) AllReadyH.nil
          obtain ⟨ya1, ya2, ya3, u5a, hr, hs1, hg1, GE⟩ := app_on_I GD.out (Nat.le_refl _) (RowI.nil u4c.drew z0.heap.size) ((NdV.opens VA.out).2.2.keepN NB.out GD.out) (by simp) HPO.out.halfA.kids GD.out.size 24
          have KE := Lib.hid (KD.out.keep hg1 (row_other KD.out (RowI.nil u4c.drew z0.heap.size) (by decide)))
          have HE := Lib.hid hs1
          have GF := Lib.hid GE
          have RCe := Lib.hid (RowC.keeps RC.out hg1 (row_rows RC.out (RowI.nil u4c.drew z0.heap.size) (by decide)))
          clear hs1 GE hg1 KD GD RC
          refine Lib.wp_append_run _ _ _ _ _ rfl _ _ rfl rfl _ _ hr ?_
          clear hr
          refine hK.out _ _ (⟨(KP.out.keep GF.out (ne_some (by omega))).cell 3 rfl, (KQ.out.keep GF.out (ne_some (by omega))).cell 3 rfl⟩) (fun hHeld => ?_)
          clear hK K
          try simp only [Act.put, List.setIfInBounds_toArray, List.set_cons_zero, List.set_cons_succ]
          refine wpAnyH_ready (rs := [7]) (by kernel_rfl) (by simp) ?_
          refine AllReadyH.cons (List.getElem?_toArray.trans rfl) (fun K hK => ?_) AllReadyH.nil
          obtain ⟨tI1, tI2, tI3, u5b, hr, hs1, hg1, GE⟩ := app_on_I GF.out (Nat.le_refl _) HE.out ((NdV.opens VB.out).2.2.keepN NB.out GF.out) (by have := HPO.out.halfA.kids; simp only [List.nil_append]; omega) HPO.out.halfB.kids GF.out.size 24
          have KF := Lib.hid (KE.out.keep hg1 (row_other KE.out HE.out (by decide)))
          have HF := Lib.hid hs1
          have GH := Lib.hid GE
          have RC := Lib.hid (RowC.keeps RCe.out hg1 (row_rows RCe.out HE.out (by decide)))
          clear hs1 GE hg1 KE GF HE RCe
          refine Lib.wp_append_run _ _ _ _ _ rfl _ _ rfl rfl _ _ hr ?_
          clear hr
          refine hK.out _ _ (⟨(KP.out.keep GH.out (ne_some (by omega))).cell 3 rfl, (KQ.out.keep GH.out (ne_some (by omega))).cell 3 rfl⟩) (fun hHeld => ?_)
          clear hK K
          try simp only [Act.put, List.setIfInBounds_toArray, List.set_cons_zero, List.set_cons_succ]
          refine wpAnyH_take (i := 8) (v := ?_) (List.getElem?_toArray.trans rfl) (by kernel_rfl) (by kernel_rfl) (by kernel_rfl) (fun _ _ _ h => h) (Or.inl ⟨by rfl, ?_⟩) hHeld ?_
          rotate_left
          · intro w' hSw; have m1 := hSw.1; have m2 := hSw.2; go_simp; try with_reducible rfl
          try simp only [Act.put, List.setIfInBounds_toArray, List.set_cons_zero, List.set_cons_succ]
          refine wpAnyH_ready (rs := [9]) (by kernel_rfl) (by simp) ?_
          refine AllReadyH.cons (List.getElem?_toArray.trans rfl) (fun K hK => ?_) AllReadyH.nil
          have n1 := KF.out.cell 3 rfl
          have f1 := KF.out.free 3
          go_simp
          obtain ⟨u5c, hD⟩ : ∃ z : World, z = u5b.setCell ⟨ba, 3, none⟩ (.slice tI1 tI2 tI3) := ⟨_, rfl⟩
          rw [← hD]
          have gD : u5b.grownBy u5c (some ba) := by rw [hD]; exact gb_set _ _ _ _ _
          have KA := Lib.hid (show Blk u5c ba 26 (_ : Array Value) from by rw [hD]; exact KF.out.set 3 _)
          have RI := Lib.hid (RowI.keeps HF.out gD (.inr (row_other KF.out HF.out (by decide)).symm))
          replace RC := Lib.hid (RowC.keeps RC.out gD (.inr (row_other KF.out RC.out (by decide)).symm))
          have GA := Lib.hid (gb_trans GH.out gD)
          clear gD hD n1 f1 KF HF GH
          refine hK.out _ _ (⟨(KP.out.keep GA.out (ne_some (by omega))).cell 3 rfl, (KQ.out.keep GA.out (ne_some (by omega))).cell 3 rfl⟩) (fun hHeld => ?_)
          clear hK K
          try simp only [Act.put, List.setIfInBounds_toArray, List.set_cons_zero, List.set_cons_succ]
          refine wpAnyH_done (by kernel_rfl) ?_ _
          refine NoPanic.normal ?_
          clear hSP hSQ
          go_upto_region 6 with fail
          have n1 := KA.out.cell 2 rfl
          have n2 := (KP.out.keep GA.out (ne_some (by omega))).cell 2 rfl
          go_upto_region 7 with (at_builtin; go_must (obtain ⟨tS01, tS02, tS03, u6a, hr, hs1, hg1, GE⟩ := app_on_S GA.out (Nat.le_refl _) (RowS.nil u5c z0.heap.size) (stsKeepN (NdV.opens VA.out).2.1 NB.out GA.out) (by simp) HPO.out.halfA.keys GA.out.size 23; have KE := Lib.hid (KA.out.keep hg1 (row_other KA.out (RowS.nil u5c z0.heap.size) (by decide))); have HF := Lib.hid hs1; have GH := Lib.hid GE; have RCe := Lib.hid (RowC.keeps RC.out hg1 (row_rows RC.out (RowS.nil u5c z0.heap.size) (by decide))); have RIe := Lib.hid (RowI.keeps RI.out hg1 (row_rows RI.out (RowS.nil u5c z0.heap.size) (by decide))); have HR := Lib.hid hr; clear hr hs1 GE hg1 n1 n2; have n1 := KE.out.cell 2 rfl; have f1 := KE.out.free 2; refine Lib.wpList_append_run _ rfl _ _ _ _ rfl _ _ rfl rfl _ _ HR.out ?_))
          obtain ⟨u6c, hD⟩ : ∃ z : World, z = u6a.setCell ⟨ba, 2, none⟩ (.slice tS01 tS02 tS03) := ⟨_, rfl⟩
          rw [← hD]
          have gD : u6a.grownBy u6c (some ba) := by rw [hD]; exact gb_set _ _ _ _ _
          replace KA := Lib.hid (show Blk u6c ba 26 (_ : Array Value) from by rw [hD]; exact KE.out.set 2 _)
          have RS := Lib.hid (RowS.keeps HF.out gD (.inr (row_other KE.out HF.out (by decide)).symm))
          replace RC := Lib.hid (RowC.keeps RCe.out gD (.inr (row_other KE.out RCe.out (by decide)).symm))
          replace RI := Lib.hid (RowI.keeps RIe.out gD (.inr (row_other KE.out RIe.out (by decide)).symm))
          replace GA := Lib.hid (gb_trans GH.out gD)
          clear gD hD n1 f1 KE HF GH HR RCe RIe
          have n1 := (KP.out.keep GA.out (ne_some (by omega))).cell 0 rfl
          go_upto_region 8 with fail
          clear n1
          have n1 := KA.out.cell 2 rfl
          have HS0 := RS
          go_upto_region 9 with (at_builtin; go_must (obtain ⟨uB, hB, kB, gB, hzz⟩ := new1 u6c 9 #[.string key]; rw [← hB]; obtain ⟨tS11, tS12, tS13, u8a, hr, hs1, hg1, GE⟩ := app_on_S (gb_trans GA.out (gb_weak gB _)) (Nat.le_refl _) (RowS.keep0 HS0.out gB) (sts_one kB) (by have := HPO.out.halfA.keys; simp only [List.nil_append]; omega) (by simp) (gb_trans GA.out (gb_weak gB (some ba))).size 23; have KE := Lib.hid ((KA.out.keep0 gB).keep hg1 (row_other (KA.out.keep0 gB) (RowS.keep0 HS0.out gB) (by decide))); have HF := Lib.hid hs1; have GH := Lib.hid GE; have RCe := Lib.hid (RowC.keeps (RowC.keep0 RC.out gB) hg1 (row_rows (RowC.keep0 RC.out gB) (RowS.keep0 HS0.out gB) (by decide))); have RIe := Lib.hid (RowI.keeps (RowI.keep0 RI.out gB) hg1 (row_rows (RowI.keep0 RI.out gB) (RowS.keep0 HS0.out gB) (by decide))); have HR := Lib.hid hr; clear hr hs1 GE hg1 hB hzz kB gB n1; have n1 := KE.out.cell 2 rfl; have f1 := KE.out.free 2; refine Lib.wpList_append_run _ rfl _ _ _ _ rfl _ _ rfl rfl _ _ HR.out ?_))
          obtain ⟨u8c, hD⟩ : ∃ z : World, z = u8a.setCell ⟨ba, 2, none⟩ (.slice tS11 tS12 tS13) := ⟨_, rfl⟩
          rw [← hD]
          have gD : u8a.grownBy u8c (some ba) := by rw [hD]; exact gb_set _ _ _ _ _
          replace KA := Lib.hid (show Blk u8c ba 26 (_ : Array Value) from by rw [hD]; exact KE.out.set 2 _)
          clear RS HS0
          have RS := Lib.hid (RowS.keeps HF.out gD (.inr (row_other KE.out HF.out (by decide)).symm))
          replace RC := Lib.hid (RowC.keeps RCe.out gD (.inr (row_other KE.out RCe.out (by decide)).symm))
          replace RI := Lib.hid (RowI.keeps RIe.out gD (.inr (row_other KE.out RIe.out (by decide)).symm))
          replace GA := Lib.hid (gb_trans GH.out gD)
          clear gD hD n1 f1 KE HF GH HR RCe RIe
          have n1 := KA.out.cell 2 rfl
          have n2 := (KQ.out.keep GA.out (ne_some (by omega))).cell 2 rfl
          have HS0 := RS
          go_upto_region 10 with (at_builtin; go_must (obtain ⟨tS21, tS22, tS23, u9a, hr, hs1, hg1, GE⟩ := app_on_S GA.out (Nat.le_refl _) HS0.out (stsKeepN (NdV.opens VB.out).2.1 NB.out GA.out) (by have := HPO.out.halfA.keys; simp only [List.nil_append, List.length_append, List.length_singleton]; omega) HPO.out.halfB.keys GA.out.size 23; have KE := Lib.hid (KA.out.keep hg1 (row_other KA.out HS0.out (by decide))); have HF := Lib.hid hs1; have GH := Lib.hid GE; have RCe := Lib.hid (RowC.keeps RC.out hg1 (row_rows RC.out HS0.out (by decide))); have RIe := Lib.hid (RowI.keeps RI.out hg1 (row_rows RI.out HS0.out (by decide))); have HR := Lib.hid hr; clear hr hs1 GE hg1 n1 n2; have n1 := KE.out.cell 2 rfl; have f1 := KE.out.free 2; refine Lib.wpList_append_run _ rfl _ _ _ _ rfl _ _ rfl rfl _ _ HR.out ?_))
          obtain ⟨u9c, hD⟩ : ∃ z : World, z = u9a.setCell ⟨ba, 2, none⟩ (.slice tS21 tS22 tS23) := ⟨_, rfl⟩
          rw [← hD]
          have gD : u9a.grownBy u9c (some ba) := by rw [hD]; exact gb_set _ _ _ _ _
          replace KA := Lib.hid (show Blk u9c ba 26 (_ : Array Value) from by rw [hD]; exact KE.out.set 2 _)
          clear RS HS0
          have RS := Lib.hid (RowS.keeps HF.out gD (.inr (row_other KE.out HF.out (by decide)).symm))
          replace RC := Lib.hid (RowC.keeps RCe.out gD (.inr (row_other KE.out RCe.out (by decide)).symm))
          replace RI := Lib.hid (RowI.keeps RIe.out gD (.inr (row_other KE.out RIe.out (by decide)).symm))
          replace GA := Lib.hid (gb_trans GH.out gD)
          clear gD hD n1 f1 KE HF GH HR RCe RIe
          have VALL : Hid (NdV u9c (.agg #[.bool false, .slice tC1 tC2 tC3, .slice tS21 tS22 tS23, .slice tI1 tI2 tI3]) (joinN A B key)) := Lib.hid (by rw [← allQ_join key hmA hmB hlA hlB]; exact all_is_false (by have h := RowC.sl RC.out; rwa [List.nil_append] at h) (by have h := RowS.sl RS.out; rwa [List.nil_append] at h) (by have h := RowI.sl RI.out; rwa [List.nil_append] at h))
          have e0 := KA.out.cell 0 rfl
          have e1 := KA.out.cell 1 rfl
          have e2 := KA.out.cell 2 rfl
          have e3 := KA.out.cell 3 rfl
          replace KR := Lib.hid (KR.out.keep GA.out (ne_some (by omega)))
          replace HG := Lib.hid (gb_step HG.out GA.out (by have := HBR.out; omega))
          clear GA RC RI RS KP KQ VA VB NB
          rcases hjf : (joinN A B key).fits with _ | _
          · have HF := Lib.hid (fun W v hv => rfits_is hjf (Lim.join hA hB key) W v hv)
            have HJB := Lib.hid (show joinB A B key = false by unfold joinB; rw [hjf]; simp)
            go_wp2_with (first | (go_at_call 23; (with_reducible refine (HF.out _ _ VALL.out).mono ?_); rintro e w8 ⟨rfl, g8⟩; replace KR := Lib.hid (KR.out.keep0 g8); replace VALL := Lib.hid (VALL.out.keep0 g8); replace HG := Lib.hid (gb_trans HG.out g8); replace e0 := World.grownBy.cell g8 e0 (by simp); replace e1 := World.grownBy.cell g8 e1 (by simp); replace e2 := World.grownBy.cell g8 e2 (by simp); replace e3 := World.grownBy.cell g8 e3 (by simp); clear g8) | ((with_reducible refine st_node rfl br 26 false none none none 0 0 0 0 0 0 ?_ ?_ _ _ _ _ KR.out ?_); (· rfl); (· rfl); intro w9 nn9 g9))
            refine bodyPost_ret (results_cs rfl _ _ _ _ _ _ _ rfl nn9) rfl ?_
            exact join_not HJB.out (gb_step HG.out g9 HBR.out)
          · have HF := Lib.hid (fun W v hv => rfits_is hjf (Lim.join hA hB key) W v hv)
            have HJB := Lib.hid (show joinB A B key = true by unfold joinB; rw [hjf, hmA, hmB, hlA, hlB]; rfl)
            go_wp2_with (first | (go_at_call 23; (with_reducible refine (HF.out _ _ VALL.out).mono ?_); rintro e w8 ⟨rfl, g8⟩; replace KR := Lib.hid (KR.out.keep0 g8); replace VALL := Lib.hid (VALL.out.keep0 g8); replace HG := Lib.hid (gb_trans HG.out g8); replace e0 := World.grownBy.cell g8 e0 (by simp); replace e1 := World.grownBy.cell g8 e1 (by simp); replace e2 := World.grownBy.cell g8 e2 (by simp); replace e3 := World.grownBy.cell g8 e3 (by simp); clear g8) | ((with_reducible refine st_node rfl br 26 false tC1 tS21 tI1 tC2 tS22 tI2 tC3 tS23 tI3 ?_ ?_ _ _ _ _ KR.out ?_); (· rfl); (· rfl); intro w9 nn9 g9))
            refine bodyPost_ret (results_cs rfl _ _ _ _ _ _ _ rfl nn9) rfl ?_
            exact join_is HJB.out (VALL.out.keepN (Nbl.node KR.out) g9) (gb_step HG.out g9 HBR.out)
    · have HJB := Lib.hid (show joinB A B key = false by unfold joinB; rw [hlA, hlB]; rfl)
      rw [hlA] at vA
      rw [hlB] at vB
      obtain ⟨w0, hw0, kP, kQ, kR, g0, hz⟩ := new3 w 26 #[.bool false, .slice p1 r1 s1, .slice p2 r2 s2, .slice p3 r3 s3] 26 #[.bool true, .slice o1 l1 d1, .slice o2 l2 d2, .slice o3 l3 d3] 26 #[.bool false, .slice none 0 0, .slice none 0 0, .slice none 0 0]
      have HW := Lib.hid hw0
      have VA := Lib.hid (vA.keep0 g0)
      have VB := Lib.hid (vB.keep0 g0)
      have HG := Lib.hid g0
      have hwb : w.heap.size ≤ w.heap.size := Nat.le_refl _
      clear hw0 vA vB g0
      go_enter Tryz.func11, Tryz.ntmps11
      go_upto_region 1 with fail
      rw [← HW.out]
      clear HW
      generalize hbpe : w.heap.size = bp at kP kQ kR hz hwb ⊢
      obtain ⟨bq, hbq⟩ : ∃ bq, bp + 1 = bq := ⟨_, rfl⟩
      rw [hbq] at kQ kR ⊢
      obtain ⟨br, hbr⟩ : ∃ br, bq + 1 = br := ⟨_, rfl⟩
      rw [hbr] at kR ⊢
      have KP := Lib.hid kP
      have KQ := Lib.hid kQ
      have KR := Lib.hid kR
      have a0 := kP.cell 0 rfl
      have a1 := kP.cell 1 rfl
      have a2 := kP.cell 2 rfl
      have a3 := kP.cell 3 rfl
      have b0 := kQ.cell 0 rfl
      have b1 := kQ.cell 1 rfl
      have b2 := kQ.cell 2 rfl
      have b3 := kQ.cell 3 rfl
      have HBR := Lib.hid (show w.heap.size ≤ br by omega)
      clear kP kQ kR hwb hbpe
      go_wp2_with ((with_reducible refine st_node rfl br 26 false none none none 0 0 0 0 0 0 ?_ ?_ _ _ _ _ KR.out ?_); (· rfl); (· rfl); intro w9 nn9 g9)
      refine bodyPost_ret (results_cs rfl _ _ _ _ _ _ _ rfl nn9) rfl ?_
      exact join_not HJB.out (gb_step HG.out g9 HBR.out)
  · rcases hlB : B.leaf with _ | _
    · have HJB := Lib.hid (show joinB A B key = false by unfold joinB; rw [hlA, hlB]; rfl)
      rw [hlA] at vA
      rw [hlB] at vB
      obtain ⟨w0, hw0, kP, kQ, kR, g0, hz⟩ := new3 w 26 #[.bool true, .slice p1 r1 s1, .slice p2 r2 s2, .slice p3 r3 s3] 26 #[.bool false, .slice o1 l1 d1, .slice o2 l2 d2, .slice o3 l3 d3] 26 #[.bool false, .slice none 0 0, .slice none 0 0, .slice none 0 0]
      have HW := Lib.hid hw0
      have VA := Lib.hid (vA.keep0 g0)
      have VB := Lib.hid (vB.keep0 g0)
      have HG := Lib.hid g0
      have hwb : w.heap.size ≤ w.heap.size := Nat.le_refl _
      clear hw0 vA vB g0
      go_enter Tryz.func11, Tryz.ntmps11
      go_upto_region 1 with fail
      rw [← HW.out]
      clear HW
      generalize hbpe : w.heap.size = bp at kP kQ kR hz hwb ⊢
      obtain ⟨bq, hbq⟩ : ∃ bq, bp + 1 = bq := ⟨_, rfl⟩
      rw [hbq] at kQ kR ⊢
      obtain ⟨br, hbr⟩ : ∃ br, bq + 1 = br := ⟨_, rfl⟩
      rw [hbr] at kR ⊢
      have KP := Lib.hid kP
      have KQ := Lib.hid kQ
      have KR := Lib.hid kR
      have a0 := kP.cell 0 rfl
      have a1 := kP.cell 1 rfl
      have a2 := kP.cell 2 rfl
      have a3 := kP.cell 3 rfl
      have b0 := kQ.cell 0 rfl
      have b1 := kQ.cell 1 rfl
      have b2 := kQ.cell 2 rfl
      have b3 := kQ.cell 3 rfl
      have HBR := Lib.hid (show w.heap.size ≤ br by omega)
      clear kP kQ kR hwb hbpe
      go_wp2_with ((with_reducible refine st_node rfl br 26 false none none none 0 0 0 0 0 0 ?_ ?_ _ _ _ _ KR.out ?_); (· rfl); (· rfl); intro w9 nn9 g9)
      refine bodyPost_ret (results_cs rfl _ _ _ _ _ _ _ rfl nn9) rfl ?_
      exact join_not HJB.out (gb_step HG.out g9 HBR.out)
    · rw [hlA] at vA
      rw [hlB] at vB
      rcases hmA : A.may with _ | _
      · have HJB := Lib.hid (show joinB A B key = false by unfold joinB; rw [hmA]; simp)
        have HMA := Lib.hid (fun W v hv => may_false hmA hA.lim W v hv)
        obtain ⟨w0, hw0, kP, kQ, kR, g0, hz⟩ := new3 w 26 #[.bool true, .slice p1 r1 s1, .slice p2 r2 s2, .slice p3 r3 s3] 26 #[.bool true, .slice o1 l1 d1, .slice o2 l2 d2, .slice o3 l3 d3] 26 #[.bool false, .slice none 0 0, .slice none 0 0, .slice none 0 0]
        have HW := Lib.hid hw0
        have VA := Lib.hid (vA.keep0 g0)
        have VB := Lib.hid (vB.keep0 g0)
        have HG := Lib.hid g0
        have hwb : w.heap.size ≤ w.heap.size := Nat.le_refl _
        clear hw0 vA vB g0
        go_enter Tryz.func11, Tryz.ntmps11
        go_upto_region 1 with fail
        rw [← HW.out]
        clear HW
        generalize hbpe : w.heap.size = bp at kP kQ kR hz hwb ⊢
        obtain ⟨bq, hbq⟩ : ∃ bq, bp + 1 = bq := ⟨_, rfl⟩
        rw [hbq] at kQ kR ⊢
        obtain ⟨br, hbr⟩ : ∃ br, bq + 1 = br := ⟨_, rfl⟩
        rw [hbr] at kR ⊢
        have KP := Lib.hid kP
        have KQ := Lib.hid kQ
        have KR := Lib.hid kR
        have a0 := kP.cell 0 rfl
        have a1 := kP.cell 1 rfl
        have a2 := kP.cell 2 rfl
        have a3 := kP.cell 3 rfl
        have b0 := kQ.cell 0 rfl
        have b1 := kQ.cell 1 rfl
        have b2 := kQ.cell 2 rfl
        have b3 := kQ.cell 3 rfl
        have HBR := Lib.hid (show w.heap.size ≤ br by omega)
        clear kP kQ kR hwb hbpe
        go_wp2_with (first | (go_at_call 22; (with_reducible refine (HMA.out _ _ VA.out).mono ?_); rintro e w1 ⟨rfl, gw1⟩; replace KP := Lib.hid (KP.out.keep0 gw1); replace KQ := Lib.hid (KQ.out.keep0 gw1); replace KR := Lib.hid (KR.out.keep0 gw1); replace VA := Lib.hid (VA.out.keep0 gw1); replace VB := Lib.hid (VB.out.keep0 gw1); replace HG := Lib.hid (gb_trans HG.out gw1); replace a0 := World.grownBy.cell gw1 a0 (by simp); replace a1 := World.grownBy.cell gw1 a1 (by simp); replace a2 := World.grownBy.cell gw1 a2 (by simp); replace a3 := World.grownBy.cell gw1 a3 (by simp); replace b0 := World.grownBy.cell gw1 b0 (by simp); replace b1 := World.grownBy.cell gw1 b1 (by simp); replace b2 := World.grownBy.cell gw1 b2 (by simp); replace b3 := World.grownBy.cell gw1 b3 (by simp); clear gw1) | ((with_reducible refine st_node rfl br 26 false none none none 0 0 0 0 0 0 ?_ ?_ _ _ _ _ KR.out ?_); (· rfl); (· rfl); intro w9 nn9 g9))
        refine bodyPost_ret (results_cs rfl _ _ _ _ _ _ _ rfl nn9) rfl ?_
        exact join_not HJB.out (gb_step HG.out g9 HBR.out)
      · rcases hmB : B.may with _ | _
        · have HJB := Lib.hid (show joinB A B key = false by unfold joinB; rw [hmB]; simp)
          have HMA := Lib.hid (fun W v hv => may_true hmA hA.lim W v hv)
          have HMB := Lib.hid (fun W v hv => may_false hmB hB.lim W v hv)
          obtain ⟨w0, hw0, kP, kQ, kR, g0, hz⟩ := new3 w 26 #[.bool true, .slice p1 r1 s1, .slice p2 r2 s2, .slice p3 r3 s3] 26 #[.bool true, .slice o1 l1 d1, .slice o2 l2 d2, .slice o3 l3 d3] 26 #[.bool false, .slice none 0 0, .slice none 0 0, .slice none 0 0]
          have HW := Lib.hid hw0
          have VA := Lib.hid (vA.keep0 g0)
          have VB := Lib.hid (vB.keep0 g0)
          have HG := Lib.hid g0
          have hwb : w.heap.size ≤ w.heap.size := Nat.le_refl _
          clear hw0 vA vB g0
          go_enter Tryz.func11, Tryz.ntmps11
          go_upto_region 1 with fail
          rw [← HW.out]
          clear HW
          generalize hbpe : w.heap.size = bp at kP kQ kR hz hwb ⊢
          obtain ⟨bq, hbq⟩ : ∃ bq, bp + 1 = bq := ⟨_, rfl⟩
          rw [hbq] at kQ kR ⊢
          obtain ⟨br, hbr⟩ : ∃ br, bq + 1 = br := ⟨_, rfl⟩
          rw [hbr] at kR ⊢
          have KP := Lib.hid kP
          have KQ := Lib.hid kQ
          have KR := Lib.hid kR
          have a0 := kP.cell 0 rfl
          have a1 := kP.cell 1 rfl
          have a2 := kP.cell 2 rfl
          have a3 := kP.cell 3 rfl
          have b0 := kQ.cell 0 rfl
          have b1 := kQ.cell 1 rfl
          have b2 := kQ.cell 2 rfl
          have b3 := kQ.cell 3 rfl
          have HBR := Lib.hid (show w.heap.size ≤ br by omega)
          clear kP kQ kR hwb hbpe
          go_wp2_with (first | (go_at_call 22; (with_reducible refine (HMA.out _ _ VA.out).mono ?_); rintro e w1 ⟨rfl, gw1⟩; replace KP := Lib.hid (KP.out.keep0 gw1); replace KQ := Lib.hid (KQ.out.keep0 gw1); replace KR := Lib.hid (KR.out.keep0 gw1); replace VA := Lib.hid (VA.out.keep0 gw1); replace VB := Lib.hid (VB.out.keep0 gw1); replace HG := Lib.hid (gb_trans HG.out gw1); replace a0 := World.grownBy.cell gw1 a0 (by simp); replace a1 := World.grownBy.cell gw1 a1 (by simp); replace a2 := World.grownBy.cell gw1 a2 (by simp); replace a3 := World.grownBy.cell gw1 a3 (by simp); replace b0 := World.grownBy.cell gw1 b0 (by simp); replace b1 := World.grownBy.cell gw1 b1 (by simp); replace b2 := World.grownBy.cell gw1 b2 (by simp); replace b3 := World.grownBy.cell gw1 b3 (by simp); clear gw1) | (go_at_call 22; (with_reducible refine (HMB.out _ _ VB.out).mono ?_); rintro e w2 ⟨rfl, gw2⟩; replace KP := Lib.hid (KP.out.keep0 gw2); replace KQ := Lib.hid (KQ.out.keep0 gw2); replace KR := Lib.hid (KR.out.keep0 gw2); replace VA := Lib.hid (VA.out.keep0 gw2); replace VB := Lib.hid (VB.out.keep0 gw2); replace HG := Lib.hid (gb_trans HG.out gw2); replace a0 := World.grownBy.cell gw2 a0 (by simp); replace a1 := World.grownBy.cell gw2 a1 (by simp); replace a2 := World.grownBy.cell gw2 a2 (by simp); replace a3 := World.grownBy.cell gw2 a3 (by simp); replace b0 := World.grownBy.cell gw2 b0 (by simp); replace b1 := World.grownBy.cell gw2 b1 (by simp); replace b2 := World.grownBy.cell gw2 b2 (by simp); replace b3 := World.grownBy.cell gw2 b3 (by simp); clear gw2) | ((with_reducible refine st_node rfl br 26 false none none none 0 0 0 0 0 0 ?_ ?_ _ _ _ _ KR.out ?_); (· rfl); (· rfl); intro w9 nn9 g9))
          refine bodyPost_ret (results_cs rfl _ _ _ _ _ _ _ rfl nn9) rfl ?_
          exact join_not HJB.out (gb_step HG.out g9 HBR.out)
        · skip
          have HMA := Lib.hid (fun W v hv => may_true hmA hA.lim W v hv)
          have HMB := Lib.hid (fun W v hv => may_true hmB hB.lim W v hv)
          obtain ⟨w0, hw0, kP, kQ, kR, g0, hz⟩ := new3 w 26 #[.bool true, .slice p1 r1 s1, .slice p2 r2 s2, .slice p3 r3 s3] 26 #[.bool true, .slice o1 l1 d1, .slice o2 l2 d2, .slice o3 l3 d3] 26 #[.bool false, .slice none 0 0, .slice none 0 0, .slice none 0 0]
          have HW := Lib.hid hw0
          have VA := Lib.hid (vA.keep0 g0)
          have VB := Lib.hid (vB.keep0 g0)
          have HG := Lib.hid g0
          have hwb : w.heap.size ≤ w.heap.size := Nat.le_refl _
          clear hw0 vA vB g0
          go_enter Tryz.func11, Tryz.ntmps11
          go_upto_region 1 with fail
          rw [← HW.out]
          clear HW
          generalize hbpe : w.heap.size = bp at kP kQ kR hz hwb ⊢
          obtain ⟨bq, hbq⟩ : ∃ bq, bp + 1 = bq := ⟨_, rfl⟩
          rw [hbq] at kQ kR ⊢
          obtain ⟨br, hbr⟩ : ∃ br, bq + 1 = br := ⟨_, rfl⟩
          rw [hbr] at kR ⊢
          have KP := Lib.hid kP
          have KQ := Lib.hid kQ
          have KR := Lib.hid kR
          have a0 := kP.cell 0 rfl
          have a1 := kP.cell 1 rfl
          have a2 := kP.cell 2 rfl
          have a3 := kP.cell 3 rfl
          have b0 := kQ.cell 0 rfl
          have b1 := kQ.cell 1 rfl
          have b2 := kQ.cell 2 rfl
          have b3 := kQ.cell 3 rfl
          have HBR := Lib.hid (show w.heap.size ≤ br by omega)
          clear kP kQ kR hwb hbpe
          go_upto_region 4 with (first | (go_at_call 22; (with_reducible refine (HMA.out _ _ VA.out).mono ?_); rintro e w1 ⟨rfl, gw1⟩; replace KP := Lib.hid (KP.out.keep0 gw1); replace KQ := Lib.hid (KQ.out.keep0 gw1); replace KR := Lib.hid (KR.out.keep0 gw1); replace VA := Lib.hid (VA.out.keep0 gw1); replace VB := Lib.hid (VB.out.keep0 gw1); replace HG := Lib.hid (gb_trans HG.out gw1); replace a0 := World.grownBy.cell gw1 a0 (by simp); replace a1 := World.grownBy.cell gw1 a1 (by simp); replace a2 := World.grownBy.cell gw1 a2 (by simp); replace a3 := World.grownBy.cell gw1 a3 (by simp); replace b0 := World.grownBy.cell gw1 b0 (by simp); replace b1 := World.grownBy.cell gw1 b1 (by simp); replace b2 := World.grownBy.cell gw1 b2 (by simp); replace b3 := World.grownBy.cell gw1 b3 (by simp); clear gw1) | (go_at_call 22; (with_reducible refine (HMB.out _ _ VB.out).mono ?_); rintro e w2 ⟨rfl, gw2⟩; replace KP := Lib.hid (KP.out.keep0 gw2); replace KQ := Lib.hid (KQ.out.keep0 gw2); replace KR := Lib.hid (KR.out.keep0 gw2); replace VA := Lib.hid (VA.out.keep0 gw2); replace VB := Lib.hid (VB.out.keep0 gw2); replace HG := Lib.hid (gb_trans HG.out gw2); replace a0 := World.grownBy.cell gw2 a0 (by simp); replace a1 := World.grownBy.cell gw2 a1 (by simp); replace a2 := World.grownBy.cell gw2 a2 (by simp); replace a3 := World.grownBy.cell gw2 a3 (by simp); replace b0 := World.grownBy.cell gw2 b0 (by simp); replace b1 := World.grownBy.cell gw2 b1 (by simp); replace b2 := World.grownBy.cell gw2 b2 (by simp); replace b3 := World.grownBy.cell gw2 b3 (by simp); clear gw2))
          obtain ⟨z0, hu, kA, g5, hz5⟩ := new1 w2 26 #[.bool true, .slice none 0 0, .slice none 0 0, .slice none 0 0]
          rw [← hu]
          clear hu a0 a1 a2 a3 b0 b1 b2 b3
          have hbw : br < w2.heap.size := KR.out.lt
          replace KP := Lib.hid (KP.out.keep0 g5)
          replace KQ := Lib.hid (KQ.out.keep0 g5)
          replace KR := Lib.hid (KR.out.keep0 g5)
          replace VA := Lib.hid (VA.out.keep0 g5)
          replace VB := Lib.hid (VB.out.keep0 g5)
          replace HG := Lib.hid (gb_trans HG.out g5)
          generalize w2.heap.size = ba at kA hbw ⊢
          clear g5 hz5 hz
          have KA := Lib.hid kA
          have NB := Lib.hid (Nbl.node kA)
          have GA := Lib.hid (gb_refl z0 (some ba))
          have HPO := Lib.hid (show Halves A B from ⟨hA, hB⟩)
          clear kA
          have hab0 : ba < z0.heap.size := KA.out.lt
          go_upto_region 4 with fail
          have hSP : z0.cell? ⟨bp, 1, none⟩ = some (.slice p1 r1 s1) := (KP.out.keep GA.out (ne_some (by omega))).cell 1 rfl
          have hSQ : z0.cell? ⟨bq, 1, none⟩ = some (.slice o1 l1 d1) := (KQ.out.keep GA.out (ne_some (by omega))).cell 1 rfl
          have GD := Lib.hid (gb_trans GA.out (gb_drew z0 (some ba)))
          have KD := Lib.hid (KA.out.keep0 (gb_drew z0 none))
          clear KA GA
          refine wp_region_noPanic ?_
          refine wp_region_held_drew (S := fun w' => w'.cell? ⟨bp, 1, none⟩ = some (.slice p1 r1 s1) ∧ w'.cell? ⟨bq, 1, none⟩ = some (.slice o1 l1 d1)) (by kernel_rfl) ⟨hSP, hSQ⟩ (fun hHeld => ?_)
          refine wpAnyH_take (i := 0) (v := ?_) (List.getElem?_toArray.trans rfl) (by kernel_rfl) (by kernel_rfl) (by kernel_rfl) (fun _ _ _ h => h) (Or.inl ⟨by rfl, ?_⟩) hHeld ?_
          rotate_left
          · intro w' hSw; have m1 := hSw.1; have m2 := hSw.2; go_simp; try with_reducible rfl
          try simp only [Act.put, List.setIfInBounds_toArray, List.set_cons_zero, List.set_cons_succ]
          refine wpAnyH_take (i := 2) (v := ?_) (List.getElem?_toArray.trans rfl) (by kernel_rfl) (by kernel_rfl) (by kernel_rfl) (fun _ _ _ h => h) (Or.inl ⟨by rfl, ?_⟩) hHeld ?_
          rotate_left
          · intro w' hSw; have m1 := hSw.1; have m2 := hSw.2; go_simp; try with_reducible rfl
          try simp only [Act.put, List.setIfInBounds_toArray, List.set_cons_zero, List.set_cons_succ]
          refine wpAnyH_take (i := 5) (v := ?_) (List.getElem?_toArray.trans rfl) (by kernel_rfl) (by kernel_rfl) (by kernel_rfl) (fun _ _ _ h => h) (Or.inl ⟨by rfl, ?_⟩) hHeld ?_
          rotate_left
          · intro w' hSw; have m1 := hSw.1; have m2 := hSw.2; go_simp; try with_reducible rfl
          try simp only [Act.put, List.setIfInBounds_toArray, List.set_cons_zero, List.set_cons_succ]
          refine wpAnyH_take (i := 3) (v := ?_) (List.getElem?_toArray.trans rfl) (by kernel_rfl) (by kernel_rfl) (by kernel_rfl) (fun _ _ _ h => h) (Or.inl ⟨by rfl, ?_⟩) hHeld ?_
          rotate_left
          · intro w' hSw; have m1 := hSw.1; have m2 := hSw.2; go_simp; try with_reducible rfl
          try simp only [Act.put, List.setIfInBounds_toArray, List.set_cons_zero, List.set_cons_succ]
          refine wpAnyH_take (i := 6) (v := ?_) (List.getElem?_toArray.trans rfl) (by kernel_rfl) (by kernel_rfl) (by kernel_rfl) (fun _ _ _ h => h) (Or.inl ⟨by rfl, ?_⟩) hHeld ?_
          rotate_left
          · intro w' hSw; have m1 := hSw.1; have m2 := hSw.2; go_simp; try with_reducible rfl
          try simp only [Act.put, List.setIfInBounds_toArray, List.set_cons_zero, List.set_cons_succ]
          refine wpAnyH_ready (rs := [1]) (by kernel_rfl) (by simp) ?_
          refine AllReadyH.cons (List.getElem?_toArray.trans rfl) (fun K hK => ?_) AllReadyH.nil
          have n1 := KD.out.cell 1 rfl
          go_simp
          clear n1
          refine hK.out _ _ (⟨hSP, hSQ⟩) (fun hHeld => ?_)
          clear hK K
          try simp only [Act.put, List.setIfInBounds_toArray, List.set_cons_zero, List.set_cons_succ]
          refine wpAnyH_ready (rs := [4]) (by kernel_rfl) (by simp) ?_
          refine AllReadyH.cons (List.getElem?_toArray.trans rfl) (fun K hK => ?_) AllReadyH.nil
          obtain ⟨ya1, ya2, ya3, u4a, hr, hs1, hg1, GE⟩ := app_on_C GD.out (Nat.le_refl _) (RowC.nil z0.drew z0.heap.size) ((NdV.opens VA.out).1.keepN NB.out GD.out) (by simp) HPO.out.halfA.cells GD.out.size 22
          have KE := Lib.hid (KD.out.keep hg1 (row_other KD.out (RowC.nil z0.drew z0.heap.size) (by decide)))
          have HE := Lib.hid hs1
          have GF := Lib.hid GE
          clear hs1 GE hg1 KD GD
          refine Lib.wp_append_run _ _ _ _ _ rfl _ _ rfl rfl _ _ hr ?_
          clear hr
          refine hK.out _ _ (⟨(KP.out.keep GF.out (ne_some (by omega))).cell 1 rfl, (KQ.out.keep GF.out (ne_some (by omega))).cell 1 rfl⟩) (fun hHeld => ?_)
          clear hK K
          try simp only [Act.put, List.setIfInBounds_toArray, List.set_cons_zero, List.set_cons_succ]
          refine wpAnyH_ready (rs := [7]) (by kernel_rfl) (by simp) ?_
          refine AllReadyH.cons (List.getElem?_toArray.trans rfl) (fun K hK => ?_) AllReadyH.nil
          obtain ⟨tC1, tC2, tC3, u4b, hr, hs1, hg1, GE⟩ := app_on_C GF.out (Nat.le_refl _) HE.out ((NdV.opens VB.out).1.keepN NB.out GF.out) (by have := HPO.out.halfA.cells; simp only [List.nil_append]; omega) HPO.out.halfB.cells GF.out.size 22
          have KF := Lib.hid (KE.out.keep hg1 (row_other KE.out HE.out (by decide)))
          have HF := Lib.hid hs1
          have GH := Lib.hid GE
          clear hs1 GE hg1 KE GF HE
          refine Lib.wp_append_run _ _ _ _ _ rfl _ _ rfl rfl _ _ hr ?_
          clear hr
          refine hK.out _ _ (⟨(KP.out.keep GH.out (ne_some (by omega))).cell 1 rfl, (KQ.out.keep GH.out (ne_some (by omega))).cell 1 rfl⟩) (fun hHeld => ?_)
          clear hK K
          try simp only [Act.put, List.setIfInBounds_toArray, List.set_cons_zero, List.set_cons_succ]
          refine wpAnyH_take (i := 8) (v := ?_) (List.getElem?_toArray.trans rfl) (by kernel_rfl) (by kernel_rfl) (by kernel_rfl) (fun _ _ _ h => h) (Or.inl ⟨by rfl, ?_⟩) hHeld ?_
          rotate_left
          · intro w' hSw; have m1 := hSw.1; have m2 := hSw.2; go_simp; try with_reducible rfl
          try simp only [Act.put, List.setIfInBounds_toArray, List.set_cons_zero, List.set_cons_succ]
          refine wpAnyH_ready (rs := [9]) (by kernel_rfl) (by simp) ?_
          refine AllReadyH.cons (List.getElem?_toArray.trans rfl) (fun K hK => ?_) AllReadyH.nil
          have n1 := KF.out.cell 1 rfl
          have f1 := KF.out.free 1
          go_simp
          obtain ⟨u4c, hD⟩ : ∃ z : World, z = u4b.setCell ⟨ba, 1, none⟩ (.slice tC1 tC2 tC3) := ⟨_, rfl⟩
          rw [← hD]
          have gD : u4b.grownBy u4c (some ba) := by rw [hD]; exact gb_set _ _ _ _ _
          have KA := Lib.hid (show Blk u4c ba 26 (_ : Array Value) from by rw [hD]; exact KF.out.set 1 _)
          have RC := Lib.hid (RowC.keeps HF.out gD (.inr (row_other KF.out HF.out (by decide)).symm))
          have GA := Lib.hid (gb_trans GH.out gD)
          clear gD hD n1 f1 KF HF GH
          refine hK.out _ _ (⟨(KP.out.keep GA.out (ne_some (by omega))).cell 1 rfl, (KQ.out.keep GA.out (ne_some (by omega))).cell 1 rfl⟩) (fun hHeld => ?_)
          clear hK K
          try simp only [Act.put, List.setIfInBounds_toArray, List.set_cons_zero, List.set_cons_succ]
          refine wpAnyH_done (by kernel_rfl) ?_ _
          refine NoPanic.normal ?_
          clear hSP hSQ
          go_upto_region 5 with fail
          have hSP : u4c.cell? ⟨bp, 3, none⟩ = some (.slice p3 r3 s3) := (KP.out.keep GA.out (ne_some (by omega))).cell 3 rfl
          have hSQ : u4c.cell? ⟨bq, 3, none⟩ = some (.slice o3 l3 d3) := (KQ.out.keep GA.out (ne_some (by omega))).cell 3 rfl
          have GD := Lib.hid (gb_trans GA.out (gb_drew u4c (some ba)))
          have KD := Lib.hid (KA.out.keep0 (gb_drew u4c none))
          replace RC := Lib.hid (RowC.keep0 RC.out (gb_drew u4c none))
          clear KA GA
          refine wp_region_noPanic ?_
          refine wp_region_held_drew (S := fun w' => w'.cell? ⟨bp, 3, none⟩ = some (.slice p3 r3 s3) ∧ w'.cell? ⟨bq, 3, none⟩ = some (.slice o3 l3 d3)) (by kernel_rfl) ⟨hSP, hSQ⟩ (fun hHeld => ?_)
          refine wpAnyH_take (i := 0) (v := ?_) (List.getElem?_toArray.trans rfl) (by kernel_rfl) (by kernel_rfl) (by kernel_rfl) (fun _ _ _ h => h) (Or.inl ⟨by rfl, ?_⟩) hHeld ?_
          rotate_left
          · intro w' hSw; have m1 := hSw.1; have m2 := hSw.2; go_simp; try with_reducible rfl
          try simp only [Act.put, List.setIfInBounds_toArray, List.set_cons_zero, List.set_cons_succ]
          refine wpAnyH_take (i := 2) (v := ?_) (List.getElem?_toArray.trans rfl) (by kernel_rfl) (by kernel_rfl) (by kernel_rfl) (fun _ _ _ h => h) (Or.inl ⟨by rfl, ?_⟩) hHeld ?_
          rotate_left
          · intro w' hSw; have m1 := hSw.1; have m2 := hSw.2; go_simp; try with_reducible rfl
          try simp only [Act.put, List.setIfInBounds_toArray, List.set_cons_zero, List.set_cons_succ]
          refine wpAnyH_take (i := 5) (v := ?_) (List.getElem?_toArray.trans rfl) (by kernel_rfl) (by kernel_rfl) (by kernel_rfl) (fun _ _ _ h => h) (Or.inl ⟨by rfl, ?_⟩) hHeld ?_
          rotate_left
          · intro w' hSw; have m1 := hSw.1; have m2 := hSw.2; go_simp; try with_reducible rfl
          try simp only [Act.put, List.setIfInBounds_toArray, List.set_cons_zero, List.set_cons_succ]
          refine wpAnyH_take (i := 3) (v := ?_) (List.getElem?_toArray.trans rfl) (by kernel_rfl) (by kernel_rfl) (by kernel_rfl) (fun _ _ _ h => h) (Or.inl ⟨by rfl, ?_⟩) hHeld ?_
          rotate_left
          · intro w' hSw; have m1 := hSw.1; have m2 := hSw.2; go_simp; try with_reducible rfl
          try simp only [Act.put, List.setIfInBounds_toArray, List.set_cons_zero, List.set_cons_succ]
          refine wpAnyH_take (i := 6) (v := ?_) (List.getElem?_toArray.trans rfl) (by kernel_rfl) (by kernel_rfl) (by kernel_rfl) (fun _ _ _ h => h) (Or.inl ⟨by rfl, ?_⟩) hHeld ?_
          rotate_left
          · intro w' hSw; have m1 := hSw.1; have m2 := hSw.2; go_simp; try with_reducible rfl
          try simp only [Act.put, List.setIfInBounds_toArray, List.set_cons_zero, List.set_cons_succ]
          refine wpAnyH_ready (rs := [1]) (by kernel_rfl) (by simp) ?_
          refine AllReadyH.cons (List.getElem?_toArray.trans rfl) (fun K hK => ?_) AllReadyH.nil
          have n1 := KD.out.cell 3 rfl
          go_simp
          clear n1
          refine hK.out _ _ (⟨hSP, hSQ⟩) (fun hHeld => ?_)
          clear hK K
          try simp only [Act.put, List.setIfInBounds_toArray, List.set_cons_zero, List.set_cons_succ]
          refine wpAnyH_ready (rs := [4]) (by kernel_rfl) (by simp) ?_
          refine AllReadyH.cons (List.getElem?_toArray.trans rfl) (fun K hK => ?_) AllReadyH.nil
          obtain ⟨ya1, ya2, ya3, u5a, hr, hs1, hg1, GE⟩ := app_on_I GD.out (Nat.le_refl _) (RowI.nil u4c.drew z0.heap.size) ((NdV.opens VA.out).2.2.keepN NB.out GD.out) (by simp) HPO.out.halfA.kids GD.out.size 24
          have KE := Lib.hid (KD.out.keep hg1 (row_other KD.out (RowI.nil u4c.drew z0.heap.size) (by decide)))
          have HE := Lib.hid hs1
          have GF := Lib.hid GE
          have RCe := Lib.hid (RowC.keeps RC.out hg1 (row_rows RC.out (RowI.nil u4c.drew z0.heap.size) (by decide)))
          clear hs1 GE hg1 KD GD RC
          refine Lib.wp_append_run _ _ _ _ _ rfl _ _ rfl rfl _ _ hr ?_
          clear hr
          refine hK.out _ _ (⟨(KP.out.keep GF.out (ne_some (by omega))).cell 3 rfl, (KQ.out.keep GF.out (ne_some (by omega))).cell 3 rfl⟩) (fun hHeld => ?_)
          clear hK K
          try simp only [Act.put, List.setIfInBounds_toArray, List.set_cons_zero, List.set_cons_succ]
          refine wpAnyH_ready (rs := [7]) (by kernel_rfl) (by simp) ?_
          refine AllReadyH.cons (List.getElem?_toArray.trans rfl) (fun K hK => ?_) AllReadyH.nil
          obtain ⟨tI1, tI2, tI3, u5b, hr, hs1, hg1, GE⟩ := app_on_I GF.out (Nat.le_refl _) HE.out ((NdV.opens VB.out).2.2.keepN NB.out GF.out) (by have := HPO.out.halfA.kids; simp only [List.nil_append]; omega) HPO.out.halfB.kids GF.out.size 24
          have KF := Lib.hid (KE.out.keep hg1 (row_other KE.out HE.out (by decide)))
          have HF := Lib.hid hs1
          have GH := Lib.hid GE
          have RC := Lib.hid (RowC.keeps RCe.out hg1 (row_rows RCe.out HE.out (by decide)))
          clear hs1 GE hg1 KE GF HE RCe
          refine Lib.wp_append_run _ _ _ _ _ rfl _ _ rfl rfl _ _ hr ?_
          clear hr
          refine hK.out _ _ (⟨(KP.out.keep GH.out (ne_some (by omega))).cell 3 rfl, (KQ.out.keep GH.out (ne_some (by omega))).cell 3 rfl⟩) (fun hHeld => ?_)
          clear hK K
          try simp only [Act.put, List.setIfInBounds_toArray, List.set_cons_zero, List.set_cons_succ]
          refine wpAnyH_take (i := 8) (v := ?_) (List.getElem?_toArray.trans rfl) (by kernel_rfl) (by kernel_rfl) (by kernel_rfl) (fun _ _ _ h => h) (Or.inl ⟨by rfl, ?_⟩) hHeld ?_
          rotate_left
          · intro w' hSw; have m1 := hSw.1; have m2 := hSw.2; go_simp; try with_reducible rfl
          try simp only [Act.put, List.setIfInBounds_toArray, List.set_cons_zero, List.set_cons_succ]
          refine wpAnyH_ready (rs := [9]) (by kernel_rfl) (by simp) ?_
          refine AllReadyH.cons (List.getElem?_toArray.trans rfl) (fun K hK => ?_) AllReadyH.nil
          have n1 := KF.out.cell 3 rfl
          have f1 := KF.out.free 3
          go_simp
          obtain ⟨u5c, hD⟩ : ∃ z : World, z = u5b.setCell ⟨ba, 3, none⟩ (.slice tI1 tI2 tI3) := ⟨_, rfl⟩
          rw [← hD]
          have gD : u5b.grownBy u5c (some ba) := by rw [hD]; exact gb_set _ _ _ _ _
          have KA := Lib.hid (show Blk u5c ba 26 (_ : Array Value) from by rw [hD]; exact KF.out.set 3 _)
          have RI := Lib.hid (RowI.keeps HF.out gD (.inr (row_other KF.out HF.out (by decide)).symm))
          replace RC := Lib.hid (RowC.keeps RC.out gD (.inr (row_other KF.out RC.out (by decide)).symm))
          have GA := Lib.hid (gb_trans GH.out gD)
          clear gD hD n1 f1 KF HF GH
          refine hK.out _ _ (⟨(KP.out.keep GA.out (ne_some (by omega))).cell 3 rfl, (KQ.out.keep GA.out (ne_some (by omega))).cell 3 rfl⟩) (fun hHeld => ?_)
          clear hK K
          try simp only [Act.put, List.setIfInBounds_toArray, List.set_cons_zero, List.set_cons_succ]
          refine wpAnyH_done (by kernel_rfl) ?_ _
          refine NoPanic.normal ?_
          clear hSP hSQ
          go_upto_region 6 with fail
          have n1 := KA.out.cell 2 rfl
          have n2 := (KP.out.keep GA.out (ne_some (by omega))).cell 2 rfl
          go_upto_region 7 with (at_builtin; go_must (obtain ⟨tS01, tS02, tS03, u6a, hr, hs1, hg1, GE⟩ := app_on_S GA.out (Nat.le_refl _) (RowS.nil u5c z0.heap.size) (stsKeepN (NdV.opens VA.out).2.1 NB.out GA.out) (by simp) HPO.out.halfA.keys GA.out.size 23; have KE := Lib.hid (KA.out.keep hg1 (row_other KA.out (RowS.nil u5c z0.heap.size) (by decide))); have HF := Lib.hid hs1; have GH := Lib.hid GE; have RCe := Lib.hid (RowC.keeps RC.out hg1 (row_rows RC.out (RowS.nil u5c z0.heap.size) (by decide))); have RIe := Lib.hid (RowI.keeps RI.out hg1 (row_rows RI.out (RowS.nil u5c z0.heap.size) (by decide))); have HR := Lib.hid hr; clear hr hs1 GE hg1 n1 n2; have n1 := KE.out.cell 2 rfl; have f1 := KE.out.free 2; refine Lib.wpList_append_run _ rfl _ _ _ _ rfl _ _ rfl rfl _ _ HR.out ?_))
          obtain ⟨u6c, hD⟩ : ∃ z : World, z = u6a.setCell ⟨ba, 2, none⟩ (.slice tS01 tS02 tS03) := ⟨_, rfl⟩
          rw [← hD]
          have gD : u6a.grownBy u6c (some ba) := by rw [hD]; exact gb_set _ _ _ _ _
          replace KA := Lib.hid (show Blk u6c ba 26 (_ : Array Value) from by rw [hD]; exact KE.out.set 2 _)
          have RS := Lib.hid (RowS.keeps HF.out gD (.inr (row_other KE.out HF.out (by decide)).symm))
          replace RC := Lib.hid (RowC.keeps RCe.out gD (.inr (row_other KE.out RCe.out (by decide)).symm))
          replace RI := Lib.hid (RowI.keeps RIe.out gD (.inr (row_other KE.out RIe.out (by decide)).symm))
          replace GA := Lib.hid (gb_trans GH.out gD)
          clear gD hD n1 f1 KE HF GH HR RCe RIe
          have n1 := (KP.out.keep GA.out (ne_some (by omega))).cell 0 rfl
          go_upto_region 9 with fail
          clear n1
          have n1 := KA.out.cell 2 rfl
          have n2 := (KQ.out.keep GA.out (ne_some (by omega))).cell 2 rfl
          have HS0 := RS
          go_upto_region 10 with (at_builtin; go_must (obtain ⟨tS11, tS12, tS13, u9a, hr, hs1, hg1, GE⟩ := app_on_S GA.out (Nat.le_refl _) HS0.out (stsKeepN (NdV.opens VB.out).2.1 NB.out GA.out) (by have := HPO.out.halfA.keys; simp only [List.nil_append, List.length_append, List.length_singleton]; omega) HPO.out.halfB.keys GA.out.size 23; have KE := Lib.hid (KA.out.keep hg1 (row_other KA.out HS0.out (by decide))); have HF := Lib.hid hs1; have GH := Lib.hid GE; have RCe := Lib.hid (RowC.keeps RC.out hg1 (row_rows RC.out HS0.out (by decide))); have RIe := Lib.hid (RowI.keeps RI.out hg1 (row_rows RI.out HS0.out (by decide))); have HR := Lib.hid hr; clear hr hs1 GE hg1 n1 n2; have n1 := KE.out.cell 2 rfl; have f1 := KE.out.free 2; refine Lib.wpList_append_run _ rfl _ _ _ _ rfl _ _ rfl rfl _ _ HR.out ?_))
          obtain ⟨u9c, hD⟩ : ∃ z : World, z = u9a.setCell ⟨ba, 2, none⟩ (.slice tS11 tS12 tS13) := ⟨_, rfl⟩
          rw [← hD]
          have gD : u9a.grownBy u9c (some ba) := by rw [hD]; exact gb_set _ _ _ _ _
          replace KA := Lib.hid (show Blk u9c ba 26 (_ : Array Value) from by rw [hD]; exact KE.out.set 2 _)
          clear RS HS0
          have RS := Lib.hid (RowS.keeps HF.out gD (.inr (row_other KE.out HF.out (by decide)).symm))
          replace RC := Lib.hid (RowC.keeps RCe.out gD (.inr (row_other KE.out RCe.out (by decide)).symm))
          replace RI := Lib.hid (RowI.keeps RIe.out gD (.inr (row_other KE.out RIe.out (by decide)).symm))
          replace GA := Lib.hid (gb_trans GH.out gD)
          clear gD hD n1 f1 KE HF GH HR RCe RIe
          have VALL : Hid (NdV u9c (.agg #[.bool true, .slice tC1 tC2 tC3, .slice tS11 tS12 tS13, .slice tI1 tI2 tI3]) (joinN A B key)) := Lib.hid (by rw [← allQ_join key hmA hmB hlA hlB]; exact all_is_true (by have h := RowC.sl RC.out; rwa [List.nil_append] at h) (by have h := RowS.sl RS.out; rwa [List.nil_append] at h) (by have h := RowI.sl RI.out; rwa [List.nil_append] at h))
          have e0 := KA.out.cell 0 rfl
          have e1 := KA.out.cell 1 rfl
          have e2 := KA.out.cell 2 rfl
          have e3 := KA.out.cell 3 rfl
          replace KR := Lib.hid (KR.out.keep GA.out (ne_some (by omega)))
          replace HG := Lib.hid (gb_step HG.out GA.out (by have := HBR.out; omega))
          clear GA RC RI RS KP KQ VA VB NB
          rcases hjf : (joinN A B key).fits with _ | _
          · have HF := Lib.hid (fun W v hv => rfits_is hjf (Lim.join hA hB key) W v hv)
            have HJB := Lib.hid (show joinB A B key = false by unfold joinB; rw [hjf]; simp)
            go_wp2_with (first | (go_at_call 23; (with_reducible refine (HF.out _ _ VALL.out).mono ?_); rintro e w8 ⟨rfl, g8⟩; replace KR := Lib.hid (KR.out.keep0 g8); replace VALL := Lib.hid (VALL.out.keep0 g8); replace HG := Lib.hid (gb_trans HG.out g8); replace e0 := World.grownBy.cell g8 e0 (by simp); replace e1 := World.grownBy.cell g8 e1 (by simp); replace e2 := World.grownBy.cell g8 e2 (by simp); replace e3 := World.grownBy.cell g8 e3 (by simp); clear g8) | ((with_reducible refine st_node rfl br 26 false none none none 0 0 0 0 0 0 ?_ ?_ _ _ _ _ KR.out ?_); (· rfl); (· rfl); intro w9 nn9 g9))
            refine bodyPost_ret (results_cs rfl _ _ _ _ _ _ _ rfl nn9) rfl ?_
            exact join_not HJB.out (gb_step HG.out g9 HBR.out)
          · have HF := Lib.hid (fun W v hv => rfits_is hjf (Lim.join hA hB key) W v hv)
            have HJB := Lib.hid (show joinB A B key = true by unfold joinB; rw [hjf, hmA, hmB, hlA, hlB]; rfl)
            go_wp2_with (first | (go_at_call 23; (with_reducible refine (HF.out _ _ VALL.out).mono ?_); rintro e w8 ⟨rfl, g8⟩; replace KR := Lib.hid (KR.out.keep0 g8); replace VALL := Lib.hid (VALL.out.keep0 g8); replace HG := Lib.hid (gb_trans HG.out g8); replace e0 := World.grownBy.cell g8 e0 (by simp); replace e1 := World.grownBy.cell g8 e1 (by simp); replace e2 := World.grownBy.cell g8 e2 (by simp); replace e3 := World.grownBy.cell g8 e3 (by simp); clear g8) | ((with_reducible refine st_node rfl br 26 true tC1 tS11 tI1 tC2 tS12 tI2 tC3 tS13 tI3 ?_ ?_ _ _ _ _ KR.out ?_); (· rfl); (· rfl); intro w9 nn9 g9))
            refine bodyPost_ret (results_cs rfl _ _ _ _ _ _ _ rfl nn9) rfl ?_
            exact join_is HJB.out (VALL.out.keepN (Nbl.node KR.out) g9) (gb_step HG.out g9 HBR.out)
end Go.Proofs.YthhimhjegodklaaGreat.N11

