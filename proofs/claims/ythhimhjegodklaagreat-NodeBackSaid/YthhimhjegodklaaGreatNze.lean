/-
  The law NodeFinds, walked: where a key is told, of all made nodes; conditions: the numbers lie.
-/
import Derived.Test.YthhimhjegodklaaGreatNzd
import Derived.Deep.DeepCutAuto
namespace Go.Proofs.YthhimhjegodklaaGreat.N11
set_option linter.unusedSimpArgs false
set_option linter.unusedVariables false
open Go.RowKit
theorem leaf_parts {w : World} {v : Value} {h : ByteArray} {L : List UInt8} (hv : NdV w v (leafM h L)) : ∃ a1 c1 a2 c2 a3 c3, v = .agg #[.bool true, .slice a1 (min L.length 30) c1, .slice a2 0 c2, .slice a3 0 c3] := by
  obtain ⟨a1, c1, a2, c2, a3, c3, rfl⟩ := NdV.parts hv
  exact ⟨a1, c1, a2, c2, a3, c3, by rw [show (leafM h L).cells.length = min L.length 30 from cellsM_length h L _]; rfl⟩
theorem kidsM_length (L : List UInt8) (k : Nat) : (kidsM L k).length = k + 1 := by unfold kidsM; simp
theorem inner_parts {w : World} {v : Value} {h : ByteArray} {L : List UInt8} (hv : NdV w v (innerM h L)) : ∃ a1 c1 a2 c2 a3 c3, v = .agg #[.bool false, .slice a1 0 c1, .slice a2 (min L.length 30) c2, .slice a3 (min L.length 30 + 1) c3] := by
  obtain ⟨a1, c1, a2, c2, a3, c3, rfl⟩ := NdV.parts hv
  exact ⟨a1, c1, a2, c2, a3, c3, by rw [show (innerM h L).keys.length = min L.length 30 from keysM_length h L _, show (innerM h L).kids.length = min L.length 30 + 1 from kidsM_length L _]; rfl⟩
theorem NdV.open {w : World} {b : Bool} {x y z : Value} {n : Nd} (h : NdV w (.agg #[.bool b, x, y, z]) n) : Ces w x n.cells ∧ Sts w y n.keys ∧ Ins w z n.kids := by
  obtain ⟨x', y', z', he, h1, h2, h3⟩ := h
  cases he
  exact ⟨h1, h2, h3⟩
theorem sl_open {k : Nat} {w : World} {ao : Option Addr} {m c n : Nat} {l : List Value} (h : Sl k w (.slice ao m c) n l) : (ao = none → n = 0) ∧ ∀ a, ao = some a → ∀ j u, l[j]? = some u → w.cell? (a.add j) = some u := by
  obtain ⟨ao', cap', he, h2, h3, h4, h5⟩ := h
  cases he
  exact ⟨fun e => (h4 e).1, h5⟩
def LeafAt (w : World) (b : Nat) (h : ByteArray) (L : List UInt8) : Prop := ∃ a1 c1 a2 c2 a3 c3, Blk w b 26 #[.bool true, .slice a1 (min L.length 30) c1, .slice a2 0 c2, .slice a3 0 c3] ∧ NdV w (.agg #[.bool true, .slice a1 (min L.length 30) c1, .slice a2 0 c2, .slice a3 0 c3]) (leafM h L)
def InnerAt (w : World) (b : Nat) (h : ByteArray) (L : List UInt8) : Prop := ∃ a1 c1 a2 c2 a3 c3, Blk w b 26 #[.bool false, .slice a1 0 c1, .slice a2 (min L.length 30) c2, .slice a3 (min L.length 30 + 1) c3] ∧ NdV w (.agg #[.bool false, .slice a1 0 c1, .slice a2 (min L.length 30) c2, .slice a3 (min L.length 30 + 1) c3]) (innerM h L)
set_option maxRecDepth 100000 in
set_option maxHeartbeats 4000000 in
theorem finds_any (h : ByteArray) (v : Value) (L : List UInt8) (key : ByteArray) (w : World) (hv : Bs w v L) : Calls Tryz.prog 6 #[.agg #[.string h, v], .string key] w fun e w' => e = .returned (.bool true) ∧ Below w.heap.size w w' := by
  obtain ⟨ao, cap, rfl, hcap, hnil, hcell⟩ := hv
  have HV := Lib.hid (show Bs w (.slice ao L.length cap) L from ⟨ao, cap, rfl, hcap, hnil, hcell⟩)
  obtain ⟨w0, hw0, kM, g0, hz0⟩ := new1 w 30 #[.string h, .slice ao L.length cap]
  have HW := Lib.hid hw0
  have KM := Lib.hid kM
  have HG := Lib.hid g0
  have HLF : Hid (∀ W, w.grownBy W none → Calls Tryz.prog 8 #[.agg #[.string h, .slice ao L.length cap]] W (MadeGot (leafM h L) W)) := Lib.hid (fun W g => leaf_any h _ L W (HV.out.keep0 g))
  have HIF : Hid (∀ W, w.grownBy W none → Calls Tryz.prog 9 #[.agg #[.string h, .slice ao L.length cap]] W (MadeGot (innerM h L) W)) := Lib.hid (fun W g => inner_any h _ L W (HV.out.keep0 g))
  clear hw0 kM g0 hz0 hcap hnil hcell
  go_enter Tryz.func6, Tryz.ntmps6
  go_upto_region 3 with (go_at_call 13; rw [← HW.out]; (with_reducible refine (works_any _).mono ?_); rintro e w1 ⟨rfl, g1⟩; replace KM := Lib.hid (KM.out.keep0 g1); replace HG := Lib.hid (gb_trans HG.out g1); clear g1)
  go_cut [5, 6] (fun s5 s6 wx => ∃ b5 b6 : Nat, s5 = .pointer (some ⟨b5, 0, none⟩) ∧ s6 = .pointer (some ⟨b6, 0, none⟩) ∧ LeafAt wx b5 h L ∧ InnerAt wx b6 h L ∧ w.grownBy wx none)
  case first =>
    refine wp_region_noPanic ?_
    refine wp_region_held_drew (S := fun w' => w'.cell? ⟨w.heap.size, 0, none⟩ = some (.string h) ∧ w'.cell? ⟨w.heap.size, 1, none⟩ = some (.slice ao L.length cap)) (by kernel_rfl) ⟨(KM.out.keep0 (gb_drew _ none)).cell 0 rfl, (KM.out.keep0 (gb_drew _ none)).cell 1 rfl⟩ (fun hHeld => ?_)
    replace KM := Lib.hid (KM.out.keep0 (gb_drew w1 none))
    replace HG := Lib.hid (gb_trans HG.out (gb_drew w1 none))
    generalize w1.drew = x0 at KM HG hHeld ⊢
    refine wpAnyH_take (i := 0) (v := ?_) (List.getElem?_toArray.trans rfl) (by kernel_rfl) (by kernel_rfl) (by kernel_rfl) (fun _ _ _ h => h) (Or.inl ⟨by rfl, ?_⟩) hHeld ?_
    rotate_left
    · intro w' hSw; have m0 := hSw.1; have m1 := hSw.2; go_simp; try with_reducible rfl
    try simp only [Act.put, List.setIfInBounds_toArray, List.set_cons_zero, List.set_cons_succ]
    refine wpAnyH_take (i := 2) (v := ?_) (List.getElem?_toArray.trans rfl) (by kernel_rfl) (by kernel_rfl) (by kernel_rfl) (fun _ _ _ h => h) (Or.inl ⟨by rfl, ?_⟩) hHeld ?_
    rotate_left
    · intro w' hSw; have m0 := hSw.1; have m1 := hSw.2; go_simp; try with_reducible rfl
    try simp only [Act.put, List.setIfInBounds_toArray, List.set_cons_zero, List.set_cons_succ]
    refine wpAnyH_ready (rs := [1, 4, 5]) (by kernel_rfl) (by simp) ?_
    refine AllReadyH.cons (List.getElem?_toArray.trans rfl) (fun K hK => ?_) (AllReadyH.cons (List.getElem?_toArray.trans rfl) (fun K hK => ?_) (AllReadyH.cons (List.getElem?_toArray.trans rfl) (fun K hK => ?_) AllReadyH.nil))
    · go_simp
      go_at_call 8
      (with_reducible refine (HLF.out _ HG.out).mono ?_)
      rintro e x1 ⟨v, rfl, hv, gx1⟩
      obtain ⟨la, lb, lc, ld, le, lf, rfl⟩ := leaf_parts hv
      replace KM := Lib.hid (KM.out.keep0 gx1)
      replace HG := Lib.hid (gb_trans HG.out gx1)
      try replace K5 := Lib.hid (K5.out.keep0 gx1)
      try replace K6 := Lib.hid (K6.out.keep0 gx1)
      try replace VI := Lib.hid (VI.out.keep0 gx1)
      have VL := Lib.hid hv
      clear hv
      refine hK.out _ _ (⟨KM.out.cell 0 rfl, KM.out.cell 1 rfl⟩) (fun hHeld => ?_)
      clear hK K
      try simp only [Act.put, List.setIfInBounds_toArray, List.set_cons_zero, List.set_cons_succ]
      refine wpAnyH_ready (rs := [3, 4, 5]) (by kernel_rfl) (by simp) ?_
      refine AllReadyH.cons (List.getElem?_toArray.trans rfl) (fun K hK => ?_) (AllReadyH.cons (List.getElem?_toArray.trans rfl) (fun K hK => ?_) (AllReadyH.cons (List.getElem?_toArray.trans rfl) (fun K hK => ?_) AllReadyH.nil))
      · go_simp
        go_at_call 9
        (with_reducible refine (HIF.out _ HG.out).mono ?_)
        rintro e x2 ⟨v, rfl, hv, gx2⟩
        obtain ⟨oa, ob, oc, od, oe, of, rfl⟩ := inner_parts hv
        replace KM := Lib.hid (KM.out.keep0 gx2)
        replace HG := Lib.hid (gb_trans HG.out gx2)
        try replace K5 := Lib.hid (K5.out.keep0 gx2)
        try replace K6 := Lib.hid (K6.out.keep0 gx2)
        try replace VL := Lib.hid (VL.out.keep0 gx2)
        have VI := Lib.hid hv
        clear hv
        refine hK.out _ _ (⟨KM.out.cell 0 rfl, KM.out.cell 1 rfl⟩) (fun hHeld => ?_)
        clear hK K
        try simp only [Act.put, List.setIfInBounds_toArray, List.set_cons_zero, List.set_cons_succ]
        refine wpAnyH_ready (rs := [4, 5]) (by kernel_rfl) (by simp) ?_
        refine AllReadyH.cons (List.getElem?_toArray.trans rfl) (fun K hK => ?_) (AllReadyH.cons (List.getElem?_toArray.trans rfl) (fun K hK => ?_) AllReadyH.nil)
        · go_simp
          obtain ⟨x3, hC, kC, gx3, hzz⟩ := new1 x2 26 #[.bool false, .slice none 0 0, .slice none 0 0, .slice none 0 0]
          rw [← hC]
          clear hC hzz
          have hbig5 : w.heap.size < x2.heap.size := KM.out.lt
          first | (have h56 : b6 < x2.heap.size := K6.out.lt; generalize x2.heap.size = b5 at kC hbig5 h56 ⊢) | generalize x2.heap.size = b5 at kC hbig5 ⊢
          replace KM := Lib.hid (KM.out.keep0 gx3)
          replace HG := Lib.hid (gb_trans HG.out gx3)
          try replace K6 := Lib.hid (K6.out.keep0 gx3)
          try replace VL := Lib.hid (VL.out.keep0 gx3)
          try replace VI := Lib.hid (VI.out.keep0 gx3)
          have K5 := Lib.hid kC
          clear kC
          refine hK.out _ _ (⟨KM.out.cell 0 rfl, KM.out.cell 1 rfl⟩) (fun hHeld => ?_)
          clear hK K
          try simp only [Act.put, List.setIfInBounds_toArray, List.set_cons_zero, List.set_cons_succ]
          refine wpAnyH_ready (rs := [5]) (by kernel_rfl) (by simp) ?_
          refine AllReadyH.cons (List.getElem?_toArray.trans rfl) (fun K hK => ?_) AllReadyH.nil
          go_simp
          obtain ⟨x4, hC, kC, gx4, hzz⟩ := new1 x3 26 #[.bool false, .slice none 0 0, .slice none 0 0, .slice none 0 0]
          rw [← hC]
          clear hC hzz
          have hbig6 : w.heap.size < x3.heap.size := KM.out.lt
          first | (have h56 : b5 < x3.heap.size := K5.out.lt; generalize x3.heap.size = b6 at kC hbig6 h56 ⊢) | generalize x3.heap.size = b6 at kC hbig6 ⊢
          replace KM := Lib.hid (KM.out.keep0 gx4)
          replace HG := Lib.hid (gb_trans HG.out gx4)
          try replace K5 := Lib.hid (K5.out.keep0 gx4)
          try replace VL := Lib.hid (VL.out.keep0 gx4)
          try replace VI := Lib.hid (VI.out.keep0 gx4)
          have K6 := Lib.hid kC
          clear kC
          refine hK.out _ _ (⟨KM.out.cell 0 rfl, KM.out.cell 1 rfl⟩) (fun hHeld => ?_)
          clear hK K
          try simp only [Act.put, List.setIfInBounds_toArray, List.set_cons_zero, List.set_cons_succ]
          refine wpAnyH_ready (rs := [6]) (by kernel_rfl) (by simp) ?_
          refine AllReadyH.cons (List.getElem?_toArray.trans rfl) (fun K hK => ?_) AllReadyH.nil
          refine st_nodeO _ _ rfl b5 26 true la lc le (min L.length 30) 0 0 lb ld lf rfl (by first | rfl | simp [Act.eval]) _ _ _ _ K5.out ?_
          intro x5 n9 gx5
          replace VL := Lib.hid (VL.out.keepN (Nbl.node K5.out) gx5)
          replace VI := Lib.hid (VI.out.keepN (Nbl.node K5.out) gx5)
          replace K6 := Lib.hid (K6.out.keep gx5 (ne_some (by omega)))
          replace KM := Lib.hid (KM.out.keep gx5 (ne_some (by omega)))
          replace HG := Lib.hid (gb_step HG.out gx5 (by omega))
          replace K5 := Lib.hid n9
          clear n9
          refine hK.out _ _ (⟨KM.out.cell 0 rfl, KM.out.cell 1 rfl⟩) (fun hHeld => ?_)
          clear hK K
          try simp only [Act.put, List.setIfInBounds_toArray, List.set_cons_zero, List.set_cons_succ]
          refine wpAnyH_ready (rs := [7]) (by kernel_rfl) (by simp) ?_
          refine AllReadyH.cons (List.getElem?_toArray.trans rfl) (fun K hK => ?_) AllReadyH.nil
          refine st_nodeO _ _ rfl b6 26 false oa oc oe 0 (min L.length 30) (min L.length 30 + 1) ob od of rfl (by first | rfl | simp [Act.eval]) _ _ _ _ K6.out ?_
          intro x6 n9 gx6
          replace VL := Lib.hid (VL.out.keepN (Nbl.node K6.out) gx6)
          replace VI := Lib.hid (VI.out.keepN (Nbl.node K6.out) gx6)
          replace K5 := Lib.hid (K5.out.keep gx6 (ne_some (by omega)))
          replace KM := Lib.hid (KM.out.keep gx6 (ne_some (by omega)))
          replace HG := Lib.hid (gb_step HG.out gx6 (by omega))
          replace K6 := Lib.hid n9
          clear n9
          refine hK.out _ _ (⟨KM.out.cell 0 rfl, KM.out.cell 1 rfl⟩) (fun hHeld => ?_)
          clear hK K
          try simp only [Act.put, List.setIfInBounds_toArray, List.set_cons_zero, List.set_cons_succ]
          refine wpAnyH_done (by kernel_rfl) ?_ _
          refine NoPanic.normal ?_
          go_wp2_with fail
          go_meet
          exact ⟨b5, b6, rfl, rfl, ⟨la, lb, lc, ld, le, lf, K5.out, VL.out⟩, ⟨oa, ob, oc, od, oe, of, K6.out, VI.out⟩, HG.out⟩
        · go_simp
          obtain ⟨x7, hC, kC, gx7, hzz⟩ := new1 x2 26 #[.bool false, .slice none 0 0, .slice none 0 0, .slice none 0 0]
          rw [← hC]
          clear hC hzz
          have hbig6 : w.heap.size < x2.heap.size := KM.out.lt
          first | (have h56 : b5 < x2.heap.size := K5.out.lt; generalize x2.heap.size = b6 at kC hbig6 h56 ⊢) | generalize x2.heap.size = b6 at kC hbig6 ⊢
          replace KM := Lib.hid (KM.out.keep0 gx7)
          replace HG := Lib.hid (gb_trans HG.out gx7)
          try replace K5 := Lib.hid (K5.out.keep0 gx7)
          try replace VL := Lib.hid (VL.out.keep0 gx7)
          try replace VI := Lib.hid (VI.out.keep0 gx7)
          have K6 := Lib.hid kC
          clear kC
          refine hK.out _ _ (⟨KM.out.cell 0 rfl, KM.out.cell 1 rfl⟩) (fun hHeld => ?_)
          clear hK K
          try simp only [Act.put, List.setIfInBounds_toArray, List.set_cons_zero, List.set_cons_succ]
          refine wpAnyH_ready (rs := [4]) (by kernel_rfl) (by simp) ?_
          refine AllReadyH.cons (List.getElem?_toArray.trans rfl) (fun K hK => ?_) AllReadyH.nil
          go_simp
          obtain ⟨x8, hC, kC, gx8, hzz⟩ := new1 x7 26 #[.bool false, .slice none 0 0, .slice none 0 0, .slice none 0 0]
          rw [← hC]
          clear hC hzz
          have hbig5 : w.heap.size < x7.heap.size := KM.out.lt
          first | (have h56 : b6 < x7.heap.size := K6.out.lt; generalize x7.heap.size = b5 at kC hbig5 h56 ⊢) | generalize x7.heap.size = b5 at kC hbig5 ⊢
          replace KM := Lib.hid (KM.out.keep0 gx8)
          replace HG := Lib.hid (gb_trans HG.out gx8)
          try replace K6 := Lib.hid (K6.out.keep0 gx8)
          try replace VL := Lib.hid (VL.out.keep0 gx8)
          try replace VI := Lib.hid (VI.out.keep0 gx8)
          have K5 := Lib.hid kC
          clear kC
          refine hK.out _ _ (⟨KM.out.cell 0 rfl, KM.out.cell 1 rfl⟩) (fun hHeld => ?_)
          clear hK K
          try simp only [Act.put, List.setIfInBounds_toArray, List.set_cons_zero, List.set_cons_succ]
          refine wpAnyH_ready (rs := [6]) (by kernel_rfl) (by simp) ?_
          refine AllReadyH.cons (List.getElem?_toArray.trans rfl) (fun K hK => ?_) AllReadyH.nil
          refine st_nodeO _ _ rfl b5 26 true la lc le (min L.length 30) 0 0 lb ld lf rfl (by first | rfl | simp [Act.eval]) _ _ _ _ K5.out ?_
          intro x9 n9 gx9
          replace VL := Lib.hid (VL.out.keepN (Nbl.node K5.out) gx9)
          replace VI := Lib.hid (VI.out.keepN (Nbl.node K5.out) gx9)
          replace K6 := Lib.hid (K6.out.keep gx9 (ne_some (by omega)))
          replace KM := Lib.hid (KM.out.keep gx9 (ne_some (by omega)))
          replace HG := Lib.hid (gb_step HG.out gx9 (by omega))
          replace K5 := Lib.hid n9
          clear n9
          refine hK.out _ _ (⟨KM.out.cell 0 rfl, KM.out.cell 1 rfl⟩) (fun hHeld => ?_)
          clear hK K
          try simp only [Act.put, List.setIfInBounds_toArray, List.set_cons_zero, List.set_cons_succ]
          refine wpAnyH_ready (rs := [7]) (by kernel_rfl) (by simp) ?_
          refine AllReadyH.cons (List.getElem?_toArray.trans rfl) (fun K hK => ?_) AllReadyH.nil
          refine st_nodeO _ _ rfl b6 26 false oa oc oe 0 (min L.length 30) (min L.length 30 + 1) ob od of rfl (by first | rfl | simp [Act.eval]) _ _ _ _ K6.out ?_
          intro x10 n9 gx10
          replace VL := Lib.hid (VL.out.keepN (Nbl.node K6.out) gx10)
          replace VI := Lib.hid (VI.out.keepN (Nbl.node K6.out) gx10)
          replace K5 := Lib.hid (K5.out.keep gx10 (ne_some (by omega)))
          replace KM := Lib.hid (KM.out.keep gx10 (ne_some (by omega)))
          replace HG := Lib.hid (gb_step HG.out gx10 (by omega))
          replace K6 := Lib.hid n9
          clear n9
          refine hK.out _ _ (⟨KM.out.cell 0 rfl, KM.out.cell 1 rfl⟩) (fun hHeld => ?_)
          clear hK K
          try simp only [Act.put, List.setIfInBounds_toArray, List.set_cons_zero, List.set_cons_succ]
          refine wpAnyH_done (by kernel_rfl) ?_ _
          refine NoPanic.normal ?_
          go_wp2_with fail
          go_meet
          exact ⟨b5, b6, rfl, rfl, ⟨la, lb, lc, ld, le, lf, K5.out, VL.out⟩, ⟨oa, ob, oc, od, oe, of, K6.out, VI.out⟩, HG.out⟩
      · go_simp
        obtain ⟨x11, hC, kC, gx11, hzz⟩ := new1 x1 26 #[.bool false, .slice none 0 0, .slice none 0 0, .slice none 0 0]
        rw [← hC]
        clear hC hzz
        have hbig5 : w.heap.size < x1.heap.size := KM.out.lt
        first | (have h56 : b6 < x1.heap.size := K6.out.lt; generalize x1.heap.size = b5 at kC hbig5 h56 ⊢) | generalize x1.heap.size = b5 at kC hbig5 ⊢
        replace KM := Lib.hid (KM.out.keep0 gx11)
        replace HG := Lib.hid (gb_trans HG.out gx11)
        try replace K6 := Lib.hid (K6.out.keep0 gx11)
        try replace VL := Lib.hid (VL.out.keep0 gx11)
        try replace VI := Lib.hid (VI.out.keep0 gx11)
        have K5 := Lib.hid kC
        clear kC
        refine hK.out _ _ (⟨KM.out.cell 0 rfl, KM.out.cell 1 rfl⟩) (fun hHeld => ?_)
        clear hK K
        try simp only [Act.put, List.setIfInBounds_toArray, List.set_cons_zero, List.set_cons_succ]
        refine wpAnyH_ready (rs := [3, 5]) (by kernel_rfl) (by simp) ?_
        refine AllReadyH.cons (List.getElem?_toArray.trans rfl) (fun K hK => ?_) (AllReadyH.cons (List.getElem?_toArray.trans rfl) (fun K hK => ?_) AllReadyH.nil)
        · go_simp
          go_at_call 9
          (with_reducible refine (HIF.out _ HG.out).mono ?_)
          rintro e x12 ⟨v, rfl, hv, gx12⟩
          obtain ⟨oa, ob, oc, od, oe, of, rfl⟩ := inner_parts hv
          replace KM := Lib.hid (KM.out.keep0 gx12)
          replace HG := Lib.hid (gb_trans HG.out gx12)
          try replace K5 := Lib.hid (K5.out.keep0 gx12)
          try replace K6 := Lib.hid (K6.out.keep0 gx12)
          try replace VL := Lib.hid (VL.out.keep0 gx12)
          have VI := Lib.hid hv
          clear hv
          refine hK.out _ _ (⟨KM.out.cell 0 rfl, KM.out.cell 1 rfl⟩) (fun hHeld => ?_)
          clear hK K
          try simp only [Act.put, List.setIfInBounds_toArray, List.set_cons_zero, List.set_cons_succ]
          refine wpAnyH_ready (rs := [5]) (by kernel_rfl) (by simp) ?_
          refine AllReadyH.cons (List.getElem?_toArray.trans rfl) (fun K hK => ?_) AllReadyH.nil
          go_simp
          obtain ⟨x13, hC, kC, gx13, hzz⟩ := new1 x12 26 #[.bool false, .slice none 0 0, .slice none 0 0, .slice none 0 0]
          rw [← hC]
          clear hC hzz
          have hbig6 : w.heap.size < x12.heap.size := KM.out.lt
          first | (have h56 : b5 < x12.heap.size := K5.out.lt; generalize x12.heap.size = b6 at kC hbig6 h56 ⊢) | generalize x12.heap.size = b6 at kC hbig6 ⊢
          replace KM := Lib.hid (KM.out.keep0 gx13)
          replace HG := Lib.hid (gb_trans HG.out gx13)
          try replace K5 := Lib.hid (K5.out.keep0 gx13)
          try replace VL := Lib.hid (VL.out.keep0 gx13)
          try replace VI := Lib.hid (VI.out.keep0 gx13)
          have K6 := Lib.hid kC
          clear kC
          refine hK.out _ _ (⟨KM.out.cell 0 rfl, KM.out.cell 1 rfl⟩) (fun hHeld => ?_)
          clear hK K
          try simp only [Act.put, List.setIfInBounds_toArray, List.set_cons_zero, List.set_cons_succ]
          refine wpAnyH_ready (rs := [6]) (by kernel_rfl) (by simp) ?_
          refine AllReadyH.cons (List.getElem?_toArray.trans rfl) (fun K hK => ?_) AllReadyH.nil
          refine st_nodeO _ _ rfl b5 26 true la lc le (min L.length 30) 0 0 lb ld lf rfl (by first | rfl | simp [Act.eval]) _ _ _ _ K5.out ?_
          intro x14 n9 gx14
          replace VL := Lib.hid (VL.out.keepN (Nbl.node K5.out) gx14)
          replace VI := Lib.hid (VI.out.keepN (Nbl.node K5.out) gx14)
          replace K6 := Lib.hid (K6.out.keep gx14 (ne_some (by omega)))
          replace KM := Lib.hid (KM.out.keep gx14 (ne_some (by omega)))
          replace HG := Lib.hid (gb_step HG.out gx14 (by omega))
          replace K5 := Lib.hid n9
          clear n9
          refine hK.out _ _ (⟨KM.out.cell 0 rfl, KM.out.cell 1 rfl⟩) (fun hHeld => ?_)
          clear hK K
          try simp only [Act.put, List.setIfInBounds_toArray, List.set_cons_zero, List.set_cons_succ]
          refine wpAnyH_ready (rs := [7]) (by kernel_rfl) (by simp) ?_
          refine AllReadyH.cons (List.getElem?_toArray.trans rfl) (fun K hK => ?_) AllReadyH.nil
          refine st_nodeO _ _ rfl b6 26 false oa oc oe 0 (min L.length 30) (min L.length 30 + 1) ob od of rfl (by first | rfl | simp [Act.eval]) _ _ _ _ K6.out ?_
          intro x15 n9 gx15
          replace VL := Lib.hid (VL.out.keepN (Nbl.node K6.out) gx15)
          replace VI := Lib.hid (VI.out.keepN (Nbl.node K6.out) gx15)
          replace K5 := Lib.hid (K5.out.keep gx15 (ne_some (by omega)))
          replace KM := Lib.hid (KM.out.keep gx15 (ne_some (by omega)))
          replace HG := Lib.hid (gb_step HG.out gx15 (by omega))
          replace K6 := Lib.hid n9
          clear n9
          refine hK.out _ _ (⟨KM.out.cell 0 rfl, KM.out.cell 1 rfl⟩) (fun hHeld => ?_)
          clear hK K
          try simp only [Act.put, List.setIfInBounds_toArray, List.set_cons_zero, List.set_cons_succ]
          refine wpAnyH_done (by kernel_rfl) ?_ _
          refine NoPanic.normal ?_
          go_wp2_with fail
          go_meet
          exact ⟨b5, b6, rfl, rfl, ⟨la, lb, lc, ld, le, lf, K5.out, VL.out⟩, ⟨oa, ob, oc, od, oe, of, K6.out, VI.out⟩, HG.out⟩
        · go_simp
          obtain ⟨x16, hC, kC, gx16, hzz⟩ := new1 x11 26 #[.bool false, .slice none 0 0, .slice none 0 0, .slice none 0 0]
          rw [← hC]
          clear hC hzz
          have hbig6 : w.heap.size < x11.heap.size := KM.out.lt
          first | (have h56 : b5 < x11.heap.size := K5.out.lt; generalize x11.heap.size = b6 at kC hbig6 h56 ⊢) | generalize x11.heap.size = b6 at kC hbig6 ⊢
          replace KM := Lib.hid (KM.out.keep0 gx16)
          replace HG := Lib.hid (gb_trans HG.out gx16)
          try replace K5 := Lib.hid (K5.out.keep0 gx16)
          try replace VL := Lib.hid (VL.out.keep0 gx16)
          try replace VI := Lib.hid (VI.out.keep0 gx16)
          have K6 := Lib.hid kC
          clear kC
          refine hK.out _ _ (⟨KM.out.cell 0 rfl, KM.out.cell 1 rfl⟩) (fun hHeld => ?_)
          clear hK K
          try simp only [Act.put, List.setIfInBounds_toArray, List.set_cons_zero, List.set_cons_succ]
          refine wpAnyH_ready (rs := [3]) (by kernel_rfl) (by simp) ?_
          refine AllReadyH.cons (List.getElem?_toArray.trans rfl) (fun K hK => ?_) AllReadyH.nil
          go_simp
          go_at_call 9
          (with_reducible refine (HIF.out _ HG.out).mono ?_)
          rintro e x17 ⟨v, rfl, hv, gx17⟩
          obtain ⟨oa, ob, oc, od, oe, of, rfl⟩ := inner_parts hv
          replace KM := Lib.hid (KM.out.keep0 gx17)
          replace HG := Lib.hid (gb_trans HG.out gx17)
          try replace K5 := Lib.hid (K5.out.keep0 gx17)
          try replace K6 := Lib.hid (K6.out.keep0 gx17)
          try replace VL := Lib.hid (VL.out.keep0 gx17)
          have VI := Lib.hid hv
          clear hv
          refine hK.out _ _ (⟨KM.out.cell 0 rfl, KM.out.cell 1 rfl⟩) (fun hHeld => ?_)
          clear hK K
          try simp only [Act.put, List.setIfInBounds_toArray, List.set_cons_zero, List.set_cons_succ]
          refine wpAnyH_ready (rs := [6]) (by kernel_rfl) (by simp) ?_
          refine AllReadyH.cons (List.getElem?_toArray.trans rfl) (fun K hK => ?_) AllReadyH.nil
          refine st_nodeO _ _ rfl b5 26 true la lc le (min L.length 30) 0 0 lb ld lf rfl (by first | rfl | simp [Act.eval]) _ _ _ _ K5.out ?_
          intro x18 n9 gx18
          replace VL := Lib.hid (VL.out.keepN (Nbl.node K5.out) gx18)
          replace VI := Lib.hid (VI.out.keepN (Nbl.node K5.out) gx18)
          replace K6 := Lib.hid (K6.out.keep gx18 (ne_some (by omega)))
          replace KM := Lib.hid (KM.out.keep gx18 (ne_some (by omega)))
          replace HG := Lib.hid (gb_step HG.out gx18 (by omega))
          replace K5 := Lib.hid n9
          clear n9
          refine hK.out _ _ (⟨KM.out.cell 0 rfl, KM.out.cell 1 rfl⟩) (fun hHeld => ?_)
          clear hK K
          try simp only [Act.put, List.setIfInBounds_toArray, List.set_cons_zero, List.set_cons_succ]
          refine wpAnyH_ready (rs := [7]) (by kernel_rfl) (by simp) ?_
          refine AllReadyH.cons (List.getElem?_toArray.trans rfl) (fun K hK => ?_) AllReadyH.nil
          refine st_nodeO _ _ rfl b6 26 false oa oc oe 0 (min L.length 30) (min L.length 30 + 1) ob od of rfl (by first | rfl | simp [Act.eval]) _ _ _ _ K6.out ?_
          intro x19 n9 gx19
          replace VL := Lib.hid (VL.out.keepN (Nbl.node K6.out) gx19)
          replace VI := Lib.hid (VI.out.keepN (Nbl.node K6.out) gx19)
          replace K5 := Lib.hid (K5.out.keep gx19 (ne_some (by omega)))
          replace KM := Lib.hid (KM.out.keep gx19 (ne_some (by omega)))
          replace HG := Lib.hid (gb_step HG.out gx19 (by omega))
          replace K6 := Lib.hid n9
          clear n9
          refine hK.out _ _ (⟨KM.out.cell 0 rfl, KM.out.cell 1 rfl⟩) (fun hHeld => ?_)
          clear hK K
          try simp only [Act.put, List.setIfInBounds_toArray, List.set_cons_zero, List.set_cons_succ]
          refine wpAnyH_done (by kernel_rfl) ?_ _
          refine NoPanic.normal ?_
          go_wp2_with fail
          go_meet
          exact ⟨b5, b6, rfl, rfl, ⟨la, lb, lc, ld, le, lf, K5.out, VL.out⟩, ⟨oa, ob, oc, od, oe, of, K6.out, VI.out⟩, HG.out⟩
      · go_simp
        obtain ⟨x20, hC, kC, gx20, hzz⟩ := new1 x1 26 #[.bool false, .slice none 0 0, .slice none 0 0, .slice none 0 0]
        rw [← hC]
        clear hC hzz
        have hbig6 : w.heap.size < x1.heap.size := KM.out.lt
        first | (have h56 : b5 < x1.heap.size := K5.out.lt; generalize x1.heap.size = b6 at kC hbig6 h56 ⊢) | generalize x1.heap.size = b6 at kC hbig6 ⊢
        replace KM := Lib.hid (KM.out.keep0 gx20)
        replace HG := Lib.hid (gb_trans HG.out gx20)
        try replace K5 := Lib.hid (K5.out.keep0 gx20)
        try replace VL := Lib.hid (VL.out.keep0 gx20)
        try replace VI := Lib.hid (VI.out.keep0 gx20)
        have K6 := Lib.hid kC
        clear kC
        refine hK.out _ _ (⟨KM.out.cell 0 rfl, KM.out.cell 1 rfl⟩) (fun hHeld => ?_)
        clear hK K
        try simp only [Act.put, List.setIfInBounds_toArray, List.set_cons_zero, List.set_cons_succ]
        refine wpAnyH_ready (rs := [3, 4]) (by kernel_rfl) (by simp) ?_
        refine AllReadyH.cons (List.getElem?_toArray.trans rfl) (fun K hK => ?_) (AllReadyH.cons (List.getElem?_toArray.trans rfl) (fun K hK => ?_) AllReadyH.nil)
        · go_simp
          go_at_call 9
          (with_reducible refine (HIF.out _ HG.out).mono ?_)
          rintro e x21 ⟨v, rfl, hv, gx21⟩
          obtain ⟨oa, ob, oc, od, oe, of, rfl⟩ := inner_parts hv
          replace KM := Lib.hid (KM.out.keep0 gx21)
          replace HG := Lib.hid (gb_trans HG.out gx21)
          try replace K5 := Lib.hid (K5.out.keep0 gx21)
          try replace K6 := Lib.hid (K6.out.keep0 gx21)
          try replace VL := Lib.hid (VL.out.keep0 gx21)
          have VI := Lib.hid hv
          clear hv
          refine hK.out _ _ (⟨KM.out.cell 0 rfl, KM.out.cell 1 rfl⟩) (fun hHeld => ?_)
          clear hK K
          try simp only [Act.put, List.setIfInBounds_toArray, List.set_cons_zero, List.set_cons_succ]
          refine wpAnyH_ready (rs := [4]) (by kernel_rfl) (by simp) ?_
          refine AllReadyH.cons (List.getElem?_toArray.trans rfl) (fun K hK => ?_) AllReadyH.nil
          go_simp
          obtain ⟨x22, hC, kC, gx22, hzz⟩ := new1 x21 26 #[.bool false, .slice none 0 0, .slice none 0 0, .slice none 0 0]
          rw [← hC]
          clear hC hzz
          have hbig5 : w.heap.size < x21.heap.size := KM.out.lt
          first | (have h56 : b6 < x21.heap.size := K6.out.lt; generalize x21.heap.size = b5 at kC hbig5 h56 ⊢) | generalize x21.heap.size = b5 at kC hbig5 ⊢
          replace KM := Lib.hid (KM.out.keep0 gx22)
          replace HG := Lib.hid (gb_trans HG.out gx22)
          try replace K6 := Lib.hid (K6.out.keep0 gx22)
          try replace VL := Lib.hid (VL.out.keep0 gx22)
          try replace VI := Lib.hid (VI.out.keep0 gx22)
          have K5 := Lib.hid kC
          clear kC
          refine hK.out _ _ (⟨KM.out.cell 0 rfl, KM.out.cell 1 rfl⟩) (fun hHeld => ?_)
          clear hK K
          try simp only [Act.put, List.setIfInBounds_toArray, List.set_cons_zero, List.set_cons_succ]
          refine wpAnyH_ready (rs := [6]) (by kernel_rfl) (by simp) ?_
          refine AllReadyH.cons (List.getElem?_toArray.trans rfl) (fun K hK => ?_) AllReadyH.nil
          refine st_nodeO _ _ rfl b5 26 true la lc le (min L.length 30) 0 0 lb ld lf rfl (by first | rfl | simp [Act.eval]) _ _ _ _ K5.out ?_
          intro x23 n9 gx23
          replace VL := Lib.hid (VL.out.keepN (Nbl.node K5.out) gx23)
          replace VI := Lib.hid (VI.out.keepN (Nbl.node K5.out) gx23)
          replace K6 := Lib.hid (K6.out.keep gx23 (ne_some (by omega)))
          replace KM := Lib.hid (KM.out.keep gx23 (ne_some (by omega)))
          replace HG := Lib.hid (gb_step HG.out gx23 (by omega))
          replace K5 := Lib.hid n9
          clear n9
          refine hK.out _ _ (⟨KM.out.cell 0 rfl, KM.out.cell 1 rfl⟩) (fun hHeld => ?_)
          clear hK K
          try simp only [Act.put, List.setIfInBounds_toArray, List.set_cons_zero, List.set_cons_succ]
          refine wpAnyH_ready (rs := [7]) (by kernel_rfl) (by simp) ?_
          refine AllReadyH.cons (List.getElem?_toArray.trans rfl) (fun K hK => ?_) AllReadyH.nil
          refine st_nodeO _ _ rfl b6 26 false oa oc oe 0 (min L.length 30) (min L.length 30 + 1) ob od of rfl (by first | rfl | simp [Act.eval]) _ _ _ _ K6.out ?_
          intro x24 n9 gx24
          replace VL := Lib.hid (VL.out.keepN (Nbl.node K6.out) gx24)
          replace VI := Lib.hid (VI.out.keepN (Nbl.node K6.out) gx24)
          replace K5 := Lib.hid (K5.out.keep gx24 (ne_some (by omega)))
          replace KM := Lib.hid (KM.out.keep gx24 (ne_some (by omega)))
          replace HG := Lib.hid (gb_step HG.out gx24 (by omega))
          replace K6 := Lib.hid n9
          clear n9
          refine hK.out _ _ (⟨KM.out.cell 0 rfl, KM.out.cell 1 rfl⟩) (fun hHeld => ?_)
          clear hK K
          try simp only [Act.put, List.setIfInBounds_toArray, List.set_cons_zero, List.set_cons_succ]
          refine wpAnyH_done (by kernel_rfl) ?_ _
          refine NoPanic.normal ?_
          go_wp2_with fail
          go_meet
          exact ⟨b5, b6, rfl, rfl, ⟨la, lb, lc, ld, le, lf, K5.out, VL.out⟩, ⟨oa, ob, oc, od, oe, of, K6.out, VI.out⟩, HG.out⟩
        · go_simp
          obtain ⟨x25, hC, kC, gx25, hzz⟩ := new1 x20 26 #[.bool false, .slice none 0 0, .slice none 0 0, .slice none 0 0]
          rw [← hC]
          clear hC hzz
          have hbig5 : w.heap.size < x20.heap.size := KM.out.lt
          first | (have h56 : b6 < x20.heap.size := K6.out.lt; generalize x20.heap.size = b5 at kC hbig5 h56 ⊢) | generalize x20.heap.size = b5 at kC hbig5 ⊢
          replace KM := Lib.hid (KM.out.keep0 gx25)
          replace HG := Lib.hid (gb_trans HG.out gx25)
          try replace K6 := Lib.hid (K6.out.keep0 gx25)
          try replace VL := Lib.hid (VL.out.keep0 gx25)
          try replace VI := Lib.hid (VI.out.keep0 gx25)
          have K5 := Lib.hid kC
          clear kC
          refine hK.out _ _ (⟨KM.out.cell 0 rfl, KM.out.cell 1 rfl⟩) (fun hHeld => ?_)
          clear hK K
          try simp only [Act.put, List.setIfInBounds_toArray, List.set_cons_zero, List.set_cons_succ]
          refine wpAnyH_ready (rs := [3]) (by kernel_rfl) (by simp) ?_
          refine AllReadyH.cons (List.getElem?_toArray.trans rfl) (fun K hK => ?_) AllReadyH.nil
          go_simp
          go_at_call 9
          (with_reducible refine (HIF.out _ HG.out).mono ?_)
          rintro e x26 ⟨v, rfl, hv, gx26⟩
          obtain ⟨oa, ob, oc, od, oe, of, rfl⟩ := inner_parts hv
          replace KM := Lib.hid (KM.out.keep0 gx26)
          replace HG := Lib.hid (gb_trans HG.out gx26)
          try replace K5 := Lib.hid (K5.out.keep0 gx26)
          try replace K6 := Lib.hid (K6.out.keep0 gx26)
          try replace VL := Lib.hid (VL.out.keep0 gx26)
          have VI := Lib.hid hv
          clear hv
          refine hK.out _ _ (⟨KM.out.cell 0 rfl, KM.out.cell 1 rfl⟩) (fun hHeld => ?_)
          clear hK K
          try simp only [Act.put, List.setIfInBounds_toArray, List.set_cons_zero, List.set_cons_succ]
          refine wpAnyH_ready (rs := [6]) (by kernel_rfl) (by simp) ?_
          refine AllReadyH.cons (List.getElem?_toArray.trans rfl) (fun K hK => ?_) AllReadyH.nil
          refine st_nodeO _ _ rfl b5 26 true la lc le (min L.length 30) 0 0 lb ld lf rfl (by first | rfl | simp [Act.eval]) _ _ _ _ K5.out ?_
          intro x27 n9 gx27
          replace VL := Lib.hid (VL.out.keepN (Nbl.node K5.out) gx27)
          replace VI := Lib.hid (VI.out.keepN (Nbl.node K5.out) gx27)
          replace K6 := Lib.hid (K6.out.keep gx27 (ne_some (by omega)))
          replace KM := Lib.hid (KM.out.keep gx27 (ne_some (by omega)))
          replace HG := Lib.hid (gb_step HG.out gx27 (by omega))
          replace K5 := Lib.hid n9
          clear n9
          refine hK.out _ _ (⟨KM.out.cell 0 rfl, KM.out.cell 1 rfl⟩) (fun hHeld => ?_)
          clear hK K
          try simp only [Act.put, List.setIfInBounds_toArray, List.set_cons_zero, List.set_cons_succ]
          refine wpAnyH_ready (rs := [7]) (by kernel_rfl) (by simp) ?_
          refine AllReadyH.cons (List.getElem?_toArray.trans rfl) (fun K hK => ?_) AllReadyH.nil
          refine st_nodeO _ _ rfl b6 26 false oa oc oe 0 (min L.length 30) (min L.length 30 + 1) ob od of rfl (by first | rfl | simp [Act.eval]) _ _ _ _ K6.out ?_
          intro x28 n9 gx28
          replace VL := Lib.hid (VL.out.keepN (Nbl.node K6.out) gx28)
          replace VI := Lib.hid (VI.out.keepN (Nbl.node K6.out) gx28)
          replace K5 := Lib.hid (K5.out.keep gx28 (ne_some (by omega)))
          replace KM := Lib.hid (KM.out.keep gx28 (ne_some (by omega)))
          replace HG := Lib.hid (gb_step HG.out gx28 (by omega))
          replace K6 := Lib.hid n9
          clear n9
          refine hK.out _ _ (⟨KM.out.cell 0 rfl, KM.out.cell 1 rfl⟩) (fun hHeld => ?_)
          clear hK K
          try simp only [Act.put, List.setIfInBounds_toArray, List.set_cons_zero, List.set_cons_succ]
          refine wpAnyH_done (by kernel_rfl) ?_ _
          refine NoPanic.normal ?_
          go_wp2_with fail
          go_meet
          exact ⟨b5, b6, rfl, rfl, ⟨la, lb, lc, ld, le, lf, K5.out, VL.out⟩, ⟨oa, ob, oc, od, oe, of, K6.out, VI.out⟩, HG.out⟩
    · go_simp
      obtain ⟨x29, hC, kC, gx29, hzz⟩ := new1 x0 26 #[.bool false, .slice none 0 0, .slice none 0 0, .slice none 0 0]
      rw [← hC]
      clear hC hzz
      have hbig5 : w.heap.size < x0.heap.size := KM.out.lt
      first | (have h56 : b6 < x0.heap.size := K6.out.lt; generalize x0.heap.size = b5 at kC hbig5 h56 ⊢) | generalize x0.heap.size = b5 at kC hbig5 ⊢
      replace KM := Lib.hid (KM.out.keep0 gx29)
      replace HG := Lib.hid (gb_trans HG.out gx29)
      try replace K6 := Lib.hid (K6.out.keep0 gx29)
      try replace VL := Lib.hid (VL.out.keep0 gx29)
      try replace VI := Lib.hid (VI.out.keep0 gx29)
      have K5 := Lib.hid kC
      clear kC
      refine hK.out _ _ (⟨KM.out.cell 0 rfl, KM.out.cell 1 rfl⟩) (fun hHeld => ?_)
      clear hK K
      try simp only [Act.put, List.setIfInBounds_toArray, List.set_cons_zero, List.set_cons_succ]
      refine wpAnyH_ready (rs := [1, 5]) (by kernel_rfl) (by simp) ?_
      refine AllReadyH.cons (List.getElem?_toArray.trans rfl) (fun K hK => ?_) (AllReadyH.cons (List.getElem?_toArray.trans rfl) (fun K hK => ?_) AllReadyH.nil)
      · go_simp
        go_at_call 8
        (with_reducible refine (HLF.out _ HG.out).mono ?_)
        rintro e x30 ⟨v, rfl, hv, gx30⟩
        obtain ⟨la, lb, lc, ld, le, lf, rfl⟩ := leaf_parts hv
        replace KM := Lib.hid (KM.out.keep0 gx30)
        replace HG := Lib.hid (gb_trans HG.out gx30)
        try replace K5 := Lib.hid (K5.out.keep0 gx30)
        try replace K6 := Lib.hid (K6.out.keep0 gx30)
        try replace VI := Lib.hid (VI.out.keep0 gx30)
        have VL := Lib.hid hv
        clear hv
        refine hK.out _ _ (⟨KM.out.cell 0 rfl, KM.out.cell 1 rfl⟩) (fun hHeld => ?_)
        clear hK K
        try simp only [Act.put, List.setIfInBounds_toArray, List.set_cons_zero, List.set_cons_succ]
        refine wpAnyH_ready (rs := [3, 5]) (by kernel_rfl) (by simp) ?_
        refine AllReadyH.cons (List.getElem?_toArray.trans rfl) (fun K hK => ?_) (AllReadyH.cons (List.getElem?_toArray.trans rfl) (fun K hK => ?_) AllReadyH.nil)
        · go_simp
          go_at_call 9
          (with_reducible refine (HIF.out _ HG.out).mono ?_)
          rintro e x31 ⟨v, rfl, hv, gx31⟩
          obtain ⟨oa, ob, oc, od, oe, of, rfl⟩ := inner_parts hv
          replace KM := Lib.hid (KM.out.keep0 gx31)
          replace HG := Lib.hid (gb_trans HG.out gx31)
          try replace K5 := Lib.hid (K5.out.keep0 gx31)
          try replace K6 := Lib.hid (K6.out.keep0 gx31)
          try replace VL := Lib.hid (VL.out.keep0 gx31)
          have VI := Lib.hid hv
          clear hv
          refine hK.out _ _ (⟨KM.out.cell 0 rfl, KM.out.cell 1 rfl⟩) (fun hHeld => ?_)
          clear hK K
          try simp only [Act.put, List.setIfInBounds_toArray, List.set_cons_zero, List.set_cons_succ]
          refine wpAnyH_ready (rs := [5]) (by kernel_rfl) (by simp) ?_
          refine AllReadyH.cons (List.getElem?_toArray.trans rfl) (fun K hK => ?_) AllReadyH.nil
          go_simp
          obtain ⟨x32, hC, kC, gx32, hzz⟩ := new1 x31 26 #[.bool false, .slice none 0 0, .slice none 0 0, .slice none 0 0]
          rw [← hC]
          clear hC hzz
          have hbig6 : w.heap.size < x31.heap.size := KM.out.lt
          first | (have h56 : b5 < x31.heap.size := K5.out.lt; generalize x31.heap.size = b6 at kC hbig6 h56 ⊢) | generalize x31.heap.size = b6 at kC hbig6 ⊢
          replace KM := Lib.hid (KM.out.keep0 gx32)
          replace HG := Lib.hid (gb_trans HG.out gx32)
          try replace K5 := Lib.hid (K5.out.keep0 gx32)
          try replace VL := Lib.hid (VL.out.keep0 gx32)
          try replace VI := Lib.hid (VI.out.keep0 gx32)
          have K6 := Lib.hid kC
          clear kC
          refine hK.out _ _ (⟨KM.out.cell 0 rfl, KM.out.cell 1 rfl⟩) (fun hHeld => ?_)
          clear hK K
          try simp only [Act.put, List.setIfInBounds_toArray, List.set_cons_zero, List.set_cons_succ]
          refine wpAnyH_ready (rs := [6]) (by kernel_rfl) (by simp) ?_
          refine AllReadyH.cons (List.getElem?_toArray.trans rfl) (fun K hK => ?_) AllReadyH.nil
          refine st_nodeO _ _ rfl b5 26 true la lc le (min L.length 30) 0 0 lb ld lf rfl (by first | rfl | simp [Act.eval]) _ _ _ _ K5.out ?_
          intro x33 n9 gx33
          replace VL := Lib.hid (VL.out.keepN (Nbl.node K5.out) gx33)
          replace VI := Lib.hid (VI.out.keepN (Nbl.node K5.out) gx33)
          replace K6 := Lib.hid (K6.out.keep gx33 (ne_some (by omega)))
          replace KM := Lib.hid (KM.out.keep gx33 (ne_some (by omega)))
          replace HG := Lib.hid (gb_step HG.out gx33 (by omega))
          replace K5 := Lib.hid n9
          clear n9
          refine hK.out _ _ (⟨KM.out.cell 0 rfl, KM.out.cell 1 rfl⟩) (fun hHeld => ?_)
          clear hK K
          try simp only [Act.put, List.setIfInBounds_toArray, List.set_cons_zero, List.set_cons_succ]
          refine wpAnyH_ready (rs := [7]) (by kernel_rfl) (by simp) ?_
          refine AllReadyH.cons (List.getElem?_toArray.trans rfl) (fun K hK => ?_) AllReadyH.nil
          refine st_nodeO _ _ rfl b6 26 false oa oc oe 0 (min L.length 30) (min L.length 30 + 1) ob od of rfl (by first | rfl | simp [Act.eval]) _ _ _ _ K6.out ?_
          intro x34 n9 gx34
          replace VL := Lib.hid (VL.out.keepN (Nbl.node K6.out) gx34)
          replace VI := Lib.hid (VI.out.keepN (Nbl.node K6.out) gx34)
          replace K5 := Lib.hid (K5.out.keep gx34 (ne_some (by omega)))
          replace KM := Lib.hid (KM.out.keep gx34 (ne_some (by omega)))
          replace HG := Lib.hid (gb_step HG.out gx34 (by omega))
          replace K6 := Lib.hid n9
          clear n9
          refine hK.out _ _ (⟨KM.out.cell 0 rfl, KM.out.cell 1 rfl⟩) (fun hHeld => ?_)
          clear hK K
          try simp only [Act.put, List.setIfInBounds_toArray, List.set_cons_zero, List.set_cons_succ]
          refine wpAnyH_done (by kernel_rfl) ?_ _
          refine NoPanic.normal ?_
          go_wp2_with fail
          go_meet
          exact ⟨b5, b6, rfl, rfl, ⟨la, lb, lc, ld, le, lf, K5.out, VL.out⟩, ⟨oa, ob, oc, od, oe, of, K6.out, VI.out⟩, HG.out⟩
        · go_simp
          obtain ⟨x35, hC, kC, gx35, hzz⟩ := new1 x30 26 #[.bool false, .slice none 0 0, .slice none 0 0, .slice none 0 0]
          rw [← hC]
          clear hC hzz
          have hbig6 : w.heap.size < x30.heap.size := KM.out.lt
          first | (have h56 : b5 < x30.heap.size := K5.out.lt; generalize x30.heap.size = b6 at kC hbig6 h56 ⊢) | generalize x30.heap.size = b6 at kC hbig6 ⊢
          replace KM := Lib.hid (KM.out.keep0 gx35)
          replace HG := Lib.hid (gb_trans HG.out gx35)
          try replace K5 := Lib.hid (K5.out.keep0 gx35)
          try replace VL := Lib.hid (VL.out.keep0 gx35)
          try replace VI := Lib.hid (VI.out.keep0 gx35)
          have K6 := Lib.hid kC
          clear kC
          refine hK.out _ _ (⟨KM.out.cell 0 rfl, KM.out.cell 1 rfl⟩) (fun hHeld => ?_)
          clear hK K
          try simp only [Act.put, List.setIfInBounds_toArray, List.set_cons_zero, List.set_cons_succ]
          refine wpAnyH_ready (rs := [3]) (by kernel_rfl) (by simp) ?_
          refine AllReadyH.cons (List.getElem?_toArray.trans rfl) (fun K hK => ?_) AllReadyH.nil
          go_simp
          go_at_call 9
          (with_reducible refine (HIF.out _ HG.out).mono ?_)
          rintro e x36 ⟨v, rfl, hv, gx36⟩
          obtain ⟨oa, ob, oc, od, oe, of, rfl⟩ := inner_parts hv
          replace KM := Lib.hid (KM.out.keep0 gx36)
          replace HG := Lib.hid (gb_trans HG.out gx36)
          try replace K5 := Lib.hid (K5.out.keep0 gx36)
          try replace K6 := Lib.hid (K6.out.keep0 gx36)
          try replace VL := Lib.hid (VL.out.keep0 gx36)
          have VI := Lib.hid hv
          clear hv
          refine hK.out _ _ (⟨KM.out.cell 0 rfl, KM.out.cell 1 rfl⟩) (fun hHeld => ?_)
          clear hK K
          try simp only [Act.put, List.setIfInBounds_toArray, List.set_cons_zero, List.set_cons_succ]
          refine wpAnyH_ready (rs := [6]) (by kernel_rfl) (by simp) ?_
          refine AllReadyH.cons (List.getElem?_toArray.trans rfl) (fun K hK => ?_) AllReadyH.nil
          refine st_nodeO _ _ rfl b5 26 true la lc le (min L.length 30) 0 0 lb ld lf rfl (by first | rfl | simp [Act.eval]) _ _ _ _ K5.out ?_
          intro x37 n9 gx37
          replace VL := Lib.hid (VL.out.keepN (Nbl.node K5.out) gx37)
          replace VI := Lib.hid (VI.out.keepN (Nbl.node K5.out) gx37)
          replace K6 := Lib.hid (K6.out.keep gx37 (ne_some (by omega)))
          replace KM := Lib.hid (KM.out.keep gx37 (ne_some (by omega)))
          replace HG := Lib.hid (gb_step HG.out gx37 (by omega))
          replace K5 := Lib.hid n9
          clear n9
          refine hK.out _ _ (⟨KM.out.cell 0 rfl, KM.out.cell 1 rfl⟩) (fun hHeld => ?_)
          clear hK K
          try simp only [Act.put, List.setIfInBounds_toArray, List.set_cons_zero, List.set_cons_succ]
          refine wpAnyH_ready (rs := [7]) (by kernel_rfl) (by simp) ?_
          refine AllReadyH.cons (List.getElem?_toArray.trans rfl) (fun K hK => ?_) AllReadyH.nil
          refine st_nodeO _ _ rfl b6 26 false oa oc oe 0 (min L.length 30) (min L.length 30 + 1) ob od of rfl (by first | rfl | simp [Act.eval]) _ _ _ _ K6.out ?_
          intro x38 n9 gx38
          replace VL := Lib.hid (VL.out.keepN (Nbl.node K6.out) gx38)
          replace VI := Lib.hid (VI.out.keepN (Nbl.node K6.out) gx38)
          replace K5 := Lib.hid (K5.out.keep gx38 (ne_some (by omega)))
          replace KM := Lib.hid (KM.out.keep gx38 (ne_some (by omega)))
          replace HG := Lib.hid (gb_step HG.out gx38 (by omega))
          replace K6 := Lib.hid n9
          clear n9
          refine hK.out _ _ (⟨KM.out.cell 0 rfl, KM.out.cell 1 rfl⟩) (fun hHeld => ?_)
          clear hK K
          try simp only [Act.put, List.setIfInBounds_toArray, List.set_cons_zero, List.set_cons_succ]
          refine wpAnyH_done (by kernel_rfl) ?_ _
          refine NoPanic.normal ?_
          go_wp2_with fail
          go_meet
          exact ⟨b5, b6, rfl, rfl, ⟨la, lb, lc, ld, le, lf, K5.out, VL.out⟩, ⟨oa, ob, oc, od, oe, of, K6.out, VI.out⟩, HG.out⟩
      · go_simp
        obtain ⟨x39, hC, kC, gx39, hzz⟩ := new1 x29 26 #[.bool false, .slice none 0 0, .slice none 0 0, .slice none 0 0]
        rw [← hC]
        clear hC hzz
        have hbig6 : w.heap.size < x29.heap.size := KM.out.lt
        first | (have h56 : b5 < x29.heap.size := K5.out.lt; generalize x29.heap.size = b6 at kC hbig6 h56 ⊢) | generalize x29.heap.size = b6 at kC hbig6 ⊢
        replace KM := Lib.hid (KM.out.keep0 gx39)
        replace HG := Lib.hid (gb_trans HG.out gx39)
        try replace K5 := Lib.hid (K5.out.keep0 gx39)
        try replace VL := Lib.hid (VL.out.keep0 gx39)
        try replace VI := Lib.hid (VI.out.keep0 gx39)
        have K6 := Lib.hid kC
        clear kC
        refine hK.out _ _ (⟨KM.out.cell 0 rfl, KM.out.cell 1 rfl⟩) (fun hHeld => ?_)
        clear hK K
        try simp only [Act.put, List.setIfInBounds_toArray, List.set_cons_zero, List.set_cons_succ]
        refine wpAnyH_ready (rs := [1]) (by kernel_rfl) (by simp) ?_
        refine AllReadyH.cons (List.getElem?_toArray.trans rfl) (fun K hK => ?_) AllReadyH.nil
        go_simp
        go_at_call 8
        (with_reducible refine (HLF.out _ HG.out).mono ?_)
        rintro e x40 ⟨v, rfl, hv, gx40⟩
        obtain ⟨la, lb, lc, ld, le, lf, rfl⟩ := leaf_parts hv
        replace KM := Lib.hid (KM.out.keep0 gx40)
        replace HG := Lib.hid (gb_trans HG.out gx40)
        try replace K5 := Lib.hid (K5.out.keep0 gx40)
        try replace K6 := Lib.hid (K6.out.keep0 gx40)
        try replace VI := Lib.hid (VI.out.keep0 gx40)
        have VL := Lib.hid hv
        clear hv
        refine hK.out _ _ (⟨KM.out.cell 0 rfl, KM.out.cell 1 rfl⟩) (fun hHeld => ?_)
        clear hK K
        try simp only [Act.put, List.setIfInBounds_toArray, List.set_cons_zero, List.set_cons_succ]
        refine wpAnyH_ready (rs := [3]) (by kernel_rfl) (by simp) ?_
        refine AllReadyH.cons (List.getElem?_toArray.trans rfl) (fun K hK => ?_) AllReadyH.nil
        go_simp
        go_at_call 9
        (with_reducible refine (HIF.out _ HG.out).mono ?_)
        rintro e x41 ⟨v, rfl, hv, gx41⟩
        obtain ⟨oa, ob, oc, od, oe, of, rfl⟩ := inner_parts hv
        replace KM := Lib.hid (KM.out.keep0 gx41)
        replace HG := Lib.hid (gb_trans HG.out gx41)
        try replace K5 := Lib.hid (K5.out.keep0 gx41)
        try replace K6 := Lib.hid (K6.out.keep0 gx41)
        try replace VL := Lib.hid (VL.out.keep0 gx41)
        have VI := Lib.hid hv
        clear hv
        refine hK.out _ _ (⟨KM.out.cell 0 rfl, KM.out.cell 1 rfl⟩) (fun hHeld => ?_)
        clear hK K
        try simp only [Act.put, List.setIfInBounds_toArray, List.set_cons_zero, List.set_cons_succ]
        refine wpAnyH_ready (rs := [6]) (by kernel_rfl) (by simp) ?_
        refine AllReadyH.cons (List.getElem?_toArray.trans rfl) (fun K hK => ?_) AllReadyH.nil
        refine st_nodeO _ _ rfl b5 26 true la lc le (min L.length 30) 0 0 lb ld lf rfl (by first | rfl | simp [Act.eval]) _ _ _ _ K5.out ?_
        intro x42 n9 gx42
        replace VL := Lib.hid (VL.out.keepN (Nbl.node K5.out) gx42)
        replace VI := Lib.hid (VI.out.keepN (Nbl.node K5.out) gx42)
        replace K6 := Lib.hid (K6.out.keep gx42 (ne_some (by omega)))
        replace KM := Lib.hid (KM.out.keep gx42 (ne_some (by omega)))
        replace HG := Lib.hid (gb_step HG.out gx42 (by omega))
        replace K5 := Lib.hid n9
        clear n9
        refine hK.out _ _ (⟨KM.out.cell 0 rfl, KM.out.cell 1 rfl⟩) (fun hHeld => ?_)
        clear hK K
        try simp only [Act.put, List.setIfInBounds_toArray, List.set_cons_zero, List.set_cons_succ]
        refine wpAnyH_ready (rs := [7]) (by kernel_rfl) (by simp) ?_
        refine AllReadyH.cons (List.getElem?_toArray.trans rfl) (fun K hK => ?_) AllReadyH.nil
        refine st_nodeO _ _ rfl b6 26 false oa oc oe 0 (min L.length 30) (min L.length 30 + 1) ob od of rfl (by first | rfl | simp [Act.eval]) _ _ _ _ K6.out ?_
        intro x43 n9 gx43
        replace VL := Lib.hid (VL.out.keepN (Nbl.node K6.out) gx43)
        replace VI := Lib.hid (VI.out.keepN (Nbl.node K6.out) gx43)
        replace K5 := Lib.hid (K5.out.keep gx43 (ne_some (by omega)))
        replace KM := Lib.hid (KM.out.keep gx43 (ne_some (by omega)))
        replace HG := Lib.hid (gb_step HG.out gx43 (by omega))
        replace K6 := Lib.hid n9
        clear n9
        refine hK.out _ _ (⟨KM.out.cell 0 rfl, KM.out.cell 1 rfl⟩) (fun hHeld => ?_)
        clear hK K
        try simp only [Act.put, List.setIfInBounds_toArray, List.set_cons_zero, List.set_cons_succ]
        refine wpAnyH_done (by kernel_rfl) ?_ _
        refine NoPanic.normal ?_
        go_wp2_with fail
        go_meet
        exact ⟨b5, b6, rfl, rfl, ⟨la, lb, lc, ld, le, lf, K5.out, VL.out⟩, ⟨oa, ob, oc, od, oe, of, K6.out, VI.out⟩, HG.out⟩
    · go_simp
      obtain ⟨x44, hC, kC, gx44, hzz⟩ := new1 x0 26 #[.bool false, .slice none 0 0, .slice none 0 0, .slice none 0 0]
      rw [← hC]
      clear hC hzz
      have hbig6 : w.heap.size < x0.heap.size := KM.out.lt
      first | (have h56 : b5 < x0.heap.size := K5.out.lt; generalize x0.heap.size = b6 at kC hbig6 h56 ⊢) | generalize x0.heap.size = b6 at kC hbig6 ⊢
      replace KM := Lib.hid (KM.out.keep0 gx44)
      replace HG := Lib.hid (gb_trans HG.out gx44)
      try replace K5 := Lib.hid (K5.out.keep0 gx44)
      try replace VL := Lib.hid (VL.out.keep0 gx44)
      try replace VI := Lib.hid (VI.out.keep0 gx44)
      have K6 := Lib.hid kC
      clear kC
      refine hK.out _ _ (⟨KM.out.cell 0 rfl, KM.out.cell 1 rfl⟩) (fun hHeld => ?_)
      clear hK K
      try simp only [Act.put, List.setIfInBounds_toArray, List.set_cons_zero, List.set_cons_succ]
      refine wpAnyH_ready (rs := [1, 4]) (by kernel_rfl) (by simp) ?_
      refine AllReadyH.cons (List.getElem?_toArray.trans rfl) (fun K hK => ?_) (AllReadyH.cons (List.getElem?_toArray.trans rfl) (fun K hK => ?_) AllReadyH.nil)
      · go_simp
        go_at_call 8
        (with_reducible refine (HLF.out _ HG.out).mono ?_)
        rintro e x45 ⟨v, rfl, hv, gx45⟩
        obtain ⟨la, lb, lc, ld, le, lf, rfl⟩ := leaf_parts hv
        replace KM := Lib.hid (KM.out.keep0 gx45)
        replace HG := Lib.hid (gb_trans HG.out gx45)
        try replace K5 := Lib.hid (K5.out.keep0 gx45)
        try replace K6 := Lib.hid (K6.out.keep0 gx45)
        try replace VI := Lib.hid (VI.out.keep0 gx45)
        have VL := Lib.hid hv
        clear hv
        refine hK.out _ _ (⟨KM.out.cell 0 rfl, KM.out.cell 1 rfl⟩) (fun hHeld => ?_)
        clear hK K
        try simp only [Act.put, List.setIfInBounds_toArray, List.set_cons_zero, List.set_cons_succ]
        refine wpAnyH_ready (rs := [3, 4]) (by kernel_rfl) (by simp) ?_
        refine AllReadyH.cons (List.getElem?_toArray.trans rfl) (fun K hK => ?_) (AllReadyH.cons (List.getElem?_toArray.trans rfl) (fun K hK => ?_) AllReadyH.nil)
        · go_simp
          go_at_call 9
          (with_reducible refine (HIF.out _ HG.out).mono ?_)
          rintro e x46 ⟨v, rfl, hv, gx46⟩
          obtain ⟨oa, ob, oc, od, oe, of, rfl⟩ := inner_parts hv
          replace KM := Lib.hid (KM.out.keep0 gx46)
          replace HG := Lib.hid (gb_trans HG.out gx46)
          try replace K5 := Lib.hid (K5.out.keep0 gx46)
          try replace K6 := Lib.hid (K6.out.keep0 gx46)
          try replace VL := Lib.hid (VL.out.keep0 gx46)
          have VI := Lib.hid hv
          clear hv
          refine hK.out _ _ (⟨KM.out.cell 0 rfl, KM.out.cell 1 rfl⟩) (fun hHeld => ?_)
          clear hK K
          try simp only [Act.put, List.setIfInBounds_toArray, List.set_cons_zero, List.set_cons_succ]
          refine wpAnyH_ready (rs := [4]) (by kernel_rfl) (by simp) ?_
          refine AllReadyH.cons (List.getElem?_toArray.trans rfl) (fun K hK => ?_) AllReadyH.nil
          go_simp
          obtain ⟨x47, hC, kC, gx47, hzz⟩ := new1 x46 26 #[.bool false, .slice none 0 0, .slice none 0 0, .slice none 0 0]
          rw [← hC]
          clear hC hzz
          have hbig5 : w.heap.size < x46.heap.size := KM.out.lt
          first | (have h56 : b6 < x46.heap.size := K6.out.lt; generalize x46.heap.size = b5 at kC hbig5 h56 ⊢) | generalize x46.heap.size = b5 at kC hbig5 ⊢
          replace KM := Lib.hid (KM.out.keep0 gx47)
          replace HG := Lib.hid (gb_trans HG.out gx47)
          try replace K6 := Lib.hid (K6.out.keep0 gx47)
          try replace VL := Lib.hid (VL.out.keep0 gx47)
          try replace VI := Lib.hid (VI.out.keep0 gx47)
          have K5 := Lib.hid kC
          clear kC
          refine hK.out _ _ (⟨KM.out.cell 0 rfl, KM.out.cell 1 rfl⟩) (fun hHeld => ?_)
          clear hK K
          try simp only [Act.put, List.setIfInBounds_toArray, List.set_cons_zero, List.set_cons_succ]
          refine wpAnyH_ready (rs := [6]) (by kernel_rfl) (by simp) ?_
          refine AllReadyH.cons (List.getElem?_toArray.trans rfl) (fun K hK => ?_) AllReadyH.nil
          refine st_nodeO _ _ rfl b5 26 true la lc le (min L.length 30) 0 0 lb ld lf rfl (by first | rfl | simp [Act.eval]) _ _ _ _ K5.out ?_
          intro x48 n9 gx48
          replace VL := Lib.hid (VL.out.keepN (Nbl.node K5.out) gx48)
          replace VI := Lib.hid (VI.out.keepN (Nbl.node K5.out) gx48)
          replace K6 := Lib.hid (K6.out.keep gx48 (ne_some (by omega)))
          replace KM := Lib.hid (KM.out.keep gx48 (ne_some (by omega)))
          replace HG := Lib.hid (gb_step HG.out gx48 (by omega))
          replace K5 := Lib.hid n9
          clear n9
          refine hK.out _ _ (⟨KM.out.cell 0 rfl, KM.out.cell 1 rfl⟩) (fun hHeld => ?_)
          clear hK K
          try simp only [Act.put, List.setIfInBounds_toArray, List.set_cons_zero, List.set_cons_succ]
          refine wpAnyH_ready (rs := [7]) (by kernel_rfl) (by simp) ?_
          refine AllReadyH.cons (List.getElem?_toArray.trans rfl) (fun K hK => ?_) AllReadyH.nil
          refine st_nodeO _ _ rfl b6 26 false oa oc oe 0 (min L.length 30) (min L.length 30 + 1) ob od of rfl (by first | rfl | simp [Act.eval]) _ _ _ _ K6.out ?_
          intro x49 n9 gx49
          replace VL := Lib.hid (VL.out.keepN (Nbl.node K6.out) gx49)
          replace VI := Lib.hid (VI.out.keepN (Nbl.node K6.out) gx49)
          replace K5 := Lib.hid (K5.out.keep gx49 (ne_some (by omega)))
          replace KM := Lib.hid (KM.out.keep gx49 (ne_some (by omega)))
          replace HG := Lib.hid (gb_step HG.out gx49 (by omega))
          replace K6 := Lib.hid n9
          clear n9
          refine hK.out _ _ (⟨KM.out.cell 0 rfl, KM.out.cell 1 rfl⟩) (fun hHeld => ?_)
          clear hK K
          try simp only [Act.put, List.setIfInBounds_toArray, List.set_cons_zero, List.set_cons_succ]
          refine wpAnyH_done (by kernel_rfl) ?_ _
          refine NoPanic.normal ?_
          go_wp2_with fail
          go_meet
          exact ⟨b5, b6, rfl, rfl, ⟨la, lb, lc, ld, le, lf, K5.out, VL.out⟩, ⟨oa, ob, oc, od, oe, of, K6.out, VI.out⟩, HG.out⟩
        · go_simp
          obtain ⟨x50, hC, kC, gx50, hzz⟩ := new1 x45 26 #[.bool false, .slice none 0 0, .slice none 0 0, .slice none 0 0]
          rw [← hC]
          clear hC hzz
          have hbig5 : w.heap.size < x45.heap.size := KM.out.lt
          first | (have h56 : b6 < x45.heap.size := K6.out.lt; generalize x45.heap.size = b5 at kC hbig5 h56 ⊢) | generalize x45.heap.size = b5 at kC hbig5 ⊢
          replace KM := Lib.hid (KM.out.keep0 gx50)
          replace HG := Lib.hid (gb_trans HG.out gx50)
          try replace K6 := Lib.hid (K6.out.keep0 gx50)
          try replace VL := Lib.hid (VL.out.keep0 gx50)
          try replace VI := Lib.hid (VI.out.keep0 gx50)
          have K5 := Lib.hid kC
          clear kC
          refine hK.out _ _ (⟨KM.out.cell 0 rfl, KM.out.cell 1 rfl⟩) (fun hHeld => ?_)
          clear hK K
          try simp only [Act.put, List.setIfInBounds_toArray, List.set_cons_zero, List.set_cons_succ]
          refine wpAnyH_ready (rs := [3]) (by kernel_rfl) (by simp) ?_
          refine AllReadyH.cons (List.getElem?_toArray.trans rfl) (fun K hK => ?_) AllReadyH.nil
          go_simp
          go_at_call 9
          (with_reducible refine (HIF.out _ HG.out).mono ?_)
          rintro e x51 ⟨v, rfl, hv, gx51⟩
          obtain ⟨oa, ob, oc, od, oe, of, rfl⟩ := inner_parts hv
          replace KM := Lib.hid (KM.out.keep0 gx51)
          replace HG := Lib.hid (gb_trans HG.out gx51)
          try replace K5 := Lib.hid (K5.out.keep0 gx51)
          try replace K6 := Lib.hid (K6.out.keep0 gx51)
          try replace VL := Lib.hid (VL.out.keep0 gx51)
          have VI := Lib.hid hv
          clear hv
          refine hK.out _ _ (⟨KM.out.cell 0 rfl, KM.out.cell 1 rfl⟩) (fun hHeld => ?_)
          clear hK K
          try simp only [Act.put, List.setIfInBounds_toArray, List.set_cons_zero, List.set_cons_succ]
          refine wpAnyH_ready (rs := [6]) (by kernel_rfl) (by simp) ?_
          refine AllReadyH.cons (List.getElem?_toArray.trans rfl) (fun K hK => ?_) AllReadyH.nil
          refine st_nodeO _ _ rfl b5 26 true la lc le (min L.length 30) 0 0 lb ld lf rfl (by first | rfl | simp [Act.eval]) _ _ _ _ K5.out ?_
          intro x52 n9 gx52
          replace VL := Lib.hid (VL.out.keepN (Nbl.node K5.out) gx52)
          replace VI := Lib.hid (VI.out.keepN (Nbl.node K5.out) gx52)
          replace K6 := Lib.hid (K6.out.keep gx52 (ne_some (by omega)))
          replace KM := Lib.hid (KM.out.keep gx52 (ne_some (by omega)))
          replace HG := Lib.hid (gb_step HG.out gx52 (by omega))
          replace K5 := Lib.hid n9
          clear n9
          refine hK.out _ _ (⟨KM.out.cell 0 rfl, KM.out.cell 1 rfl⟩) (fun hHeld => ?_)
          clear hK K
          try simp only [Act.put, List.setIfInBounds_toArray, List.set_cons_zero, List.set_cons_succ]
          refine wpAnyH_ready (rs := [7]) (by kernel_rfl) (by simp) ?_
          refine AllReadyH.cons (List.getElem?_toArray.trans rfl) (fun K hK => ?_) AllReadyH.nil
          refine st_nodeO _ _ rfl b6 26 false oa oc oe 0 (min L.length 30) (min L.length 30 + 1) ob od of rfl (by first | rfl | simp [Act.eval]) _ _ _ _ K6.out ?_
          intro x53 n9 gx53
          replace VL := Lib.hid (VL.out.keepN (Nbl.node K6.out) gx53)
          replace VI := Lib.hid (VI.out.keepN (Nbl.node K6.out) gx53)
          replace K5 := Lib.hid (K5.out.keep gx53 (ne_some (by omega)))
          replace KM := Lib.hid (KM.out.keep gx53 (ne_some (by omega)))
          replace HG := Lib.hid (gb_step HG.out gx53 (by omega))
          replace K6 := Lib.hid n9
          clear n9
          refine hK.out _ _ (⟨KM.out.cell 0 rfl, KM.out.cell 1 rfl⟩) (fun hHeld => ?_)
          clear hK K
          try simp only [Act.put, List.setIfInBounds_toArray, List.set_cons_zero, List.set_cons_succ]
          refine wpAnyH_done (by kernel_rfl) ?_ _
          refine NoPanic.normal ?_
          go_wp2_with fail
          go_meet
          exact ⟨b5, b6, rfl, rfl, ⟨la, lb, lc, ld, le, lf, K5.out, VL.out⟩, ⟨oa, ob, oc, od, oe, of, K6.out, VI.out⟩, HG.out⟩
      · go_simp
        obtain ⟨x54, hC, kC, gx54, hzz⟩ := new1 x44 26 #[.bool false, .slice none 0 0, .slice none 0 0, .slice none 0 0]
        rw [← hC]
        clear hC hzz
        have hbig5 : w.heap.size < x44.heap.size := KM.out.lt
        first | (have h56 : b6 < x44.heap.size := K6.out.lt; generalize x44.heap.size = b5 at kC hbig5 h56 ⊢) | generalize x44.heap.size = b5 at kC hbig5 ⊢
        replace KM := Lib.hid (KM.out.keep0 gx54)
        replace HG := Lib.hid (gb_trans HG.out gx54)
        try replace K6 := Lib.hid (K6.out.keep0 gx54)
        try replace VL := Lib.hid (VL.out.keep0 gx54)
        try replace VI := Lib.hid (VI.out.keep0 gx54)
        have K5 := Lib.hid kC
        clear kC
        refine hK.out _ _ (⟨KM.out.cell 0 rfl, KM.out.cell 1 rfl⟩) (fun hHeld => ?_)
        clear hK K
        try simp only [Act.put, List.setIfInBounds_toArray, List.set_cons_zero, List.set_cons_succ]
        refine wpAnyH_ready (rs := [1]) (by kernel_rfl) (by simp) ?_
        refine AllReadyH.cons (List.getElem?_toArray.trans rfl) (fun K hK => ?_) AllReadyH.nil
        go_simp
        go_at_call 8
        (with_reducible refine (HLF.out _ HG.out).mono ?_)
        rintro e x55 ⟨v, rfl, hv, gx55⟩
        obtain ⟨la, lb, lc, ld, le, lf, rfl⟩ := leaf_parts hv
        replace KM := Lib.hid (KM.out.keep0 gx55)
        replace HG := Lib.hid (gb_trans HG.out gx55)
        try replace K5 := Lib.hid (K5.out.keep0 gx55)
        try replace K6 := Lib.hid (K6.out.keep0 gx55)
        try replace VI := Lib.hid (VI.out.keep0 gx55)
        have VL := Lib.hid hv
        clear hv
        refine hK.out _ _ (⟨KM.out.cell 0 rfl, KM.out.cell 1 rfl⟩) (fun hHeld => ?_)
        clear hK K
        try simp only [Act.put, List.setIfInBounds_toArray, List.set_cons_zero, List.set_cons_succ]
        refine wpAnyH_ready (rs := [3]) (by kernel_rfl) (by simp) ?_
        refine AllReadyH.cons (List.getElem?_toArray.trans rfl) (fun K hK => ?_) AllReadyH.nil
        go_simp
        go_at_call 9
        (with_reducible refine (HIF.out _ HG.out).mono ?_)
        rintro e x56 ⟨v, rfl, hv, gx56⟩
        obtain ⟨oa, ob, oc, od, oe, of, rfl⟩ := inner_parts hv
        replace KM := Lib.hid (KM.out.keep0 gx56)
        replace HG := Lib.hid (gb_trans HG.out gx56)
        try replace K5 := Lib.hid (K5.out.keep0 gx56)
        try replace K6 := Lib.hid (K6.out.keep0 gx56)
        try replace VL := Lib.hid (VL.out.keep0 gx56)
        have VI := Lib.hid hv
        clear hv
        refine hK.out _ _ (⟨KM.out.cell 0 rfl, KM.out.cell 1 rfl⟩) (fun hHeld => ?_)
        clear hK K
        try simp only [Act.put, List.setIfInBounds_toArray, List.set_cons_zero, List.set_cons_succ]
        refine wpAnyH_ready (rs := [6]) (by kernel_rfl) (by simp) ?_
        refine AllReadyH.cons (List.getElem?_toArray.trans rfl) (fun K hK => ?_) AllReadyH.nil
        refine st_nodeO _ _ rfl b5 26 true la lc le (min L.length 30) 0 0 lb ld lf rfl (by first | rfl | simp [Act.eval]) _ _ _ _ K5.out ?_
        intro x57 n9 gx57
        replace VL := Lib.hid (VL.out.keepN (Nbl.node K5.out) gx57)
        replace VI := Lib.hid (VI.out.keepN (Nbl.node K5.out) gx57)
        replace K6 := Lib.hid (K6.out.keep gx57 (ne_some (by omega)))
        replace KM := Lib.hid (KM.out.keep gx57 (ne_some (by omega)))
        replace HG := Lib.hid (gb_step HG.out gx57 (by omega))
        replace K5 := Lib.hid n9
        clear n9
        refine hK.out _ _ (⟨KM.out.cell 0 rfl, KM.out.cell 1 rfl⟩) (fun hHeld => ?_)
        clear hK K
        try simp only [Act.put, List.setIfInBounds_toArray, List.set_cons_zero, List.set_cons_succ]
        refine wpAnyH_ready (rs := [7]) (by kernel_rfl) (by simp) ?_
        refine AllReadyH.cons (List.getElem?_toArray.trans rfl) (fun K hK => ?_) AllReadyH.nil
        refine st_nodeO _ _ rfl b6 26 false oa oc oe 0 (min L.length 30) (min L.length 30 + 1) ob od of rfl (by first | rfl | simp [Act.eval]) _ _ _ _ K6.out ?_
        intro x58 n9 gx58
        replace VL := Lib.hid (VL.out.keepN (Nbl.node K6.out) gx58)
        replace VI := Lib.hid (VI.out.keepN (Nbl.node K6.out) gx58)
        replace K5 := Lib.hid (K5.out.keep gx58 (ne_some (by omega)))
        replace KM := Lib.hid (KM.out.keep gx58 (ne_some (by omega)))
        replace HG := Lib.hid (gb_step HG.out gx58 (by omega))
        replace K6 := Lib.hid n9
        clear n9
        refine hK.out _ _ (⟨KM.out.cell 0 rfl, KM.out.cell 1 rfl⟩) (fun hHeld => ?_)
        clear hK K
        try simp only [Act.put, List.setIfInBounds_toArray, List.set_cons_zero, List.set_cons_succ]
        refine wpAnyH_done (by kernel_rfl) ?_ _
        refine NoPanic.normal ?_
        go_wp2_with fail
        go_meet
        exact ⟨b5, b6, rfl, rfl, ⟨la, lb, lc, ld, le, lf, K5.out, VL.out⟩, ⟨oa, ob, oc, od, oe, of, K6.out, VI.out⟩, HG.out⟩
  case rest =>
    obtain ⟨b5, b6, rfl, rfl, ⟨la, lb, lc, ld, le, lf, k5, vl⟩, ⟨oa, ob, oc, od, oe, of, k6, vo⟩, gx⟩ := hcut
    have HGX := Lib.hid gx
    clear gx
    have hcl : (leafM h L).cells = cellsM h L (min L.length 30) := rfl
    have hkl : (innerM h L).keys = keysM h L (min L.length 30) := rfl
    obtain ⟨m, hm⟩ : ∃ m, min L.length 30 = m := ⟨_, rfl⟩
    have hm30 : m ≤ 30 := by omega
    rw [hm] at k5 k6 vl vo hcl hkl
    obtain ⟨i, hi⟩ : ∃ i, aheadF (fun c : Ce => ltS c.key key) (cellsM h L m) = i := ⟨_, rfl⟩
    obtain ⟨k, hk⟩ : ∃ k, aheadF (fun c => leS c key) (keysM h L m) = k := ⟨_, rfl⟩
    obtain ⟨is, his⟩ : ∃ b, hitB (cellsM h L m) i key = b := ⟨_, rfl⟩
    have him : i ≤ m := by have := aheadF_le (fun c : Ce => ltS c.key key) (cellsM h L m); rw [hi, cellsM_length] at this; exact this
    have hkm : k ≤ m := by have := aheadF_le (fun c => leS c key) (keysM h L m); rw [hk, keysM_length] at this; exact this
    have HA1 : Hid (∀ j x, (cellsM h L m)[j]? = some x → decide (j < i) = ltS x.key key) := Lib.hid (fun j x hx => by rw [← hi]; exact leaf_ahead h L m (by omega) key j x hx)
    have HA2 : Hid (∀ j x, (keysM h L m)[j]? = some x → decide (j < k) = leS x key) := Lib.hid (fun j x hx => by rw [← hk]; exact inner_ahead h L m (by omega) key j x hx)
    have HF1 : Hid (∀ W v, NdV W v (leafM h L) → Calls Tryz.prog 19 #[v, .string key] W fun e w' => e = .returned (.tuple #[.int .i64 (i : Nat), .bool is]) ∧ W.grownBy w' none) := Lib.hid (fun W v hv => (find_any v _ key W hv (leafM_half h L)).mono fun e w' hq => by
      unfold FindGot findF at hq
      rw [hcl, hi, his, if_pos (show (leafM h L).leaf = true from rfl)] at hq
      exact hq)
    have HF2 : Hid (∀ W v, NdV W v (innerM h L) → Calls Tryz.prog 19 #[v, .string key] W fun e w' => e = .returned (.tuple #[.int .i64 (k : Nat), .bool true]) ∧ W.grownBy w' none) := Lib.hid (fun W v hv => (find_any v _ key W hv (innerM_half h L)).mono fun e w' hq => by
      unfold FindGot findF at hq
      rw [hkl, hk, if_neg (show ¬ (innerM h L).leaf = true from Bool.false_ne_true)] at hq
      exact hq)
    have VL := Lib.hid vl
    have VI := Lib.hid vo
    have HIS := Lib.hid his
    have HM := Lib.hid hm
    have q1 : decide ((i : Int) < 0) = false := decide_eq_false (by omega)
    have q2 : decide ((k : Int) < 0) = false := decide_eq_false (by omega)
    have q3 : decide ((m : Int) < (i : Int)) = false := decide_eq_false (by omega)
    have q4 : decide ((m : Int) < (k : Int)) = false := decide_eq_false (by omega)
    have q5 : decide (m < i) = false := decide_eq_false (by omega)
    have q6 : decide (m < k) = false := decide_eq_false (by omega)
    have l0 := k5.cell 0 rfl
    have l1 := k5.cell 1 rfl
    have l2 := k5.cell 2 rfl
    have l3 := k5.cell 3 rfl
    have o0 := k6.cell 0 rfl
    have o1 := k6.cell 1 rfl
    have o2 := k6.cell 2 rfl
    have o3 := k6.cell 3 rfl
    clear vl vo hi hk his hcl hkl hm k5 k6
    go_wp2_with (first
      | (go_at_call 19; (with_reducible refine (HF1.out _ _ VL.out).mono ?_); rintro e w2 ⟨rfl, g2⟩; replace HGX := Lib.hid (gb_trans HGX.out g2); replace VL := Lib.hid (VL.out.keep0 g2); replace VI := Lib.hid (VI.out.keep0 g2); replace l0 := World.grownBy.cell g2 l0 (by simp); replace l1 := World.grownBy.cell g2 l1 (by simp); replace l2 := World.grownBy.cell g2 l2 (by simp); replace l3 := World.grownBy.cell g2 l3 (by simp); replace o0 := World.grownBy.cell g2 o0 (by simp); replace o1 := World.grownBy.cell g2 o1 (by simp); replace o2 := World.grownBy.cell g2 o2 (by simp); replace o3 := World.grownBy.cell g2 o3 (by simp); clear g2)
      | (go_at_call 19; (with_reducible refine (HF2.out _ _ VI.out).mono ?_); rintro e w3 ⟨rfl, g3⟩; replace HGX := Lib.hid (gb_trans HGX.out g3); replace VL := Lib.hid (VL.out.keep0 g3); replace VI := Lib.hid (VI.out.keep0 g3); replace l0 := World.grownBy.cell g3 l0 (by simp); replace l1 := World.grownBy.cell g3 l1 (by simp); replace l2 := World.grownBy.cell g3 l2 (by simp); replace l3 := World.grownBy.cell g3 l3 (by simp); replace o0 := World.grownBy.cell g3 o0 (by simp); replace o1 := World.grownBy.cell g3 o1 (by simp); replace o2 := World.grownBy.cell g3 o2 (by simp); replace o3 := World.grownBy.cell g3 o3 (by simp); clear g3))
    have HC1 := Lib.hid (sl_open (NdV.open VL.out).1)
    have HC2 := Lib.hid (sl_open (NdV.open VI.out).2.1)
    have hl0 : (leafM h L).cells.length = m := by rw [← HM.out]; exact cellsM_length h L _
    have hl1 : (innerM h L).keys.length = m := by rw [← HM.out]; exact keysM_length h L _
    have hl2 : (leafM h L).cells = cellsM h L m := by rw [← HM.out]; rfl
    have hl3 : (innerM h L).keys = keysM h L m := by rw [← HM.out]; rfl
    rw [hl0, hl2] at HC1
    rw [hl1, hl3] at HC2
    clear hl0 hl1 hl2 hl3
    go_loopw [11] (fun J wr => ∃ j : Nat, j ≤ m ∧ J = .int .i64 j ∧ wr = w3) (fun J _ => m - (intOf J).toNat)
    case atStart => exact ⟨0, Nat.zero_le _, rfl, rfl⟩
    case round =>
      obtain ⟨j, hj, rfl, rfl⟩ := hrel
      by_cases hlt : j < m
      · obtain ⟨x, hx⟩ : ∃ x, (cellsM h L m)[j]? = some x := ⟨_, List.getElem?_eq_getElem (by rw [cellsM_length]; exact hlt)⟩
        have hb := HA1.out j x hx
        cases la with
        | none => have := HC1.out.1 rfl; omega
        | some a =>
        obtain ⟨c0, c1, c2, c3⟩ := cat_of (HC1.out.2 a rfl) hx
        clear hx c1 c2 c3
        unfold ltS at hb
        rcases hd : decide (j < i) with _ | _
        all_goals
          rw [hd] at hb
          have hb' := hb.symm
          clear hb
          go_wp2
          go_roundw
          case rel => exact ⟨j + 1, by omega, by go_num, by first | trivial | rfl⟩
          case measure => simp [intOf]; omega
      · obtain rfl : m = j := by omega
        go_wp2
        go_loopw [12] (fun J wz => ∃ j : Nat, j ≤ m ∧ J = .int .i64 j ∧ wz = wr) (fun J _ => m - (intOf J).toNat)
        case atStart => exact ⟨0, Nat.zero_le _, rfl, rfl⟩
        case round =>
          obtain ⟨j, hj, rfl, rfl⟩ := hrel
          by_cases hlt : j < m
          · obtain ⟨x, hx⟩ : ∃ x, (keysM h L m)[j]? = some x := ⟨_, List.getElem?_eq_getElem (by rw [keysM_length]; exact hlt)⟩
            have hb := HA2.out j x hx
            cases oc with
            | none => have := HC2.out.1 rfl; omega
            | some a =>
            have c0 := HC2.out.2 a rfl j _ (show _ = some (.string x) by simp [strsC, hx])
            clear hx
            unfold leS at hb
            rcases hd : decide (j < k) with _ | _
            all_goals
              rw [hd] at hb
              have hb' := hb.symm
              clear hb
              go_wp2
              go_roundw
              case rel => exact ⟨j + 1, by omega, by go_num, by first | trivial | rfl⟩
              case measure => simp [intOf]; omega
          · obtain rfl : m = j := by omega
            by_cases hlast : i < m
            · obtain ⟨x, hx⟩ : ∃ x, (cellsM h L m)[i]? = some x := ⟨_, List.getElem?_eq_getElem (by rw [cellsM_length]; exact hlast)⟩
              have hbe : (x.key.toList == key.toList) = is := by have h1 := HIS.out; unfold hitB at h1; rw [hx] at h1; exact h1
              cases la with
              | none => have := HC1.out.1 rfl; omega
              | some a =>
              obtain ⟨c0, c1, c2, c3⟩ := cat_of (HC1.out.2 a rfl) hx
              clear hx c1 c2 c3
              go_wp2
              go_ret
              exact ⟨rfl, gb_below HGX.out⟩
            · have hbe : is = false := by have h1 := HIS.out; unfold hitB at h1; rw [List.getElem?_eq_none (by rw [cellsM_length]; omega)] at h1; exact h1.symm
              subst hbe
              go_wp2
              go_ret
              exact ⟨rfl, gb_below HGX.out⟩
end Go.Proofs.YthhimhjegodklaaGreat.N11

