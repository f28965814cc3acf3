/-
  The law NodeBack, walked: a node that fits comes back from its bytes, the parts of a split are it when joined, and what is read is laid again so; conditions: the numbers lie.
-/
import Derived.Test.YthhimhjegodklaaGreatNzh
import Derived.Deep.DeepCutAuto
namespace Go.Proofs.YthhimhjegodklaaGreat.N11
set_option linter.unusedSimpArgs false
set_option linter.unusedVariables false
open Go.RowKit
theorem RowC.kept {w w' : World} {base : Nat} {v : Value} {l : List Ce} {r : Option Nat} (h : RowC w base v l) (g : w.grownBy w' r) (hne : v.ownBlock = none ∨ v.ownBlock ≠ r) : RowC w' base v l := World.ownsRow.kept h g hne
theorem app_more_C {X w : World} {j : Nat} {base : Nat} {v x : Value} {l r : List Ce} (hg : X.grownBy w (some j)) (hb : X.heap.size ≤ base) (h : RowC w base v l) (hx : Ces w x r) (hl : l.length ≤ 200001) (hr : r.length ≤ 100000) (hb2 : base ≤ w.heap.size) (ty : TypeId) :
    ∃ xo xn xc w', (Builtin.append_ #[22, 22] ty #[v, x]).run Tryz.prog w = .ok (.slice xo xn xc) w' ∧ RowC w' base (.slice xo xn xc) (l ++ r) ∧ w.grownBy w' v.ownBlock ∧ X.grownBy w' (some j) := by
  obtain ⟨v', w', h1, h2, h3⟩ := row_app_C h hx (by omega) (by omega) hb2 ty
  obtain ⟨xo, xn, xc, rfl⟩ := shape' (RowC.sl h2)
  exact ⟨xo, xn, xc, w', h1, h2, h3, gs_own hg h hb h3⟩
theorem RowS.kept {w w' : World} {base : Nat} {v : Value} {l : List ByteArray} {r : Option Nat} (h : RowS w base v l) (g : w.grownBy w' r) (hne : v.ownBlock = none ∨ v.ownBlock ≠ r) : RowS w' base v l := World.ownsRow.kept h g hne
theorem app_more_S {X w : World} {j : Nat} {base : Nat} {v x : Value} {l r : List ByteArray} (hg : X.grownBy w (some j)) (hb : X.heap.size ≤ base) (h : RowS w base v l) (hx : Sts w x r) (hl : l.length ≤ 200001) (hr : r.length ≤ 100000) (hb2 : base ≤ w.heap.size) (ty : TypeId) :
    ∃ xo xn xc w', (Builtin.append_ #[23, 23] ty #[v, x]).run Tryz.prog w = .ok (.slice xo xn xc) w' ∧ RowS w' base (.slice xo xn xc) (l ++ r) ∧ w.grownBy w' v.ownBlock ∧ X.grownBy w' (some j) := by
  obtain ⟨v', w', h1, h2, h3⟩ := row_app_S h hx (by omega) (by omega) hb2 ty
  obtain ⟨xo, xn, xc, rfl⟩ := shape' (RowS.sl h2)
  exact ⟨xo, xn, xc, w', h1, h2, h3, gs_own hg h hb h3⟩
theorem RowI.kept {w w' : World} {base : Nat} {v : Value} {l : List Int} {r : Option Nat} (h : RowI w base v l) (g : w.grownBy w' r) (hne : v.ownBlock = none ∨ v.ownBlock ≠ r) : RowI w' base v l := World.ownsRow.kept h g hne
theorem app_more_I {X w : World} {j : Nat} {base : Nat} {v x : Value} {l r : List Int} (hg : X.grownBy w (some j)) (hb : X.heap.size ≤ base) (h : RowI w base v l) (hx : Ins w x r) (hl : l.length ≤ 200001) (hr : r.length ≤ 100000) (hb2 : base ≤ w.heap.size) (ty : TypeId) :
    ∃ xo xn xc w', (Builtin.append_ #[24, 24] ty #[v, x]).run Tryz.prog w = .ok (.slice xo xn xc) w' ∧ RowI w' base (.slice xo xn xc) (l ++ r) ∧ w.grownBy w' v.ownBlock ∧ X.grownBy w' (some j) := by
  obtain ⟨v', w', h1, h2, h3⟩ := row_app_I h hx (by omega) (by omega) hb2 ty
  obtain ⟨xo, xn, xc, rfl⟩ := shape' (RowI.sl h2)
  exact ⟨xo, xn, xc, w', h1, h2, h3, gs_own hg h hb h3⟩
set_option maxRecDepth 100000 in
set_option maxHeartbeats 4000000 in
theorem back_any (h s : ByteArray) (v : Value) (L : List UInt8) (w : World) (hv : Bs w v L) (hs9 : s.size ≤ 9223372036854775807) : Calls Tryz.prog 4 #[.agg #[.string h, v], .string s] w fun e w' => e = .returned (.bool true) ∧ Below w.heap.size w w' := by
  obtain ⟨ao, cap, rfl, hcap, hnil, hcell⟩ := hv
  have HV := Lib.hid (show Bs w (.slice ao L.length cap) L from ⟨ao, cap, rfl, hcap, hnil, hcell⟩)
  obtain ⟨w0, hw0, kM, g0, hz0⟩ := new1 w 30 #[.string h, .slice ao L.length cap]
  have HW := Lib.hid hw0
  have KM := Lib.hid kM
  have HG := Lib.hid g0
  have HL : Hid (∀ W, w.grownBy W none → Calls Tryz.prog 8 #[.agg #[.string h, .slice ao L.length cap]] W (MadeGot (leafM h L) W)) := Lib.hid (fun W g => leaf_any h _ L W (HV.out.keep0 g))
  have HI : Hid (∀ W, w.grownBy W none → Calls Tryz.prog 9 #[.agg #[.string h, .slice ao L.length cap]] W (MadeGot (innerM h L) W)) := Lib.hid (fun W g => inner_any h _ L W (HV.out.keep0 g))
  clear hw0 kM g0 hz0 hcap hnil hcell
  go_enter Tryz.func4, Tryz.ntmps4
  go_upto_region 3 with (go_at_call 13; rw [← HW.out]; (with_reducible refine (works_any _).mono ?_); rintro e w1 ⟨rfl, g1⟩; replace KM := Lib.hid (KM.out.keep0 g1); replace HG := Lib.hid (gb_trans HG.out g1); clear g1)
  go_cut [5] (fun s5 wx => ∃ b5 : Nat, s5 = .pointer (some ⟨b5, 0, none⟩) ∧ PairAt wx b5 h L ∧ w.grownBy wx none)
  case first =>
    refine wp_region_noPanic ?_
    refine wp_region_held_drew (S := fun w' => w'.cell? ⟨w.heap.size, 0, none⟩ = some (.string h) ∧ w'.cell? ⟨w.heap.size, 1, none⟩ = some (.slice ao L.length cap)) (by kernel_rfl) ⟨(KM.out.keep0 (gb_drew _ none)).cell 0 rfl, (KM.out.keep0 (gb_drew _ none)).cell 1 rfl⟩ (fun hHeld => ?_)
    replace KM := Lib.hid (KM.out.keep0 (gb_drew w1 none))
    replace HG := Lib.hid (gb_trans HG.out (gb_drew w1 none))
    generalize w1.drew = w1d at KM HG hHeld ⊢
    refine wpAnyH_take (i := 0) (v := ?_) (List.getElem?_toArray.trans rfl) (by kernel_rfl) (by kernel_rfl) (by kernel_rfl) (fun _ _ _ h => h) (Or.inl ⟨by rfl, ?_⟩) hHeld ?_
    rotate_left
    · intro w' hSw; have m0 := hSw.1; have m1 := hSw.2; go_simp; try with_reducible rfl
    try simp only [Act.put, List.setIfInBounds_toArray, List.set_cons_zero, List.set_cons_succ]
    refine wpAnyH_take (i := 2) (v := ?_) (List.getElem?_toArray.trans rfl) (by kernel_rfl) (by kernel_rfl) (by kernel_rfl) (fun _ _ _ h => h) (Or.inl ⟨by rfl, ?_⟩) hHeld ?_
    rotate_left
    · intro w' hSw; have m0 := hSw.1; have m1 := hSw.2; go_simp; try with_reducible rfl
    try simp only [Act.put, List.setIfInBounds_toArray, List.set_cons_zero, List.set_cons_succ]
    refine wpAnyH_ready (rs := [1, 5]) (by kernel_rfl) (by simp) ?_
    refine AllReadyH.cons (List.getElem?_toArray.trans rfl) (fun K hK => ?_) (AllReadyH.cons (List.getElem?_toArray.trans rfl) (fun K hK => ?_) AllReadyH.nil)
    · go_simp
      go_at_call 8
      (with_reducible refine (HL.out _ HG.out).mono ?_)
      rintro e q1 ⟨v, rfl, hv, gx1⟩
      obtain ⟨l1, l2, l3, l4, l5, l6, l7, l8, l9, rfl⟩ := leafX hv
      replace KM := Lib.hid (KM.out.keep0 gx1)
      replace HG := Lib.hid (gb_trans HG.out gx1)
      try replace K5 := Lib.hid (K5.out.keep0 gx1)
      try replace VI := Lib.hid (VI.out.keep0 gx1)
      have VL := Lib.hid hv
      clear hv
      refine hK.out _ _ (⟨KM.out.cell 0 rfl, KM.out.cell 1 rfl⟩) (fun hHeld => ?_)
      clear hK K
      try simp only [Act.put, List.setIfInBounds_toArray, List.set_cons_zero, List.set_cons_succ]
      refine wpAnyH_ready (rs := [3, 5]) (by kernel_rfl) (by simp) ?_
      refine AllReadyH.cons (List.getElem?_toArray.trans rfl) (fun K hK => ?_) (AllReadyH.cons (List.getElem?_toArray.trans rfl) (fun K hK => ?_) AllReadyH.nil)
      · go_simp
        go_at_call 9
        (with_reducible refine (HI.out _ HG.out).mono ?_)
        rintro e q2 ⟨v, rfl, hv, gx2⟩
        obtain ⟨o1, o2, o3, o4, o5, o6, o7, o8, o9, rfl⟩ := innerX hv
        replace KM := Lib.hid (KM.out.keep0 gx2)
        replace HG := Lib.hid (gb_trans HG.out gx2)
        try replace K5 := Lib.hid (K5.out.keep0 gx2)
        try replace VL := Lib.hid (VL.out.keep0 gx2)
        have VI := Lib.hid hv
        clear hv
        refine hK.out _ _ (⟨KM.out.cell 0 rfl, KM.out.cell 1 rfl⟩) (fun hHeld => ?_)
        clear hK K
        try simp only [Act.put, List.setIfInBounds_toArray, List.set_cons_zero, List.set_cons_succ]
        refine wpAnyH_take (i := 4) (v := ?_) (List.getElem?_toArray.trans rfl) (by kernel_rfl) (by kernel_rfl) (by kernel_rfl) (fun _ _ _ h => h) (Or.inl ⟨by rfl, ?_⟩) hHeld ?_
        rotate_left
        · intro w' hSw; go_simp; try with_reducible rfl
        try simp only [Act.put, List.setIfInBounds_toArray, List.set_cons_zero, List.set_cons_succ]
        refine wpAnyH_ready (rs := [5]) (by kernel_rfl) (by simp) ?_
        refine AllReadyH.cons (List.getElem?_toArray.trans rfl) (fun K hK => ?_) AllReadyH.nil
        go_simp
        obtain ⟨q3, hC, kC, gx3, hzz⟩ := new1 q2 27 #[.bool false, .slice none 0 0, .slice none 0 0, .slice none 0 0, .bool false, .slice none 0 0, .slice none 0 0, .slice none 0 0]
        rw [← hC]
        clear hC hzz
        have hb5 : w.heap.size < q2.heap.size := KM.out.lt
        replace KM := Lib.hid (KM.out.keep0 gx3)
        replace HG := Lib.hid (gb_trans HG.out gx3)
        try replace VL := Lib.hid (VL.out.keep0 gx3)
        try replace VI := Lib.hid (VI.out.keep0 gx3)
        generalize q2.heap.size = b5 at kC hb5 ⊢
        have K5 := Lib.hid kC
        clear kC
        refine hK.out _ _ (⟨KM.out.cell 0 rfl, KM.out.cell 1 rfl⟩) (fun hHeld => ?_)
        clear hK K
        try simp only [Act.put, List.setIfInBounds_toArray, List.set_cons_zero, List.set_cons_succ]
        refine wpAnyH_ready (rs := [6]) (by kernel_rfl) (by simp) ?_
        refine AllReadyH.cons (List.getElem?_toArray.trans rfl) (fun K hK => ?_) AllReadyH.nil
        have n0 := K5.out.cell 0 rfl
        have n1 := K5.out.cell 1 rfl
        have n2 := K5.out.cell 2 rfl
        have n3 := K5.out.cell 3 rfl
        have n4 := K5.out.cell 4 rfl
        have n5 := K5.out.cell 5 rfl
        have n6 := K5.out.cell 6 rfl
        have n7 := K5.out.cell 7 rfl
        have f0 := K5.out.free 0
        have f1 := K5.out.free 1
        have f2 := K5.out.free 2
        have f3 := K5.out.free 3
        have f4 := K5.out.free 4
        have f5 := K5.out.free 5
        have f6 := K5.out.free 6
        have f7 := K5.out.free 7
        go_simp
        obtain ⟨q4, hD⟩ : ∃ z : World, z = ((((((((q3.setCell ⟨b5, 0, none⟩ (.bool true)).setCell ⟨b5, 1, none⟩ (.slice l1 l2 l3)).setCell ⟨b5, 2, none⟩ (.slice l4 l5 l6)).setCell ⟨b5, 3, none⟩ (.slice l7 l8 l9)).setCell ⟨b5, 4, none⟩ (.bool false)).setCell ⟨b5, 5, none⟩ (.slice o1 o2 o3)).setCell ⟨b5, 6, none⟩ (.slice o4 o5 o6)).setCell ⟨b5, 7, none⟩ (.slice o7 o8 o9)) := ⟨_, rfl⟩
        rw [← hD]
        have gx4 : q3.grownBy q4 (some b5) := by rw [hD]; exact gb_trans (gb_trans (gb_trans (gb_trans (gb_trans (gb_trans (gb_trans (gb_set _ _ _ _ _) (gb_set _ _ _ _ _)) (gb_set _ _ _ _ _)) (gb_set _ _ _ _ _)) (gb_set _ _ _ _ _)) (gb_set _ _ _ _ _)) (gb_set _ _ _ _ _)) (gb_set _ _ _ _ _)
        have kS : Blk q4 b5 27 #[.bool true, .slice l1 l2 l3, .slice l4 l5 l6, .slice l7 l8 l9, .bool false, .slice o1 o2 o3, .slice o4 o5 o6, .slice o7 o8 o9] := by rw [hD]; exact ((((((((K5.out.set 0 _).set 1 _).set 2 _).set 3 _).set 4 _).set 5 _).set 6 _).set 7 _)
        clear hD n0 f0 n1 f1 n2 f2 n3 f3 n4 f4 n5 f5 n6 f6 n7 f7
        replace VL := Lib.hid (VL.out.keepN (Nbl.two K5.out) gx4)
        replace VI := Lib.hid (VI.out.keepN (Nbl.two K5.out) gx4)
        clear K5
        have K5 := Lib.hid kS
        clear kS
        replace KM := Lib.hid (KM.out.keep gx4 (ne_some (by omega)))
        replace HG := Lib.hid (gb_step HG.out gx4 (by omega))
        refine hK.out _ _ (⟨KM.out.cell 0 rfl, KM.out.cell 1 rfl⟩) (fun hHeld => ?_)
        clear hK K
        try simp only [Act.put, List.setIfInBounds_toArray, List.set_cons_zero, List.set_cons_succ]
        refine wpAnyH_done (by kernel_rfl) ?_ _
        refine NoPanic.normal ?_
        go_wp2_with fail
        go_meet
        exact ⟨b5, rfl, ⟨_, _, _, _, _, _, _, _, _, _, _, _, _, _, _, _, _, _, K5.out, VL.out, VI.out⟩, HG.out⟩
      · go_simp
        obtain ⟨q5, hC, kC, gx5, hzz⟩ := new1 q1 27 #[.bool false, .slice none 0 0, .slice none 0 0, .slice none 0 0, .bool false, .slice none 0 0, .slice none 0 0, .slice none 0 0]
        rw [← hC]
        clear hC hzz
        have hb5 : w.heap.size < q1.heap.size := KM.out.lt
        replace KM := Lib.hid (KM.out.keep0 gx5)
        replace HG := Lib.hid (gb_trans HG.out gx5)
        try replace VL := Lib.hid (VL.out.keep0 gx5)
        try replace VI := Lib.hid (VI.out.keep0 gx5)
        generalize q1.heap.size = b5 at kC hb5 ⊢
        have K5 := Lib.hid kC
        clear kC
        refine hK.out _ _ (⟨KM.out.cell 0 rfl, KM.out.cell 1 rfl⟩) (fun hHeld => ?_)
        clear hK K
        try simp only [Act.put, List.setIfInBounds_toArray, List.set_cons_zero, List.set_cons_succ]
        refine wpAnyH_ready (rs := [3]) (by kernel_rfl) (by simp) ?_
        refine AllReadyH.cons (List.getElem?_toArray.trans rfl) (fun K hK => ?_) AllReadyH.nil
        go_simp
        go_at_call 9
        (with_reducible refine (HI.out _ HG.out).mono ?_)
        rintro e q6 ⟨v, rfl, hv, gx6⟩
        obtain ⟨o1, o2, o3, o4, o5, o6, o7, o8, o9, rfl⟩ := innerX hv
        replace KM := Lib.hid (KM.out.keep0 gx6)
        replace HG := Lib.hid (gb_trans HG.out gx6)
        try replace K5 := Lib.hid (K5.out.keep0 gx6)
        try replace VL := Lib.hid (VL.out.keep0 gx6)
        have VI := Lib.hid hv
        clear hv
        refine hK.out _ _ (⟨KM.out.cell 0 rfl, KM.out.cell 1 rfl⟩) (fun hHeld => ?_)
        clear hK K
        try simp only [Act.put, List.setIfInBounds_toArray, List.set_cons_zero, List.set_cons_succ]
        refine wpAnyH_take (i := 4) (v := ?_) (List.getElem?_toArray.trans rfl) (by kernel_rfl) (by kernel_rfl) (by kernel_rfl) (fun _ _ _ h => h) (Or.inl ⟨by rfl, ?_⟩) hHeld ?_
        rotate_left
        · intro w' hSw; go_simp; try with_reducible rfl
        try simp only [Act.put, List.setIfInBounds_toArray, List.set_cons_zero, List.set_cons_succ]
        refine wpAnyH_ready (rs := [6]) (by kernel_rfl) (by simp) ?_
        refine AllReadyH.cons (List.getElem?_toArray.trans rfl) (fun K hK => ?_) AllReadyH.nil
        have n0 := K5.out.cell 0 rfl
        have n1 := K5.out.cell 1 rfl
        have n2 := K5.out.cell 2 rfl
        have n3 := K5.out.cell 3 rfl
        have n4 := K5.out.cell 4 rfl
        have n5 := K5.out.cell 5 rfl
        have n6 := K5.out.cell 6 rfl
        have n7 := K5.out.cell 7 rfl
        have f0 := K5.out.free 0
        have f1 := K5.out.free 1
        have f2 := K5.out.free 2
        have f3 := K5.out.free 3
        have f4 := K5.out.free 4
        have f5 := K5.out.free 5
        have f6 := K5.out.free 6
        have f7 := K5.out.free 7
        go_simp
        obtain ⟨q7, hD⟩ : ∃ z : World, z = ((((((((q6.setCell ⟨b5, 0, none⟩ (.bool true)).setCell ⟨b5, 1, none⟩ (.slice l1 l2 l3)).setCell ⟨b5, 2, none⟩ (.slice l4 l5 l6)).setCell ⟨b5, 3, none⟩ (.slice l7 l8 l9)).setCell ⟨b5, 4, none⟩ (.bool false)).setCell ⟨b5, 5, none⟩ (.slice o1 o2 o3)).setCell ⟨b5, 6, none⟩ (.slice o4 o5 o6)).setCell ⟨b5, 7, none⟩ (.slice o7 o8 o9)) := ⟨_, rfl⟩
        rw [← hD]
        have gx7 : q6.grownBy q7 (some b5) := by rw [hD]; exact gb_trans (gb_trans (gb_trans (gb_trans (gb_trans (gb_trans (gb_trans (gb_set _ _ _ _ _) (gb_set _ _ _ _ _)) (gb_set _ _ _ _ _)) (gb_set _ _ _ _ _)) (gb_set _ _ _ _ _)) (gb_set _ _ _ _ _)) (gb_set _ _ _ _ _)) (gb_set _ _ _ _ _)
        have kS : Blk q7 b5 27 #[.bool true, .slice l1 l2 l3, .slice l4 l5 l6, .slice l7 l8 l9, .bool false, .slice o1 o2 o3, .slice o4 o5 o6, .slice o7 o8 o9] := by rw [hD]; exact ((((((((K5.out.set 0 _).set 1 _).set 2 _).set 3 _).set 4 _).set 5 _).set 6 _).set 7 _)
        clear hD n0 f0 n1 f1 n2 f2 n3 f3 n4 f4 n5 f5 n6 f6 n7 f7
        replace VL := Lib.hid (VL.out.keepN (Nbl.two K5.out) gx7)
        replace VI := Lib.hid (VI.out.keepN (Nbl.two K5.out) gx7)
        clear K5
        have K5 := Lib.hid kS
        clear kS
        replace KM := Lib.hid (KM.out.keep gx7 (ne_some (by omega)))
        replace HG := Lib.hid (gb_step HG.out gx7 (by omega))
        refine hK.out _ _ (⟨KM.out.cell 0 rfl, KM.out.cell 1 rfl⟩) (fun hHeld => ?_)
        clear hK K
        try simp only [Act.put, List.setIfInBounds_toArray, List.set_cons_zero, List.set_cons_succ]
        refine wpAnyH_done (by kernel_rfl) ?_ _
        refine NoPanic.normal ?_
        go_wp2_with fail
        go_meet
        exact ⟨b5, rfl, ⟨_, _, _, _, _, _, _, _, _, _, _, _, _, _, _, _, _, _, K5.out, VL.out, VI.out⟩, HG.out⟩
    · go_simp
      obtain ⟨q8, hC, kC, gx8, hzz⟩ := new1 w1d 27 #[.bool false, .slice none 0 0, .slice none 0 0, .slice none 0 0, .bool false, .slice none 0 0, .slice none 0 0, .slice none 0 0]
      rw [← hC]
      clear hC hzz
      have hb5 : w.heap.size < w1d.heap.size := KM.out.lt
      replace KM := Lib.hid (KM.out.keep0 gx8)
      replace HG := Lib.hid (gb_trans HG.out gx8)
      try replace VL := Lib.hid (VL.out.keep0 gx8)
      try replace VI := Lib.hid (VI.out.keep0 gx8)
      generalize w1d.heap.size = b5 at kC hb5 ⊢
      have K5 := Lib.hid kC
      clear kC
      refine hK.out _ _ (⟨KM.out.cell 0 rfl, KM.out.cell 1 rfl⟩) (fun hHeld => ?_)
      clear hK K
      try simp only [Act.put, List.setIfInBounds_toArray, List.set_cons_zero, List.set_cons_succ]
      refine wpAnyH_ready (rs := [1]) (by kernel_rfl) (by simp) ?_
      refine AllReadyH.cons (List.getElem?_toArray.trans rfl) (fun K hK => ?_) AllReadyH.nil
      go_simp
      go_at_call 8
      (with_reducible refine (HL.out _ HG.out).mono ?_)
      rintro e q9 ⟨v, rfl, hv, gx9⟩
      obtain ⟨l1, l2, l3, l4, l5, l6, l7, l8, l9, rfl⟩ := leafX hv
      replace KM := Lib.hid (KM.out.keep0 gx9)
      replace HG := Lib.hid (gb_trans HG.out gx9)
      try replace K5 := Lib.hid (K5.out.keep0 gx9)
      try replace VI := Lib.hid (VI.out.keep0 gx9)
      have VL := Lib.hid hv
      clear hv
      refine hK.out _ _ (⟨KM.out.cell 0 rfl, KM.out.cell 1 rfl⟩) (fun hHeld => ?_)
      clear hK K
      try simp only [Act.put, List.setIfInBounds_toArray, List.set_cons_zero, List.set_cons_succ]
      refine wpAnyH_ready (rs := [3]) (by kernel_rfl) (by simp) ?_
      refine AllReadyH.cons (List.getElem?_toArray.trans rfl) (fun K hK => ?_) AllReadyH.nil
      go_simp
      go_at_call 9
      (with_reducible refine (HI.out _ HG.out).mono ?_)
      rintro e q10 ⟨v, rfl, hv, gx10⟩
      obtain ⟨o1, o2, o3, o4, o5, o6, o7, o8, o9, rfl⟩ := innerX hv
      replace KM := Lib.hid (KM.out.keep0 gx10)
      replace HG := Lib.hid (gb_trans HG.out gx10)
      try replace K5 := Lib.hid (K5.out.keep0 gx10)
      try replace VL := Lib.hid (VL.out.keep0 gx10)
      have VI := Lib.hid hv
      clear hv
      refine hK.out _ _ (⟨KM.out.cell 0 rfl, KM.out.cell 1 rfl⟩) (fun hHeld => ?_)
      clear hK K
      try simp only [Act.put, List.setIfInBounds_toArray, List.set_cons_zero, List.set_cons_succ]
      refine wpAnyH_take (i := 4) (v := ?_) (List.getElem?_toArray.trans rfl) (by kernel_rfl) (by kernel_rfl) (by kernel_rfl) (fun _ _ _ h => h) (Or.inl ⟨by rfl, ?_⟩) hHeld ?_
      rotate_left
      · intro w' hSw; go_simp; try with_reducible rfl
      try simp only [Act.put, List.setIfInBounds_toArray, List.set_cons_zero, List.set_cons_succ]
      refine wpAnyH_ready (rs := [6]) (by kernel_rfl) (by simp) ?_
      refine AllReadyH.cons (List.getElem?_toArray.trans rfl) (fun K hK => ?_) AllReadyH.nil
      have n0 := K5.out.cell 0 rfl
      have n1 := K5.out.cell 1 rfl
      have n2 := K5.out.cell 2 rfl
      have n3 := K5.out.cell 3 rfl
      have n4 := K5.out.cell 4 rfl
      have n5 := K5.out.cell 5 rfl
      have n6 := K5.out.cell 6 rfl
      have n7 := K5.out.cell 7 rfl
      have f0 := K5.out.free 0
      have f1 := K5.out.free 1
      have f2 := K5.out.free 2
      have f3 := K5.out.free 3
      have f4 := K5.out.free 4
      have f5 := K5.out.free 5
      have f6 := K5.out.free 6
      have f7 := K5.out.free 7
      go_simp
      obtain ⟨q11, hD⟩ : ∃ z : World, z = ((((((((q10.setCell ⟨b5, 0, none⟩ (.bool true)).setCell ⟨b5, 1, none⟩ (.slice l1 l2 l3)).setCell ⟨b5, 2, none⟩ (.slice l4 l5 l6)).setCell ⟨b5, 3, none⟩ (.slice l7 l8 l9)).setCell ⟨b5, 4, none⟩ (.bool false)).setCell ⟨b5, 5, none⟩ (.slice o1 o2 o3)).setCell ⟨b5, 6, none⟩ (.slice o4 o5 o6)).setCell ⟨b5, 7, none⟩ (.slice o7 o8 o9)) := ⟨_, rfl⟩
      rw [← hD]
      have gx11 : q10.grownBy q11 (some b5) := by rw [hD]; exact gb_trans (gb_trans (gb_trans (gb_trans (gb_trans (gb_trans (gb_trans (gb_set _ _ _ _ _) (gb_set _ _ _ _ _)) (gb_set _ _ _ _ _)) (gb_set _ _ _ _ _)) (gb_set _ _ _ _ _)) (gb_set _ _ _ _ _)) (gb_set _ _ _ _ _)) (gb_set _ _ _ _ _)
      have kS : Blk q11 b5 27 #[.bool true, .slice l1 l2 l3, .slice l4 l5 l6, .slice l7 l8 l9, .bool false, .slice o1 o2 o3, .slice o4 o5 o6, .slice o7 o8 o9] := by rw [hD]; exact ((((((((K5.out.set 0 _).set 1 _).set 2 _).set 3 _).set 4 _).set 5 _).set 6 _).set 7 _)
      clear hD n0 f0 n1 f1 n2 f2 n3 f3 n4 f4 n5 f5 n6 f6 n7 f7
      replace VL := Lib.hid (VL.out.keepN (Nbl.two K5.out) gx11)
      replace VI := Lib.hid (VI.out.keepN (Nbl.two K5.out) gx11)
      clear K5
      have K5 := Lib.hid kS
      clear kS
      replace KM := Lib.hid (KM.out.keep gx11 (ne_some (by omega)))
      replace HG := Lib.hid (gb_step HG.out gx11 (by omega))
      refine hK.out _ _ (⟨KM.out.cell 0 rfl, KM.out.cell 1 rfl⟩) (fun hHeld => ?_)
      clear hK K
      try simp only [Act.put, List.setIfInBounds_toArray, List.set_cons_zero, List.set_cons_succ]
      refine wpAnyH_done (by kernel_rfl) ?_ _
      refine NoPanic.normal ?_
      go_wp2_with fail
      go_meet
      exact ⟨b5, rfl, ⟨_, _, _, _, _, _, _, _, _, _, _, _, _, _, _, _, _, _, K5.out, VL.out, VI.out⟩, HG.out⟩
  case rest =>
    clear KM HG HW HL HI HV
    obtain ⟨b5, rfl, p5, hg5⟩ := hcut
    go_wp2
    go_loopw [6] (fun z wq => ∃ i : Nat, i ≤ 2 ∧ z = .int .i64 i ∧ PairAt wq b5 h L ∧ w.grownBy wq none) (fun z _ => 2 - (intOf z).toNat)
    case atStart => exact ⟨0, by omega, rfl, p5, hg5⟩
    case round =>
      clear p5 hg5
      obtain ⟨i, hi2, rfl, p5, hg⟩ := hrel
      by_cases hi : i < 2
      · go_upto_region 7 with fail
        go_cut [7] (fun s7 wx => ∃ (n : Nd) (b7 : Nat), s7 = .pointer (some ⟨b7, 0, none⟩) ∧ NAt wx b7 n ∧ n.Half ∧ PairAt wx b5 h L ∧ w.grownBy wx none ∧ i < 2)
        case first =>
          obtain ⟨a1, a2, a3, o1, o2, o3, n1, n2, n3, c1, c2, c3, m1, m2, m3, d1, d2, d3, kP, vL, vI⟩ := id p5
          have P5 := Lib.hid p5
          have HG := Lib.hid hg
          have VL := Lib.hid vL
          have VI := Lib.hid vI
          clear p5 hg vL vI
          rcases (show i = 0 ∨ i = 1 by omega) with rfl | rfl
          · have e0 := kP.cell 0 rfl
            have e1 := kP.cell 1 rfl
            have e2 := kP.cell 2 rfl
            have e3 := kP.cell 3 rfl
            clear kP
            go_wp2_with fail
            go_meet
            case rel => exact ⟨leafM h L, _, rfl, ⟨_, _, _, _, _, _, _, _, _, Blk.mk _ _ _, VL.out.keep0 (gb_alloc _ _ none)⟩, leafM_half h L, P5.out.keep0 (gb_alloc _ _ none), gb_trans HG.out (gb_alloc _ _ none), by omega⟩
          · have e0 := kP.cell 4 rfl
            have e1 := kP.cell 5 rfl
            have e2 := kP.cell 6 rfl
            have e3 := kP.cell 7 rfl
            clear kP
            go_wp2_with fail
            go_meet
            case rel => exact ⟨innerM h L, _, rfl, ⟨_, _, _, _, _, _, _, _, _, Blk.mk _ _ _, VI.out.keep0 (gb_alloc _ _ none)⟩, innerM_half h L, P5.out.keep0 (gb_alloc _ _ none), gb_trans HG.out (gb_alloc _ _ none), by omega⟩
        case rest =>
          clear hi2 hi p5 hg
          obtain ⟨n, b7, rfl, hN, hH, p5, hg, hi⟩ := hcut
          obtain ⟨a1, m1, c1, a2, m2, c2, a3, m3, c3, k7, vN⟩ := hN
          obtain ⟨lf, hlf⟩ : ∃ lf, n.leaf = lf := ⟨_, rfl⟩
          rw [hlf] at k7 vN
          have n0 := k7.cell 0 rfl
          have n1 := k7.cell 1 rfl
          have n2 := k7.cell 2 rfl
          have n3 := k7.cell 3 rfl
          have P5 := Lib.hid p5
          have K7 := Lib.hid k7
          have VN := Lib.hid vN
          have HG := Lib.hid hg
          clear p5 k7 vN hg
          have HSAME := Lib.hid (fun W v u hv hu => same_half hH W v u hv hu)
          rcases hfit : n.fits with _ | _
          · 
            obtain ⟨ec, hec, hput⟩ := put_no hfit hH.lim
            have hecb : (ec == 0) = false := by simpa using hec
            have HPUT := Lib.hid hput
            have HFIT := Lib.hid (fun W v hv => fits_is hfit hH.lim W v hv)
            clear hput
            rcases hfew : n.few with _ | _
            · have HSP : Hid (∀ W v, NdV W v n → Calls Tryz.prog 18 #[v] W (PartsGot n W)) := Lib.hid (fun W v hv => split_parts hfew hH W v hv)
              unfold PartsGot at HSP
              rw [hlf] at HSP
              rcases lf with _ | _
              · go_upto_region 18 with (first | (go_at_call 14; (with_reducible refine (HPUT.out _ _ VN.out).mono ?_); rintro e w2 ⟨rfl, g2⟩; replace P5 := Lib.hid (P5.out.keep0 g2); replace K7 := Lib.hid (K7.out.keep0 g2); replace VN := Lib.hid (VN.out.keep0 g2); replace HG := Lib.hid (gb_trans HG.out g2); replace n0 := World.grownBy.cell g2 n0 (by simp); replace n1 := World.grownBy.cell g2 n1 (by simp); replace n2 := World.grownBy.cell g2 n2 (by simp); replace n3 := World.grownBy.cell g2 n3 (by simp); clear g2) | (go_at_call 15; (with_reducible refine (HFIT.out _ _ VN.out).mono ?_); rintro e w3 ⟨rfl, g3⟩; replace P5 := Lib.hid (P5.out.keep0 g3); replace K7 := Lib.hid (K7.out.keep0 g3); replace VN := Lib.hid (VN.out.keep0 g3); replace HG := Lib.hid (gb_trans HG.out g3); replace n0 := World.grownBy.cell g3 n0 (by simp); replace n1 := World.grownBy.cell g3 n1 (by simp); replace n2 := World.grownBy.cell g3 n2 (by simp); replace n3 := World.grownBy.cell g3 n3 (by simp); clear g3) | (go_at_call 18; (with_reducible refine (HSP.out _ _ VN.out).mono ?_); rintro e w7 ⟨A, B, key, p1, r1, s1, p2, r2, s2, p3, r3, s3, o1, l1, d1, o2, l2, d2, o3, l3, d3, rfl, vA, vB, hPO, g7⟩; replace P5 := Lib.hid (P5.out.keep0 g7); replace K7 := Lib.hid (K7.out.keep0 g7); replace VN := Lib.hid (VN.out.keep0 g7); replace HG := Lib.hid (gb_trans HG.out g7); replace n0 := World.grownBy.cell g7 n0 (by simp); replace n1 := World.grownBy.cell g7 n1 (by simp); replace n2 := World.grownBy.cell g7 n2 (by simp); replace n3 := World.grownBy.cell g7 n3 (by simp); have VA := Lib.hid vA; have VB := Lib.hid vB; have HPO := Lib.hid hPO; clear g7 vA vB hPO))
                obtain ⟨z0, hu, kP, kQ, kA, g5, hz5⟩ := new3 w7 26 #[.bool false, .slice p1 r1 s1, .slice p2 r2 s2, .slice p3 r3 s3] 26 #[.bool false, .slice o1 l1 d1, .slice o2 l2 d2, .slice o3 l3 d3] 26 #[.bool false, .slice none 0 0, .slice none 0 0, .slice none 0 0]
                rw [← hu]
                clear hu
                have hw7 : w.heap.size ≤ w7.heap.size := HG.out.size
                have hb7w : b7 < w7.heap.size := K7.out.lt
                have hb5w : b5 < w7.heap.size := PairAt.lt P5.out
                replace P5 := Lib.hid (P5.out.keep0 g5)
                replace K7 := Lib.hid (K7.out.keep0 g5)
                replace VN := Lib.hid (VN.out.keep0 g5)
                replace VA := Lib.hid (VA.out.keep0 g5)
                replace VB := Lib.hid (VB.out.keep0 g5)
                replace HG := Lib.hid (gb_trans HG.out g5)
                clear g5 n0 n1 n2 n3
                generalize w7.heap.size = bp at kP kQ kA hz5 hw7 hb7w hb5w ⊢
                obtain ⟨bq, hbq⟩ : ∃ bq, bp + 1 = bq := ⟨_, rfl⟩
                rw [hbq] at kQ kA ⊢
                obtain ⟨ba, hba⟩ : ∃ ba, bq + 1 = ba := ⟨_, rfl⟩
                rw [hba] at kA ⊢
                have KP := Lib.hid kP
                have KQ := Lib.hid kQ
                have KA := Lib.hid kA
                have NB := Lib.hid (Nbl.node kA)
                have GA := Lib.hid (gb_refl z0 (some ba))
                have HLA := Lib.hid (show (allN _ A B key) = n from HPO.out.all)
                clear kP kQ kA
                go_upto_region 18 with fail
                have hSP : z0.cell? ⟨bp, 1, none⟩ = some (.slice p1 r1 s1) := (KP.out.keep GA.out (ne_some (by omega))).cell 1 rfl
                have hSQ : z0.cell? ⟨bq, 1, none⟩ = some (.slice o1 l1 d1) := (KQ.out.keep GA.out (ne_some (by omega))).cell 1 rfl
                have GD := Lib.hid (gb_trans GA.out (gb_drew z0 (some ba)))
                have KD := Lib.hid (KA.out.keep0 (gb_drew z0 none))
                clear KA GA
                refine wp_region_noPanic ?_
                refine wp_region_held_drew (S := fun w' => w'.cell? ⟨bp, 1, none⟩ = some (.slice p1 r1 s1) ∧ w'.cell? ⟨bq, 1, none⟩ = some (.slice o1 l1 d1)) (by kernel_rfl) ⟨hSP, hSQ⟩ (fun hHeld => ?_)
                refine wpAnyH_take (i := 0) (v := ?_) (List.getElem?_toArray.trans rfl) (by kernel_rfl) (by kernel_rfl) (by kernel_rfl) (fun _ _ _ h => h) (Or.inl ⟨by rfl, ?_⟩) hHeld ?_
                rotate_left
                · intro w' hSw; have m1 := hSw.1; have m2 := hSw.2; go_simp; try with_reducible rfl
                try simp only [Act.put, List.setIfInBounds_toArray, List.set_cons_zero, List.set_cons_succ]
                refine wpAnyH_take (i := 2) (v := ?_) (List.getElem?_toArray.trans rfl) (by kernel_rfl) (by kernel_rfl) (by kernel_rfl) (fun _ _ _ h => h) (Or.inl ⟨by rfl, ?_⟩) hHeld ?_
                rotate_left
                · intro w' hSw; have m1 := hSw.1; have m2 := hSw.2; go_simp; try with_reducible rfl
                try simp only [Act.put, List.setIfInBounds_toArray, List.set_cons_zero, List.set_cons_succ]
                refine wpAnyH_take (i := 5) (v := ?_) (List.getElem?_toArray.trans rfl) (by kernel_rfl) (by kernel_rfl) (by kernel_rfl) (fun _ _ _ h => h) (Or.inl ⟨by rfl, ?_⟩) hHeld ?_
                rotate_left
                · intro w' hSw; have m1 := hSw.1; have m2 := hSw.2; go_simp; try with_reducible rfl
                try simp only [Act.put, List.setIfInBounds_toArray, List.set_cons_zero, List.set_cons_succ]
                refine wpAnyH_take (i := 3) (v := ?_) (List.getElem?_toArray.trans rfl) (by kernel_rfl) (by kernel_rfl) (by kernel_rfl) (fun _ _ _ h => h) (Or.inl ⟨by rfl, ?_⟩) hHeld ?_
                rotate_left
                · intro w' hSw; have m1 := hSw.1; have m2 := hSw.2; go_simp; try with_reducible rfl
                try simp only [Act.put, List.setIfInBounds_toArray, List.set_cons_zero, List.set_cons_succ]
                refine wpAnyH_take (i := 6) (v := ?_) (List.getElem?_toArray.trans rfl) (by kernel_rfl) (by kernel_rfl) (by kernel_rfl) (fun _ _ _ h => h) (Or.inl ⟨by rfl, ?_⟩) hHeld ?_
                rotate_left
                · intro w' hSw; have m1 := hSw.1; have m2 := hSw.2; go_simp; try with_reducible rfl
                try simp only [Act.put, List.setIfInBounds_toArray, List.set_cons_zero, List.set_cons_succ]
                refine wpAnyH_ready (rs := [1]) (by kernel_rfl) (by simp) ?_
                refine AllReadyH.cons (List.getElem?_toArray.trans rfl) (fun K hK => ?_) AllReadyH.nil
                have n1 := KD.out.cell 1 rfl
                go_simp
                clear n1
                refine hK.out _ _ (⟨hSP, hSQ⟩) (fun hHeld => ?_)
                clear hK K
                try simp only [Act.put, List.setIfInBounds_toArray, List.set_cons_zero, List.set_cons_succ]
                refine wpAnyH_ready (rs := [4]) (by kernel_rfl) (by simp) ?_
                refine AllReadyH.cons (List.getElem?_toArray.trans rfl) (fun K hK => ?_) AllReadyH.nil
                obtain ⟨ya1, ya2, ya3, u18a, hr, hs1, hg1, GE⟩ := app_more_C GD.out (Nat.le_refl _) (RowC.nil z0.drew z0.heap.size) ((NdV.open VA.out).1.keepN NB.out GD.out) (by simp) HPO.out.halfA.cells GD.out.size 22
                have KE := Lib.hid (KD.out.keep hg1 (row_other KD.out (RowC.nil z0.drew z0.heap.size) (by decide)))
                have HE := Lib.hid hs1
                have GF := Lib.hid GE
                clear hs1 GE hg1 KD GD
                refine Lib.wp_append_run _ _ _ _ _ rfl _ _ rfl rfl _ _ hr ?_
                clear hr
                refine hK.out _ _ (⟨(KP.out.keep GF.out (ne_some (by omega))).cell 1 rfl, (KQ.out.keep GF.out (ne_some (by omega))).cell 1 rfl⟩) (fun hHeld => ?_)
                clear hK K
                try simp only [Act.put, List.setIfInBounds_toArray, List.set_cons_zero, List.set_cons_succ]
                refine wpAnyH_ready (rs := [7]) (by kernel_rfl) (by simp) ?_
                refine AllReadyH.cons (List.getElem?_toArray.trans rfl) (fun K hK => ?_) AllReadyH.nil
                obtain ⟨tC1, tC2, tC3, u18b, hr, hs1, hg1, GE⟩ := app_more_C GF.out (Nat.le_refl _) HE.out ((NdV.open VB.out).1.keepN NB.out GF.out) (by have := HPO.out.halfA.cells; simp only [List.nil_append]; omega) HPO.out.halfB.cells GF.out.size 22
                have KF := Lib.hid (KE.out.keep hg1 (row_other KE.out HE.out (by decide)))
                have HF := Lib.hid hs1
                have GH := Lib.hid GE
                clear hs1 GE hg1 KE GF HE
                refine Lib.wp_append_run _ _ _ _ _ rfl _ _ rfl rfl _ _ hr ?_
                clear hr
                refine hK.out _ _ (⟨(KP.out.keep GH.out (ne_some (by omega))).cell 1 rfl, (KQ.out.keep GH.out (ne_some (by omega))).cell 1 rfl⟩) (fun hHeld => ?_)
                clear hK K
                try simp only [Act.put, List.setIfInBounds_toArray, List.set_cons_zero, List.set_cons_succ]
                refine wpAnyH_take (i := 8) (v := ?_) (List.getElem?_toArray.trans rfl) (by kernel_rfl) (by kernel_rfl) (by kernel_rfl) (fun _ _ _ h => h) (Or.inl ⟨by rfl, ?_⟩) hHeld ?_
                rotate_left
                · intro w' hSw; have m1 := hSw.1; have m2 := hSw.2; go_simp; try with_reducible rfl
                try simp only [Act.put, List.setIfInBounds_toArray, List.set_cons_zero, List.set_cons_succ]
                refine wpAnyH_ready (rs := [9]) (by kernel_rfl) (by simp) ?_
                refine AllReadyH.cons (List.getElem?_toArray.trans rfl) (fun K hK => ?_) AllReadyH.nil
                have n1 := KF.out.cell 1 rfl
                have f1 := KF.out.free 1
                go_simp
                obtain ⟨u18c, hD⟩ : ∃ z : World, z = u18b.setCell ⟨ba, 1, none⟩ (.slice tC1 tC2 tC3) := ⟨_, rfl⟩
                rw [← hD]
                have gD : u18b.grownBy u18c (some ba) := by rw [hD]; exact gb_set _ _ _ _ _
                have KA := Lib.hid (show Blk u18c ba 26 (_ : Array Value) from by rw [hD]; exact KF.out.set 1 _)
                have RC := Lib.hid (RowC.kept HF.out gD (.inr (row_other KF.out HF.out (by decide)).symm))
                have GA := Lib.hid (gb_trans GH.out gD)
                clear gD hD n1 f1 KF HF GH
                refine hK.out _ _ (⟨(KP.out.keep GA.out (ne_some (by omega))).cell 1 rfl, (KQ.out.keep GA.out (ne_some (by omega))).cell 1 rfl⟩) (fun hHeld => ?_)
                clear hK K
                try simp only [Act.put, List.setIfInBounds_toArray, List.set_cons_zero, List.set_cons_succ]
                refine wpAnyH_done (by kernel_rfl) ?_ _
                refine NoPanic.normal ?_
                clear hSP hSQ
                go_upto_region 19 with fail
                have hSP : u18c.cell? ⟨bp, 3, none⟩ = some (.slice p3 r3 s3) := (KP.out.keep GA.out (ne_some (by omega))).cell 3 rfl
                have hSQ : u18c.cell? ⟨bq, 3, none⟩ = some (.slice o3 l3 d3) := (KQ.out.keep GA.out (ne_some (by omega))).cell 3 rfl
                have GD := Lib.hid (gb_trans GA.out (gb_drew u18c (some ba)))
                have KD := Lib.hid (KA.out.keep0 (gb_drew u18c none))
                replace RC := Lib.hid (RowC.keep0 RC.out (gb_drew u18c none))
                clear KA GA
                refine wp_region_noPanic ?_
                refine wp_region_held_drew (S := fun w' => w'.cell? ⟨bp, 3, none⟩ = some (.slice p3 r3 s3) ∧ w'.cell? ⟨bq, 3, none⟩ = some (.slice o3 l3 d3)) (by kernel_rfl) ⟨hSP, hSQ⟩ (fun hHeld => ?_)
                refine wpAnyH_take (i := 0) (v := ?_) (List.getElem?_toArray.trans rfl) (by kernel_rfl) (by kernel_rfl) (by kernel_rfl) (fun _ _ _ h => h) (Or.inl ⟨by rfl, ?_⟩) hHeld ?_
                rotate_left
                · intro w' hSw; have m1 := hSw.1; have m2 := hSw.2; go_simp; try with_reducible rfl
                try simp only [Act.put, List.setIfInBounds_toArray, List.set_cons_zero, List.set_cons_succ]
                refine wpAnyH_take (i := 2) (v := ?_) (List.getElem?_toArray.trans rfl) (by kernel_rfl) (by kernel_rfl) (by kernel_rfl) (fun _ _ _ h => h) (Or.inl ⟨by rfl, ?_⟩) hHeld ?_
                rotate_left
                · intro w' hSw; have m1 := hSw.1; have m2 := hSw.2; go_simp; try with_reducible rfl
                try simp only [Act.put, List.setIfInBounds_toArray, List.set_cons_zero, List.set_cons_succ]
                refine wpAnyH_take (i := 5) (v := ?_) (List.getElem?_toArray.trans rfl) (by kernel_rfl) (by kernel_rfl) (by kernel_rfl) (fun _ _ _ h => h) (Or.inl ⟨by rfl, ?_⟩) hHeld ?_
                rotate_left
                · intro w' hSw; have m1 := hSw.1; have m2 := hSw.2; go_simp; try with_reducible rfl
                try simp only [Act.put, List.setIfInBounds_toArray, List.set_cons_zero, List.set_cons_succ]
                refine wpAnyH_take (i := 3) (v := ?_) (List.getElem?_toArray.trans rfl) (by kernel_rfl) (by kernel_rfl) (by kernel_rfl) (fun _ _ _ h => h) (Or.inl ⟨by rfl, ?_⟩) hHeld ?_
                rotate_left
                · intro w' hSw; have m1 := hSw.1; have m2 := hSw.2; go_simp; try with_reducible rfl
                try simp only [Act.put, List.setIfInBounds_toArray, List.set_cons_zero, List.set_cons_succ]
                refine wpAnyH_take (i := 6) (v := ?_) (List.getElem?_toArray.trans rfl) (by kernel_rfl) (by kernel_rfl) (by kernel_rfl) (fun _ _ _ h => h) (Or.inl ⟨by rfl, ?_⟩) hHeld ?_
                rotate_left
                · intro w' hSw; have m1 := hSw.1; have m2 := hSw.2; go_simp; try with_reducible rfl
                try simp only [Act.put, List.setIfInBounds_toArray, List.set_cons_zero, List.set_cons_succ]
                refine wpAnyH_ready (rs := [1]) (by kernel_rfl) (by simp) ?_
                refine AllReadyH.cons (List.getElem?_toArray.trans rfl) (fun K hK => ?_) AllReadyH.nil
                have n1 := KD.out.cell 3 rfl
                go_simp
                clear n1
                refine hK.out _ _ (⟨hSP, hSQ⟩) (fun hHeld => ?_)
                clear hK K
                try simp only [Act.put, List.setIfInBounds_toArray, List.set_cons_zero, List.set_cons_succ]
                refine wpAnyH_ready (rs := [4]) (by kernel_rfl) (by simp) ?_
                refine AllReadyH.cons (List.getElem?_toArray.trans rfl) (fun K hK => ?_) AllReadyH.nil
                obtain ⟨ya1, ya2, ya3, u19a, hr, hs1, hg1, GE⟩ := app_more_I GD.out (Nat.le_refl _) (RowI.nil u18c.drew z0.heap.size) ((NdV.open VA.out).2.2.keepN NB.out GD.out) (by simp) HPO.out.halfA.kids GD.out.size 24
                have KE := Lib.hid (KD.out.keep hg1 (row_other KD.out (RowI.nil u18c.drew z0.heap.size) (by decide)))
                have HE := Lib.hid hs1
                have GF := Lib.hid GE
                have RCe := Lib.hid (RowC.kept RC.out hg1 (row_rows RC.out (RowI.nil u18c.drew z0.heap.size) (by decide)))
                clear hs1 GE hg1 KD GD RC
                refine Lib.wp_append_run _ _ _ _ _ rfl _ _ rfl rfl _ _ hr ?_
                clear hr
                refine hK.out _ _ (⟨(KP.out.keep GF.out (ne_some (by omega))).cell 3 rfl, (KQ.out.keep GF.out (ne_some (by omega))).cell 3 rfl⟩) (fun hHeld => ?_)
                clear hK K
                try simp only [Act.put, List.setIfInBounds_toArray, List.set_cons_zero, List.set_cons_succ]
                refine wpAnyH_ready (rs := [7]) (by kernel_rfl) (by simp) ?_
                refine AllReadyH.cons (List.getElem?_toArray.trans rfl) (fun K hK => ?_) AllReadyH.nil
                obtain ⟨tI1, tI2, tI3, u19b, hr, hs1, hg1, GE⟩ := app_more_I GF.out (Nat.le_refl _) HE.out ((NdV.open VB.out).2.2.keepN NB.out GF.out) (by have := HPO.out.halfA.kids; simp only [List.nil_append]; omega) HPO.out.halfB.kids GF.out.size 24
                have KF := Lib.hid (KE.out.keep hg1 (row_other KE.out HE.out (by decide)))
                have HF := Lib.hid hs1
                have GH := Lib.hid GE
                have RC := Lib.hid (RowC.kept RCe.out hg1 (row_rows RCe.out HE.out (by decide)))
                clear hs1 GE hg1 KE GF HE RCe
                refine Lib.wp_append_run _ _ _ _ _ rfl _ _ rfl rfl _ _ hr ?_
                clear hr
                refine hK.out _ _ (⟨(KP.out.keep GH.out (ne_some (by omega))).cell 3 rfl, (KQ.out.keep GH.out (ne_some (by omega))).cell 3 rfl⟩) (fun hHeld => ?_)
                clear hK K
                try simp only [Act.put, List.setIfInBounds_toArray, List.set_cons_zero, List.set_cons_succ]
                refine wpAnyH_take (i := 8) (v := ?_) (List.getElem?_toArray.trans rfl) (by kernel_rfl) (by kernel_rfl) (by kernel_rfl) (fun _ _ _ h => h) (Or.inl ⟨by rfl, ?_⟩) hHeld ?_
                rotate_left
                · intro w' hSw; have m1 := hSw.1; have m2 := hSw.2; go_simp; try with_reducible rfl
                try simp only [Act.put, List.setIfInBounds_toArray, List.set_cons_zero, List.set_cons_succ]
                refine wpAnyH_ready (rs := [9]) (by kernel_rfl) (by simp) ?_
                refine AllReadyH.cons (List.getElem?_toArray.trans rfl) (fun K hK => ?_) AllReadyH.nil
                have n1 := KF.out.cell 3 rfl
                have f1 := KF.out.free 3
                go_simp
                obtain ⟨u19c, hD⟩ : ∃ z : World, z = u19b.setCell ⟨ba, 3, none⟩ (.slice tI1 tI2 tI3) := ⟨_, rfl⟩
                rw [← hD]
                have gD : u19b.grownBy u19c (some ba) := by rw [hD]; exact gb_set _ _ _ _ _
                have KA := Lib.hid (show Blk u19c ba 26 (_ : Array Value) from by rw [hD]; exact KF.out.set 3 _)
                have RI := Lib.hid (RowI.kept HF.out gD (.inr (row_other KF.out HF.out (by decide)).symm))
                replace RC := Lib.hid (RowC.kept RC.out gD (.inr (row_other KF.out RC.out (by decide)).symm))
                have GA := Lib.hid (gb_trans GH.out gD)
                clear gD hD n1 f1 KF HF GH
                refine hK.out _ _ (⟨(KP.out.keep GA.out (ne_some (by omega))).cell 3 rfl, (KQ.out.keep GA.out (ne_some (by omega))).cell 3 rfl⟩) (fun hHeld => ?_)
                clear hK K
                try simp only [Act.put, List.setIfInBounds_toArray, List.set_cons_zero, List.set_cons_succ]
                refine wpAnyH_done (by kernel_rfl) ?_ _
                refine NoPanic.normal ?_
                clear hSP hSQ
                go_upto_region 20 with fail
                have n1 := KA.out.cell 2 rfl
                have n2 := (KP.out.keep GA.out (ne_some (by omega))).cell 2 rfl
                go_upto_region 21 with (at_builtin; go_must (obtain ⟨tS01, tS02, tS03, u20a, hr, hs1, hg1, GE⟩ := app_more_S GA.out (Nat.le_refl _) (RowS.nil u19c z0.heap.size) (stsKeepN (NdV.open VA.out).2.1 NB.out GA.out) (by simp) HPO.out.halfA.keys GA.out.size 23; have KE := Lib.hid (KA.out.keep hg1 (row_other KA.out (RowS.nil u19c z0.heap.size) (by decide))); have HF := Lib.hid hs1; have GH := Lib.hid GE; have RCe := Lib.hid (RowC.kept RC.out hg1 (row_rows RC.out (RowS.nil u19c z0.heap.size) (by decide))); have RIe := Lib.hid (RowI.kept RI.out hg1 (row_rows RI.out (RowS.nil u19c z0.heap.size) (by decide))); have HR := Lib.hid hr; clear hr hs1 GE hg1 n1 n2; have n1 := KE.out.cell 2 rfl; have f1 := KE.out.free 2; refine Lib.wpList_append_run _ rfl _ _ _ _ rfl _ _ rfl rfl _ _ HR.out ?_))
                obtain ⟨u20c, hD⟩ : ∃ z : World, z = u20a.setCell ⟨ba, 2, none⟩ (.slice tS01 tS02 tS03) := ⟨_, rfl⟩
                rw [← hD]
                have gD : u20a.grownBy u20c (some ba) := by rw [hD]; exact gb_set _ _ _ _ _
                replace KA := Lib.hid (show Blk u20c ba 26 (_ : Array Value) from by rw [hD]; exact KE.out.set 2 _)
                have RS := Lib.hid (RowS.kept HF.out gD (.inr (row_other KE.out HF.out (by decide)).symm))
                replace RC := Lib.hid (RowC.kept RCe.out gD (.inr (row_other KE.out RCe.out (by decide)).symm))
                replace RI := Lib.hid (RowI.kept RIe.out gD (.inr (row_other KE.out RIe.out (by decide)).symm))
                replace GA := Lib.hid (gb_trans GH.out gD)
                clear gD hD n1 f1 KE HF GH HR RCe RIe
                have n1 := (KP.out.keep GA.out (ne_some (by omega))).cell 0 rfl
                go_upto_region 22 with fail
                clear n1
                have n1 := KA.out.cell 2 rfl
                have HS0 := RS
                go_upto_region 23 with (at_builtin; go_must (obtain ⟨uB, hB, kB, gB, hzz⟩ := new1 u20c 9 #[.string key]; rw [← hB]; obtain ⟨tS11, tS12, tS13, u22a, hr, hs1, hg1, GE⟩ := app_more_S (gb_trans GA.out (gb_weak gB _)) (Nat.le_refl _) (RowS.keep0 HS0.out gB) (sts_one kB) (by have := HPO.out.halfA.keys; simp only [List.nil_append]; omega) (by simp) (gb_trans GA.out (gb_weak gB (some ba))).size 23; have KE := Lib.hid ((KA.out.keep0 gB).keep hg1 (row_other (KA.out.keep0 gB) (RowS.keep0 HS0.out gB) (by decide))); have HF := Lib.hid hs1; have GH := Lib.hid GE; have RCe := Lib.hid (RowC.kept (RowC.keep0 RC.out gB) hg1 (row_rows (RowC.keep0 RC.out gB) (RowS.keep0 HS0.out gB) (by decide))); have RIe := Lib.hid (RowI.kept (RowI.keep0 RI.out gB) hg1 (row_rows (RowI.keep0 RI.out gB) (RowS.keep0 HS0.out gB) (by decide))); have HR := Lib.hid hr; clear hr hs1 GE hg1 hB hzz kB gB n1; have n1 := KE.out.cell 2 rfl; have f1 := KE.out.free 2; refine Lib.wpList_append_run _ rfl _ _ _ _ rfl _ _ rfl rfl _ _ HR.out ?_))
                obtain ⟨u22c, hD⟩ : ∃ z : World, z = u22a.setCell ⟨ba, 2, none⟩ (.slice tS11 tS12 tS13) := ⟨_, rfl⟩
                rw [← hD]
                have gD : u22a.grownBy u22c (some ba) := by rw [hD]; exact gb_set _ _ _ _ _
                replace KA := Lib.hid (show Blk u22c ba 26 (_ : Array Value) from by rw [hD]; exact KE.out.set 2 _)
                clear RS HS0
                have RS := Lib.hid (RowS.kept HF.out gD (.inr (row_other KE.out HF.out (by decide)).symm))
                replace RC := Lib.hid (RowC.kept RCe.out gD (.inr (row_other KE.out RCe.out (by decide)).symm))
                replace RI := Lib.hid (RowI.kept RIe.out gD (.inr (row_other KE.out RIe.out (by decide)).symm))
                replace GA := Lib.hid (gb_trans GH.out gD)
                clear gD hD n1 f1 KE HF GH HR RCe RIe
                have n1 := KA.out.cell 2 rfl
                have n2 := (KQ.out.keep GA.out (ne_some (by omega))).cell 2 rfl
                have HS0 := RS
                go_upto_region 24 with (at_builtin; go_must (obtain ⟨tS21, tS22, tS23, u23a, hr, hs1, hg1, GE⟩ := app_more_S GA.out (Nat.le_refl _) HS0.out (stsKeepN (NdV.open VB.out).2.1 NB.out GA.out) (by have := HPO.out.halfA.keys; simp only [List.nil_append, List.length_append, List.length_singleton]; omega) HPO.out.halfB.keys GA.out.size 23; have KE := Lib.hid (KA.out.keep hg1 (row_other KA.out HS0.out (by decide))); have HF := Lib.hid hs1; have GH := Lib.hid GE; have RCe := Lib.hid (RowC.kept RC.out hg1 (row_rows RC.out HS0.out (by decide))); have RIe := Lib.hid (RowI.kept RI.out hg1 (row_rows RI.out HS0.out (by decide))); have HR := Lib.hid hr; clear hr hs1 GE hg1 n1 n2; have n1 := KE.out.cell 2 rfl; have f1 := KE.out.free 2; refine Lib.wpList_append_run _ rfl _ _ _ _ rfl _ _ rfl rfl _ _ HR.out ?_))
                obtain ⟨u23c, hD⟩ : ∃ z : World, z = u23a.setCell ⟨ba, 2, none⟩ (.slice tS21 tS22 tS23) := ⟨_, rfl⟩
                rw [← hD]
                have gD : u23a.grownBy u23c (some ba) := by rw [hD]; exact gb_set _ _ _ _ _
                replace KA := Lib.hid (show Blk u23c ba 26 (_ : Array Value) from by rw [hD]; exact KE.out.set 2 _)
                clear RS HS0
                have RS := Lib.hid (RowS.kept HF.out gD (.inr (row_other KE.out HF.out (by decide)).symm))
                replace RC := Lib.hid (RowC.kept RCe.out gD (.inr (row_other KE.out RCe.out (by decide)).symm))
                replace RI := Lib.hid (RowI.kept RIe.out gD (.inr (row_other KE.out RIe.out (by decide)).symm))
                replace GA := Lib.hid (gb_trans GH.out gD)
                clear gD hD n1 f1 KE HF GH HR RCe RIe
                have e0 := KA.out.cell 0 rfl
                have e1 := KA.out.cell 1 rfl
                have e2 := KA.out.cell 2 rfl
                have e3 := KA.out.cell 3 rfl
                have K7u := K7.out.keep GA.out (ne_some (by omega))
                have n0 := K7u.cell 0 rfl
                have n1 := K7u.cell 1 rfl
                have n2 := K7u.cell 2 rfl
                have n3 := K7u.cell 3 rfl
                clear K7u
                have VALL : Hid (NdV u23c (.agg #[.bool false, .slice tC1 tC2 tC3, .slice tS21 tS22 tS23, .slice tI1 tI2 tI3]) n) := Lib.hid (all_inner hlf HLA.out (by have h := RowC.sl RC.out; rwa [List.nil_append] at h) (by have h := RowS.sl RS.out; rwa [List.nil_append] at h) (by have h := RowI.sl RI.out; rwa [List.nil_append] at h))
                have VNu := Lib.hid (VN.out.keepN NB.out GA.out)
                replace P5 := Lib.hid (PairAt.keepN P5.out NB.out GA.out (by omega))
                replace KP := Lib.hid (KP.out.keep GA.out (ne_some (by omega)))
                replace KQ := Lib.hid (KQ.out.keep GA.out (ne_some (by omega)))
                replace VA := Lib.hid (VA.out.keepN NB.out GA.out)
                replace VB := Lib.hid (VB.out.keepN NB.out GA.out)
                replace HG := Lib.hid (gb_step HG.out GA.out (by omega))
                replace K7 := Lib.hid (K7.out.keep GA.out (ne_some (by omega)))
                replace VN := VNu
                clear VNu KA GA NB RC RS RI
                have HJ := Lib.hid (fun W v u hv hu => join_no HPO.out hfit W v u hv hu)
                go_upto_region 27 with (first | (go_at_call 17; (with_reducible refine (HSAME.out _ _ _ VALL.out VN.out).mono ?_); rintro e w8 ⟨rfl, g8⟩; replace P5 := Lib.hid (P5.out.keep0 g8); replace K7 := Lib.hid (K7.out.keep0 g8); replace VN := Lib.hid (VN.out.keep0 g8); replace KP := Lib.hid (KP.out.keep0 g8); replace KQ := Lib.hid (KQ.out.keep0 g8); replace VA := Lib.hid (VA.out.keep0 g8); replace VB := Lib.hid (VB.out.keep0 g8); replace HG := Lib.hid (gb_trans HG.out g8); replace n0 := World.grownBy.cell g8 n0 (by simp); replace n1 := World.grownBy.cell g8 n1 (by simp); replace n2 := World.grownBy.cell g8 n2 (by simp); replace n3 := World.grownBy.cell g8 n3 (by simp); clear VALL e0 e1 e2 e3; have e0 := KP.out.cell 0 rfl; have e1 := KP.out.cell 1 rfl; have e2 := KP.out.cell 2 rfl; have e3 := KP.out.cell 3 rfl; have i0 := KQ.out.cell 0 rfl; have i1 := KQ.out.cell 1 rfl; have i2 := KQ.out.cell 2 rfl; have i3 := KQ.out.cell 3 rfl; clear g8) | (go_at_call 10; (with_reducible refine (HJ.out _ _ _ VA.out VB.out).mono ?_); rintro e w9 ⟨x1, y1, x2, y2, x3, y3, rfl, g9⟩; replace P5 := Lib.hid (P5.out.keep0 g9); replace K7 := Lib.hid (K7.out.keep0 g9); replace VN := Lib.hid (VN.out.keep0 g9); replace HG := Lib.hid (gb_trans HG.out g9); replace n0 := World.grownBy.cell g9 n0 (by simp); replace n1 := World.grownBy.cell g9 n1 (by simp); replace n2 := World.grownBy.cell g9 n2 (by simp); replace n3 := World.grownBy.cell g9 n3 (by simp); clear g9 e0 e1 e2 e3 i0 i1 i2 i3))
                obtain ⟨w10, hu, kX, g10, hz10⟩ := new1 w9 26 #[.bool false, .slice x1 0 y1, .slice x2 0 y2, .slice x3 0 y3]
                rw [← hu]
                clear hu hz10
                replace P5 := Lib.hid (P5.out.keep0 g10)
                replace K7 := Lib.hid (K7.out.keep0 g10)
                replace VN := Lib.hid (VN.out.keep0 g10)
                replace HG := Lib.hid (gb_trans HG.out g10)
                replace n0 := World.grownBy.cell g10 n0 (by simp)
                replace n1 := World.grownBy.cell g10 n1 (by simp)
                replace n2 := World.grownBy.cell g10 n2 (by simp)
                replace n3 := World.grownBy.cell g10 n3 (by simp)
                clear g10
                go_wp2_with fail
                go_roundw
                case rel => exact ⟨i + 1, by omega, by go_num, P5.out, HG.out⟩
                case measure => simp [intOf]; omega
              · go_upto_region 18 with (first | (go_at_call 14; (with_reducible refine (HPUT.out _ _ VN.out).mono ?_); rintro e w2 ⟨rfl, g2⟩; replace P5 := Lib.hid (P5.out.keep0 g2); replace K7 := Lib.hid (K7.out.keep0 g2); replace VN := Lib.hid (VN.out.keep0 g2); replace HG := Lib.hid (gb_trans HG.out g2); replace n0 := World.grownBy.cell g2 n0 (by simp); replace n1 := World.grownBy.cell g2 n1 (by simp); replace n2 := World.grownBy.cell g2 n2 (by simp); replace n3 := World.grownBy.cell g2 n3 (by simp); clear g2) | (go_at_call 15; (with_reducible refine (HFIT.out _ _ VN.out).mono ?_); rintro e w3 ⟨rfl, g3⟩; replace P5 := Lib.hid (P5.out.keep0 g3); replace K7 := Lib.hid (K7.out.keep0 g3); replace VN := Lib.hid (VN.out.keep0 g3); replace HG := Lib.hid (gb_trans HG.out g3); replace n0 := World.grownBy.cell g3 n0 (by simp); replace n1 := World.grownBy.cell g3 n1 (by simp); replace n2 := World.grownBy.cell g3 n2 (by simp); replace n3 := World.grownBy.cell g3 n3 (by simp); clear g3) | (go_at_call 18; (with_reducible refine (HSP.out _ _ VN.out).mono ?_); rintro e w7 ⟨A, B, key, p1, r1, s1, p2, r2, s2, p3, r3, s3, o1, l1, d1, o2, l2, d2, o3, l3, d3, rfl, vA, vB, hPO, g7⟩; replace P5 := Lib.hid (P5.out.keep0 g7); replace K7 := Lib.hid (K7.out.keep0 g7); replace VN := Lib.hid (VN.out.keep0 g7); replace HG := Lib.hid (gb_trans HG.out g7); replace n0 := World.grownBy.cell g7 n0 (by simp); replace n1 := World.grownBy.cell g7 n1 (by simp); replace n2 := World.grownBy.cell g7 n2 (by simp); replace n3 := World.grownBy.cell g7 n3 (by simp); have VA := Lib.hid vA; have VB := Lib.hid vB; have HPO := Lib.hid hPO; clear g7 vA vB hPO))
                obtain ⟨z0, hu, kP, kQ, kA, g5, hz5⟩ := new3 w7 26 #[.bool true, .slice p1 r1 s1, .slice p2 r2 s2, .slice p3 r3 s3] 26 #[.bool true, .slice o1 l1 d1, .slice o2 l2 d2, .slice o3 l3 d3] 26 #[.bool true, .slice none 0 0, .slice none 0 0, .slice none 0 0]
                rw [← hu]
                clear hu
                have hw7 : w.heap.size ≤ w7.heap.size := HG.out.size
                have hb7w : b7 < w7.heap.size := K7.out.lt
                have hb5w : b5 < w7.heap.size := PairAt.lt P5.out
                replace P5 := Lib.hid (P5.out.keep0 g5)
                replace K7 := Lib.hid (K7.out.keep0 g5)
                replace VN := Lib.hid (VN.out.keep0 g5)
                replace VA := Lib.hid (VA.out.keep0 g5)
                replace VB := Lib.hid (VB.out.keep0 g5)
                replace HG := Lib.hid (gb_trans HG.out g5)
                clear g5 n0 n1 n2 n3
                generalize w7.heap.size = bp at kP kQ kA hz5 hw7 hb7w hb5w ⊢
                obtain ⟨bq, hbq⟩ : ∃ bq, bp + 1 = bq := ⟨_, rfl⟩
                rw [hbq] at kQ kA ⊢
                obtain ⟨ba, hba⟩ : ∃ ba, bq + 1 = ba := ⟨_, rfl⟩
                rw [hba] at kA ⊢
                have KP := Lib.hid kP
                have KQ := Lib.hid kQ
                have KA := Lib.hid kA
                have NB := Lib.hid (Nbl.node kA)
                have GA := Lib.hid (gb_refl z0 (some ba))
                have HLA := Lib.hid (show (allN _ A B key) = n from HPO.out.all)
                clear kP kQ kA
                go_upto_region 18 with fail
                have hSP : z0.cell? ⟨bp, 1, none⟩ = some (.slice p1 r1 s1) := (KP.out.keep GA.out (ne_some (by omega))).cell 1 rfl
                have hSQ : z0.cell? ⟨bq, 1, none⟩ = some (.slice o1 l1 d1) := (KQ.out.keep GA.out (ne_some (by omega))).cell 1 rfl
                have GD := Lib.hid (gb_trans GA.out (gb_drew z0 (some ba)))
                have KD := Lib.hid (KA.out.keep0 (gb_drew z0 none))
                clear KA GA
                refine wp_region_noPanic ?_
                refine wp_region_held_drew (S := fun w' => w'.cell? ⟨bp, 1, none⟩ = some (.slice p1 r1 s1) ∧ w'.cell? ⟨bq, 1, none⟩ = some (.slice o1 l1 d1)) (by kernel_rfl) ⟨hSP, hSQ⟩ (fun hHeld => ?_)
                refine wpAnyH_take (i := 0) (v := ?_) (List.getElem?_toArray.trans rfl) (by kernel_rfl) (by kernel_rfl) (by kernel_rfl) (fun _ _ _ h => h) (Or.inl ⟨by rfl, ?_⟩) hHeld ?_
                rotate_left
                · intro w' hSw; have m1 := hSw.1; have m2 := hSw.2; go_simp; try with_reducible rfl
                try simp only [Act.put, List.setIfInBounds_toArray, List.set_cons_zero, List.set_cons_succ]
                refine wpAnyH_take (i := 2) (v := ?_) (List.getElem?_toArray.trans rfl) (by kernel_rfl) (by kernel_rfl) (by kernel_rfl) (fun _ _ _ h => h) (Or.inl ⟨by rfl, ?_⟩) hHeld ?_
                rotate_left
                · intro w' hSw; have m1 := hSw.1; have m2 := hSw.2; go_simp; try with_reducible rfl
                try simp only [Act.put, List.setIfInBounds_toArray, List.set_cons_zero, List.set_cons_succ]
                refine wpAnyH_take (i := 5) (v := ?_) (List.getElem?_toArray.trans rfl) (by kernel_rfl) (by kernel_rfl) (by kernel_rfl) (fun _ _ _ h => h) (Or.inl ⟨by rfl, ?_⟩) hHeld ?_
                rotate_left
                · intro w' hSw; have m1 := hSw.1; have m2 := hSw.2; go_simp; try with_reducible rfl
                try simp only [Act.put, List.setIfInBounds_toArray, List.set_cons_zero, List.set_cons_succ]
                refine wpAnyH_take (i := 3) (v := ?_) (List.getElem?_toArray.trans rfl) (by kernel_rfl) (by kernel_rfl) (by kernel_rfl) (fun _ _ _ h => h) (Or.inl ⟨by rfl, ?_⟩) hHeld ?_
                rotate_left
                · intro w' hSw; have m1 := hSw.1; have m2 := hSw.2; go_simp; try with_reducible rfl
                try simp only [Act.put, List.setIfInBounds_toArray, List.set_cons_zero, List.set_cons_succ]
                refine wpAnyH_take (i := 6) (v := ?_) (List.getElem?_toArray.trans rfl) (by kernel_rfl) (by kernel_rfl) (by kernel_rfl) (fun _ _ _ h => h) (Or.inl ⟨by rfl, ?_⟩) hHeld ?_
                rotate_left
                · intro w' hSw; have m1 := hSw.1; have m2 := hSw.2; go_simp; try with_reducible rfl
                try simp only [Act.put, List.setIfInBounds_toArray, List.set_cons_zero, List.set_cons_succ]
                refine wpAnyH_ready (rs := [1]) (by kernel_rfl) (by simp) ?_
                refine AllReadyH.cons (List.getElem?_toArray.trans rfl) (fun K hK => ?_) AllReadyH.nil
                have n1 := KD.out.cell 1 rfl
                go_simp
                clear n1
                refine hK.out _ _ (⟨hSP, hSQ⟩) (fun hHeld => ?_)
                clear hK K
                try simp only [Act.put, List.setIfInBounds_toArray, List.set_cons_zero, List.set_cons_succ]
                refine wpAnyH_ready (rs := [4]) (by kernel_rfl) (by simp) ?_
                refine AllReadyH.cons (List.getElem?_toArray.trans rfl) (fun K hK => ?_) AllReadyH.nil
                obtain ⟨ya1, ya2, ya3, u18a, hr, hs1, hg1, GE⟩ := app_more_C GD.out (Nat.le_refl _) (RowC.nil z0.drew z0.heap.size) ((NdV.open VA.out).1.keepN NB.out GD.out) (by simp) HPO.out.halfA.cells GD.out.size 22
                have KE := Lib.hid (KD.out.keep hg1 (row_other KD.out (RowC.nil z0.drew z0.heap.size) (by decide)))
                have HE := Lib.hid hs1
                have GF := Lib.hid GE
                clear hs1 GE hg1 KD GD
                refine Lib.wp_append_run _ _ _ _ _ rfl _ _ rfl rfl _ _ hr ?_
                clear hr
                refine hK.out _ _ (⟨(KP.out.keep GF.out (ne_some (by omega))).cell 1 rfl, (KQ.out.keep GF.out (ne_some (by omega))).cell 1 rfl⟩) (fun hHeld => ?_)
                clear hK K
                try simp only [Act.put, List.setIfInBounds_toArray, List.set_cons_zero, List.set_cons_succ]
                refine wpAnyH_ready (rs := [7]) (by kernel_rfl) (by simp) ?_
                refine AllReadyH.cons (List.getElem?_toArray.trans rfl) (fun K hK => ?_) AllReadyH.nil
                obtain ⟨tC1, tC2, tC3, u18b, hr, hs1, hg1, GE⟩ := app_more_C GF.out (Nat.le_refl _) HE.out ((NdV.open VB.out).1.keepN NB.out GF.out) (by have := HPO.out.halfA.cells; simp only [List.nil_append]; omega) HPO.out.halfB.cells GF.out.size 22
                have KF := Lib.hid (KE.out.keep hg1 (row_other KE.out HE.out (by decide)))
                have HF := Lib.hid hs1
                have GH := Lib.hid GE
                clear hs1 GE hg1 KE GF HE
                refine Lib.wp_append_run _ _ _ _ _ rfl _ _ rfl rfl _ _ hr ?_
                clear hr
                refine hK.out _ _ (⟨(KP.out.keep GH.out (ne_some (by omega))).cell 1 rfl, (KQ.out.keep GH.out (ne_some (by omega))).cell 1 rfl⟩) (fun hHeld => ?_)
                clear hK K
                try simp only [Act.put, List.setIfInBounds_toArray, List.set_cons_zero, List.set_cons_succ]
                refine wpAnyH_take (i := 8) (v := ?_) (List.getElem?_toArray.trans rfl) (by kernel_rfl) (by kernel_rfl) (by kernel_rfl) (fun _ _ _ h => h) (Or.inl ⟨by rfl, ?_⟩) hHeld ?_
                rotate_left
                · intro w' hSw; have m1 := hSw.1; have m2 := hSw.2; go_simp; try with_reducible rfl
                try simp only [Act.put, List.setIfInBounds_toArray, List.set_cons_zero, List.set_cons_succ]
                refine wpAnyH_ready (rs := [9]) (by kernel_rfl) (by simp) ?_
                refine AllReadyH.cons (List.getElem?_toArray.trans rfl) (fun K hK => ?_) AllReadyH.nil
                have n1 := KF.out.cell 1 rfl
                have f1 := KF.out.free 1
                go_simp
                obtain ⟨u18c, hD⟩ : ∃ z : World, z = u18b.setCell ⟨ba, 1, none⟩ (.slice tC1 tC2 tC3) := ⟨_, rfl⟩
                rw [← hD]
                have gD : u18b.grownBy u18c (some ba) := by rw [hD]; exact gb_set _ _ _ _ _
                have KA := Lib.hid (show Blk u18c ba 26 (_ : Array Value) from by rw [hD]; exact KF.out.set 1 _)
                have RC := Lib.hid (RowC.kept HF.out gD (.inr (row_other KF.out HF.out (by decide)).symm))
                have GA := Lib.hid (gb_trans GH.out gD)
                clear gD hD n1 f1 KF HF GH
                refine hK.out _ _ (⟨(KP.out.keep GA.out (ne_some (by omega))).cell 1 rfl, (KQ.out.keep GA.out (ne_some (by omega))).cell 1 rfl⟩) (fun hHeld => ?_)
                clear hK K
                try simp only [Act.put, List.setIfInBounds_toArray, List.set_cons_zero, List.set_cons_succ]
                refine wpAnyH_done (by kernel_rfl) ?_ _
                refine NoPanic.normal ?_
                clear hSP hSQ
                go_upto_region 19 with fail
                have hSP : u18c.cell? ⟨bp, 3, none⟩ = some (.slice p3 r3 s3) := (KP.out.keep GA.out (ne_some (by omega))).cell 3 rfl
                have hSQ : u18c.cell? ⟨bq, 3, none⟩ = some (.slice o3 l3 d3) := (KQ.out.keep GA.out (ne_some (by omega))).cell 3 rfl
                have GD := Lib.hid (gb_trans GA.out (gb_drew u18c (some ba)))
                have KD := Lib.hid (KA.out.keep0 (gb_drew u18c none))
                replace RC := Lib.hid (RowC.keep0 RC.out (gb_drew u18c none))
                clear KA GA
                refine wp_region_noPanic ?_
                refine wp_region_held_drew (S := fun w' => w'.cell? ⟨bp, 3, none⟩ = some (.slice p3 r3 s3) ∧ w'.cell? ⟨bq, 3, none⟩ = some (.slice o3 l3 d3)) (by kernel_rfl) ⟨hSP, hSQ⟩ (fun hHeld => ?_)
                refine wpAnyH_take (i := 0) (v := ?_) (List.getElem?_toArray.trans rfl) (by kernel_rfl) (by kernel_rfl) (by kernel_rfl) (fun _ _ _ h => h) (Or.inl ⟨by rfl, ?_⟩) hHeld ?_
                rotate_left
                · intro w' hSw; have m1 := hSw.1; have m2 := hSw.2; go_simp; try with_reducible rfl
                try simp only [Act.put, List.setIfInBounds_toArray, List.set_cons_zero, List.set_cons_succ]
                refine wpAnyH_take (i := 2) (v := ?_) (List.getElem?_toArray.trans rfl) (by kernel_rfl) (by kernel_rfl) (by kernel_rfl) (fun _ _ _ h => h) (Or.inl ⟨by rfl, ?_⟩) hHeld ?_
                rotate_left
                · intro w' hSw; have m1 := hSw.1; have m2 := hSw.2; go_simp; try with_reducible rfl
                try simp only [Act.put, List.setIfInBounds_toArray, List.set_cons_zero, List.set_cons_succ]
                refine wpAnyH_take (i := 5) (v := ?_) (List.getElem?_toArray.trans rfl) (by kernel_rfl) (by kernel_rfl) (by kernel_rfl) (fun _ _ _ h => h) (Or.inl ⟨by rfl, ?_⟩) hHeld ?_
                rotate_left
                · intro w' hSw; have m1 := hSw.1; have m2 := hSw.2; go_simp; try with_reducible rfl
                try simp only [Act.put, List.setIfInBounds_toArray, List.set_cons_zero, List.set_cons_succ]
                refine wpAnyH_take (i := 3) (v := ?_) (List.getElem?_toArray.trans rfl) (by kernel_rfl) (by kernel_rfl) (by kernel_rfl) (fun _ _ _ h => h) (Or.inl ⟨by rfl, ?_⟩) hHeld ?_
                rotate_left
                · intro w' hSw; have m1 := hSw.1; have m2 := hSw.2; go_simp; try with_reducible rfl
                try simp only [Act.put, List.setIfInBounds_toArray, List.set_cons_zero, List.set_cons_succ]
                refine wpAnyH_take (i := 6) (v := ?_) (List.getElem?_toArray.trans rfl) (by kernel_rfl) (by kernel_rfl) (by kernel_rfl) (fun _ _ _ h => h) (Or.inl ⟨by rfl, ?_⟩) hHeld ?_
                rotate_left
                · intro w' hSw; have m1 := hSw.1; have m2 := hSw.2; go_simp; try with_reducible rfl
                try simp only [Act.put, List.setIfInBounds_toArray, List.set_cons_zero, List.set_cons_succ]
                refine wpAnyH_ready (rs := [1]) (by kernel_rfl) (by simp) ?_
                refine AllReadyH.cons (List.getElem?_toArray.trans rfl) (fun K hK => ?_) AllReadyH.nil
                have n1 := KD.out.cell 3 rfl
                go_simp
                clear n1
                refine hK.out _ _ (⟨hSP, hSQ⟩) (fun hHeld => ?_)
                clear hK K
                try simp only [Act.put, List.setIfInBounds_toArray, List.set_cons_zero, List.set_cons_succ]
                refine wpAnyH_ready (rs := [4]) (by kernel_rfl) (by simp) ?_
                refine AllReadyH.cons (List.getElem?_toArray.trans rfl) (fun K hK => ?_) AllReadyH.nil
                obtain ⟨ya1, ya2, ya3, u19a, hr, hs1, hg1, GE⟩ := app_more_I GD.out (Nat.le_refl _) (RowI.nil u18c.drew z0.heap.size) ((NdV.open VA.out).2.2.keepN NB.out GD.out) (by simp) HPO.out.halfA.kids GD.out.size 24
                have KE := Lib.hid (KD.out.keep hg1 (row_other KD.out (RowI.nil u18c.drew z0.heap.size) (by decide)))
                have HE := Lib.hid hs1
                have GF := Lib.hid GE
                have RCe := Lib.hid (RowC.kept RC.out hg1 (row_rows RC.out (RowI.nil u18c.drew z0.heap.size) (by decide)))
                clear hs1 GE hg1 KD GD RC
                refine Lib.wp_append_run _ _ _ _ _ rfl _ _ rfl rfl _ _ hr ?_
                clear hr
                refine hK.out _ _ (⟨(KP.out.keep GF.out (ne_some (by omega))).cell 3 rfl, (KQ.out.keep GF.out (ne_some (by omega))).cell 3 rfl⟩) (fun hHeld => ?_)
                clear hK K
                try simp only [Act.put, List.setIfInBounds_toArray, List.set_cons_zero, List.set_cons_succ]
                refine wpAnyH_ready (rs := [7]) (by kernel_rfl) (by simp) ?_
                refine AllReadyH.cons (List.getElem?_toArray.trans rfl) (fun K hK => ?_) AllReadyH.nil
                obtain ⟨tI1, tI2, tI3, u19b, hr, hs1, hg1, GE⟩ := app_more_I GF.out (Nat.le_refl _) HE.out ((NdV.open VB.out).2.2.keepN NB.out GF.out) (by have := HPO.out.halfA.kids; simp only [List.nil_append]; omega) HPO.out.halfB.kids GF.out.size 24
                have KF := Lib.hid (KE.out.keep hg1 (row_other KE.out HE.out (by decide)))
                have HF := Lib.hid hs1
                have GH := Lib.hid GE
                have RC := Lib.hid (RowC.kept RCe.out hg1 (row_rows RCe.out HE.out (by decide)))
                clear hs1 GE hg1 KE GF HE RCe
                refine Lib.wp_append_run _ _ _ _ _ rfl _ _ rfl rfl _ _ hr ?_
                clear hr
                refine hK.out _ _ (⟨(KP.out.keep GH.out (ne_some (by omega))).cell 3 rfl, (KQ.out.keep GH.out (ne_some (by omega))).cell 3 rfl⟩) (fun hHeld => ?_)
                clear hK K
                try simp only [Act.put, List.setIfInBounds_toArray, List.set_cons_zero, List.set_cons_succ]
                refine wpAnyH_take (i := 8) (v := ?_) (List.getElem?_toArray.trans rfl) (by kernel_rfl) (by kernel_rfl) (by kernel_rfl) (fun _ _ _ h => h) (Or.inl ⟨by rfl, ?_⟩) hHeld ?_
                rotate_left
                · intro w' hSw; have m1 := hSw.1; have m2 := hSw.2; go_simp; try with_reducible rfl
                try simp only [Act.put, List.setIfInBounds_toArray, List.set_cons_zero, List.set_cons_succ]
                refine wpAnyH_ready (rs := [9]) (by kernel_rfl) (by simp) ?_
                refine AllReadyH.cons (List.getElem?_toArray.trans rfl) (fun K hK => ?_) AllReadyH.nil
                have n1 := KF.out.cell 3 rfl
                have f1 := KF.out.free 3
                go_simp
                obtain ⟨u19c, hD⟩ : ∃ z : World, z = u19b.setCell ⟨ba, 3, none⟩ (.slice tI1 tI2 tI3) := ⟨_, rfl⟩
                rw [← hD]
                have gD : u19b.grownBy u19c (some ba) := by rw [hD]; exact gb_set _ _ _ _ _
                have KA := Lib.hid (show Blk u19c ba 26 (_ : Array Value) from by rw [hD]; exact KF.out.set 3 _)
                have RI := Lib.hid (RowI.kept HF.out gD (.inr (row_other KF.out HF.out (by decide)).symm))
                replace RC := Lib.hid (RowC.kept RC.out gD (.inr (row_other KF.out RC.out (by decide)).symm))
                have GA := Lib.hid (gb_trans GH.out gD)
                clear gD hD n1 f1 KF HF GH
                refine hK.out _ _ (⟨(KP.out.keep GA.out (ne_some (by omega))).cell 3 rfl, (KQ.out.keep GA.out (ne_some (by omega))).cell 3 rfl⟩) (fun hHeld => ?_)
                clear hK K
                try simp only [Act.put, List.setIfInBounds_toArray, List.set_cons_zero, List.set_cons_succ]
                refine wpAnyH_done (by kernel_rfl) ?_ _
                refine NoPanic.normal ?_
                clear hSP hSQ
                go_upto_region 20 with fail
                have n1 := KA.out.cell 2 rfl
                have n2 := (KP.out.keep GA.out (ne_some (by omega))).cell 2 rfl
                go_upto_region 21 with (at_builtin; go_must (obtain ⟨tS01, tS02, tS03, u20a, hr, hs1, hg1, GE⟩ := app_more_S GA.out (Nat.le_refl _) (RowS.nil u19c z0.heap.size) (stsKeepN (NdV.open VA.out).2.1 NB.out GA.out) (by simp) HPO.out.halfA.keys GA.out.size 23; have KE := Lib.hid (KA.out.keep hg1 (row_other KA.out (RowS.nil u19c z0.heap.size) (by decide))); have HF := Lib.hid hs1; have GH := Lib.hid GE; have RCe := Lib.hid (RowC.kept RC.out hg1 (row_rows RC.out (RowS.nil u19c z0.heap.size) (by decide))); have RIe := Lib.hid (RowI.kept RI.out hg1 (row_rows RI.out (RowS.nil u19c z0.heap.size) (by decide))); have HR := Lib.hid hr; clear hr hs1 GE hg1 n1 n2; have n1 := KE.out.cell 2 rfl; have f1 := KE.out.free 2; refine Lib.wpList_append_run _ rfl _ _ _ _ rfl _ _ rfl rfl _ _ HR.out ?_))
                obtain ⟨u20c, hD⟩ : ∃ z : World, z = u20a.setCell ⟨ba, 2, none⟩ (.slice tS01 tS02 tS03) := ⟨_, rfl⟩
                rw [← hD]
                have gD : u20a.grownBy u20c (some ba) := by rw [hD]; exact gb_set _ _ _ _ _
                replace KA := Lib.hid (show Blk u20c ba 26 (_ : Array Value) from by rw [hD]; exact KE.out.set 2 _)
                have RS := Lib.hid (RowS.kept HF.out gD (.inr (row_other KE.out HF.out (by decide)).symm))
                replace RC := Lib.hid (RowC.kept RCe.out gD (.inr (row_other KE.out RCe.out (by decide)).symm))
                replace RI := Lib.hid (RowI.kept RIe.out gD (.inr (row_other KE.out RIe.out (by decide)).symm))
                replace GA := Lib.hid (gb_trans GH.out gD)
                clear gD hD n1 f1 KE HF GH HR RCe RIe
                have n1 := (KP.out.keep GA.out (ne_some (by omega))).cell 0 rfl
                go_upto_region 23 with fail
                clear n1
                have n1 := KA.out.cell 2 rfl
                have n2 := (KQ.out.keep GA.out (ne_some (by omega))).cell 2 rfl
                have HS0 := RS
                go_upto_region 24 with (at_builtin; go_must (obtain ⟨tS11, tS12, tS13, u23a, hr, hs1, hg1, GE⟩ := app_more_S GA.out (Nat.le_refl _) HS0.out (stsKeepN (NdV.open VB.out).2.1 NB.out GA.out) (by have := HPO.out.halfA.keys; simp only [List.nil_append, List.length_append, List.length_singleton]; omega) HPO.out.halfB.keys GA.out.size 23; have KE := Lib.hid (KA.out.keep hg1 (row_other KA.out HS0.out (by decide))); have HF := Lib.hid hs1; have GH := Lib.hid GE; have RCe := Lib.hid (RowC.kept RC.out hg1 (row_rows RC.out HS0.out (by decide))); have RIe := Lib.hid (RowI.kept RI.out hg1 (row_rows RI.out HS0.out (by decide))); have HR := Lib.hid hr; clear hr hs1 GE hg1 n1 n2; have n1 := KE.out.cell 2 rfl; have f1 := KE.out.free 2; refine Lib.wpList_append_run _ rfl _ _ _ _ rfl _ _ rfl rfl _ _ HR.out ?_))
                obtain ⟨u23c, hD⟩ : ∃ z : World, z = u23a.setCell ⟨ba, 2, none⟩ (.slice tS11 tS12 tS13) := ⟨_, rfl⟩
                rw [← hD]
                have gD : u23a.grownBy u23c (some ba) := by rw [hD]; exact gb_set _ _ _ _ _
                replace KA := Lib.hid (show Blk u23c ba 26 (_ : Array Value) from by rw [hD]; exact KE.out.set 2 _)
                clear RS HS0
                have RS := Lib.hid (RowS.kept HF.out gD (.inr (row_other KE.out HF.out (by decide)).symm))
                replace RC := Lib.hid (RowC.kept RCe.out gD (.inr (row_other KE.out RCe.out (by decide)).symm))
                replace RI := Lib.hid (RowI.kept RIe.out gD (.inr (row_other KE.out RIe.out (by decide)).symm))
                replace GA := Lib.hid (gb_trans GH.out gD)
                clear gD hD n1 f1 KE HF GH HR RCe RIe
                have e0 := KA.out.cell 0 rfl
                have e1 := KA.out.cell 1 rfl
                have e2 := KA.out.cell 2 rfl
                have e3 := KA.out.cell 3 rfl
                have K7u := K7.out.keep GA.out (ne_some (by omega))
                have n0 := K7u.cell 0 rfl
                have n1 := K7u.cell 1 rfl
                have n2 := K7u.cell 2 rfl
                have n3 := K7u.cell 3 rfl
                clear K7u
                have VALL : Hid (NdV u23c (.agg #[.bool true, .slice tC1 tC2 tC3, .slice tS11 tS12 tS13, .slice tI1 tI2 tI3]) n) := Lib.hid (all_leaf hlf HLA.out (by have h := RowC.sl RC.out; rwa [List.nil_append] at h) (by have h := RowS.sl RS.out; rwa [List.nil_append] at h) (by have h := RowI.sl RI.out; rwa [List.nil_append] at h))
                have VNu := Lib.hid (VN.out.keepN NB.out GA.out)
                replace P5 := Lib.hid (PairAt.keepN P5.out NB.out GA.out (by omega))
                replace KP := Lib.hid (KP.out.keep GA.out (ne_some (by omega)))
                replace KQ := Lib.hid (KQ.out.keep GA.out (ne_some (by omega)))
                replace VA := Lib.hid (VA.out.keepN NB.out GA.out)
                replace VB := Lib.hid (VB.out.keepN NB.out GA.out)
                replace HG := Lib.hid (gb_step HG.out GA.out (by omega))
                replace K7 := Lib.hid (K7.out.keep GA.out (ne_some (by omega)))
                replace VN := VNu
                clear VNu KA GA NB RC RS RI
                have HJ := Lib.hid (fun W v u hv hu => join_no HPO.out hfit W v u hv hu)
                go_upto_region 27 with (first | (go_at_call 17; (with_reducible refine (HSAME.out _ _ _ VALL.out VN.out).mono ?_); rintro e w8 ⟨rfl, g8⟩; replace P5 := Lib.hid (P5.out.keep0 g8); replace K7 := Lib.hid (K7.out.keep0 g8); replace VN := Lib.hid (VN.out.keep0 g8); replace KP := Lib.hid (KP.out.keep0 g8); replace KQ := Lib.hid (KQ.out.keep0 g8); replace VA := Lib.hid (VA.out.keep0 g8); replace VB := Lib.hid (VB.out.keep0 g8); replace HG := Lib.hid (gb_trans HG.out g8); replace n0 := World.grownBy.cell g8 n0 (by simp); replace n1 := World.grownBy.cell g8 n1 (by simp); replace n2 := World.grownBy.cell g8 n2 (by simp); replace n3 := World.grownBy.cell g8 n3 (by simp); clear VALL e0 e1 e2 e3; have e0 := KP.out.cell 0 rfl; have e1 := KP.out.cell 1 rfl; have e2 := KP.out.cell 2 rfl; have e3 := KP.out.cell 3 rfl; have i0 := KQ.out.cell 0 rfl; have i1 := KQ.out.cell 1 rfl; have i2 := KQ.out.cell 2 rfl; have i3 := KQ.out.cell 3 rfl; clear g8) | (go_at_call 10; (with_reducible refine (HJ.out _ _ _ VA.out VB.out).mono ?_); rintro e w9 ⟨x1, y1, x2, y2, x3, y3, rfl, g9⟩; replace P5 := Lib.hid (P5.out.keep0 g9); replace K7 := Lib.hid (K7.out.keep0 g9); replace VN := Lib.hid (VN.out.keep0 g9); replace HG := Lib.hid (gb_trans HG.out g9); replace n0 := World.grownBy.cell g9 n0 (by simp); replace n1 := World.grownBy.cell g9 n1 (by simp); replace n2 := World.grownBy.cell g9 n2 (by simp); replace n3 := World.grownBy.cell g9 n3 (by simp); clear g9 e0 e1 e2 e3 i0 i1 i2 i3))
                obtain ⟨w10, hu, kX, g10, hz10⟩ := new1 w9 26 #[.bool false, .slice x1 0 y1, .slice x2 0 y2, .slice x3 0 y3]
                rw [← hu]
                clear hu hz10
                replace P5 := Lib.hid (P5.out.keep0 g10)
                replace K7 := Lib.hid (K7.out.keep0 g10)
                replace VN := Lib.hid (VN.out.keep0 g10)
                replace HG := Lib.hid (gb_trans HG.out g10)
                replace n0 := World.grownBy.cell g10 n0 (by simp)
                replace n1 := World.grownBy.cell g10 n1 (by simp)
                replace n2 := World.grownBy.cell g10 n2 (by simp)
                replace n3 := World.grownBy.cell g10 n3 (by simp)
                clear g10
                go_wp2_with fail
                go_roundw
                case rel => exact ⟨i + 1, by omega, by go_num, P5.out, HG.out⟩
                case measure => simp [intOf]; omega
            · have HSP : Hid (∀ W v, NdV W v n → Calls Tryz.prog 18 #[v] W (SplitNo W)) := Lib.hid (fun W v hv => split_few hfew hH W v hv)
              go_wp2_with (first | (go_at_call 14; (with_reducible refine (HPUT.out _ _ VN.out).mono ?_); rintro e w2 ⟨rfl, g2⟩; replace P5 := Lib.hid (P5.out.keep0 g2); replace K7 := Lib.hid (K7.out.keep0 g2); replace VN := Lib.hid (VN.out.keep0 g2); replace HG := Lib.hid (gb_trans HG.out g2); replace n0 := World.grownBy.cell g2 n0 (by simp); replace n1 := World.grownBy.cell g2 n1 (by simp); replace n2 := World.grownBy.cell g2 n2 (by simp); replace n3 := World.grownBy.cell g2 n3 (by simp); clear g2) | (go_at_call 15; (with_reducible refine (HFIT.out _ _ VN.out).mono ?_); rintro e w3 ⟨rfl, g3⟩; replace P5 := Lib.hid (P5.out.keep0 g3); replace K7 := Lib.hid (K7.out.keep0 g3); replace VN := Lib.hid (VN.out.keep0 g3); replace HG := Lib.hid (gb_trans HG.out g3); replace n0 := World.grownBy.cell g3 n0 (by simp); replace n1 := World.grownBy.cell g3 n1 (by simp); replace n2 := World.grownBy.cell g3 n2 (by simp); replace n3 := World.grownBy.cell g3 n3 (by simp); clear g3) | (go_at_call 18; (with_reducible refine (HSP.out _ _ VN.out).mono ?_); rintro e w7 ⟨rfl, g7⟩; replace P5 := Lib.hid (P5.out.keep0 g7); replace K7 := Lib.hid (K7.out.keep0 g7); replace VN := Lib.hid (VN.out.keep0 g7); replace HG := Lib.hid (gb_trans HG.out g7); replace n0 := World.grownBy.cell g7 n0 (by simp); replace n1 := World.grownBy.cell g7 n1 (by simp); replace n2 := World.grownBy.cell g7 n2 (by simp); replace n3 := World.grownBy.cell g7 n3 (by simp); clear g7))
              go_roundw
              case rel => exact ⟨i + 1, by omega, by go_num, (P5.out.keep0 (gb_alloc _ _ none)).keep0 (gb_alloc _ _ none), gb_trans (gb_trans HG.out (gb_alloc _ _ none)) (gb_alloc _ _ none)⟩
              case measure => simp [intOf]; omega
          · 
            obtain ⟨bs, hbs⟩ : ∃ bs : ByteArray, ⟨n.bytes.toArray⟩ = bs := ⟨_, rfl⟩
            have HPUT := Lib.hid (fun W v hv => put_yes hfit hbs hH.lim W v hv)
            have HFIT := Lib.hid (fun W v hv => fits_is hfit hH.lim W v hv)
            have HGET : Hid (∀ W, Calls Tryz.prog 16 #[.string bs] W (GotN n W)) := Lib.hid (fun W => get_back hfit hbs W)
            clear hbs
            go_upto_region 13 with (first | (go_at_call 14; (with_reducible refine (HPUT.out _ _ VN.out).mono ?_); rintro e w2 ⟨rfl, g2⟩; replace P5 := Lib.hid (P5.out.keep0 g2); replace K7 := Lib.hid (K7.out.keep0 g2); replace VN := Lib.hid (VN.out.keep0 g2); replace HG := Lib.hid (gb_trans HG.out g2); replace n0 := World.grownBy.cell g2 n0 (by simp); replace n1 := World.grownBy.cell g2 n1 (by simp); replace n2 := World.grownBy.cell g2 n2 (by simp); replace n3 := World.grownBy.cell g2 n3 (by simp); clear g2) | (go_at_call 15; (with_reducible refine (HFIT.out _ _ VN.out).mono ?_); rintro e w3 ⟨rfl, g3⟩; replace P5 := Lib.hid (P5.out.keep0 g3); replace K7 := Lib.hid (K7.out.keep0 g3); replace VN := Lib.hid (VN.out.keep0 g3); replace HG := Lib.hid (gb_trans HG.out g3); replace n0 := World.grownBy.cell g3 n0 (by simp); replace n1 := World.grownBy.cell g3 n1 (by simp); replace n2 := World.grownBy.cell g3 n2 (by simp); replace n3 := World.grownBy.cell g3 n3 (by simp); clear g3) | (go_at_call 16; (with_reducible refine (HGET.out _).mono ?_); rintro e w4 ⟨x1, y1, x2, y2, x3, y3, rfl, vX, g4⟩; replace P5 := Lib.hid (P5.out.keep0 g4); replace K7 := Lib.hid (K7.out.keep0 g4); replace VN := Lib.hid (VN.out.keep0 g4); replace HG := Lib.hid (gb_trans HG.out g4); replace n0 := World.grownBy.cell g4 n0 (by simp); replace n1 := World.grownBy.cell g4 n1 (by simp); replace n2 := World.grownBy.cell g4 n2 (by simp); replace n3 := World.grownBy.cell g4 n3 (by simp); have VX := Lib.hid vX; clear g4 vX))
            rw [hlf] at VX
            try rw [hlf]
            obtain ⟨w5, hu, kX, g5, hz5⟩ := new1 w4 26 #[.bool lf, .slice x1 n.cells.length y1, .slice x2 n.keys.length y2, .slice x3 n.kids.length y3]
            rw [← hu]
            clear hu hz5
            replace P5 := Lib.hid (P5.out.keep0 g5)
            replace K7 := Lib.hid (K7.out.keep0 g5)
            replace VN := Lib.hid (VN.out.keep0 g5)
            replace VX := Lib.hid (VX.out.keep0 g5)
            replace HG := Lib.hid (gb_trans HG.out g5)
            replace n0 := World.grownBy.cell g5 n0 (by simp)
            replace n1 := World.grownBy.cell g5 n1 (by simp)
            replace n2 := World.grownBy.cell g5 n2 (by simp)
            replace n3 := World.grownBy.cell g5 n3 (by simp)
            clear g5
            have i0 := kX.cell 0 rfl
            have i1 := kX.cell 1 rfl
            have i2 := kX.cell 2 rfl
            have i3 := kX.cell 3 rfl
            generalize w4.heap.size = bx at i0 i1 i2 i3 ⊢
            rcases hfew : n.few with _ | _
            · have HSP : Hid (∀ W v, NdV W v n → Calls Tryz.prog 18 #[v] W (PartsGot n W)) := Lib.hid (fun W v hv => split_parts hfew hH W v hv)
              unfold PartsGot at HSP
              rw [hlf] at HSP
              rcases lf with _ | _
              · go_upto_region 18 with (first | (go_at_call 17; (with_reducible refine (HSAME.out _ _ _ VX.out VN.out).mono ?_); rintro e w6 ⟨rfl, g6⟩; replace P5 := Lib.hid (P5.out.keep0 g6); replace K7 := Lib.hid (K7.out.keep0 g6); replace VN := Lib.hid (VN.out.keep0 g6); replace HG := Lib.hid (gb_trans HG.out g6); replace n0 := World.grownBy.cell g6 n0 (by simp); replace n1 := World.grownBy.cell g6 n1 (by simp); replace n2 := World.grownBy.cell g6 n2 (by simp); replace n3 := World.grownBy.cell g6 n3 (by simp); clear g6) | (go_at_call 18; (with_reducible refine (HSP.out _ _ VN.out).mono ?_); rintro e w7 ⟨A, B, key, p1, r1, s1, p2, r2, s2, p3, r3, s3, o1, l1, d1, o2, l2, d2, o3, l3, d3, rfl, vA, vB, hPO, g7⟩; replace P5 := Lib.hid (P5.out.keep0 g7); replace K7 := Lib.hid (K7.out.keep0 g7); replace VN := Lib.hid (VN.out.keep0 g7); replace HG := Lib.hid (gb_trans HG.out g7); replace n0 := World.grownBy.cell g7 n0 (by simp); replace n1 := World.grownBy.cell g7 n1 (by simp); replace n2 := World.grownBy.cell g7 n2 (by simp); replace n3 := World.grownBy.cell g7 n3 (by simp); have VA := Lib.hid vA; have VB := Lib.hid vB; have HPO := Lib.hid hPO; clear g7 vA vB hPO))
                obtain ⟨z0, hu, kP, kQ, kA, g5, hz5⟩ := new3 w7 26 #[.bool false, .slice p1 r1 s1, .slice p2 r2 s2, .slice p3 r3 s3] 26 #[.bool false, .slice o1 l1 d1, .slice o2 l2 d2, .slice o3 l3 d3] 26 #[.bool false, .slice none 0 0, .slice none 0 0, .slice none 0 0]
                rw [← hu]
                clear hu
                have hw7 : w.heap.size ≤ w7.heap.size := HG.out.size
                have hb7w : b7 < w7.heap.size := K7.out.lt
                have hb5w : b5 < w7.heap.size := PairAt.lt P5.out
                replace P5 := Lib.hid (P5.out.keep0 g5)
                replace K7 := Lib.hid (K7.out.keep0 g5)
                replace VN := Lib.hid (VN.out.keep0 g5)
                replace VA := Lib.hid (VA.out.keep0 g5)
                replace VB := Lib.hid (VB.out.keep0 g5)
                replace HG := Lib.hid (gb_trans HG.out g5)
                clear g5 n0 n1 n2 n3
                generalize w7.heap.size = bp at kP kQ kA hz5 hw7 hb7w hb5w ⊢
                obtain ⟨bq, hbq⟩ : ∃ bq, bp + 1 = bq := ⟨_, rfl⟩
                rw [hbq] at kQ kA ⊢
                obtain ⟨ba, hba⟩ : ∃ ba, bq + 1 = ba := ⟨_, rfl⟩
                rw [hba] at kA ⊢
                have KP := Lib.hid kP
                have KQ := Lib.hid kQ
                have KA := Lib.hid kA
                have NB := Lib.hid (Nbl.node kA)
                have GA := Lib.hid (gb_refl z0 (some ba))
                have HLA := Lib.hid (show (allN _ A B key) = n from HPO.out.all)
                clear kP kQ kA
                go_upto_region 18 with fail
                have hSP : z0.cell? ⟨bp, 1, none⟩ = some (.slice p1 r1 s1) := (KP.out.keep GA.out (ne_some (by omega))).cell 1 rfl
                have hSQ : z0.cell? ⟨bq, 1, none⟩ = some (.slice o1 l1 d1) := (KQ.out.keep GA.out (ne_some (by omega))).cell 1 rfl
                have GD := Lib.hid (gb_trans GA.out (gb_drew z0 (some ba)))
                have KD := Lib.hid (KA.out.keep0 (gb_drew z0 none))
                clear KA GA
                refine wp_region_noPanic ?_
                refine wp_region_held_drew (S := fun w' => w'.cell? ⟨bp, 1, none⟩ = some (.slice p1 r1 s1) ∧ w'.cell? ⟨bq, 1, none⟩ = some (.slice o1 l1 d1)) (by kernel_rfl) ⟨hSP, hSQ⟩ (fun hHeld => ?_)
                refine wpAnyH_take (i := 0) (v := ?_) (List.getElem?_toArray.trans rfl) (by kernel_rfl) (by kernel_rfl) (by kernel_rfl) (fun _ _ _ h => h) (Or.inl ⟨by rfl, ?_⟩) hHeld ?_
                rotate_left
                · intro w' hSw; have m1 := hSw.1; have m2 := hSw.2; go_simp; try with_reducible rfl
                try simp only [Act.put, List.setIfInBounds_toArray, List.set_cons_zero, List.set_cons_succ]
                refine wpAnyH_take (i := 2) (v := ?_) (List.getElem?_toArray.trans rfl) (by kernel_rfl) (by kernel_rfl) (by kernel_rfl) (fun _ _ _ h => h) (Or.inl ⟨by rfl, ?_⟩) hHeld ?_
                rotate_left
                · intro w' hSw; have m1 := hSw.1; have m2 := hSw.2; go_simp; try with_reducible rfl
                try simp only [Act.put, List.setIfInBounds_toArray, List.set_cons_zero, List.set_cons_succ]
                refine wpAnyH_take (i := 5) (v := ?_) (List.getElem?_toArray.trans rfl) (by kernel_rfl) (by kernel_rfl) (by kernel_rfl) (fun _ _ _ h => h) (Or.inl ⟨by rfl, ?_⟩) hHeld ?_
                rotate_left
                · intro w' hSw; have m1 := hSw.1; have m2 := hSw.2; go_simp; try with_reducible rfl
                try simp only [Act.put, List.setIfInBounds_toArray, List.set_cons_zero, List.set_cons_succ]
                refine wpAnyH_take (i := 3) (v := ?_) (List.getElem?_toArray.trans rfl) (by kernel_rfl) (by kernel_rfl) (by kernel_rfl) (fun _ _ _ h => h) (Or.inl ⟨by rfl, ?_⟩) hHeld ?_
                rotate_left
                · intro w' hSw; have m1 := hSw.1; have m2 := hSw.2; go_simp; try with_reducible rfl
                try simp only [Act.put, List.setIfInBounds_toArray, List.set_cons_zero, List.set_cons_succ]
                refine wpAnyH_take (i := 6) (v := ?_) (List.getElem?_toArray.trans rfl) (by kernel_rfl) (by kernel_rfl) (by kernel_rfl) (fun _ _ _ h => h) (Or.inl ⟨by rfl, ?_⟩) hHeld ?_
                rotate_left
                · intro w' hSw; have m1 := hSw.1; have m2 := hSw.2; go_simp; try with_reducible rfl
                try simp only [Act.put, List.setIfInBounds_toArray, List.set_cons_zero, List.set_cons_succ]
                refine wpAnyH_ready (rs := [1]) (by kernel_rfl) (by simp) ?_
                refine AllReadyH.cons (List.getElem?_toArray.trans rfl) (fun K hK => ?_) AllReadyH.nil
                have n1 := KD.out.cell 1 rfl
                go_simp
                clear n1
                refine hK.out _ _ (⟨hSP, hSQ⟩) (fun hHeld => ?_)
                clear hK K
                try simp only [Act.put, List.setIfInBounds_toArray, List.set_cons_zero, List.set_cons_succ]
                refine wpAnyH_ready (rs := [4]) (by kernel_rfl) (by simp) ?_
                refine AllReadyH.cons (List.getElem?_toArray.trans rfl) (fun K hK => ?_) AllReadyH.nil
                obtain ⟨ya1, ya2, ya3, u18a, hr, hs1, hg1, GE⟩ := app_more_C GD.out (Nat.le_refl _) (RowC.nil z0.drew z0.heap.size) ((NdV.open VA.out).1.keepN NB.out GD.out) (by simp) HPO.out.halfA.cells GD.out.size 22
                have KE := Lib.hid (KD.out.keep hg1 (row_other KD.out (RowC.nil z0.drew z0.heap.size) (by decide)))
                have HE := Lib.hid hs1
                have GF := Lib.hid GE
                clear hs1 GE hg1 KD GD
                refine Lib.wp_append_run _ _ _ _ _ rfl _ _ rfl rfl _ _ hr ?_
                clear hr
                refine hK.out _ _ (⟨(KP.out.keep GF.out (ne_some (by omega))).cell 1 rfl, (KQ.out.keep GF.out (ne_some (by omega))).cell 1 rfl⟩) (fun hHeld => ?_)
                clear hK K
                try simp only [Act.put, List.setIfInBounds_toArray, List.set_cons_zero, List.set_cons_succ]
                refine wpAnyH_ready (rs := [7]) (by kernel_rfl) (by simp) ?_
                refine AllReadyH.cons (List.getElem?_toArray.trans rfl) (fun K hK => ?_) AllReadyH.nil
                obtain ⟨tC1, tC2, tC3, u18b, hr, hs1, hg1, GE⟩ := app_more_C GF.out (Nat.le_refl _) HE.out ((NdV.open VB.out).1.keepN NB.out GF.out) (by have := HPO.out.halfA.cells; simp only [List.nil_append]; omega) HPO.out.halfB.cells GF.out.size 22
                have KF := Lib.hid (KE.out.keep hg1 (row_other KE.out HE.out (by decide)))
                have HF := Lib.hid hs1
                have GH := Lib.hid GE
                clear hs1 GE hg1 KE GF HE
                refine Lib.wp_append_run _ _ _ _ _ rfl _ _ rfl rfl _ _ hr ?_
                clear hr
                refine hK.out _ _ (⟨(KP.out.keep GH.out (ne_some (by omega))).cell 1 rfl, (KQ.out.keep GH.out (ne_some (by omega))).cell 1 rfl⟩) (fun hHeld => ?_)
                clear hK K
                try simp only [Act.put, List.setIfInBounds_toArray, List.set_cons_zero, List.set_cons_succ]
                refine wpAnyH_take (i := 8) (v := ?_) (List.getElem?_toArray.trans rfl) (by kernel_rfl) (by kernel_rfl) (by kernel_rfl) (fun _ _ _ h => h) (Or.inl ⟨by rfl, ?_⟩) hHeld ?_
                rotate_left
                · intro w' hSw; have m1 := hSw.1; have m2 := hSw.2; go_simp; try with_reducible rfl
                try simp only [Act.put, List.setIfInBounds_toArray, List.set_cons_zero, List.set_cons_succ]
                refine wpAnyH_ready (rs := [9]) (by kernel_rfl) (by simp) ?_
                refine AllReadyH.cons (List.getElem?_toArray.trans rfl) (fun K hK => ?_) AllReadyH.nil
                have n1 := KF.out.cell 1 rfl
                have f1 := KF.out.free 1
                go_simp
                obtain ⟨u18c, hD⟩ : ∃ z : World, z = u18b.setCell ⟨ba, 1, none⟩ (.slice tC1 tC2 tC3) := ⟨_, rfl⟩
                rw [← hD]
                have gD : u18b.grownBy u18c (some ba) := by rw [hD]; exact gb_set _ _ _ _ _
                have KA := Lib.hid (show Blk u18c ba 26 (_ : Array Value) from by rw [hD]; exact KF.out.set 1 _)
                have RC := Lib.hid (RowC.kept HF.out gD (.inr (row_other KF.out HF.out (by decide)).symm))
                have GA := Lib.hid (gb_trans GH.out gD)
                clear gD hD n1 f1 KF HF GH
                refine hK.out _ _ (⟨(KP.out.keep GA.out (ne_some (by omega))).cell 1 rfl, (KQ.out.keep GA.out (ne_some (by omega))).cell 1 rfl⟩) (fun hHeld => ?_)
                clear hK K
                try simp only [Act.put, List.setIfInBounds_toArray, List.set_cons_zero, List.set_cons_succ]
                refine wpAnyH_done (by kernel_rfl) ?_ _
                refine NoPanic.normal ?_
                clear hSP hSQ
                go_upto_region 19 with fail
                have hSP : u18c.cell? ⟨bp, 3, none⟩ = some (.slice p3 r3 s3) := (KP.out.keep GA.out (ne_some (by omega))).cell 3 rfl
                have hSQ : u18c.cell? ⟨bq, 3, none⟩ = some (.slice o3 l3 d3) := (KQ.out.keep GA.out (ne_some (by omega))).cell 3 rfl
                have GD := Lib.hid (gb_trans GA.out (gb_drew u18c (some ba)))
                have KD := Lib.hid (KA.out.keep0 (gb_drew u18c none))
                replace RC := Lib.hid (RowC.keep0 RC.out (gb_drew u18c none))
                clear KA GA
                refine wp_region_noPanic ?_
                refine wp_region_held_drew (S := fun w' => w'.cell? ⟨bp, 3, none⟩ = some (.slice p3 r3 s3) ∧ w'.cell? ⟨bq, 3, none⟩ = some (.slice o3 l3 d3)) (by kernel_rfl) ⟨hSP, hSQ⟩ (fun hHeld => ?_)
                refine wpAnyH_take (i := 0) (v := ?_) (List.getElem?_toArray.trans rfl) (by kernel_rfl) (by kernel_rfl) (by kernel_rfl) (fun _ _ _ h => h) (Or.inl ⟨by rfl, ?_⟩) hHeld ?_
                rotate_left
                · intro w' hSw; have m1 := hSw.1; have m2 := hSw.2; go_simp; try with_reducible rfl
                try simp only [Act.put, List.setIfInBounds_toArray, List.set_cons_zero, List.set_cons_succ]
                refine wpAnyH_take (i := 2) (v := ?_) (List.getElem?_toArray.trans rfl) (by kernel_rfl) (by kernel_rfl) (by kernel_rfl) (fun _ _ _ h => h) (Or.inl ⟨by rfl, ?_⟩) hHeld ?_
                rotate_left
                · intro w' hSw; have m1 := hSw.1; have m2 := hSw.2; go_simp; try with_reducible rfl
                try simp only [Act.put, List.setIfInBounds_toArray, List.set_cons_zero, List.set_cons_succ]
                refine wpAnyH_take (i := 5) (v := ?_) (List.getElem?_toArray.trans rfl) (by kernel_rfl) (by kernel_rfl) (by kernel_rfl) (fun _ _ _ h => h) (Or.inl ⟨by rfl, ?_⟩) hHeld ?_
                rotate_left
                · intro w' hSw; have m1 := hSw.1; have m2 := hSw.2; go_simp; try with_reducible rfl
                try simp only [Act.put, List.setIfInBounds_toArray, List.set_cons_zero, List.set_cons_succ]
                refine wpAnyH_take (i := 3) (v := ?_) (List.getElem?_toArray.trans rfl) (by kernel_rfl) (by kernel_rfl) (by kernel_rfl) (fun _ _ _ h => h) (Or.inl ⟨by rfl, ?_⟩) hHeld ?_
                rotate_left
                · intro w' hSw; have m1 := hSw.1; have m2 := hSw.2; go_simp; try with_reducible rfl
                try simp only [Act.put, List.setIfInBounds_toArray, List.set_cons_zero, List.set_cons_succ]
                refine wpAnyH_take (i := 6) (v := ?_) (List.getElem?_toArray.trans rfl) (by kernel_rfl) (by kernel_rfl) (by kernel_rfl) (fun _ _ _ h => h) (Or.inl ⟨by rfl, ?_⟩) hHeld ?_
                rotate_left
                · intro w' hSw; have m1 := hSw.1; have m2 := hSw.2; go_simp; try with_reducible rfl
                try simp only [Act.put, List.setIfInBounds_toArray, List.set_cons_zero, List.set_cons_succ]
                refine wpAnyH_ready (rs := [1]) (by kernel_rfl) (by simp) ?_
                refine AllReadyH.cons (List.getElem?_toArray.trans rfl) (fun K hK => ?_) AllReadyH.nil
                have n1 := KD.out.cell 3 rfl
                go_simp
                clear n1
                refine hK.out _ _ (⟨hSP, hSQ⟩) (fun hHeld => ?_)
                clear hK K
                try simp only [Act.put, List.setIfInBounds_toArray, List.set_cons_zero, List.set_cons_succ]
                refine wpAnyH_ready (rs := [4]) (by kernel_rfl) (by simp) ?_
                refine AllReadyH.cons (List.getElem?_toArray.trans rfl) (fun K hK => ?_) AllReadyH.nil
                obtain ⟨ya1, ya2, ya3, u19a, hr, hs1, hg1, GE⟩ := app_more_I GD.out (Nat.le_refl _) (RowI.nil u18c.drew z0.heap.size) ((NdV.open VA.out).2.2.keepN NB.out GD.out) (by simp) HPO.out.halfA.kids GD.out.size 24
                have KE := Lib.hid (KD.out.keep hg1 (row_other KD.out (RowI.nil u18c.drew z0.heap.size) (by decide)))
                have HE := Lib.hid hs1
                have GF := Lib.hid GE
                have RCe := Lib.hid (RowC.kept RC.out hg1 (row_rows RC.out (RowI.nil u18c.drew z0.heap.size) (by decide)))
                clear hs1 GE hg1 KD GD RC
                refine Lib.wp_append_run _ _ _ _ _ rfl _ _ rfl rfl _ _ hr ?_
                clear hr
                refine hK.out _ _ (⟨(KP.out.keep GF.out (ne_some (by omega))).cell 3 rfl, (KQ.out.keep GF.out (ne_some (by omega))).cell 3 rfl⟩) (fun hHeld => ?_)
                clear hK K
                try simp only [Act.put, List.setIfInBounds_toArray, List.set_cons_zero, List.set_cons_succ]
                refine wpAnyH_ready (rs := [7]) (by kernel_rfl) (by simp) ?_
                refine AllReadyH.cons (List.getElem?_toArray.trans rfl) (fun K hK => ?_) AllReadyH.nil
                obtain ⟨tI1, tI2, tI3, u19b, hr, hs1, hg1, GE⟩ := app_more_I GF.out (Nat.le_refl _) HE.out ((NdV.open VB.out).2.2.keepN NB.out GF.out) (by have := HPO.out.halfA.kids; simp only [List.nil_append]; omega) HPO.out.halfB.kids GF.out.size 24
                have KF := Lib.hid (KE.out.keep hg1 (row_other KE.out HE.out (by decide)))
                have HF := Lib.hid hs1
                have GH := Lib.hid GE
                have RC := Lib.hid (RowC.kept RCe.out hg1 (row_rows RCe.out HE.out (by decide)))
                clear hs1 GE hg1 KE GF HE RCe
                refine Lib.wp_append_run _ _ _ _ _ rfl _ _ rfl rfl _ _ hr ?_
                clear hr
                refine hK.out _ _ (⟨(KP.out.keep GH.out (ne_some (by omega))).cell 3 rfl, (KQ.out.keep GH.out (ne_some (by omega))).cell 3 rfl⟩) (fun hHeld => ?_)
                clear hK K
                try simp only [Act.put, List.setIfInBounds_toArray, List.set_cons_zero, List.set_cons_succ]
                refine wpAnyH_take (i := 8) (v := ?_) (List.getElem?_toArray.trans rfl) (by kernel_rfl) (by kernel_rfl) (by kernel_rfl) (fun _ _ _ h => h) (Or.inl ⟨by rfl, ?_⟩) hHeld ?_
                rotate_left
                · intro w' hSw; have m1 := hSw.1; have m2 := hSw.2; go_simp; try with_reducible rfl
                try simp only [Act.put, List.setIfInBounds_toArray, List.set_cons_zero, List.set_cons_succ]
                refine wpAnyH_ready (rs := [9]) (by kernel_rfl) (by simp) ?_
                refine AllReadyH.cons (List.getElem?_toArray.trans rfl) (fun K hK => ?_) AllReadyH.nil
                have n1 := KF.out.cell 3 rfl
                have f1 := KF.out.free 3
                go_simp
                obtain ⟨u19c, hD⟩ : ∃ z : World, z = u19b.setCell ⟨ba, 3, none⟩ (.slice tI1 tI2 tI3) := ⟨_, rfl⟩
                rw [← hD]
                have gD : u19b.grownBy u19c (some ba) := by rw [hD]; exact gb_set _ _ _ _ _
                have KA := Lib.hid (show Blk u19c ba 26 (_ : Array Value) from by rw [hD]; exact KF.out.set 3 _)
                have RI := Lib.hid (RowI.kept HF.out gD (.inr (row_other KF.out HF.out (by decide)).symm))
                replace RC := Lib.hid (RowC.kept RC.out gD (.inr (row_other KF.out RC.out (by decide)).symm))
                have GA := Lib.hid (gb_trans GH.out gD)
                clear gD hD n1 f1 KF HF GH
                refine hK.out _ _ (⟨(KP.out.keep GA.out (ne_some (by omega))).cell 3 rfl, (KQ.out.keep GA.out (ne_some (by omega))).cell 3 rfl⟩) (fun hHeld => ?_)
                clear hK K
                try simp only [Act.put, List.setIfInBounds_toArray, List.set_cons_zero, List.set_cons_succ]
                refine wpAnyH_done (by kernel_rfl) ?_ _
                refine NoPanic.normal ?_
                clear hSP hSQ
                go_upto_region 20 with fail
                have n1 := KA.out.cell 2 rfl
                have n2 := (KP.out.keep GA.out (ne_some (by omega))).cell 2 rfl
                go_upto_region 21 with (at_builtin; go_must (obtain ⟨tS01, tS02, tS03, u20a, hr, hs1, hg1, GE⟩ := app_more_S GA.out (Nat.le_refl _) (RowS.nil u19c z0.heap.size) (stsKeepN (NdV.open VA.out).2.1 NB.out GA.out) (by simp) HPO.out.halfA.keys GA.out.size 23; have KE := Lib.hid (KA.out.keep hg1 (row_other KA.out (RowS.nil u19c z0.heap.size) (by decide))); have HF := Lib.hid hs1; have GH := Lib.hid GE; have RCe := Lib.hid (RowC.kept RC.out hg1 (row_rows RC.out (RowS.nil u19c z0.heap.size) (by decide))); have RIe := Lib.hid (RowI.kept RI.out hg1 (row_rows RI.out (RowS.nil u19c z0.heap.size) (by decide))); have HR := Lib.hid hr; clear hr hs1 GE hg1 n1 n2; have n1 := KE.out.cell 2 rfl; have f1 := KE.out.free 2; refine Lib.wpList_append_run _ rfl _ _ _ _ rfl _ _ rfl rfl _ _ HR.out ?_))
                obtain ⟨u20c, hD⟩ : ∃ z : World, z = u20a.setCell ⟨ba, 2, none⟩ (.slice tS01 tS02 tS03) := ⟨_, rfl⟩
                rw [← hD]
                have gD : u20a.grownBy u20c (some ba) := by rw [hD]; exact gb_set _ _ _ _ _
                replace KA := Lib.hid (show Blk u20c ba 26 (_ : Array Value) from by rw [hD]; exact KE.out.set 2 _)
                have RS := Lib.hid (RowS.kept HF.out gD (.inr (row_other KE.out HF.out (by decide)).symm))
                replace RC := Lib.hid (RowC.kept RCe.out gD (.inr (row_other KE.out RCe.out (by decide)).symm))
                replace RI := Lib.hid (RowI.kept RIe.out gD (.inr (row_other KE.out RIe.out (by decide)).symm))
                replace GA := Lib.hid (gb_trans GH.out gD)
                clear gD hD n1 f1 KE HF GH HR RCe RIe
                have n1 := (KP.out.keep GA.out (ne_some (by omega))).cell 0 rfl
                go_upto_region 22 with fail
                clear n1
                have n1 := KA.out.cell 2 rfl
                have HS0 := RS
                go_upto_region 23 with (at_builtin; go_must (obtain ⟨uB, hB, kB, gB, hzz⟩ := new1 u20c 9 #[.string key]; rw [← hB]; obtain ⟨tS11, tS12, tS13, u22a, hr, hs1, hg1, GE⟩ := app_more_S (gb_trans GA.out (gb_weak gB _)) (Nat.le_refl _) (RowS.keep0 HS0.out gB) (sts_one kB) (by have := HPO.out.halfA.keys; simp only [List.nil_append]; omega) (by simp) (gb_trans GA.out (gb_weak gB (some ba))).size 23; have KE := Lib.hid ((KA.out.keep0 gB).keep hg1 (row_other (KA.out.keep0 gB) (RowS.keep0 HS0.out gB) (by decide))); have HF := Lib.hid hs1; have GH := Lib.hid GE; have RCe := Lib.hid (RowC.kept (RowC.keep0 RC.out gB) hg1 (row_rows (RowC.keep0 RC.out gB) (RowS.keep0 HS0.out gB) (by decide))); have RIe := Lib.hid (RowI.kept (RowI.keep0 RI.out gB) hg1 (row_rows (RowI.keep0 RI.out gB) (RowS.keep0 HS0.out gB) (by decide))); have HR := Lib.hid hr; clear hr hs1 GE hg1 hB hzz kB gB n1; have n1 := KE.out.cell 2 rfl; have f1 := KE.out.free 2; refine Lib.wpList_append_run _ rfl _ _ _ _ rfl _ _ rfl rfl _ _ HR.out ?_))
                obtain ⟨u22c, hD⟩ : ∃ z : World, z = u22a.setCell ⟨ba, 2, none⟩ (.slice tS11 tS12 tS13) := ⟨_, rfl⟩
                rw [← hD]
                have gD : u22a.grownBy u22c (some ba) := by rw [hD]; exact gb_set _ _ _ _ _
                replace KA := Lib.hid (show Blk u22c ba 26 (_ : Array Value) from by rw [hD]; exact KE.out.set 2 _)
                clear RS HS0
                have RS := Lib.hid (RowS.kept HF.out gD (.inr (row_other KE.out HF.out (by decide)).symm))
                replace RC := Lib.hid (RowC.kept RCe.out gD (.inr (row_other KE.out RCe.out (by decide)).symm))
                replace RI := Lib.hid (RowI.kept RIe.out gD (.inr (row_other KE.out RIe.out (by decide)).symm))
                replace GA := Lib.hid (gb_trans GH.out gD)
                clear gD hD n1 f1 KE HF GH HR RCe RIe
                have n1 := KA.out.cell 2 rfl
                have n2 := (KQ.out.keep GA.out (ne_some (by omega))).cell 2 rfl
                have HS0 := RS
                go_upto_region 24 with (at_builtin; go_must (obtain ⟨tS21, tS22, tS23, u23a, hr, hs1, hg1, GE⟩ := app_more_S GA.out (Nat.le_refl _) HS0.out (stsKeepN (NdV.open VB.out).2.1 NB.out GA.out) (by have := HPO.out.halfA.keys; simp only [List.nil_append, List.length_append, List.length_singleton]; omega) HPO.out.halfB.keys GA.out.size 23; have KE := Lib.hid (KA.out.keep hg1 (row_other KA.out HS0.out (by decide))); have HF := Lib.hid hs1; have GH := Lib.hid GE; have RCe := Lib.hid (RowC.kept RC.out hg1 (row_rows RC.out HS0.out (by decide))); have RIe := Lib.hid (RowI.kept RI.out hg1 (row_rows RI.out HS0.out (by decide))); have HR := Lib.hid hr; clear hr hs1 GE hg1 n1 n2; have n1 := KE.out.cell 2 rfl; have f1 := KE.out.free 2; refine Lib.wpList_append_run _ rfl _ _ _ _ rfl _ _ rfl rfl _ _ HR.out ?_))
                obtain ⟨u23c, hD⟩ : ∃ z : World, z = u23a.setCell ⟨ba, 2, none⟩ (.slice tS21 tS22 tS23) := ⟨_, rfl⟩
                rw [← hD]
                have gD : u23a.grownBy u23c (some ba) := by rw [hD]; exact gb_set _ _ _ _ _
                replace KA := Lib.hid (show Blk u23c ba 26 (_ : Array Value) from by rw [hD]; exact KE.out.set 2 _)
                clear RS HS0
                have RS := Lib.hid (RowS.kept HF.out gD (.inr (row_other KE.out HF.out (by decide)).symm))
                replace RC := Lib.hid (RowC.kept RCe.out gD (.inr (row_other KE.out RCe.out (by decide)).symm))
                replace RI := Lib.hid (RowI.kept RIe.out gD (.inr (row_other KE.out RIe.out (by decide)).symm))
                replace GA := Lib.hid (gb_trans GH.out gD)
                clear gD hD n1 f1 KE HF GH HR RCe RIe
                have e0 := KA.out.cell 0 rfl
                have e1 := KA.out.cell 1 rfl
                have e2 := KA.out.cell 2 rfl
                have e3 := KA.out.cell 3 rfl
                have K7u := K7.out.keep GA.out (ne_some (by omega))
                have n0 := K7u.cell 0 rfl
                have n1 := K7u.cell 1 rfl
                have n2 := K7u.cell 2 rfl
                have n3 := K7u.cell 3 rfl
                clear K7u
                have VALL : Hid (NdV u23c (.agg #[.bool false, .slice tC1 tC2 tC3, .slice tS21 tS22 tS23, .slice tI1 tI2 tI3]) n) := Lib.hid (all_inner hlf HLA.out (by have h := RowC.sl RC.out; rwa [List.nil_append] at h) (by have h := RowS.sl RS.out; rwa [List.nil_append] at h) (by have h := RowI.sl RI.out; rwa [List.nil_append] at h))
                have VNu := Lib.hid (VN.out.keepN NB.out GA.out)
                replace P5 := Lib.hid (PairAt.keepN P5.out NB.out GA.out (by omega))
                replace KP := Lib.hid (KP.out.keep GA.out (ne_some (by omega)))
                replace KQ := Lib.hid (KQ.out.keep GA.out (ne_some (by omega)))
                replace VA := Lib.hid (VA.out.keepN NB.out GA.out)
                replace VB := Lib.hid (VB.out.keepN NB.out GA.out)
                replace HG := Lib.hid (gb_step HG.out GA.out (by omega))
                replace K7 := Lib.hid (K7.out.keep GA.out (ne_some (by omega)))
                replace VN := VNu
                clear VNu KA GA NB RC RS RI
                have HJ := Lib.hid (fun W v u hv hu => join_yes HPO.out hfit W v u hv hu)
                go_upto_region 27 with (first | (go_at_call 17; (with_reducible refine (HSAME.out _ _ _ VALL.out VN.out).mono ?_); rintro e w8 ⟨rfl, g8⟩; replace P5 := Lib.hid (P5.out.keep0 g8); replace K7 := Lib.hid (K7.out.keep0 g8); replace VN := Lib.hid (VN.out.keep0 g8); replace KP := Lib.hid (KP.out.keep0 g8); replace KQ := Lib.hid (KQ.out.keep0 g8); replace VA := Lib.hid (VA.out.keep0 g8); replace VB := Lib.hid (VB.out.keep0 g8); replace HG := Lib.hid (gb_trans HG.out g8); replace n0 := World.grownBy.cell g8 n0 (by simp); replace n1 := World.grownBy.cell g8 n1 (by simp); replace n2 := World.grownBy.cell g8 n2 (by simp); replace n3 := World.grownBy.cell g8 n3 (by simp); clear VALL e0 e1 e2 e3; have e0 := KP.out.cell 0 rfl; have e1 := KP.out.cell 1 rfl; have e2 := KP.out.cell 2 rfl; have e3 := KP.out.cell 3 rfl; have i0 := KQ.out.cell 0 rfl; have i1 := KQ.out.cell 1 rfl; have i2 := KQ.out.cell 2 rfl; have i3 := KQ.out.cell 3 rfl; clear g8) | (go_at_call 10; (with_reducible refine (HJ.out _ _ _ VA.out VB.out).mono ?_); rintro e w9 ⟨x1, y1, x2, y2, x3, y3, rfl, vX, g9⟩; replace P5 := Lib.hid (P5.out.keep0 g9); replace K7 := Lib.hid (K7.out.keep0 g9); replace VN := Lib.hid (VN.out.keep0 g9); replace HG := Lib.hid (gb_trans HG.out g9); replace n0 := World.grownBy.cell g9 n0 (by simp); replace n1 := World.grownBy.cell g9 n1 (by simp); replace n2 := World.grownBy.cell g9 n2 (by simp); replace n3 := World.grownBy.cell g9 n3 (by simp); have VX := Lib.hid vX; clear vX; clear g9 e0 e1 e2 e3 i0 i1 i2 i3))
                rw [hlf] at VX
                obtain ⟨w10, hu, kX, g10, hz10⟩ := new1 w9 26 #[.bool false, .slice x1 n.cells.length y1, .slice x2 n.keys.length y2, .slice x3 n.kids.length y3]
                rw [← hu]
                clear hu hz10
                replace P5 := Lib.hid (P5.out.keep0 g10)
                replace K7 := Lib.hid (K7.out.keep0 g10)
                replace VN := Lib.hid (VN.out.keep0 g10)
                replace VX := Lib.hid (VX.out.keep0 g10)
                replace HG := Lib.hid (gb_trans HG.out g10)
                replace n0 := World.grownBy.cell g10 n0 (by simp)
                replace n1 := World.grownBy.cell g10 n1 (by simp)
                replace n2 := World.grownBy.cell g10 n2 (by simp)
                replace n3 := World.grownBy.cell g10 n3 (by simp)
                clear g10
                have i0 := kX.cell 0 rfl
                have i1 := kX.cell 1 rfl
                have i2 := kX.cell 2 rfl
                have i3 := kX.cell 3 rfl
                generalize w9.heap.size = bx at i0 i1 i2 i3 ⊢
                go_wp2_with (go_at_call 17; (with_reducible refine (HSAME.out _ _ _ VX.out VN.out).mono ?_); rintro e w11 ⟨rfl, g11⟩; replace P5 := Lib.hid (P5.out.keep0 g11); replace HG := Lib.hid (gb_trans HG.out g11))
                go_roundw
                case rel => exact ⟨i + 1, by omega, by go_num, P5.out, HG.out⟩
                case measure => simp [intOf]; omega
              · go_upto_region 18 with (first | (go_at_call 17; (with_reducible refine (HSAME.out _ _ _ VX.out VN.out).mono ?_); rintro e w6 ⟨rfl, g6⟩; replace P5 := Lib.hid (P5.out.keep0 g6); replace K7 := Lib.hid (K7.out.keep0 g6); replace VN := Lib.hid (VN.out.keep0 g6); replace HG := Lib.hid (gb_trans HG.out g6); replace n0 := World.grownBy.cell g6 n0 (by simp); replace n1 := World.grownBy.cell g6 n1 (by simp); replace n2 := World.grownBy.cell g6 n2 (by simp); replace n3 := World.grownBy.cell g6 n3 (by simp); clear g6) | (go_at_call 18; (with_reducible refine (HSP.out _ _ VN.out).mono ?_); rintro e w7 ⟨A, B, key, p1, r1, s1, p2, r2, s2, p3, r3, s3, o1, l1, d1, o2, l2, d2, o3, l3, d3, rfl, vA, vB, hPO, g7⟩; replace P5 := Lib.hid (P5.out.keep0 g7); replace K7 := Lib.hid (K7.out.keep0 g7); replace VN := Lib.hid (VN.out.keep0 g7); replace HG := Lib.hid (gb_trans HG.out g7); replace n0 := World.grownBy.cell g7 n0 (by simp); replace n1 := World.grownBy.cell g7 n1 (by simp); replace n2 := World.grownBy.cell g7 n2 (by simp); replace n3 := World.grownBy.cell g7 n3 (by simp); have VA := Lib.hid vA; have VB := Lib.hid vB; have HPO := Lib.hid hPO; clear g7 vA vB hPO))
                obtain ⟨z0, hu, kP, kQ, kA, g5, hz5⟩ := new3 w7 26 #[.bool true, .slice p1 r1 s1, .slice p2 r2 s2, .slice p3 r3 s3] 26 #[.bool true, .slice o1 l1 d1, .slice o2 l2 d2, .slice o3 l3 d3] 26 #[.bool true, .slice none 0 0, .slice none 0 0, .slice none 0 0]
                rw [← hu]
                clear hu
                have hw7 : w.heap.size ≤ w7.heap.size := HG.out.size
                have hb7w : b7 < w7.heap.size := K7.out.lt
                have hb5w : b5 < w7.heap.size := PairAt.lt P5.out
                replace P5 := Lib.hid (P5.out.keep0 g5)
                replace K7 := Lib.hid (K7.out.keep0 g5)
                replace VN := Lib.hid (VN.out.keep0 g5)
                replace VA := Lib.hid (VA.out.keep0 g5)
                replace VB := Lib.hid (VB.out.keep0 g5)
                replace HG := Lib.hid (gb_trans HG.out g5)
                clear g5 n0 n1 n2 n3
                generalize w7.heap.size = bp at kP kQ kA hz5 hw7 hb7w hb5w ⊢
                obtain ⟨bq, hbq⟩ : ∃ bq, bp + 1 = bq := ⟨_, rfl⟩
                rw [hbq] at kQ kA ⊢
                obtain ⟨ba, hba⟩ : ∃ ba, bq + 1 = ba := ⟨_, rfl⟩
                rw [hba] at kA ⊢
                have KP := Lib.hid kP
                have KQ := Lib.hid kQ
                have KA := Lib.hid kA
                have NB := Lib.hid (Nbl.node kA)
                have GA := Lib.hid (gb_refl z0 (some ba))
                have HLA := Lib.hid (show (allN _ A B key) = n from HPO.out.all)
                clear kP kQ kA
                go_upto_region 18 with fail
                have hSP : z0.cell? ⟨bp, 1, none⟩ = some (.slice p1 r1 s1) := (KP.out.keep GA.out (ne_some (by omega))).cell 1 rfl
                have hSQ : z0.cell? ⟨bq, 1, none⟩ = some (.slice o1 l1 d1) := (KQ.out.keep GA.out (ne_some (by omega))).cell 1 rfl
                have GD := Lib.hid (gb_trans GA.out (gb_drew z0 (some ba)))
                have KD := Lib.hid (KA.out.keep0 (gb_drew z0 none))
                clear KA GA
                refine wp_region_noPanic ?_
                refine wp_region_held_drew (S := fun w' => w'.cell? ⟨bp, 1, none⟩ = some (.slice p1 r1 s1) ∧ w'.cell? ⟨bq, 1, none⟩ = some (.slice o1 l1 d1)) (by kernel_rfl) ⟨hSP, hSQ⟩ (fun hHeld => ?_)
                refine wpAnyH_take (i := 0) (v := ?_) (List.getElem?_toArray.trans rfl) (by kernel_rfl) (by kernel_rfl) (by kernel_rfl) (fun _ _ _ h => h) (Or.inl ⟨by rfl, ?_⟩) hHeld ?_
                rotate_left
                · intro w' hSw; have m1 := hSw.1; have m2 := hSw.2; go_simp; try with_reducible rfl
                try simp only [Act.put, List.setIfInBounds_toArray, List.set_cons_zero, List.set_cons_succ]
                refine wpAnyH_take (i := 2) (v := ?_) (List.getElem?_toArray.trans rfl) (by kernel_rfl) (by kernel_rfl) (by kernel_rfl) (fun _ _ _ h => h) (Or.inl ⟨by rfl, ?_⟩) hHeld ?_
                rotate_left
                · intro w' hSw; have m1 := hSw.1; have m2 := hSw.2; go_simp; try with_reducible rfl
                try simp only [Act.put, List.setIfInBounds_toArray, List.set_cons_zero, List.set_cons_succ]
                refine wpAnyH_take (i := 5) (v := ?_) (List.getElem?_toArray.trans rfl) (by kernel_rfl) (by kernel_rfl) (by kernel_rfl) (fun _ _ _ h => h) (Or.inl ⟨by rfl, ?_⟩) hHeld ?_
                rotate_left
                · intro w' hSw; have m1 := hSw.1; have m2 := hSw.2; go_simp; try with_reducible rfl
                try simp only [Act.put, List.setIfInBounds_toArray, List.set_cons_zero, List.set_cons_succ]
                refine wpAnyH_take (i := 3) (v := ?_) (List.getElem?_toArray.trans rfl) (by kernel_rfl) (by kernel_rfl) (by kernel_rfl) (fun _ _ _ h => h) (Or.inl ⟨by rfl, ?_⟩) hHeld ?_
                rotate_left
                · intro w' hSw; have m1 := hSw.1; have m2 := hSw.2; go_simp; try with_reducible rfl
                try simp only [Act.put, List.setIfInBounds_toArray, List.set_cons_zero, List.set_cons_succ]
                refine wpAnyH_take (i := 6) (v := ?_) (List.getElem?_toArray.trans rfl) (by kernel_rfl) (by kernel_rfl) (by kernel_rfl) (fun _ _ _ h => h) (Or.inl ⟨by rfl, ?_⟩) hHeld ?_
                rotate_left
                · intro w' hSw; have m1 := hSw.1; have m2 := hSw.2; go_simp; try with_reducible rfl
                try simp only [Act.put, List.setIfInBounds_toArray, List.set_cons_zero, List.set_cons_succ]
                refine wpAnyH_ready (rs := [1]) (by kernel_rfl) (by simp) ?_
                refine AllReadyH.cons (List.getElem?_toArray.trans rfl) (fun K hK => ?_) AllReadyH.nil
                have n1 := KD.out.cell 1 rfl
                go_simp
                clear n1
                refine hK.out _ _ (⟨hSP, hSQ⟩) (fun hHeld => ?_)
                clear hK K
                try simp only [Act.put, List.setIfInBounds_toArray, List.set_cons_zero, List.set_cons_succ]
                refine wpAnyH_ready (rs := [4]) (by kernel_rfl) (by simp) ?_
                refine AllReadyH.cons (List.getElem?_toArray.trans rfl) (fun K hK => ?_) AllReadyH.nil
                obtain ⟨ya1, ya2, ya3, u18a, hr, hs1, hg1, GE⟩ := app_more_C GD.out (Nat.le_refl _) (RowC.nil z0.drew z0.heap.size) ((NdV.open VA.out).1.keepN NB.out GD.out) (by simp) HPO.out.halfA.cells GD.out.size 22
                have KE := Lib.hid (KD.out.keep hg1 (row_other KD.out (RowC.nil z0.drew z0.heap.size) (by decide)))
                have HE := Lib.hid hs1
                have GF := Lib.hid GE
                clear hs1 GE hg1 KD GD
                refine Lib.wp_append_run _ _ _ _ _ rfl _ _ rfl rfl _ _ hr ?_
                clear hr
                refine hK.out _ _ (⟨(KP.out.keep GF.out (ne_some (by omega))).cell 1 rfl, (KQ.out.keep GF.out (ne_some (by omega))).cell 1 rfl⟩) (fun hHeld => ?_)
                clear hK K
                try simp only [Act.put, List.setIfInBounds_toArray, List.set_cons_zero, List.set_cons_succ]
                refine wpAnyH_ready (rs := [7]) (by kernel_rfl) (by simp) ?_
                refine AllReadyH.cons (List.getElem?_toArray.trans rfl) (fun K hK => ?_) AllReadyH.nil
                obtain ⟨tC1, tC2, tC3, u18b, hr, hs1, hg1, GE⟩ := app_more_C GF.out (Nat.le_refl _) HE.out ((NdV.open VB.out).1.keepN NB.out GF.out) (by have := HPO.out.halfA.cells; simp only [List.nil_append]; omega) HPO.out.halfB.cells GF.out.size 22
                have KF := Lib.hid (KE.out.keep hg1 (row_other KE.out HE.out (by decide)))
                have HF := Lib.hid hs1
                have GH := Lib.hid GE
                clear hs1 GE hg1 KE GF HE
                refine Lib.wp_append_run _ _ _ _ _ rfl _ _ rfl rfl _ _ hr ?_
                clear hr
                refine hK.out _ _ (⟨(KP.out.keep GH.out (ne_some (by omega))).cell 1 rfl, (KQ.out.keep GH.out (ne_some (by omega))).cell 1 rfl⟩) (fun hHeld => ?_)
                clear hK K
                try simp only [Act.put, List.setIfInBounds_toArray, List.set_cons_zero, List.set_cons_succ]
                refine wpAnyH_take (i := 8) (v := ?_) (List.getElem?_toArray.trans rfl) (by kernel_rfl) (by kernel_rfl) (by kernel_rfl) (fun _ _ _ h => h) (Or.inl ⟨by rfl, ?_⟩) hHeld ?_
                rotate_left
                · intro w' hSw; have m1 := hSw.1; have m2 := hSw.2; go_simp; try with_reducible rfl
                try simp only [Act.put, List.setIfInBounds_toArray, List.set_cons_zero, List.set_cons_succ]
                refine wpAnyH_ready (rs := [9]) (by kernel_rfl) (by simp) ?_
                refine AllReadyH.cons (List.getElem?_toArray.trans rfl) (fun K hK => ?_) AllReadyH.nil
                have n1 := KF.out.cell 1 rfl
                have f1 := KF.out.free 1
                go_simp
                obtain ⟨u18c, hD⟩ : ∃ z : World, z = u18b.setCell ⟨ba, 1, none⟩ (.slice tC1 tC2 tC3) := ⟨_, rfl⟩
                rw [← hD]
                have gD : u18b.grownBy u18c (some ba) := by rw [hD]; exact gb_set _ _ _ _ _
                have KA := Lib.hid (show Blk u18c ba 26 (_ : Array Value) from by rw [hD]; exact KF.out.set 1 _)
                have RC := Lib.hid (RowC.kept HF.out gD (.inr (row_other KF.out HF.out (by decide)).symm))
                have GA := Lib.hid (gb_trans GH.out gD)
                clear gD hD n1 f1 KF HF GH
                refine hK.out _ _ (⟨(KP.out.keep GA.out (ne_some (by omega))).cell 1 rfl, (KQ.out.keep GA.out (ne_some (by omega))).cell 1 rfl⟩) (fun hHeld => ?_)
                clear hK K
                try simp only [Act.put, List.setIfInBounds_toArray, List.set_cons_zero, List.set_cons_succ]
                refine wpAnyH_done (by kernel_rfl) ?_ _
                refine NoPanic.normal ?_
                clear hSP hSQ
                go_upto_region 19 with fail
                have hSP : u18c.cell? ⟨bp, 3, none⟩ = some (.slice p3 r3 s3) := (KP.out.keep GA.out (ne_some (by omega))).cell 3 rfl
                have hSQ : u18c.cell? ⟨bq, 3, none⟩ = some (.slice o3 l3 d3) := (KQ.out.keep GA.out (ne_some (by omega))).cell 3 rfl
                have GD := Lib.hid (gb_trans GA.out (gb_drew u18c (some ba)))
                have KD := Lib.hid (KA.out.keep0 (gb_drew u18c none))
                replace RC := Lib.hid (RowC.keep0 RC.out (gb_drew u18c none))
                clear KA GA
                refine wp_region_noPanic ?_
                refine wp_region_held_drew (S := fun w' => w'.cell? ⟨bp, 3, none⟩ = some (.slice p3 r3 s3) ∧ w'.cell? ⟨bq, 3, none⟩ = some (.slice o3 l3 d3)) (by kernel_rfl) ⟨hSP, hSQ⟩ (fun hHeld => ?_)
                refine wpAnyH_take (i := 0) (v := ?_) (List.getElem?_toArray.trans rfl) (by kernel_rfl) (by kernel_rfl) (by kernel_rfl) (fun _ _ _ h => h) (Or.inl ⟨by rfl, ?_⟩) hHeld ?_
                rotate_left
                · intro w' hSw; have m1 := hSw.1; have m2 := hSw.2; go_simp; try with_reducible rfl
                try simp only [Act.put, List.setIfInBounds_toArray, List.set_cons_zero, List.set_cons_succ]
                refine wpAnyH_take (i := 2) (v := ?_) (List.getElem?_toArray.trans rfl) (by kernel_rfl) (by kernel_rfl) (by kernel_rfl) (fun _ _ _ h => h) (Or.inl ⟨by rfl, ?_⟩) hHeld ?_
                rotate_left
                · intro w' hSw; have m1 := hSw.1; have m2 := hSw.2; go_simp; try with_reducible rfl
                try simp only [Act.put, List.setIfInBounds_toArray, List.set_cons_zero, List.set_cons_succ]
                refine wpAnyH_take (i := 5) (v := ?_) (List.getElem?_toArray.trans rfl) (by kernel_rfl) (by kernel_rfl) (by kernel_rfl) (fun _ _ _ h => h) (Or.inl ⟨by rfl, ?_⟩) hHeld ?_
                rotate_left
                · intro w' hSw; have m1 := hSw.1; have m2 := hSw.2; go_simp; try with_reducible rfl
                try simp only [Act.put, List.setIfInBounds_toArray, List.set_cons_zero, List.set_cons_succ]
                refine wpAnyH_take (i := 3) (v := ?_) (List.getElem?_toArray.trans rfl) (by kernel_rfl) (by kernel_rfl) (by kernel_rfl) (fun _ _ _ h => h) (Or.inl ⟨by rfl, ?_⟩) hHeld ?_
                rotate_left
                · intro w' hSw; have m1 := hSw.1; have m2 := hSw.2; go_simp; try with_reducible rfl
                try simp only [Act.put, List.setIfInBounds_toArray, List.set_cons_zero, List.set_cons_succ]
                refine wpAnyH_take (i := 6) (v := ?_) (List.getElem?_toArray.trans rfl) (by kernel_rfl) (by kernel_rfl) (by kernel_rfl) (fun _ _ _ h => h) (Or.inl ⟨by rfl, ?_⟩) hHeld ?_
                rotate_left
                · intro w' hSw; have m1 := hSw.1; have m2 := hSw.2; go_simp; try with_reducible rfl
                try simp only [Act.put, List.setIfInBounds_toArray, List.set_cons_zero, List.set_cons_succ]
                refine wpAnyH_ready (rs := [1]) (by kernel_rfl) (by simp) ?_
                refine AllReadyH.cons (List.getElem?_toArray.trans rfl) (fun K hK => ?_) AllReadyH.nil
                have n1 := KD.out.cell 3 rfl
                go_simp
                clear n1
                refine hK.out _ _ (⟨hSP, hSQ⟩) (fun hHeld => ?_)
                clear hK K
                try simp only [Act.put, List.setIfInBounds_toArray, List.set_cons_zero, List.set_cons_succ]
                refine wpAnyH_ready (rs := [4]) (by kernel_rfl) (by simp) ?_
                refine AllReadyH.cons (List.getElem?_toArray.trans rfl) (fun K hK => ?_) AllReadyH.nil
                obtain ⟨ya1, ya2, ya3, u19a, hr, hs1, hg1, GE⟩ := app_more_I GD.out (Nat.le_refl _) (RowI.nil u18c.drew z0.heap.size) ((NdV.open VA.out).2.2.keepN NB.out GD.out) (by simp) HPO.out.halfA.kids GD.out.size 24
                have KE := Lib.hid (KD.out.keep hg1 (row_other KD.out (RowI.nil u18c.drew z0.heap.size) (by decide)))
                have HE := Lib.hid hs1
                have GF := Lib.hid GE
                have RCe := Lib.hid (RowC.kept RC.out hg1 (row_rows RC.out (RowI.nil u18c.drew z0.heap.size) (by decide)))
                clear hs1 GE hg1 KD GD RC
                refine Lib.wp_append_run _ _ _ _ _ rfl _ _ rfl rfl _ _ hr ?_
                clear hr
                refine hK.out _ _ (⟨(KP.out.keep GF.out (ne_some (by omega))).cell 3 rfl, (KQ.out.keep GF.out (ne_some (by omega))).cell 3 rfl⟩) (fun hHeld => ?_)
                clear hK K
                try simp only [Act.put, List.setIfInBounds_toArray, List.set_cons_zero, List.set_cons_succ]
                refine wpAnyH_ready (rs := [7]) (by kernel_rfl) (by simp) ?_
                refine AllReadyH.cons (List.getElem?_toArray.trans rfl) (fun K hK => ?_) AllReadyH.nil
                obtain ⟨tI1, tI2, tI3, u19b, hr, hs1, hg1, GE⟩ := app_more_I GF.out (Nat.le_refl _) HE.out ((NdV.open VB.out).2.2.keepN NB.out GF.out) (by have := HPO.out.halfA.kids; simp only [List.nil_append]; omega) HPO.out.halfB.kids GF.out.size 24
                have KF := Lib.hid (KE.out.keep hg1 (row_other KE.out HE.out (by decide)))
                have HF := Lib.hid hs1
                have GH := Lib.hid GE
                have RC := Lib.hid (RowC.kept RCe.out hg1 (row_rows RCe.out HE.out (by decide)))
                clear hs1 GE hg1 KE GF HE RCe
                refine Lib.wp_append_run _ _ _ _ _ rfl _ _ rfl rfl _ _ hr ?_
                clear hr
                refine hK.out _ _ (⟨(KP.out.keep GH.out (ne_some (by omega))).cell 3 rfl, (KQ.out.keep GH.out (ne_some (by omega))).cell 3 rfl⟩) (fun hHeld => ?_)
                clear hK K
                try simp only [Act.put, List.setIfInBounds_toArray, List.set_cons_zero, List.set_cons_succ]
                refine wpAnyH_take (i := 8) (v := ?_) (List.getElem?_toArray.trans rfl) (by kernel_rfl) (by kernel_rfl) (by kernel_rfl) (fun _ _ _ h => h) (Or.inl ⟨by rfl, ?_⟩) hHeld ?_
                rotate_left
                · intro w' hSw; have m1 := hSw.1; have m2 := hSw.2; go_simp; try with_reducible rfl
                try simp only [Act.put, List.setIfInBounds_toArray, List.set_cons_zero, List.set_cons_succ]
                refine wpAnyH_ready (rs := [9]) (by kernel_rfl) (by simp) ?_
                refine AllReadyH.cons (List.getElem?_toArray.trans rfl) (fun K hK => ?_) AllReadyH.nil
                have n1 := KF.out.cell 3 rfl
                have f1 := KF.out.free 3
                go_simp
                obtain ⟨u19c, hD⟩ : ∃ z : World, z = u19b.setCell ⟨ba, 3, none⟩ (.slice tI1 tI2 tI3) := ⟨_, rfl⟩
                rw [← hD]
                have gD : u19b.grownBy u19c (some ba) := by rw [hD]; exact gb_set _ _ _ _ _
                have KA := Lib.hid (show Blk u19c ba 26 (_ : Array Value) from by rw [hD]; exact KF.out.set 3 _)
                have RI := Lib.hid (RowI.kept HF.out gD (.inr (row_other KF.out HF.out (by decide)).symm))
                replace RC := Lib.hid (RowC.kept RC.out gD (.inr (row_other KF.out RC.out (by decide)).symm))
                have GA := Lib.hid (gb_trans GH.out gD)
                clear gD hD n1 f1 KF HF GH
                refine hK.out _ _ (⟨(KP.out.keep GA.out (ne_some (by omega))).cell 3 rfl, (KQ.out.keep GA.out (ne_some (by omega))).cell 3 rfl⟩) (fun hHeld => ?_)
                clear hK K
                try simp only [Act.put, List.setIfInBounds_toArray, List.set_cons_zero, List.set_cons_succ]
                refine wpAnyH_done (by kernel_rfl) ?_ _
                refine NoPanic.normal ?_
                clear hSP hSQ
                go_upto_region 20 with fail
                have n1 := KA.out.cell 2 rfl
                have n2 := (KP.out.keep GA.out (ne_some (by omega))).cell 2 rfl
                go_upto_region 21 with (at_builtin; go_must (obtain ⟨tS01, tS02, tS03, u20a, hr, hs1, hg1, GE⟩ := app_more_S GA.out (Nat.le_refl _) (RowS.nil u19c z0.heap.size) (stsKeepN (NdV.open VA.out).2.1 NB.out GA.out) (by simp) HPO.out.halfA.keys GA.out.size 23; have KE := Lib.hid (KA.out.keep hg1 (row_other KA.out (RowS.nil u19c z0.heap.size) (by decide))); have HF := Lib.hid hs1; have GH := Lib.hid GE; have RCe := Lib.hid (RowC.kept RC.out hg1 (row_rows RC.out (RowS.nil u19c z0.heap.size) (by decide))); have RIe := Lib.hid (RowI.kept RI.out hg1 (row_rows RI.out (RowS.nil u19c z0.heap.size) (by decide))); have HR := Lib.hid hr; clear hr hs1 GE hg1 n1 n2; have n1 := KE.out.cell 2 rfl; have f1 := KE.out.free 2; refine Lib.wpList_append_run _ rfl _ _ _ _ rfl _ _ rfl rfl _ _ HR.out ?_))
                obtain ⟨u20c, hD⟩ : ∃ z : World, z = u20a.setCell ⟨ba, 2, none⟩ (.slice tS01 tS02 tS03) := ⟨_, rfl⟩
                rw [← hD]
                have gD : u20a.grownBy u20c (some ba) := by rw [hD]; exact gb_set _ _ _ _ _
                replace KA := Lib.hid (show Blk u20c ba 26 (_ : Array Value) from by rw [hD]; exact KE.out.set 2 _)
                have RS := Lib.hid (RowS.kept HF.out gD (.inr (row_other KE.out HF.out (by decide)).symm))
                replace RC := Lib.hid (RowC.kept RCe.out gD (.inr (row_other KE.out RCe.out (by decide)).symm))
                replace RI := Lib.hid (RowI.kept RIe.out gD (.inr (row_other KE.out RIe.out (by decide)).symm))
                replace GA := Lib.hid (gb_trans GH.out gD)
                clear gD hD n1 f1 KE HF GH HR RCe RIe
                have n1 := (KP.out.keep GA.out (ne_some (by omega))).cell 0 rfl
                go_upto_region 23 with fail
                clear n1
                have n1 := KA.out.cell 2 rfl
                have n2 := (KQ.out.keep GA.out (ne_some (by omega))).cell 2 rfl
                have HS0 := RS
                go_upto_region 24 with (at_builtin; go_must (obtain ⟨tS11, tS12, tS13, u23a, hr, hs1, hg1, GE⟩ := app_more_S GA.out (Nat.le_refl _) HS0.out (stsKeepN (NdV.open VB.out).2.1 NB.out GA.out) (by have := HPO.out.halfA.keys; simp only [List.nil_append, List.length_append, List.length_singleton]; omega) HPO.out.halfB.keys GA.out.size 23; have KE := Lib.hid (KA.out.keep hg1 (row_other KA.out HS0.out (by decide))); have HF := Lib.hid hs1; have GH := Lib.hid GE; have RCe := Lib.hid (RowC.kept RC.out hg1 (row_rows RC.out HS0.out (by decide))); have RIe := Lib.hid (RowI.kept RI.out hg1 (row_rows RI.out HS0.out (by decide))); have HR := Lib.hid hr; clear hr hs1 GE hg1 n1 n2; have n1 := KE.out.cell 2 rfl; have f1 := KE.out.free 2; refine Lib.wpList_append_run _ rfl _ _ _ _ rfl _ _ rfl rfl _ _ HR.out ?_))
                obtain ⟨u23c, hD⟩ : ∃ z : World, z = u23a.setCell ⟨ba, 2, none⟩ (.slice tS11 tS12 tS13) := ⟨_, rfl⟩
                rw [← hD]
                have gD : u23a.grownBy u23c (some ba) := by rw [hD]; exact gb_set _ _ _ _ _
                replace KA := Lib.hid (show Blk u23c ba 26 (_ : Array Value) from by rw [hD]; exact KE.out.set 2 _)
                clear RS HS0
                have RS := Lib.hid (RowS.kept HF.out gD (.inr (row_other KE.out HF.out (by decide)).symm))
                replace RC := Lib.hid (RowC.kept RCe.out gD (.inr (row_other KE.out RCe.out (by decide)).symm))
                replace RI := Lib.hid (RowI.kept RIe.out gD (.inr (row_other KE.out RIe.out (by decide)).symm))
                replace GA := Lib.hid (gb_trans GH.out gD)
                clear gD hD n1 f1 KE HF GH HR RCe RIe
                have e0 := KA.out.cell 0 rfl
                have e1 := KA.out.cell 1 rfl
                have e2 := KA.out.cell 2 rfl
                have e3 := KA.out.cell 3 rfl
                have K7u := K7.out.keep GA.out (ne_some (by omega))
                have n0 := K7u.cell 0 rfl
                have n1 := K7u.cell 1 rfl
                have n2 := K7u.cell 2 rfl
                have n3 := K7u.cell 3 rfl
                clear K7u
                have VALL : Hid (NdV u23c (.agg #[.bool true, .slice tC1 tC2 tC3, .slice tS11 tS12 tS13, .slice tI1 tI2 tI3]) n) := Lib.hid (all_leaf hlf HLA.out (by have h := RowC.sl RC.out; rwa [List.nil_append] at h) (by have h := RowS.sl RS.out; rwa [List.nil_append] at h) (by have h := RowI.sl RI.out; rwa [List.nil_append] at h))
                have VNu := Lib.hid (VN.out.keepN NB.out GA.out)
                replace P5 := Lib.hid (PairAt.keepN P5.out NB.out GA.out (by omega))
                replace KP := Lib.hid (KP.out.keep GA.out (ne_some (by omega)))
                replace KQ := Lib.hid (KQ.out.keep GA.out (ne_some (by omega)))
                replace VA := Lib.hid (VA.out.keepN NB.out GA.out)
                replace VB := Lib.hid (VB.out.keepN NB.out GA.out)
                replace HG := Lib.hid (gb_step HG.out GA.out (by omega))
                replace K7 := Lib.hid (K7.out.keep GA.out (ne_some (by omega)))
                replace VN := VNu
                clear VNu KA GA NB RC RS RI
                have HJ := Lib.hid (fun W v u hv hu => join_yes HPO.out hfit W v u hv hu)
                go_upto_region 27 with (first | (go_at_call 17; (with_reducible refine (HSAME.out _ _ _ VALL.out VN.out).mono ?_); rintro e w8 ⟨rfl, g8⟩; replace P5 := Lib.hid (P5.out.keep0 g8); replace K7 := Lib.hid (K7.out.keep0 g8); replace VN := Lib.hid (VN.out.keep0 g8); replace KP := Lib.hid (KP.out.keep0 g8); replace KQ := Lib.hid (KQ.out.keep0 g8); replace VA := Lib.hid (VA.out.keep0 g8); replace VB := Lib.hid (VB.out.keep0 g8); replace HG := Lib.hid (gb_trans HG.out g8); replace n0 := World.grownBy.cell g8 n0 (by simp); replace n1 := World.grownBy.cell g8 n1 (by simp); replace n2 := World.grownBy.cell g8 n2 (by simp); replace n3 := World.grownBy.cell g8 n3 (by simp); clear VALL e0 e1 e2 e3; have e0 := KP.out.cell 0 rfl; have e1 := KP.out.cell 1 rfl; have e2 := KP.out.cell 2 rfl; have e3 := KP.out.cell 3 rfl; have i0 := KQ.out.cell 0 rfl; have i1 := KQ.out.cell 1 rfl; have i2 := KQ.out.cell 2 rfl; have i3 := KQ.out.cell 3 rfl; clear g8) | (go_at_call 10; (with_reducible refine (HJ.out _ _ _ VA.out VB.out).mono ?_); rintro e w9 ⟨x1, y1, x2, y2, x3, y3, rfl, vX, g9⟩; replace P5 := Lib.hid (P5.out.keep0 g9); replace K7 := Lib.hid (K7.out.keep0 g9); replace VN := Lib.hid (VN.out.keep0 g9); replace HG := Lib.hid (gb_trans HG.out g9); replace n0 := World.grownBy.cell g9 n0 (by simp); replace n1 := World.grownBy.cell g9 n1 (by simp); replace n2 := World.grownBy.cell g9 n2 (by simp); replace n3 := World.grownBy.cell g9 n3 (by simp); have VX := Lib.hid vX; clear vX; clear g9 e0 e1 e2 e3 i0 i1 i2 i3))
                rw [hlf] at VX
                obtain ⟨w10, hu, kX, g10, hz10⟩ := new1 w9 26 #[.bool true, .slice x1 n.cells.length y1, .slice x2 n.keys.length y2, .slice x3 n.kids.length y3]
                rw [← hu]
                clear hu hz10
                replace P5 := Lib.hid (P5.out.keep0 g10)
                replace K7 := Lib.hid (K7.out.keep0 g10)
                replace VN := Lib.hid (VN.out.keep0 g10)
                replace VX := Lib.hid (VX.out.keep0 g10)
                replace HG := Lib.hid (gb_trans HG.out g10)
                replace n0 := World.grownBy.cell g10 n0 (by simp)
                replace n1 := World.grownBy.cell g10 n1 (by simp)
                replace n2 := World.grownBy.cell g10 n2 (by simp)
                replace n3 := World.grownBy.cell g10 n3 (by simp)
                clear g10
                have i0 := kX.cell 0 rfl
                have i1 := kX.cell 1 rfl
                have i2 := kX.cell 2 rfl
                have i3 := kX.cell 3 rfl
                generalize w9.heap.size = bx at i0 i1 i2 i3 ⊢
                go_wp2_with (go_at_call 17; (with_reducible refine (HSAME.out _ _ _ VX.out VN.out).mono ?_); rintro e w11 ⟨rfl, g11⟩; replace P5 := Lib.hid (P5.out.keep0 g11); replace HG := Lib.hid (gb_trans HG.out g11))
                go_roundw
                case rel => exact ⟨i + 1, by omega, by go_num, P5.out, HG.out⟩
                case measure => simp [intOf]; omega
            · have HSP : Hid (∀ W v, NdV W v n → Calls Tryz.prog 18 #[v] W (SplitNo W)) := Lib.hid (fun W v hv => split_few hfew hH W v hv)
              go_wp2_with (first | (go_at_call 17; (with_reducible refine (HSAME.out _ _ _ VX.out VN.out).mono ?_); rintro e w6 ⟨rfl, g6⟩; replace P5 := Lib.hid (P5.out.keep0 g6); replace K7 := Lib.hid (K7.out.keep0 g6); replace VN := Lib.hid (VN.out.keep0 g6); replace HG := Lib.hid (gb_trans HG.out g6); replace n0 := World.grownBy.cell g6 n0 (by simp); replace n1 := World.grownBy.cell g6 n1 (by simp); replace n2 := World.grownBy.cell g6 n2 (by simp); replace n3 := World.grownBy.cell g6 n3 (by simp); clear g6) | (go_at_call 18; (with_reducible refine (HSP.out _ _ VN.out).mono ?_); rintro e w7 ⟨rfl, g7⟩; replace P5 := Lib.hid (P5.out.keep0 g7); replace K7 := Lib.hid (K7.out.keep0 g7); replace VN := Lib.hid (VN.out.keep0 g7); replace HG := Lib.hid (gb_trans HG.out g7); replace n0 := World.grownBy.cell g7 n0 (by simp); replace n1 := World.grownBy.cell g7 n1 (by simp); replace n2 := World.grownBy.cell g7 n2 (by simp); replace n3 := World.grownBy.cell g7 n3 (by simp); clear g7))
              go_roundw
              case rel => exact ⟨i + 1, by omega, by go_num, (P5.out.keep0 (gb_alloc _ _ none)).keep0 (gb_alloc _ _ none), gb_trans (gb_trans HG.out (gb_alloc _ _ none)) (gb_alloc _ _ none)⟩
              case measure => simp [intOf]; omega
      · 
        obtain rfl : i = 2 := by omega
        clear hi hi2 p5
        have HG := Lib.hid hg
        clear hg
        obtain ⟨t, ht⟩ : ∃ t, s.extract 0 (min (s.size : Int) 300).toNat = t := ⟨_, rfl⟩
        have hmin : 0 ≤ (min (s.size : Int) 300) ∧ (min (s.size : Int) 300) ≤ s.size := by omega
        have htz : t.size = (min (s.size : Int) 300).toNat := by rw [← ht, ByteArray.size_extract]; omega
        have hts : t.size ≤ 240 → t = s := by
          intro h4
          have h5 : (min (s.size : Int) 300).toNat = s.size := by omega
          rw [← ht, h5]
          exact ByteArray.extract_zero_size
        have ht9 : t.size ≤ 9223372036854775807 := by omega
        clear htz
        rcases hgf : getF t.data.toList with _ | n
        · have HGET : Hid (∀ W, Calls Tryz.prog 16 #[.string t] W (GetG W none)) := Lib.hid (fun W => by have := get_any t W ht9; rw [hgf] at this; exact this)
          unfold GetG at HGET
          have HSAME : Hid (∀ W, Calls Tryz.prog 17 #[.agg #[.bool false, .slice none 0 0, .slice none 0 0, .slice none 0 0], .agg #[.bool false, .slice none 0 0, .slice none 0 0, .slice none 0 0]] W fun e w' => e = .returned (.bool true) ∧ W.grownBy w' none) := Lib.hid (fun W => same_eq _ _ Nd.zero W (NdV.zero W) (NdV.zero W) (Nat.zero_le _) (Nat.zero_le _) (Nat.zero_le _))
          clear hts ht9 hgf
          go_upto_region 31 with (go_at_call 16; (with_reducible refine (HGET.out _).mono ?_); rintro e w2 ⟨fa, rfl, g2⟩; replace HG := Lib.hid (gb_trans HG.out g2); clear g2; unfold nodeZ)
          obtain ⟨w5, hu, kX, g5, hz5⟩ := new1 w2 26 #[.bool false, .slice none 0 0, .slice none 0 0, .slice none 0 0]
          rw [← hu]
          clear hu hz5
          replace HG := Lib.hid (gb_trans HG.out g5)
          clear g5
          have i0 := kX.cell 0 rfl
          have i1 := kX.cell 1 rfl
          have i2 := kX.cell 2 rfl
          have i3 := kX.cell 3 rfl
          go_wp2_with (go_at_call 17; (with_reducible refine (HSAME.out _).mono ?_); rintro e w3 ⟨rfl, g3⟩; replace HG := Lib.hid (gb_trans HG.out g3); clear g3)
          go_ret
          exact ⟨rfl, gb_below HG.out⟩
        · have HGET : Hid (∀ W, Calls Tryz.prog 16 #[.string t] W (GotN n W)) := Lib.hid (fun W => get_some ht9 hgf W)
          obtain ⟨hH, hfit⟩ := got_half hgf
          obtain ⟨hm, hb, hl⟩ := getF_got hgf
          have hts' : t = s := hts (by rw [← size_list]; exact hl)
          have hbs : (⟨n.bytes.toArray⟩ : ByteArray) = s := by rw [hb, ← hts']
          have HPUT := Lib.hid (fun W v hv => put_yes hfit hbs hH.lim W v hv)
          clear hts ht9 hgf hm hb hl hts' hbs
          go_upto_region 30 with (go_at_call 16; (with_reducible refine (HGET.out _).mono ?_); rintro e w2 ⟨x1, y1, x2, y2, x3, y3, rfl, vX, g2⟩; replace HG := Lib.hid (gb_trans HG.out g2); have VX := Lib.hid vX; clear g2 vX)
          obtain ⟨w5, hu, kX, g5, hz5⟩ := new1 w2 26 #[.bool n.leaf, .slice x1 n.cells.length y1, .slice x2 n.keys.length y2, .slice x3 n.kids.length y3]
          rw [← hu]
          clear hu hz5
          replace HG := Lib.hid (gb_trans HG.out g5)
          replace VX := Lib.hid (VX.out.keep0 g5)
          clear g5
          have i0 := kX.cell 0 rfl
          have i1 := kX.cell 1 rfl
          have i2 := kX.cell 2 rfl
          have i3 := kX.cell 3 rfl
          go_wp2_with (go_at_call 14; (with_reducible refine (HPUT.out _ _ VX.out).mono ?_); rintro e w3 ⟨rfl, g3⟩; replace HG := Lib.hid (gb_trans HG.out g3); clear g3)
          go_ret
          exact ⟨rfl, gb_below HG.out⟩
end Go.Proofs.YthhimhjegodklaaGreat.N11

