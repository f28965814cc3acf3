/-
  What the inner node of a made node is (Made.inner of foyerlaw11), over this seat's translation; conditions: its numbers lie.
-/
import Derived.Test.YthhimhjegodklaaGreatNza
import Derived.Test.YthhimhjegodklaaGreatNv
namespace Go.Proofs.YthhimhjegodklaaGreat.N11
set_option linter.unusedSimpArgs false
set_option linter.unusedVariables false
open Go.RowKit
def keysM (h : ByteArray) (L : List UInt8) (k : Nat) : List ByteArray := (List.range k).map (keyF h L)
def kidM (L : List UInt8) (i : Nat) : Int := 1 + 3 * (numAt L i : Int)
def kidsM (L : List UInt8) (k : Nat) : List Int := 9 :: (List.range k).map (kidM L)
def innerM (h : ByteArray) (L : List UInt8) : Nd := ⟨false, [], keysM h L (min L.length 30), kidsM L (min L.length 30)⟩
theorem keysM_succ (h : ByteArray) (L : List UInt8) (k : Nat) : keysM h L (k + 1) = keysM h L k ++ [keyF h L k] := by
  unfold keysM; rw [List.range_succ, List.map_append]; rfl
theorem kidsM_succ (L : List UInt8) (k : Nat) : kidsM L (k + 1) = kidsM L k ++ [kidM L k] := by
  unfold kidsM; rw [List.range_succ, List.map_append]; rfl
set_option maxRecDepth 100000 in
set_option maxHeartbeats 2000000 in
theorem inner_any (h : ByteArray) (v : Value) (L : List UInt8) (w : World) (hv : Bs w v L) : Calls Tryz.prog 9 #[.agg #[.string h, v]] w (MadeGot (innerM h L) w) := by
  obtain ⟨ao, cap, rfl, hcap, hnil, hcell⟩ := hv
  obtain ⟨wa, hwa, kM, kR, ga, hza⟩ := new2 w 30 #[.string h, .slice ao L.length cap] 26 #[.bool false, .slice none 0 0, .slice none 0 0, .slice none 0 0]
  have hI := rowI_new wa 9 (w.heap.size + 2) (by omega)
  have gi := gb_alloc wa (.cells #[.int .i64 9] 3) none
  obtain ⟨w0, hw0, kN, g0, hz0⟩ := new1 (wa.alloc (.cells #[.int .i64 9] 3)) 26 #[.bool false, .slice none 0 0, .slice none 0 0, .slice (some ⟨w.heap.size + 2, 0, none⟩) 1 1]
  have hsz : (wa.alloc (.cells #[.int .i64 9] 3)).heap.size = w.heap.size + 3 := by simp; omega
  rw [hsz] at kN
  rw [hza] at hI
  rw [hwa] at hw0
  have HW := Lib.hid hw0
  have HV := Lib.hid (show Bs w (.slice ao L.length cap) L from ⟨ao, cap, rfl, hcap, hnil, hcell⟩)
  have HI : ∃ kv iv, Blk w0 w.heap.size 30 #[.string h, .slice ao L.length cap] ∧ Blk w0 (w.heap.size + 3) 26 #[.bool false, .slice none 0 0, kv, iv] ∧ RowS w0 (w.heap.size + 2) kv (keysM h L 0) ∧ RowI w0 (w.heap.size + 2) iv (kidsM L 0) ∧ w.grownBy w0 none ∧ Blk w0 (w.heap.size + 1) 26 #[.bool false, .slice none 0 0, .slice none 0 0, .slice none 0 0] := ⟨_, _, (kM.keep0 gi).keep0 g0, kN, RowS.nil _ _, hI.keep0 g0, gb_trans (gb_trans ga gi) g0, (kR.keep0 gi).keep0 g0⟩
  clear hw0 hwa kM kR kN ga gi g0 hz0 hza hsz hcell hcap hnil hI
  go_enter Tryz.func9, Tryz.ntmps9
  go_wp2
  rw [← HW.out]
  go_loopw [4] (fun i wr => ∃ (k : Nat) (kv iv : Value), k ≤ min L.length 30 ∧ i = .int .i64 k ∧ Blk wr w.heap.size 30 #[.string h, .slice ao L.length cap] ∧ Blk wr (w.heap.size + 3) 26 #[.bool false, .slice none 0 0, kv, iv] ∧ RowS wr (w.heap.size + 2) kv (keysM h L k) ∧ RowI wr (w.heap.size + 2) iv (kidsM L k) ∧ w.grownBy wr none ∧ Blk wr (w.heap.size + 1) 26 #[.bool false, .slice none 0 0, .slice none 0 0, .slice none 0 0]) (fun i _ => min L.length 30 - (intOf i).toNat)
  case atStart => obtain ⟨kv, iv, h1⟩ := HI; exact ⟨0, kv, iv, Nat.zero_le _, rfl, h1⟩
  case round =>
    clear HI
    obtain ⟨k, kv, iv, hk, rfl, kM, kN, hrowS, hrowI, hg, kR⟩ := hrel
    obtain ⟨vo, vn, vc, rfl⟩ := shape' hrowS.sl
    obtain ⟨io, inn, ic, rfl⟩ := shape' hrowI.sl
    have c0 := kM.cell 0 rfl
    have c1 := kM.cell 1 rfl
    by_cases hlt : k < min L.length 30
    · have h1 : k < L.length := by omega
      have h30 : k < 30 := by omega
      have hud : w.heap.size + 2 ≤ wr.heap.size := by have := kN.lt; omega
      have HKEY : Hid (∀ W, w.grownBy W none → Calls Tryz.prog 20 #[.agg #[.string h, .slice ao L.length cap], .int .i64 (k : Nat)] W (KeyGot (keyF h L k) W)) := Lib.hid (fun W g => key_any h _ L k W (HV.out.keep0 g) h1 h30)
      obtain ⟨x, hx⟩ : ∃ x, numAt L k = x := ⟨_, rfl⟩
      have hxb : x < 256 := by rw [← hx]; exact UInt8.toNat_lt _
      obtain ⟨ab, af, ax, hap, hcx, hab⟩ : ∃ ab af ax, (∀ a, ao = some a → a.add k = ⟨ab, af, ax⟩) ∧ w.cell? ⟨ab, af, ax⟩ = some (.int .u8 (x : Nat)) ∧ ab < w.heap.size := by
        obtain ⟨ao', cap', he, hcap, hnil, hcell⟩ := HV.out
        cases he
        cases ao with
        | none => have := (hnil rfl).1; omega
        | some a =>
          have hc := hcell a rfl k (.int .u8 (x : Nat)) (by rw [← hx]; unfold bcells numAt; rw [List.getElem?_map, List.getD_eq_getElem?_getD, List.getElem?_eq_getElem h1]; rfl)
          exact ⟨_, _, _, fun b e => by cases e; rfl, hc, World.block_lt_of_cell? w _ hc⟩
      cases ao with
      | none =>
        obtain ⟨ao', cap', he, hcap, hnil, hcell⟩ := HV.out
        cases he
        have := (hnil rfl).1
        omega
      | some a =>
      have ha := hap a rfl
      clear hap
      have hW : wrap64 (x : Int) = x := by unfold wrap64; omega
      have hWk : IntKind.i64.wrap (x : Int) = x := IntWalk.i64_in _ (by omega)
      have hW3 : IntKind.i64.wrap (3 * (x : Int)) = 3 * (x : Int) := IntWalk.i64_in _ (by omega)
      have hW4 : IntKind.i64.wrap (1 + 3 * (x : Int)) = 1 + 3 * (x : Int) := IntWalk.i64_in _ (by omega)
      have HKD := Lib.hid (show kidM L k = 1 + 3 * (x : Int) by unfold kidM; rw [hx])
      have cx : wr.cell? ⟨ab, af, ax⟩ = some (.int .u8 (x : Nat)) := hg.cell hcx (by simp)
      have HKU := Lib.hid hrowS
      have HIU := Lib.hid hrowI
      have HG := Lib.hid hg
      have hpl : (keysM h L k).length ≤ 1000000 := by unfold keysM; rw [List.length_map, List.length_range]; omega
      have hpi : (kidsM L k).length ≤ 1000000 := by unfold kidsM; rw [List.length_cons, List.length_map, List.length_range]; omega
      clear hrowS hrowI hg
      go_wp2
      clear c0 c1
      refine wp_region_noPanic ?_
      refine wp_region_held_drew (S := fun w' => w'.cell? ⟨w.heap.size, 0, none⟩ = some (.string h) ∧ w'.cell? ⟨w.heap.size, 1, none⟩ = some (.slice (some a) L.length cap) ∧ w'.cell? ⟨ab, af, ax⟩ = some (.int .u8 (x : Nat))) (by kernel_rfl) ⟨(kM.keep0 (gb_drew _ none)).cell 0 rfl, (kM.keep0 (gb_drew _ none)).cell 1 rfl, World.grownBy.cell (gb_drew _ none) cx (by simp)⟩ (fun hHeld => ?_)
      have gD0 := gb_drew wr none
      replace kM := kM.keep0 gD0
      replace kN := kN.keep0 gD0
      replace kR := kR.keep0 gD0
      replace HKU := Lib.hid (RowS.keep0 (show RowS wr _ _ (keysM h L k) from HKU.out) gD0)
      replace HIU := Lib.hid (RowI.keep0 (show RowI wr _ _ (kidsM L k) from HIU.out) gD0)
      replace HG := Lib.hid (gb_trans HG.out gD0)
      replace cx := World.grownBy.cell gD0 cx (by simp)
      replace hud := Nat.le_trans hud gD0.size
      clear gD0
      generalize wr.drew = x0 at kM kN kR HKU HIU HG cx hud hHeld ⊢
      refine wpAnyH_take (i := 0) (v := ?_) (List.getElem?_toArray.trans rfl) (by kernel_rfl) (by kernel_rfl) (by kernel_rfl) (fun _ _ _ h => h) (Or.inl ⟨by rfl, ?_⟩) hHeld ?_
      rotate_left
      · intro w' hSw; have m0 := hSw.1; have m1 := hSw.2.1; have cx := hSw.2.2; go_simp; try with_reducible rfl
      try simp only [Act.put, List.setIfInBounds_toArray, List.set_cons_zero, List.set_cons_succ]
      refine wpAnyH_take (i := 2) (v := ?_) (List.getElem?_toArray.trans rfl) (by kernel_rfl) (by kernel_rfl) (by kernel_rfl) (fun _ _ _ h => h) (Or.inl ⟨by rfl, ?_⟩) hHeld ?_
      rotate_left
      · intro w' hSw; have m0 := hSw.1; have m1 := hSw.2.1; have cx := hSw.2.2; go_simp; try with_reducible rfl
      try simp only [Act.put, List.setIfInBounds_toArray, List.set_cons_zero, List.set_cons_succ]
      refine wpAnyH_take (i := 3) (v := ?_) (List.getElem?_toArray.trans rfl) (by kernel_rfl) (by kernel_rfl) (by kernel_rfl) (fun _ _ _ h => h) (Or.inl ⟨by rfl, ?_⟩) hHeld ?_
      rotate_left
      · intro w' hSw; have m0 := hSw.1; have m1 := hSw.2.1; have cx := hSw.2.2; go_simp; try with_reducible rfl
      try simp only [Act.put, List.setIfInBounds_toArray, List.set_cons_zero, List.set_cons_succ]
      refine wpAnyH_ready (rs := [1, 4]) (by kernel_rfl) (by simp) ?_
      refine AllReadyH.cons (List.getElem?_toArray.trans rfl) (fun K hK => ?_) (AllReadyH.cons (List.getElem?_toArray.trans rfl) (fun K hK => ?_) AllReadyH.nil)
      · have n3 := kN.cell 2 rfl
        go_simp
        clear n3
        refine hK.out _ _ (⟨kM.cell 0 rfl, kM.cell 1 rfl, cx⟩) (fun hHeld => ?_)
        clear hK K
        try simp only [Act.put, List.setIfInBounds_toArray, List.set_cons_zero, List.set_cons_succ]
        refine wpAnyH_ready (rs := [4]) (by kernel_rfl) (by simp) ?_
        refine AllReadyH.cons (List.getElem?_toArray.trans rfl) (fun K hK => ?_) AllReadyH.nil
        go_simp
        go_at_call 20
        (with_reducible refine (HKEY.out _ HG.out).mono ?_)
        rintro e x2 ⟨rfl, gC⟩
        replace kM := kM.keep0 gC
        replace kN := kN.keep0 gC
        replace kR := kR.keep0 gC
        replace HKU := Lib.hid (RowS.keep0 (show RowS x0 _ _ (keysM h L k) from HKU.out) gC)
        replace HIU := Lib.hid (RowI.keep0 (show RowI x0 _ _ (kidsM L k) from HIU.out) gC)
        replace HG := Lib.hid (gb_trans HG.out gC)
        replace cx := World.grownBy.cell gC cx (by simp)
        replace hud := Nat.le_trans hud gC.size
        clear gC
        refine hK.out _ _ (⟨kM.cell 0 rfl, kM.cell 1 rfl, cx⟩) (fun hHeld => ?_)
        clear hK K
        try simp only [Act.put, List.setIfInBounds_toArray, List.set_cons_zero, List.set_cons_succ]
        refine wpAnyH_ready (rs := [5]) (by kernel_rfl) (by simp) ?_
        refine AllReadyH.cons (List.getElem?_toArray.trans rfl) (fun K hK => ?_) AllReadyH.nil
        go_simp
        obtain ⟨x3, hC, kC, gC, hzz⟩ := new1 x2 9 #[.string (keyF h L k)]
        rw [← hC]
        clear hC hzz
        replace kM := kM.keep0 gC
        replace kN := kN.keep0 gC
        replace kR := kR.keep0 gC
        replace HKU := Lib.hid (RowS.keep0 (show RowS x2 _ _ (keysM h L k) from HKU.out) gC)
        replace HIU := Lib.hid (RowI.keep0 (show RowI x2 _ _ (kidsM L k) from HIU.out) gC)
        replace HG := Lib.hid (gb_trans HG.out gC)
        replace cx := World.grownBy.cell gC cx (by simp)
        replace hud := Nat.le_trans hud gC.size
        generalize x2.heap.size = bC at kC ⊢
        clear gC
        refine hK.out _ _ (⟨kM.cell 0 rfl, kM.cell 1 rfl, cx⟩) (fun hHeld => ?_)
        clear hK K
        try simp only [Act.put, List.setIfInBounds_toArray, List.set_cons_zero, List.set_cons_succ]
        refine wpAnyH_ready (rs := [6]) (by kernel_rfl) (by simp) ?_
        refine AllReadyH.cons (List.getElem?_toArray.trans rfl) (fun K hK => ?_) AllReadyH.nil
        obtain ⟨v5, x4, hr, hs', hg'⟩ := row_app_S HKU.out (sts_one kC) hpl (by simp) hud 23
        obtain ⟨xo, xn, xc, rfl⟩ := shape' (RowS.sl hs')
        have hfN := row_other kN HKU.out (by decide)
        have hfM := row_other kM HKU.out (by decide)
        have hfR := row_other kR HKU.out (by decide)
        replace kN := kN.keep hg' hfN
        replace kM := kM.keep hg' hfM
        replace kR := kR.keep hg' hfR
        replace HIU := Lib.hid (World.ownsRow.kept HIU.out hg' (row_rows HIU.out HKU.out (by decide)))
        replace cx := World.grownBy.cell hg' cx (show some ab ≠ _ from row_ne HKU.out (.inl (by omega)))
        replace HG := Lib.hid (gb_own2 HG.out HKU.out (by omega) hg')
        replace hud := Nat.le_trans hud hg'.size
        clear HKU
        have HKU := Lib.hid hs'
        clear hfN hfM hfR hs' hg' kC
        refine Lib.wp_append_run _ _ _ _ _ rfl _ _ rfl rfl _ _ hr ?_
        clear hr
        refine hK.out _ _ (⟨kM.cell 0 rfl, kM.cell 1 rfl, cx⟩) (fun hHeld => ?_)
        clear hK K
        try simp only [Act.put, List.setIfInBounds_toArray, List.set_cons_zero, List.set_cons_succ]
        refine wpAnyH_take (i := 7) (v := ?_) (List.getElem?_toArray.trans rfl) (by kernel_rfl) (by kernel_rfl) (by kernel_rfl) (fun _ _ _ h => h) (Or.inl ⟨by rfl, ?_⟩) hHeld ?_
        rotate_left
        · intro w' hSw; have m0 := hSw.1; have m1 := hSw.2.1; have cx := hSw.2.2; go_simp; try with_reducible rfl
        try simp only [Act.put, List.setIfInBounds_toArray, List.set_cons_zero, List.set_cons_succ]
        refine wpAnyH_ready (rs := [8]) (by kernel_rfl) (by simp) ?_
        refine AllReadyH.cons (List.getElem?_toArray.trans rfl) (fun K hK => ?_) AllReadyH.nil
        have n3 := kN.cell 2 rfl
        have f3 := kN.free 2
        go_simp
        obtain ⟨x5, hD⟩ : ∃ z : World, z = x4.setCell ⟨w.heap.size + 3, 2, none⟩ (.slice xo xn xc) := ⟨_, rfl⟩
        rw [← hD]
        have gD : x4.grownBy x5 (some (w.heap.size + 3)) := by rw [hD]; exact gb_set _ _ _ _ _
        have hsn := HKU.out
        have hsi := HIU.out
        replace HKU := Lib.hid (World.ownsRow.kept hsn gD (.inr (row_other kN hsn (by decide)).symm))
        replace HIU := Lib.hid (World.ownsRow.kept hsi gD (.inr (row_other kN hsi (by decide)).symm))
        replace kN : Blk x5 (w.heap.size + 3) 26 #[.bool false, .slice none 0 0, .slice xo xn xc, .slice io inn ic] := by rw [hD]; exact kN.set 2 _
        replace kM := kM.keep gD (ne_some (by omega))
        replace kR := kR.keep gD (ne_some (by omega))
        replace cx := World.grownBy.cell gD cx (show some ab ≠ some (w.heap.size + 3) from ne_some (by omega))
        replace HG := Lib.hid (gb_step HG.out gD (by omega))
        replace hud := Nat.le_trans hud gD.size
        clear hD n3 f3 gD hsn hsi
        refine hK.out _ _ (⟨kM.cell 0 rfl, kM.cell 1 rfl, cx⟩) (fun hHeld => ?_)
        clear hK K
        try simp only [Act.put, List.setIfInBounds_toArray, List.set_cons_zero, List.set_cons_succ]
        refine wpAnyH_done (by kernel_rfl) ?_ _
        refine NoPanic.normal ?_
        go_wp2
        refine wp_region_noPanic ?_
        refine wp_region_held_drew (S := fun w' => w'.cell? ⟨w.heap.size, 0, none⟩ = some (.string h) ∧ w'.cell? ⟨w.heap.size, 1, none⟩ = some (.slice (some a) L.length cap) ∧ w'.cell? ⟨ab, af, ax⟩ = some (.int .u8 (x : Nat))) (by kernel_rfl) ⟨(kM.keep0 (gb_drew _ none)).cell 0 rfl, (kM.keep0 (gb_drew _ none)).cell 1 rfl, World.grownBy.cell (gb_drew _ none) cx (by simp)⟩ (fun hHeld => ?_)
        have gD0 := gb_drew x5 none
        replace kM := kM.keep0 gD0
        replace kN := kN.keep0 gD0
        replace kR := kR.keep0 gD0
        replace HKU := Lib.hid (RowS.keep0 (show RowS x5 _ _ (keysM h L k ++ [keyF h L k]) from HKU.out) gD0)
        replace HIU := Lib.hid (RowI.keep0 (show RowI x5 _ _ (kidsM L k) from HIU.out) gD0)
        replace HG := Lib.hid (gb_trans HG.out gD0)
        replace cx := World.grownBy.cell gD0 cx (by simp)
        replace hud := Nat.le_trans hud gD0.size
        clear gD0
        generalize x5.drew = z1 at kM kN kR HKU HIU HG cx hud hHeld ⊢
        refine wpAnyH_take (i := 0) (v := ?_) (List.getElem?_toArray.trans rfl) (by kernel_rfl) (by kernel_rfl) (by kernel_rfl) (fun _ _ _ h => h) (Or.inl ⟨by rfl, ?_⟩) hHeld ?_
        rotate_left
        · intro w' hSw; have m0 := hSw.1; have m1 := hSw.2.1; have cx := hSw.2.2; go_simp; try with_reducible rfl
        try simp only [Act.put, List.setIfInBounds_toArray, List.set_cons_zero, List.set_cons_succ]
        refine wpAnyH_take (i := 2) (v := ?_) (List.getElem?_toArray.trans rfl) (by kernel_rfl) (by kernel_rfl) (by kernel_rfl) (fun _ _ _ h => h) (Or.inl ⟨by rfl, ?_⟩) hHeld ?_
        rotate_left
        · intro w' hSw; have m0 := hSw.1; have m1 := hSw.2.1; have cx := hSw.2.2; go_simp; try with_reducible rfl
        try simp only [Act.put, List.setIfInBounds_toArray, List.set_cons_zero, List.set_cons_succ]
        refine wpAnyH_take (i := 3) (v := ?_) (List.getElem?_toArray.trans rfl) (by kernel_rfl) (by kernel_rfl) (by kernel_rfl) (fun _ _ _ h => h) (Or.inl ⟨by rfl, ?_⟩) hHeld ?_
        rotate_left
        · intro w' hSw; have m0 := hSw.1; have m1 := hSw.2.1; have cx := hSw.2.2; go_simp; try with_reducible rfl
        try simp only [Act.put, List.setIfInBounds_toArray, List.set_cons_zero, List.set_cons_succ]
        refine wpAnyH_take (i := 4) (v := ?_) (List.getElem?_toArray.trans rfl) (by kernel_rfl) (by kernel_rfl) (by kernel_rfl) (fun _ _ _ h => h) (Or.inl ⟨by rfl, ?_⟩) hHeld ?_
        rotate_left
        · intro w' hSw; have m0 := hSw.1; have m1 := hSw.2.1; have cx := hSw.2.2; go_simp; try with_reducible rfl
        try simp only [Act.put, List.setIfInBounds_toArray, List.set_cons_zero, List.set_cons_succ]
        refine wpAnyH_take (i := 5) (v := ?_) (List.getElem?_toArray.trans rfl) (by kernel_rfl) (by kernel_rfl) (by kernel_rfl) (fun _ _ _ h => h) (Or.inl ⟨by rfl, ?_⟩) hHeld ?_
        rotate_left
        · intro w' hSw; have m0 := hSw.1; have m1 := hSw.2.1; have cx := hSw.2.2; go_simp; try with_reducible rfl
        try simp only [Act.put, List.setIfInBounds_toArray, List.set_cons_zero, List.set_cons_succ]
        refine wpAnyH_take (i := 6) (v := ?_) (List.getElem?_toArray.trans rfl) (by kernel_rfl) (by kernel_rfl) (by kernel_rfl) (fun _ _ _ h => h) (Or.inl ⟨by rfl, ?_⟩) hHeld ?_
        rotate_left
        · intro w' hSw; have m0 := hSw.1; have m1 := hSw.2.1; have cx := hSw.2.2; go_simp; try with_reducible rfl
        try simp only [Act.put, List.setIfInBounds_toArray, List.set_cons_zero, List.set_cons_succ]
        refine wpAnyH_take (i := 7) (v := ?_) (List.getElem?_toArray.trans rfl) (by kernel_rfl) (by kernel_rfl) (by kernel_rfl) (fun _ _ _ h => h) (Or.inl ⟨by rfl, ?_⟩) hHeld ?_
        rotate_left
        · intro w' hSw; have m0 := hSw.1; have m1 := hSw.2.1; have cx := hSw.2.2; go_simp; try with_reducible rfl
        try simp only [Act.put, List.setIfInBounds_toArray, List.set_cons_zero, List.set_cons_succ]
        refine wpAnyH_take (i := 8) (v := ?_) (List.getElem?_toArray.trans rfl) (by kernel_rfl) (by kernel_rfl) (by kernel_rfl) (fun _ _ _ h => h) (Or.inl ⟨by rfl, ?_⟩) hHeld ?_
        rotate_left
        · intro w' hSw; have m0 := hSw.1; have m1 := hSw.2.1; have cx := hSw.2.2; go_simp; try with_reducible rfl
        try simp only [Act.put, List.setIfInBounds_toArray, List.set_cons_zero, List.set_cons_succ]
        refine wpAnyH_take (i := 9) (v := ?_) (List.getElem?_toArray.trans rfl) (by kernel_rfl) (by kernel_rfl) (by kernel_rfl) (fun _ _ _ h => h) (Or.inl ⟨by rfl, ?_⟩) hHeld ?_
        rotate_left
        · intro w' hSw; have m0 := hSw.1; have m1 := hSw.2.1; have cx := hSw.2.2; go_simp; try with_reducible rfl
        try simp only [Act.put, List.setIfInBounds_toArray, List.set_cons_zero, List.set_cons_succ]
        refine wpAnyH_ready (rs := [1, 10]) (by kernel_rfl) (by simp) ?_
        refine AllReadyH.cons (List.getElem?_toArray.trans rfl) (fun K hK => ?_) (AllReadyH.cons (List.getElem?_toArray.trans rfl) (fun K hK => ?_) AllReadyH.nil)
        · have n3 := kN.cell 3 rfl
          go_simp
          clear n3
          refine hK.out _ _ (⟨kM.cell 0 rfl, kM.cell 1 rfl, cx⟩) (fun hHeld => ?_)
          clear hK K
          try simp only [Act.put, List.setIfInBounds_toArray, List.set_cons_zero, List.set_cons_succ]
          refine wpAnyH_ready (rs := [10]) (by kernel_rfl) (by simp) ?_
          refine AllReadyH.cons (List.getElem?_toArray.trans rfl) (fun K hK => ?_) AllReadyH.nil
          go_simp
          try simp only [hWk, hW3, hW4]
          obtain ⟨y1_2, hC, kC, gC, hzz⟩ := new1 z1 3 #[.int .i64 (1 + 3 * (x : Int))]
          rw [← hC]
          clear hC hzz
          replace kM := kM.keep0 gC
          replace kN := kN.keep0 gC
          replace kR := kR.keep0 gC
          replace HKU := Lib.hid (RowS.keep0 (show RowS z1 _ _ (keysM h L k ++ [keyF h L k]) from HKU.out) gC)
          replace HIU := Lib.hid (RowI.keep0 (show RowI z1 _ _ (kidsM L k) from HIU.out) gC)
          replace HG := Lib.hid (gb_trans HG.out gC)
          replace cx := World.grownBy.cell gC cx (by simp)
          replace hud := Nat.le_trans hud gC.size
          generalize z1.heap.size = bC at kC ⊢
          clear gC
          refine hK.out _ _ (⟨kM.cell 0 rfl, kM.cell 1 rfl, cx⟩) (fun hHeld => ?_)
          clear hK K
          try simp only [Act.put, List.setIfInBounds_toArray, List.set_cons_zero, List.set_cons_succ]
          refine wpAnyH_ready (rs := [11]) (by kernel_rfl) (by simp) ?_
          refine AllReadyH.cons (List.getElem?_toArray.trans rfl) (fun K hK => ?_) AllReadyH.nil
          obtain ⟨v5, y1_3, hr, hs', hg'⟩ := row_app_I HIU.out (ins_one kC) hpi (by simp) hud 24
          obtain ⟨yo, yn, yc, rfl⟩ := shape' (RowI.sl hs')
          have hfN := row_other kN HIU.out (by decide)
          have hfM := row_other kM HIU.out (by decide)
          have hfR := row_other kR HIU.out (by decide)
          replace kN := kN.keep hg' hfN
          replace kM := kM.keep hg' hfM
          replace kR := kR.keep hg' hfR
          replace HKU := Lib.hid (World.ownsRow.kept HKU.out hg' (row_rows HKU.out HIU.out (by decide)))
          replace cx := World.grownBy.cell hg' cx (show some ab ≠ _ from row_ne HIU.out (.inl (by omega)))
          replace HG := Lib.hid (gb_own2 HG.out HIU.out (by omega) hg')
          replace hud := Nat.le_trans hud hg'.size
          clear HIU
          have HIU := Lib.hid hs'
          clear hfN hfM hfR hs' hg' kC
          refine Lib.wp_append_run _ _ _ _ _ rfl _ _ rfl rfl _ _ hr ?_
          clear hr
          refine hK.out _ _ (⟨kM.cell 0 rfl, kM.cell 1 rfl, cx⟩) (fun hHeld => ?_)
          clear hK K
          try simp only [Act.put, List.setIfInBounds_toArray, List.set_cons_zero, List.set_cons_succ]
          refine wpAnyH_take (i := 12) (v := ?_) (List.getElem?_toArray.trans rfl) (by kernel_rfl) (by kernel_rfl) (by kernel_rfl) (fun _ _ _ h => h) (Or.inl ⟨by rfl, ?_⟩) hHeld ?_
          rotate_left
          · intro w' hSw; have m0 := hSw.1; have m1 := hSw.2.1; have cx := hSw.2.2; go_simp; try with_reducible rfl
          try simp only [Act.put, List.setIfInBounds_toArray, List.set_cons_zero, List.set_cons_succ]
          refine wpAnyH_ready (rs := [13]) (by kernel_rfl) (by simp) ?_
          refine AllReadyH.cons (List.getElem?_toArray.trans rfl) (fun K hK => ?_) AllReadyH.nil
          have n3 := kN.cell 3 rfl
          have f3 := kN.free 3
          go_simp
          obtain ⟨y1_4, hD⟩ : ∃ z : World, z = y1_3.setCell ⟨w.heap.size + 3, 3, none⟩ (.slice yo yn yc) := ⟨_, rfl⟩
          rw [← hD]
          have gD : y1_3.grownBy y1_4 (some (w.heap.size + 3)) := by rw [hD]; exact gb_set _ _ _ _ _
          have hsn := HKU.out
          have hsi := HIU.out
          replace HKU := Lib.hid (World.ownsRow.kept hsn gD (.inr (row_other kN hsn (by decide)).symm))
          replace HIU := Lib.hid (World.ownsRow.kept hsi gD (.inr (row_other kN hsi (by decide)).symm))
          replace kN : Blk y1_4 (w.heap.size + 3) 26 #[.bool false, .slice none 0 0, .slice xo xn xc, .slice yo yn yc] := by rw [hD]; exact kN.set 3 _
          replace kM := kM.keep gD (ne_some (by omega))
          replace kR := kR.keep gD (ne_some (by omega))
          replace cx := World.grownBy.cell gD cx (show some ab ≠ some (w.heap.size + 3) from ne_some (by omega))
          replace HG := Lib.hid (gb_step HG.out gD (by omega))
          replace hud := Nat.le_trans hud gD.size
          clear hD n3 f3 gD hsn hsi
          refine hK.out _ _ (⟨kM.cell 0 rfl, kM.cell 1 rfl, cx⟩) (fun hHeld => ?_)
          clear hK K
          try simp only [Act.put, List.setIfInBounds_toArray, List.set_cons_zero, List.set_cons_succ]
          refine wpAnyH_done (by kernel_rfl) ?_ _
          refine NoPanic.normal ?_
          go_wp2
          go_roundw
          case rel =>
            refine ⟨k + 1, _, _, by omega, by go_num, kM, kN, ?_, ?_, HG.out, kR⟩
            · rw [keysM_succ]; exact HKU.out
            · rw [kidsM_succ, HKD.out]; exact HIU.out
          case measure => simp [intOf]; omega
        · go_simp
          try simp only [hWk, hW3, hW4]
          obtain ⟨y1_5, hC, kC, gC, hzz⟩ := new1 z1 3 #[.int .i64 (1 + 3 * (x : Int))]
          rw [← hC]
          clear hC hzz
          replace kM := kM.keep0 gC
          replace kN := kN.keep0 gC
          replace kR := kR.keep0 gC
          replace HKU := Lib.hid (RowS.keep0 (show RowS z1 _ _ (keysM h L k ++ [keyF h L k]) from HKU.out) gC)
          replace HIU := Lib.hid (RowI.keep0 (show RowI z1 _ _ (kidsM L k) from HIU.out) gC)
          replace HG := Lib.hid (gb_trans HG.out gC)
          replace cx := World.grownBy.cell gC cx (by simp)
          replace hud := Nat.le_trans hud gC.size
          generalize z1.heap.size = bC at kC ⊢
          clear gC
          refine hK.out _ _ (⟨kM.cell 0 rfl, kM.cell 1 rfl, cx⟩) (fun hHeld => ?_)
          clear hK K
          try simp only [Act.put, List.setIfInBounds_toArray, List.set_cons_zero, List.set_cons_succ]
          refine wpAnyH_ready (rs := [1]) (by kernel_rfl) (by simp) ?_
          refine AllReadyH.cons (List.getElem?_toArray.trans rfl) (fun K hK => ?_) AllReadyH.nil
          have n3 := kN.cell 3 rfl
          go_simp
          clear n3
          refine hK.out _ _ (⟨kM.cell 0 rfl, kM.cell 1 rfl, cx⟩) (fun hHeld => ?_)
          clear hK K
          try simp only [Act.put, List.setIfInBounds_toArray, List.set_cons_zero, List.set_cons_succ]
          refine wpAnyH_ready (rs := [11]) (by kernel_rfl) (by simp) ?_
          refine AllReadyH.cons (List.getElem?_toArray.trans rfl) (fun K hK => ?_) AllReadyH.nil
          obtain ⟨v5, y1_7, hr, hs', hg'⟩ := row_app_I HIU.out (ins_one kC) hpi (by simp) hud 24
          obtain ⟨yo, yn, yc, rfl⟩ := shape' (RowI.sl hs')
          have hfN := row_other kN HIU.out (by decide)
          have hfM := row_other kM HIU.out (by decide)
          have hfR := row_other kR HIU.out (by decide)
          replace kN := kN.keep hg' hfN
          replace kM := kM.keep hg' hfM
          replace kR := kR.keep hg' hfR
          replace HKU := Lib.hid (World.ownsRow.kept HKU.out hg' (row_rows HKU.out HIU.out (by decide)))
          replace cx := World.grownBy.cell hg' cx (show some ab ≠ _ from row_ne HIU.out (.inl (by omega)))
          replace HG := Lib.hid (gb_own2 HG.out HIU.out (by omega) hg')
          replace hud := Nat.le_trans hud hg'.size
          clear HIU
          have HIU := Lib.hid hs'
          clear hfN hfM hfR hs' hg' kC
          refine Lib.wp_append_run _ _ _ _ _ rfl _ _ rfl rfl _ _ hr ?_
          clear hr
          refine hK.out _ _ (⟨kM.cell 0 rfl, kM.cell 1 rfl, cx⟩) (fun hHeld => ?_)
          clear hK K
          try simp only [Act.put, List.setIfInBounds_toArray, List.set_cons_zero, List.set_cons_succ]
          refine wpAnyH_take (i := 12) (v := ?_) (List.getElem?_toArray.trans rfl) (by kernel_rfl) (by kernel_rfl) (by kernel_rfl) (fun _ _ _ h => h) (Or.inl ⟨by rfl, ?_⟩) hHeld ?_
          rotate_left
          · intro w' hSw; have m0 := hSw.1; have m1 := hSw.2.1; have cx := hSw.2.2; go_simp; try with_reducible rfl
          try simp only [Act.put, List.setIfInBounds_toArray, List.set_cons_zero, List.set_cons_succ]
          refine wpAnyH_ready (rs := [13]) (by kernel_rfl) (by simp) ?_
          refine AllReadyH.cons (List.getElem?_toArray.trans rfl) (fun K hK => ?_) AllReadyH.nil
          have n3 := kN.cell 3 rfl
          have f3 := kN.free 3
          go_simp
          obtain ⟨y1_8, hD⟩ : ∃ z : World, z = y1_7.setCell ⟨w.heap.size + 3, 3, none⟩ (.slice yo yn yc) := ⟨_, rfl⟩
          rw [← hD]
          have gD : y1_7.grownBy y1_8 (some (w.heap.size + 3)) := by rw [hD]; exact gb_set _ _ _ _ _
          have hsn := HKU.out
          have hsi := HIU.out
          replace HKU := Lib.hid (World.ownsRow.kept hsn gD (.inr (row_other kN hsn (by decide)).symm))
          replace HIU := Lib.hid (World.ownsRow.kept hsi gD (.inr (row_other kN hsi (by decide)).symm))
          replace kN : Blk y1_8 (w.heap.size + 3) 26 #[.bool false, .slice none 0 0, .slice xo xn xc, .slice yo yn yc] := by rw [hD]; exact kN.set 3 _
          replace kM := kM.keep gD (ne_some (by omega))
          replace kR := kR.keep gD (ne_some (by omega))
          replace cx := World.grownBy.cell gD cx (show some ab ≠ some (w.heap.size + 3) from ne_some (by omega))
          replace HG := Lib.hid (gb_step HG.out gD (by omega))
          replace hud := Nat.le_trans hud gD.size
          clear hD n3 f3 gD hsn hsi
          refine hK.out _ _ (⟨kM.cell 0 rfl, kM.cell 1 rfl, cx⟩) (fun hHeld => ?_)
          clear hK K
          try simp only [Act.put, List.setIfInBounds_toArray, List.set_cons_zero, List.set_cons_succ]
          refine wpAnyH_done (by kernel_rfl) ?_ _
          refine NoPanic.normal ?_
          go_wp2
          go_roundw
          case rel =>
            refine ⟨k + 1, _, _, by omega, by go_num, kM, kN, ?_, ?_, HG.out, kR⟩
            · rw [keysM_succ]; exact HKU.out
            · rw [kidsM_succ, HKD.out]; exact HIU.out
          case measure => simp [intOf]; omega
      · go_simp
        go_at_call 20
        (with_reducible refine (HKEY.out _ HG.out).mono ?_)
        rintro e x6 ⟨rfl, gC⟩
        replace kM := kM.keep0 gC
        replace kN := kN.keep0 gC
        replace kR := kR.keep0 gC
        replace HKU := Lib.hid (RowS.keep0 (show RowS x0 _ _ (keysM h L k) from HKU.out) gC)
        replace HIU := Lib.hid (RowI.keep0 (show RowI x0 _ _ (kidsM L k) from HIU.out) gC)
        replace HG := Lib.hid (gb_trans HG.out gC)
        replace cx := World.grownBy.cell gC cx (by simp)
        replace hud := Nat.le_trans hud gC.size
        clear gC
        refine hK.out _ _ (⟨kM.cell 0 rfl, kM.cell 1 rfl, cx⟩) (fun hHeld => ?_)
        clear hK K
        try simp only [Act.put, List.setIfInBounds_toArray, List.set_cons_zero, List.set_cons_succ]
        refine wpAnyH_ready (rs := [1, 5]) (by kernel_rfl) (by simp) ?_
        refine AllReadyH.cons (List.getElem?_toArray.trans rfl) (fun K hK => ?_) (AllReadyH.cons (List.getElem?_toArray.trans rfl) (fun K hK => ?_) AllReadyH.nil)
        · have n3 := kN.cell 2 rfl
          go_simp
          clear n3
          refine hK.out _ _ (⟨kM.cell 0 rfl, kM.cell 1 rfl, cx⟩) (fun hHeld => ?_)
          clear hK K
          try simp only [Act.put, List.setIfInBounds_toArray, List.set_cons_zero, List.set_cons_succ]
          refine wpAnyH_ready (rs := [5]) (by kernel_rfl) (by simp) ?_
          refine AllReadyH.cons (List.getElem?_toArray.trans rfl) (fun K hK => ?_) AllReadyH.nil
          go_simp
          obtain ⟨x8, hC, kC, gC, hzz⟩ := new1 x6 9 #[.string (keyF h L k)]
          rw [← hC]
          clear hC hzz
          replace kM := kM.keep0 gC
          replace kN := kN.keep0 gC
          replace kR := kR.keep0 gC
          replace HKU := Lib.hid (RowS.keep0 (show RowS x6 _ _ (keysM h L k) from HKU.out) gC)
          replace HIU := Lib.hid (RowI.keep0 (show RowI x6 _ _ (kidsM L k) from HIU.out) gC)
          replace HG := Lib.hid (gb_trans HG.out gC)
          replace cx := World.grownBy.cell gC cx (by simp)
          replace hud := Nat.le_trans hud gC.size
          generalize x6.heap.size = bC at kC ⊢
          clear gC
          refine hK.out _ _ (⟨kM.cell 0 rfl, kM.cell 1 rfl, cx⟩) (fun hHeld => ?_)
          clear hK K
          try simp only [Act.put, List.setIfInBounds_toArray, List.set_cons_zero, List.set_cons_succ]
          refine wpAnyH_ready (rs := [6]) (by kernel_rfl) (by simp) ?_
          refine AllReadyH.cons (List.getElem?_toArray.trans rfl) (fun K hK => ?_) AllReadyH.nil
          obtain ⟨v5, x9, hr, hs', hg'⟩ := row_app_S HKU.out (sts_one kC) hpl (by simp) hud 23
          obtain ⟨xo, xn, xc, rfl⟩ := shape' (RowS.sl hs')
          have hfN := row_other kN HKU.out (by decide)
          have hfM := row_other kM HKU.out (by decide)
          have hfR := row_other kR HKU.out (by decide)
          replace kN := kN.keep hg' hfN
          replace kM := kM.keep hg' hfM
          replace kR := kR.keep hg' hfR
          replace HIU := Lib.hid (World.ownsRow.kept HIU.out hg' (row_rows HIU.out HKU.out (by decide)))
          replace cx := World.grownBy.cell hg' cx (show some ab ≠ _ from row_ne HKU.out (.inl (by omega)))
          replace HG := Lib.hid (gb_own2 HG.out HKU.out (by omega) hg')
          replace hud := Nat.le_trans hud hg'.size
          clear HKU
          have HKU := Lib.hid hs'
          clear hfN hfM hfR hs' hg' kC
          refine Lib.wp_append_run _ _ _ _ _ rfl _ _ rfl rfl _ _ hr ?_
          clear hr
          refine hK.out _ _ (⟨kM.cell 0 rfl, kM.cell 1 rfl, cx⟩) (fun hHeld => ?_)
          clear hK K
          try simp only [Act.put, List.setIfInBounds_toArray, List.set_cons_zero, List.set_cons_succ]
          refine wpAnyH_take (i := 7) (v := ?_) (List.getElem?_toArray.trans rfl) (by kernel_rfl) (by kernel_rfl) (by kernel_rfl) (fun _ _ _ h => h) (Or.inl ⟨by rfl, ?_⟩) hHeld ?_
          rotate_left
          · intro w' hSw; have m0 := hSw.1; have m1 := hSw.2.1; have cx := hSw.2.2; go_simp; try with_reducible rfl
          try simp only [Act.put, List.setIfInBounds_toArray, List.set_cons_zero, List.set_cons_succ]
          refine wpAnyH_ready (rs := [8]) (by kernel_rfl) (by simp) ?_
          refine AllReadyH.cons (List.getElem?_toArray.trans rfl) (fun K hK => ?_) AllReadyH.nil
          have n3 := kN.cell 2 rfl
          have f3 := kN.free 2
          go_simp
          obtain ⟨x10, hD⟩ : ∃ z : World, z = x9.setCell ⟨w.heap.size + 3, 2, none⟩ (.slice xo xn xc) := ⟨_, rfl⟩
          rw [← hD]
          have gD : x9.grownBy x10 (some (w.heap.size + 3)) := by rw [hD]; exact gb_set _ _ _ _ _
          have hsn := HKU.out
          have hsi := HIU.out
          replace HKU := Lib.hid (World.ownsRow.kept hsn gD (.inr (row_other kN hsn (by decide)).symm))
          replace HIU := Lib.hid (World.ownsRow.kept hsi gD (.inr (row_other kN hsi (by decide)).symm))
          replace kN : Blk x10 (w.heap.size + 3) 26 #[.bool false, .slice none 0 0, .slice xo xn xc, .slice io inn ic] := by rw [hD]; exact kN.set 2 _
          replace kM := kM.keep gD (ne_some (by omega))
          replace kR := kR.keep gD (ne_some (by omega))
          replace cx := World.grownBy.cell gD cx (show some ab ≠ some (w.heap.size + 3) from ne_some (by omega))
          replace HG := Lib.hid (gb_step HG.out gD (by omega))
          replace hud := Nat.le_trans hud gD.size
          clear hD n3 f3 gD hsn hsi
          refine hK.out _ _ (⟨kM.cell 0 rfl, kM.cell 1 rfl, cx⟩) (fun hHeld => ?_)
          clear hK K
          try simp only [Act.put, List.setIfInBounds_toArray, List.set_cons_zero, List.set_cons_succ]
          refine wpAnyH_done (by kernel_rfl) ?_ _
          refine NoPanic.normal ?_
          go_wp2
          refine wp_region_noPanic ?_
          refine wp_region_held_drew (S := fun w' => w'.cell? ⟨w.heap.size, 0, none⟩ = some (.string h) ∧ w'.cell? ⟨w.heap.size, 1, none⟩ = some (.slice (some a) L.length cap) ∧ w'.cell? ⟨ab, af, ax⟩ = some (.int .u8 (x : Nat))) (by kernel_rfl) ⟨(kM.keep0 (gb_drew _ none)).cell 0 rfl, (kM.keep0 (gb_drew _ none)).cell 1 rfl, World.grownBy.cell (gb_drew _ none) cx (by simp)⟩ (fun hHeld => ?_)
          have gD0 := gb_drew x10 none
          replace kM := kM.keep0 gD0
          replace kN := kN.keep0 gD0
          replace kR := kR.keep0 gD0
          replace HKU := Lib.hid (RowS.keep0 (show RowS x10 _ _ (keysM h L k ++ [keyF h L k]) from HKU.out) gD0)
          replace HIU := Lib.hid (RowI.keep0 (show RowI x10 _ _ (kidsM L k) from HIU.out) gD0)
          replace HG := Lib.hid (gb_trans HG.out gD0)
          replace cx := World.grownBy.cell gD0 cx (by simp)
          replace hud := Nat.le_trans hud gD0.size
          clear gD0
          generalize x10.drew = z2 at kM kN kR HKU HIU HG cx hud hHeld ⊢
          refine wpAnyH_take (i := 0) (v := ?_) (List.getElem?_toArray.trans rfl) (by kernel_rfl) (by kernel_rfl) (by kernel_rfl) (fun _ _ _ h => h) (Or.inl ⟨by rfl, ?_⟩) hHeld ?_
          rotate_left
          · intro w' hSw; have m0 := hSw.1; have m1 := hSw.2.1; have cx := hSw.2.2; go_simp; try with_reducible rfl
          try simp only [Act.put, List.setIfInBounds_toArray, List.set_cons_zero, List.set_cons_succ]
          refine wpAnyH_take (i := 2) (v := ?_) (List.getElem?_toArray.trans rfl) (by kernel_rfl) (by kernel_rfl) (by kernel_rfl) (fun _ _ _ h => h) (Or.inl ⟨by rfl, ?_⟩) hHeld ?_
          rotate_left
          · intro w' hSw; have m0 := hSw.1; have m1 := hSw.2.1; have cx := hSw.2.2; go_simp; try with_reducible rfl
          try simp only [Act.put, List.setIfInBounds_toArray, List.set_cons_zero, List.set_cons_succ]
          refine wpAnyH_take (i := 3) (v := ?_) (List.getElem?_toArray.trans rfl) (by kernel_rfl) (by kernel_rfl) (by kernel_rfl) (fun _ _ _ h => h) (Or.inl ⟨by rfl, ?_⟩) hHeld ?_
          rotate_left
          · intro w' hSw; have m0 := hSw.1; have m1 := hSw.2.1; have cx := hSw.2.2; go_simp; try with_reducible rfl
          try simp only [Act.put, List.setIfInBounds_toArray, List.set_cons_zero, List.set_cons_succ]
          refine wpAnyH_take (i := 4) (v := ?_) (List.getElem?_toArray.trans rfl) (by kernel_rfl) (by kernel_rfl) (by kernel_rfl) (fun _ _ _ h => h) (Or.inl ⟨by rfl, ?_⟩) hHeld ?_
          rotate_left
          · intro w' hSw; have m0 := hSw.1; have m1 := hSw.2.1; have cx := hSw.2.2; go_simp; try with_reducible rfl
          try simp only [Act.put, List.setIfInBounds_toArray, List.set_cons_zero, List.set_cons_succ]
          refine wpAnyH_take (i := 5) (v := ?_) (List.getElem?_toArray.trans rfl) (by kernel_rfl) (by kernel_rfl) (by kernel_rfl) (fun _ _ _ h => h) (Or.inl ⟨by rfl, ?_⟩) hHeld ?_
          rotate_left
          · intro w' hSw; have m0 := hSw.1; have m1 := hSw.2.1; have cx := hSw.2.2; go_simp; try with_reducible rfl
          try simp only [Act.put, List.setIfInBounds_toArray, List.set_cons_zero, List.set_cons_succ]
          refine wpAnyH_take (i := 6) (v := ?_) (List.getElem?_toArray.trans rfl) (by kernel_rfl) (by kernel_rfl) (by kernel_rfl) (fun _ _ _ h => h) (Or.inl ⟨by rfl, ?_⟩) hHeld ?_
          rotate_left
          · intro w' hSw; have m0 := hSw.1; have m1 := hSw.2.1; have cx := hSw.2.2; go_simp; try with_reducible rfl
          try simp only [Act.put, List.setIfInBounds_toArray, List.set_cons_zero, List.set_cons_succ]
          refine wpAnyH_take (i := 7) (v := ?_) (List.getElem?_toArray.trans rfl) (by kernel_rfl) (by kernel_rfl) (by kernel_rfl) (fun _ _ _ h => h) (Or.inl ⟨by rfl, ?_⟩) hHeld ?_
          rotate_left
          · intro w' hSw; have m0 := hSw.1; have m1 := hSw.2.1; have cx := hSw.2.2; go_simp; try with_reducible rfl
          try simp only [Act.put, List.setIfInBounds_toArray, List.set_cons_zero, List.set_cons_succ]
          refine wpAnyH_take (i := 8) (v := ?_) (List.getElem?_toArray.trans rfl) (by kernel_rfl) (by kernel_rfl) (by kernel_rfl) (fun _ _ _ h => h) (Or.inl ⟨by rfl, ?_⟩) hHeld ?_
          rotate_left
          · intro w' hSw; have m0 := hSw.1; have m1 := hSw.2.1; have cx := hSw.2.2; go_simp; try with_reducible rfl
          try simp only [Act.put, List.setIfInBounds_toArray, List.set_cons_zero, List.set_cons_succ]
          refine wpAnyH_take (i := 9) (v := ?_) (List.getElem?_toArray.trans rfl) (by kernel_rfl) (by kernel_rfl) (by kernel_rfl) (fun _ _ _ h => h) (Or.inl ⟨by rfl, ?_⟩) hHeld ?_
          rotate_left
          · intro w' hSw; have m0 := hSw.1; have m1 := hSw.2.1; have cx := hSw.2.2; go_simp; try with_reducible rfl
          try simp only [Act.put, List.setIfInBounds_toArray, List.set_cons_zero, List.set_cons_succ]
          refine wpAnyH_ready (rs := [1, 10]) (by kernel_rfl) (by simp) ?_
          refine AllReadyH.cons (List.getElem?_toArray.trans rfl) (fun K hK => ?_) (AllReadyH.cons (List.getElem?_toArray.trans rfl) (fun K hK => ?_) AllReadyH.nil)
          · have n3 := kN.cell 3 rfl
            go_simp
            clear n3
            refine hK.out _ _ (⟨kM.cell 0 rfl, kM.cell 1 rfl, cx⟩) (fun hHeld => ?_)
            clear hK K
            try simp only [Act.put, List.setIfInBounds_toArray, List.set_cons_zero, List.set_cons_succ]
            refine wpAnyH_ready (rs := [10]) (by kernel_rfl) (by simp) ?_
            refine AllReadyH.cons (List.getElem?_toArray.trans rfl) (fun K hK => ?_) AllReadyH.nil
            go_simp
            try simp only [hWk, hW3, hW4]
            obtain ⟨y2_2, hC, kC, gC, hzz⟩ := new1 z2 3 #[.int .i64 (1 + 3 * (x : Int))]
            rw [← hC]
            clear hC hzz
            replace kM := kM.keep0 gC
            replace kN := kN.keep0 gC
            replace kR := kR.keep0 gC
            replace HKU := Lib.hid (RowS.keep0 (show RowS z2 _ _ (keysM h L k ++ [keyF h L k]) from HKU.out) gC)
            replace HIU := Lib.hid (RowI.keep0 (show RowI z2 _ _ (kidsM L k) from HIU.out) gC)
            replace HG := Lib.hid (gb_trans HG.out gC)
            replace cx := World.grownBy.cell gC cx (by simp)
            replace hud := Nat.le_trans hud gC.size
            generalize z2.heap.size = bC at kC ⊢
            clear gC
            refine hK.out _ _ (⟨kM.cell 0 rfl, kM.cell 1 rfl, cx⟩) (fun hHeld => ?_)
            clear hK K
            try simp only [Act.put, List.setIfInBounds_toArray, List.set_cons_zero, List.set_cons_succ]
            refine wpAnyH_ready (rs := [11]) (by kernel_rfl) (by simp) ?_
            refine AllReadyH.cons (List.getElem?_toArray.trans rfl) (fun K hK => ?_) AllReadyH.nil
            obtain ⟨v5, y2_3, hr, hs', hg'⟩ := row_app_I HIU.out (ins_one kC) hpi (by simp) hud 24
            obtain ⟨yo, yn, yc, rfl⟩ := shape' (RowI.sl hs')
            have hfN := row_other kN HIU.out (by decide)
            have hfM := row_other kM HIU.out (by decide)
            have hfR := row_other kR HIU.out (by decide)
            replace kN := kN.keep hg' hfN
            replace kM := kM.keep hg' hfM
            replace kR := kR.keep hg' hfR
            replace HKU := Lib.hid (World.ownsRow.kept HKU.out hg' (row_rows HKU.out HIU.out (by decide)))
            replace cx := World.grownBy.cell hg' cx (show some ab ≠ _ from row_ne HIU.out (.inl (by omega)))
            replace HG := Lib.hid (gb_own2 HG.out HIU.out (by omega) hg')
            replace hud := Nat.le_trans hud hg'.size
            clear HIU
            have HIU := Lib.hid hs'
            clear hfN hfM hfR hs' hg' kC
            refine Lib.wp_append_run _ _ _ _ _ rfl _ _ rfl rfl _ _ hr ?_
            clear hr
            refine hK.out _ _ (⟨kM.cell 0 rfl, kM.cell 1 rfl, cx⟩) (fun hHeld => ?_)
            clear hK K
            try simp only [Act.put, List.setIfInBounds_toArray, List.set_cons_zero, List.set_cons_succ]
            refine wpAnyH_take (i := 12) (v := ?_) (List.getElem?_toArray.trans rfl) (by kernel_rfl) (by kernel_rfl) (by kernel_rfl) (fun _ _ _ h => h) (Or.inl ⟨by rfl, ?_⟩) hHeld ?_
            rotate_left
            · intro w' hSw; have m0 := hSw.1; have m1 := hSw.2.1; have cx := hSw.2.2; go_simp; try with_reducible rfl
            try simp only [Act.put, List.setIfInBounds_toArray, List.set_cons_zero, List.set_cons_succ]
            refine wpAnyH_ready (rs := [13]) (by kernel_rfl) (by simp) ?_
            refine AllReadyH.cons (List.getElem?_toArray.trans rfl) (fun K hK => ?_) AllReadyH.nil
            have n3 := kN.cell 3 rfl
            have f3 := kN.free 3
            go_simp
            obtain ⟨y2_4, hD⟩ : ∃ z : World, z = y2_3.setCell ⟨w.heap.size + 3, 3, none⟩ (.slice yo yn yc) := ⟨_, rfl⟩
            rw [← hD]
            have gD : y2_3.grownBy y2_4 (some (w.heap.size + 3)) := by rw [hD]; exact gb_set _ _ _ _ _
            have hsn := HKU.out
            have hsi := HIU.out
            replace HKU := Lib.hid (World.ownsRow.kept hsn gD (.inr (row_other kN hsn (by decide)).symm))
            replace HIU := Lib.hid (World.ownsRow.kept hsi gD (.inr (row_other kN hsi (by decide)).symm))
            replace kN : Blk y2_4 (w.heap.size + 3) 26 #[.bool false, .slice none 0 0, .slice xo xn xc, .slice yo yn yc] := by rw [hD]; exact kN.set 3 _
            replace kM := kM.keep gD (ne_some (by omega))
            replace kR := kR.keep gD (ne_some (by omega))
            replace cx := World.grownBy.cell gD cx (show some ab ≠ some (w.heap.size + 3) from ne_some (by omega))
            replace HG := Lib.hid (gb_step HG.out gD (by omega))
            replace hud := Nat.le_trans hud gD.size
            clear hD n3 f3 gD hsn hsi
            refine hK.out _ _ (⟨kM.cell 0 rfl, kM.cell 1 rfl, cx⟩) (fun hHeld => ?_)
            clear hK K
            try simp only [Act.put, List.setIfInBounds_toArray, List.set_cons_zero, List.set_cons_succ]
            refine wpAnyH_done (by kernel_rfl) ?_ _
            refine NoPanic.normal ?_
            go_wp2
            go_roundw
            case rel =>
              refine ⟨k + 1, _, _, by omega, by go_num, kM, kN, ?_, ?_, HG.out, kR⟩
              · rw [keysM_succ]; exact HKU.out
              · rw [kidsM_succ, HKD.out]; exact HIU.out
            case measure => simp [intOf]; omega
          · go_simp
            try simp only [hWk, hW3, hW4]
            obtain ⟨y2_5, hC, kC, gC, hzz⟩ := new1 z2 3 #[.int .i64 (1 + 3 * (x : Int))]
            rw [← hC]
            clear hC hzz
            replace kM := kM.keep0 gC
            replace kN := kN.keep0 gC
            replace kR := kR.keep0 gC
            replace HKU := Lib.hid (RowS.keep0 (show RowS z2 _ _ (keysM h L k ++ [keyF h L k]) from HKU.out) gC)
            replace HIU := Lib.hid (RowI.keep0 (show RowI z2 _ _ (kidsM L k) from HIU.out) gC)
            replace HG := Lib.hid (gb_trans HG.out gC)
            replace cx := World.grownBy.cell gC cx (by simp)
            replace hud := Nat.le_trans hud gC.size
            generalize z2.heap.size = bC at kC ⊢
            clear gC
            refine hK.out _ _ (⟨kM.cell 0 rfl, kM.cell 1 rfl, cx⟩) (fun hHeld => ?_)
            clear hK K
            try simp only [Act.put, List.setIfInBounds_toArray, List.set_cons_zero, List.set_cons_succ]
            refine wpAnyH_ready (rs := [1]) (by kernel_rfl) (by simp) ?_
            refine AllReadyH.cons (List.getElem?_toArray.trans rfl) (fun K hK => ?_) AllReadyH.nil
            have n3 := kN.cell 3 rfl
            go_simp
            clear n3
            refine hK.out _ _ (⟨kM.cell 0 rfl, kM.cell 1 rfl, cx⟩) (fun hHeld => ?_)
            clear hK K
            try simp only [Act.put, List.setIfInBounds_toArray, List.set_cons_zero, List.set_cons_succ]
            refine wpAnyH_ready (rs := [11]) (by kernel_rfl) (by simp) ?_
            refine AllReadyH.cons (List.getElem?_toArray.trans rfl) (fun K hK => ?_) AllReadyH.nil
            obtain ⟨v5, y2_7, hr, hs', hg'⟩ := row_app_I HIU.out (ins_one kC) hpi (by simp) hud 24
            obtain ⟨yo, yn, yc, rfl⟩ := shape' (RowI.sl hs')
            have hfN := row_other kN HIU.out (by decide)
            have hfM := row_other kM HIU.out (by decide)
            have hfR := row_other kR HIU.out (by decide)
            replace kN := kN.keep hg' hfN
            replace kM := kM.keep hg' hfM
            replace kR := kR.keep hg' hfR
            replace HKU := Lib.hid (World.ownsRow.kept HKU.out hg' (row_rows HKU.out HIU.out (by decide)))
            replace cx := World.grownBy.cell hg' cx (show some ab ≠ _ from row_ne HIU.out (.inl (by omega)))
            replace HG := Lib.hid (gb_own2 HG.out HIU.out (by omega) hg')
            replace hud := Nat.le_trans hud hg'.size
            clear HIU
            have HIU := Lib.hid hs'
            clear hfN hfM hfR hs' hg' kC
            refine Lib.wp_append_run _ _ _ _ _ rfl _ _ rfl rfl _ _ hr ?_
            clear hr
            refine hK.out _ _ (⟨kM.cell 0 rfl, kM.cell 1 rfl, cx⟩) (fun hHeld => ?_)
            clear hK K
            try simp only [Act.put, List.setIfInBounds_toArray, List.set_cons_zero, List.set_cons_succ]
            refine wpAnyH_take (i := 12) (v := ?_) (List.getElem?_toArray.trans rfl) (by kernel_rfl) (by kernel_rfl) (by kernel_rfl) (fun _ _ _ h => h) (Or.inl ⟨by rfl, ?_⟩) hHeld ?_
            rotate_left
            · intro w' hSw; have m0 := hSw.1; have m1 := hSw.2.1; have cx := hSw.2.2; go_simp; try with_reducible rfl
            try simp only [Act.put, List.setIfInBounds_toArray, List.set_cons_zero, List.set_cons_succ]
            refine wpAnyH_ready (rs := [13]) (by kernel_rfl) (by simp) ?_
            refine AllReadyH.cons (List.getElem?_toArray.trans rfl) (fun K hK => ?_) AllReadyH.nil
            have n3 := kN.cell 3 rfl
            have f3 := kN.free 3
            go_simp
            obtain ⟨y2_8, hD⟩ : ∃ z : World, z = y2_7.setCell ⟨w.heap.size + 3, 3, none⟩ (.slice yo yn yc) := ⟨_, rfl⟩
            rw [← hD]
            have gD : y2_7.grownBy y2_8 (some (w.heap.size + 3)) := by rw [hD]; exact gb_set _ _ _ _ _
            have hsn := HKU.out
            have hsi := HIU.out
            replace HKU := Lib.hid (World.ownsRow.kept hsn gD (.inr (row_other kN hsn (by decide)).symm))
            replace HIU := Lib.hid (World.ownsRow.kept hsi gD (.inr (row_other kN hsi (by decide)).symm))
            replace kN : Blk y2_8 (w.heap.size + 3) 26 #[.bool false, .slice none 0 0, .slice xo xn xc, .slice yo yn yc] := by rw [hD]; exact kN.set 3 _
            replace kM := kM.keep gD (ne_some (by omega))
            replace kR := kR.keep gD (ne_some (by omega))
            replace cx := World.grownBy.cell gD cx (show some ab ≠ some (w.heap.size + 3) from ne_some (by omega))
            replace HG := Lib.hid (gb_step HG.out gD (by omega))
            replace hud := Nat.le_trans hud gD.size
            clear hD n3 f3 gD hsn hsi
            refine hK.out _ _ (⟨kM.cell 0 rfl, kM.cell 1 rfl, cx⟩) (fun hHeld => ?_)
            clear hK K
            try simp only [Act.put, List.setIfInBounds_toArray, List.set_cons_zero, List.set_cons_succ]
            refine wpAnyH_done (by kernel_rfl) ?_ _
            refine NoPanic.normal ?_
            go_wp2
            go_roundw
            case rel =>
              refine ⟨k + 1, _, _, by omega, by go_num, kM, kN, ?_, ?_, HG.out, kR⟩
              · rw [keysM_succ]; exact HKU.out
              · rw [kidsM_succ, HKD.out]; exact HIU.out
            case measure => simp [intOf]; omega
        · go_simp
          obtain ⟨x11, hC, kC, gC, hzz⟩ := new1 x6 9 #[.string (keyF h L k)]
          rw [← hC]
          clear hC hzz
          replace kM := kM.keep0 gC
          replace kN := kN.keep0 gC
          replace kR := kR.keep0 gC
          replace HKU := Lib.hid (RowS.keep0 (show RowS x6 _ _ (keysM h L k) from HKU.out) gC)
          replace HIU := Lib.hid (RowI.keep0 (show RowI x6 _ _ (kidsM L k) from HIU.out) gC)
          replace HG := Lib.hid (gb_trans HG.out gC)
          replace cx := World.grownBy.cell gC cx (by simp)
          replace hud := Nat.le_trans hud gC.size
          generalize x6.heap.size = bC at kC ⊢
          clear gC
          refine hK.out _ _ (⟨kM.cell 0 rfl, kM.cell 1 rfl, cx⟩) (fun hHeld => ?_)
          clear hK K
          try simp only [Act.put, List.setIfInBounds_toArray, List.set_cons_zero, List.set_cons_succ]
          refine wpAnyH_ready (rs := [1]) (by kernel_rfl) (by simp) ?_
          refine AllReadyH.cons (List.getElem?_toArray.trans rfl) (fun K hK => ?_) AllReadyH.nil
          have n3 := kN.cell 2 rfl
          go_simp
          clear n3
          refine hK.out _ _ (⟨kM.cell 0 rfl, kM.cell 1 rfl, cx⟩) (fun hHeld => ?_)
          clear hK K
          try simp only [Act.put, List.setIfInBounds_toArray, List.set_cons_zero, List.set_cons_succ]
          refine wpAnyH_ready (rs := [6]) (by kernel_rfl) (by simp) ?_
          refine AllReadyH.cons (List.getElem?_toArray.trans rfl) (fun K hK => ?_) AllReadyH.nil
          obtain ⟨v5, x13, hr, hs', hg'⟩ := row_app_S HKU.out (sts_one kC) hpl (by simp) hud 23
          obtain ⟨xo, xn, xc, rfl⟩ := shape' (RowS.sl hs')
          have hfN := row_other kN HKU.out (by decide)
          have hfM := row_other kM HKU.out (by decide)
          have hfR := row_other kR HKU.out (by decide)
          replace kN := kN.keep hg' hfN
          replace kM := kM.keep hg' hfM
          replace kR := kR.keep hg' hfR
          replace HIU := Lib.hid (World.ownsRow.kept HIU.out hg' (row_rows HIU.out HKU.out (by decide)))
          replace cx := World.grownBy.cell hg' cx (show some ab ≠ _ from row_ne HKU.out (.inl (by omega)))
          replace HG := Lib.hid (gb_own2 HG.out HKU.out (by omega) hg')
          replace hud := Nat.le_trans hud hg'.size
          clear HKU
          have HKU := Lib.hid hs'
          clear hfN hfM hfR hs' hg' kC
          refine Lib.wp_append_run _ _ _ _ _ rfl _ _ rfl rfl _ _ hr ?_
          clear hr
          refine hK.out _ _ (⟨kM.cell 0 rfl, kM.cell 1 rfl, cx⟩) (fun hHeld => ?_)
          clear hK K
          try simp only [Act.put, List.setIfInBounds_toArray, List.set_cons_zero, List.set_cons_succ]
          refine wpAnyH_take (i := 7) (v := ?_) (List.getElem?_toArray.trans rfl) (by kernel_rfl) (by kernel_rfl) (by kernel_rfl) (fun _ _ _ h => h) (Or.inl ⟨by rfl, ?_⟩) hHeld ?_
          rotate_left
          · intro w' hSw; have m0 := hSw.1; have m1 := hSw.2.1; have cx := hSw.2.2; go_simp; try with_reducible rfl
          try simp only [Act.put, List.setIfInBounds_toArray, List.set_cons_zero, List.set_cons_succ]
          refine wpAnyH_ready (rs := [8]) (by kernel_rfl) (by simp) ?_
          refine AllReadyH.cons (List.getElem?_toArray.trans rfl) (fun K hK => ?_) AllReadyH.nil
          have n3 := kN.cell 2 rfl
          have f3 := kN.free 2
          go_simp
          obtain ⟨x14, hD⟩ : ∃ z : World, z = x13.setCell ⟨w.heap.size + 3, 2, none⟩ (.slice xo xn xc) := ⟨_, rfl⟩
          rw [← hD]
          have gD : x13.grownBy x14 (some (w.heap.size + 3)) := by rw [hD]; exact gb_set _ _ _ _ _
          have hsn := HKU.out
          have hsi := HIU.out
          replace HKU := Lib.hid (World.ownsRow.kept hsn gD (.inr (row_other kN hsn (by decide)).symm))
          replace HIU := Lib.hid (World.ownsRow.kept hsi gD (.inr (row_other kN hsi (by decide)).symm))
          replace kN : Blk x14 (w.heap.size + 3) 26 #[.bool false, .slice none 0 0, .slice xo xn xc, .slice io inn ic] := by rw [hD]; exact kN.set 2 _
          replace kM := kM.keep gD (ne_some (by omega))
          replace kR := kR.keep gD (ne_some (by omega))
          replace cx := World.grownBy.cell gD cx (show some ab ≠ some (w.heap.size + 3) from ne_some (by omega))
          replace HG := Lib.hid (gb_step HG.out gD (by omega))
          replace hud := Nat.le_trans hud gD.size
          clear hD n3 f3 gD hsn hsi
          refine hK.out _ _ (⟨kM.cell 0 rfl, kM.cell 1 rfl, cx⟩) (fun hHeld => ?_)
          clear hK K
          try simp only [Act.put, List.setIfInBounds_toArray, List.set_cons_zero, List.set_cons_succ]
          refine wpAnyH_done (by kernel_rfl) ?_ _
          refine NoPanic.normal ?_
          go_wp2
          refine wp_region_noPanic ?_
          refine wp_region_held_drew (S := fun w' => w'.cell? ⟨w.heap.size, 0, none⟩ = some (.string h) ∧ w'.cell? ⟨w.heap.size, 1, none⟩ = some (.slice (some a) L.length cap) ∧ w'.cell? ⟨ab, af, ax⟩ = some (.int .u8 (x : Nat))) (by kernel_rfl) ⟨(kM.keep0 (gb_drew _ none)).cell 0 rfl, (kM.keep0 (gb_drew _ none)).cell 1 rfl, World.grownBy.cell (gb_drew _ none) cx (by simp)⟩ (fun hHeld => ?_)
          have gD0 := gb_drew x14 none
          replace kM := kM.keep0 gD0
          replace kN := kN.keep0 gD0
          replace kR := kR.keep0 gD0
          replace HKU := Lib.hid (RowS.keep0 (show RowS x14 _ _ (keysM h L k ++ [keyF h L k]) from HKU.out) gD0)
          replace HIU := Lib.hid (RowI.keep0 (show RowI x14 _ _ (kidsM L k) from HIU.out) gD0)
          replace HG := Lib.hid (gb_trans HG.out gD0)
          replace cx := World.grownBy.cell gD0 cx (by simp)
          replace hud := Nat.le_trans hud gD0.size
          clear gD0
          generalize x14.drew = z3 at kM kN kR HKU HIU HG cx hud hHeld ⊢
          refine wpAnyH_take (i := 0) (v := ?_) (List.getElem?_toArray.trans rfl) (by kernel_rfl) (by kernel_rfl) (by kernel_rfl) (fun _ _ _ h => h) (Or.inl ⟨by rfl, ?_⟩) hHeld ?_
          rotate_left
          · intro w' hSw; have m0 := hSw.1; have m1 := hSw.2.1; have cx := hSw.2.2; go_simp; try with_reducible rfl
          try simp only [Act.put, List.setIfInBounds_toArray, List.set_cons_zero, List.set_cons_succ]
          refine wpAnyH_take (i := 2) (v := ?_) (List.getElem?_toArray.trans rfl) (by kernel_rfl) (by kernel_rfl) (by kernel_rfl) (fun _ _ _ h => h) (Or.inl ⟨by rfl, ?_⟩) hHeld ?_
          rotate_left
          · intro w' hSw; have m0 := hSw.1; have m1 := hSw.2.1; have cx := hSw.2.2; go_simp; try with_reducible rfl
          try simp only [Act.put, List.setIfInBounds_toArray, List.set_cons_zero, List.set_cons_succ]
          refine wpAnyH_take (i := 3) (v := ?_) (List.getElem?_toArray.trans rfl) (by kernel_rfl) (by kernel_rfl) (by kernel_rfl) (fun _ _ _ h => h) (Or.inl ⟨by rfl, ?_⟩) hHeld ?_
          rotate_left
          · intro w' hSw; have m0 := hSw.1; have m1 := hSw.2.1; have cx := hSw.2.2; go_simp; try with_reducible rfl
          try simp only [Act.put, List.setIfInBounds_toArray, List.set_cons_zero, List.set_cons_succ]
          refine wpAnyH_take (i := 4) (v := ?_) (List.getElem?_toArray.trans rfl) (by kernel_rfl) (by kernel_rfl) (by kernel_rfl) (fun _ _ _ h => h) (Or.inl ⟨by rfl, ?_⟩) hHeld ?_
          rotate_left
          · intro w' hSw; have m0 := hSw.1; have m1 := hSw.2.1; have cx := hSw.2.2; go_simp; try with_reducible rfl
          try simp only [Act.put, List.setIfInBounds_toArray, List.set_cons_zero, List.set_cons_succ]
          refine wpAnyH_take (i := 5) (v := ?_) (List.getElem?_toArray.trans rfl) (by kernel_rfl) (by kernel_rfl) (by kernel_rfl) (fun _ _ _ h => h) (Or.inl ⟨by rfl, ?_⟩) hHeld ?_
          rotate_left
          · intro w' hSw; have m0 := hSw.1; have m1 := hSw.2.1; have cx := hSw.2.2; go_simp; try with_reducible rfl
          try simp only [Act.put, List.setIfInBounds_toArray, List.set_cons_zero, List.set_cons_succ]
          refine wpAnyH_take (i := 6) (v := ?_) (List.getElem?_toArray.trans rfl) (by kernel_rfl) (by kernel_rfl) (by kernel_rfl) (fun _ _ _ h => h) (Or.inl ⟨by rfl, ?_⟩) hHeld ?_
          rotate_left
          · intro w' hSw; have m0 := hSw.1; have m1 := hSw.2.1; have cx := hSw.2.2; go_simp; try with_reducible rfl
          try simp only [Act.put, List.setIfInBounds_toArray, List.set_cons_zero, List.set_cons_succ]
          refine wpAnyH_take (i := 7) (v := ?_) (List.getElem?_toArray.trans rfl) (by kernel_rfl) (by kernel_rfl) (by kernel_rfl) (fun _ _ _ h => h) (Or.inl ⟨by rfl, ?_⟩) hHeld ?_
          rotate_left
          · intro w' hSw; have m0 := hSw.1; have m1 := hSw.2.1; have cx := hSw.2.2; go_simp; try with_reducible rfl
          try simp only [Act.put, List.setIfInBounds_toArray, List.set_cons_zero, List.set_cons_succ]
          refine wpAnyH_take (i := 8) (v := ?_) (List.getElem?_toArray.trans rfl) (by kernel_rfl) (by kernel_rfl) (by kernel_rfl) (fun _ _ _ h => h) (Or.inl ⟨by rfl, ?_⟩) hHeld ?_
          rotate_left
          · intro w' hSw; have m0 := hSw.1; have m1 := hSw.2.1; have cx := hSw.2.2; go_simp; try with_reducible rfl
          try simp only [Act.put, List.setIfInBounds_toArray, List.set_cons_zero, List.set_cons_succ]
          refine wpAnyH_take (i := 9) (v := ?_) (List.getElem?_toArray.trans rfl) (by kernel_rfl) (by kernel_rfl) (by kernel_rfl) (fun _ _ _ h => h) (Or.inl ⟨by rfl, ?_⟩) hHeld ?_
          rotate_left
          · intro w' hSw; have m0 := hSw.1; have m1 := hSw.2.1; have cx := hSw.2.2; go_simp; try with_reducible rfl
          try simp only [Act.put, List.setIfInBounds_toArray, List.set_cons_zero, List.set_cons_succ]
          refine wpAnyH_ready (rs := [1, 10]) (by kernel_rfl) (by simp) ?_
          refine AllReadyH.cons (List.getElem?_toArray.trans rfl) (fun K hK => ?_) (AllReadyH.cons (List.getElem?_toArray.trans rfl) (fun K hK => ?_) AllReadyH.nil)
          · have n3 := kN.cell 3 rfl
            go_simp
            clear n3
            refine hK.out _ _ (⟨kM.cell 0 rfl, kM.cell 1 rfl, cx⟩) (fun hHeld => ?_)
            clear hK K
            try simp only [Act.put, List.setIfInBounds_toArray, List.set_cons_zero, List.set_cons_succ]
            refine wpAnyH_ready (rs := [10]) (by kernel_rfl) (by simp) ?_
            refine AllReadyH.cons (List.getElem?_toArray.trans rfl) (fun K hK => ?_) AllReadyH.nil
            go_simp
            try simp only [hWk, hW3, hW4]
            obtain ⟨y3_2, hC, kC, gC, hzz⟩ := new1 z3 3 #[.int .i64 (1 + 3 * (x : Int))]
            rw [← hC]
            clear hC hzz
            replace kM := kM.keep0 gC
            replace kN := kN.keep0 gC
            replace kR := kR.keep0 gC
            replace HKU := Lib.hid (RowS.keep0 (show RowS z3 _ _ (keysM h L k ++ [keyF h L k]) from HKU.out) gC)
            replace HIU := Lib.hid (RowI.keep0 (show RowI z3 _ _ (kidsM L k) from HIU.out) gC)
            replace HG := Lib.hid (gb_trans HG.out gC)
            replace cx := World.grownBy.cell gC cx (by simp)
            replace hud := Nat.le_trans hud gC.size
            generalize z3.heap.size = bC at kC ⊢
            clear gC
            refine hK.out _ _ (⟨kM.cell 0 rfl, kM.cell 1 rfl, cx⟩) (fun hHeld => ?_)
            clear hK K
            try simp only [Act.put, List.setIfInBounds_toArray, List.set_cons_zero, List.set_cons_succ]
            refine wpAnyH_ready (rs := [11]) (by kernel_rfl) (by simp) ?_
            refine AllReadyH.cons (List.getElem?_toArray.trans rfl) (fun K hK => ?_) AllReadyH.nil
            obtain ⟨v5, y3_3, hr, hs', hg'⟩ := row_app_I HIU.out (ins_one kC) hpi (by simp) hud 24
            obtain ⟨yo, yn, yc, rfl⟩ := shape' (RowI.sl hs')
            have hfN := row_other kN HIU.out (by decide)
            have hfM := row_other kM HIU.out (by decide)
            have hfR := row_other kR HIU.out (by decide)
            replace kN := kN.keep hg' hfN
            replace kM := kM.keep hg' hfM
            replace kR := kR.keep hg' hfR
            replace HKU := Lib.hid (World.ownsRow.kept HKU.out hg' (row_rows HKU.out HIU.out (by decide)))
            replace cx := World.grownBy.cell hg' cx (show some ab ≠ _ from row_ne HIU.out (.inl (by omega)))
            replace HG := Lib.hid (gb_own2 HG.out HIU.out (by omega) hg')
            replace hud := Nat.le_trans hud hg'.size
            clear HIU
            have HIU := Lib.hid hs'
            clear hfN hfM hfR hs' hg' kC
            refine Lib.wp_append_run _ _ _ _ _ rfl _ _ rfl rfl _ _ hr ?_
            clear hr
            refine hK.out _ _ (⟨kM.cell 0 rfl, kM.cell 1 rfl, cx⟩) (fun hHeld => ?_)
            clear hK K
            try simp only [Act.put, List.setIfInBounds_toArray, List.set_cons_zero, List.set_cons_succ]
            refine wpAnyH_take (i := 12) (v := ?_) (List.getElem?_toArray.trans rfl) (by kernel_rfl) (by kernel_rfl) (by kernel_rfl) (fun _ _ _ h => h) (Or.inl ⟨by rfl, ?_⟩) hHeld ?_
            rotate_left
            · intro w' hSw; have m0 := hSw.1; have m1 := hSw.2.1; have cx := hSw.2.2; go_simp; try with_reducible rfl
            try simp only [Act.put, List.setIfInBounds_toArray, List.set_cons_zero, List.set_cons_succ]
            refine wpAnyH_ready (rs := [13]) (by kernel_rfl) (by simp) ?_
            refine AllReadyH.cons (List.getElem?_toArray.trans rfl) (fun K hK => ?_) AllReadyH.nil
            have n3 := kN.cell 3 rfl
            have f3 := kN.free 3
            go_simp
            obtain ⟨y3_4, hD⟩ : ∃ z : World, z = y3_3.setCell ⟨w.heap.size + 3, 3, none⟩ (.slice yo yn yc) := ⟨_, rfl⟩
            rw [← hD]
            have gD : y3_3.grownBy y3_4 (some (w.heap.size + 3)) := by rw [hD]; exact gb_set _ _ _ _ _
            have hsn := HKU.out
            have hsi := HIU.out
            replace HKU := Lib.hid (World.ownsRow.kept hsn gD (.inr (row_other kN hsn (by decide)).symm))
            replace HIU := Lib.hid (World.ownsRow.kept hsi gD (.inr (row_other kN hsi (by decide)).symm))
            replace kN : Blk y3_4 (w.heap.size + 3) 26 #[.bool false, .slice none 0 0, .slice xo xn xc, .slice yo yn yc] := by rw [hD]; exact kN.set 3 _
            replace kM := kM.keep gD (ne_some (by omega))
            replace kR := kR.keep gD (ne_some (by omega))
            replace cx := World.grownBy.cell gD cx (show some ab ≠ some (w.heap.size + 3) from ne_some (by omega))
            replace HG := Lib.hid (gb_step HG.out gD (by omega))
            replace hud := Nat.le_trans hud gD.size
            clear hD n3 f3 gD hsn hsi
            refine hK.out _ _ (⟨kM.cell 0 rfl, kM.cell 1 rfl, cx⟩) (fun hHeld => ?_)
            clear hK K
            try simp only [Act.put, List.setIfInBounds_toArray, List.set_cons_zero, List.set_cons_succ]
            refine wpAnyH_done (by kernel_rfl) ?_ _
            refine NoPanic.normal ?_
            go_wp2
            go_roundw
            case rel =>
              refine ⟨k + 1, _, _, by omega, by go_num, kM, kN, ?_, ?_, HG.out, kR⟩
              · rw [keysM_succ]; exact HKU.out
              · rw [kidsM_succ, HKD.out]; exact HIU.out
            case measure => simp [intOf]; omega
          · go_simp
            try simp only [hWk, hW3, hW4]
            obtain ⟨y3_5, hC, kC, gC, hzz⟩ := new1 z3 3 #[.int .i64 (1 + 3 * (x : Int))]
            rw [← hC]
            clear hC hzz
            replace kM := kM.keep0 gC
            replace kN := kN.keep0 gC
            replace kR := kR.keep0 gC
            replace HKU := Lib.hid (RowS.keep0 (show RowS z3 _ _ (keysM h L k ++ [keyF h L k]) from HKU.out) gC)
            replace HIU := Lib.hid (RowI.keep0 (show RowI z3 _ _ (kidsM L k) from HIU.out) gC)
            replace HG := Lib.hid (gb_trans HG.out gC)
            replace cx := World.grownBy.cell gC cx (by simp)
            replace hud := Nat.le_trans hud gC.size
            generalize z3.heap.size = bC at kC ⊢
            clear gC
            refine hK.out _ _ (⟨kM.cell 0 rfl, kM.cell 1 rfl, cx⟩) (fun hHeld => ?_)
            clear hK K
            try simp only [Act.put, List.setIfInBounds_toArray, List.set_cons_zero, List.set_cons_succ]
            refine wpAnyH_ready (rs := [1]) (by kernel_rfl) (by simp) ?_
            refine AllReadyH.cons (List.getElem?_toArray.trans rfl) (fun K hK => ?_) AllReadyH.nil
            have n3 := kN.cell 3 rfl
            go_simp
            clear n3
            refine hK.out _ _ (⟨kM.cell 0 rfl, kM.cell 1 rfl, cx⟩) (fun hHeld => ?_)
            clear hK K
            try simp only [Act.put, List.setIfInBounds_toArray, List.set_cons_zero, List.set_cons_succ]
            refine wpAnyH_ready (rs := [11]) (by kernel_rfl) (by simp) ?_
            refine AllReadyH.cons (List.getElem?_toArray.trans rfl) (fun K hK => ?_) AllReadyH.nil
            obtain ⟨v5, y3_7, hr, hs', hg'⟩ := row_app_I HIU.out (ins_one kC) hpi (by simp) hud 24
            obtain ⟨yo, yn, yc, rfl⟩ := shape' (RowI.sl hs')
            have hfN := row_other kN HIU.out (by decide)
            have hfM := row_other kM HIU.out (by decide)
            have hfR := row_other kR HIU.out (by decide)
            replace kN := kN.keep hg' hfN
            replace kM := kM.keep hg' hfM
            replace kR := kR.keep hg' hfR
            replace HKU := Lib.hid (World.ownsRow.kept HKU.out hg' (row_rows HKU.out HIU.out (by decide)))
            replace cx := World.grownBy.cell hg' cx (show some ab ≠ _ from row_ne HIU.out (.inl (by omega)))
            replace HG := Lib.hid (gb_own2 HG.out HIU.out (by omega) hg')
            replace hud := Nat.le_trans hud hg'.size
            clear HIU
            have HIU := Lib.hid hs'
            clear hfN hfM hfR hs' hg' kC
            refine Lib.wp_append_run _ _ _ _ _ rfl _ _ rfl rfl _ _ hr ?_
            clear hr
            refine hK.out _ _ (⟨kM.cell 0 rfl, kM.cell 1 rfl, cx⟩) (fun hHeld => ?_)
            clear hK K
            try simp only [Act.put, List.setIfInBounds_toArray, List.set_cons_zero, List.set_cons_succ]
            refine wpAnyH_take (i := 12) (v := ?_) (List.getElem?_toArray.trans rfl) (by kernel_rfl) (by kernel_rfl) (by kernel_rfl) (fun _ _ _ h => h) (Or.inl ⟨by rfl, ?_⟩) hHeld ?_
            rotate_left
            · intro w' hSw; have m0 := hSw.1; have m1 := hSw.2.1; have cx := hSw.2.2; go_simp; try with_reducible rfl
            try simp only [Act.put, List.setIfInBounds_toArray, List.set_cons_zero, List.set_cons_succ]
            refine wpAnyH_ready (rs := [13]) (by kernel_rfl) (by simp) ?_
            refine AllReadyH.cons (List.getElem?_toArray.trans rfl) (fun K hK => ?_) AllReadyH.nil
            have n3 := kN.cell 3 rfl
            have f3 := kN.free 3
            go_simp
            obtain ⟨y3_8, hD⟩ : ∃ z : World, z = y3_7.setCell ⟨w.heap.size + 3, 3, none⟩ (.slice yo yn yc) := ⟨_, rfl⟩
            rw [← hD]
            have gD : y3_7.grownBy y3_8 (some (w.heap.size + 3)) := by rw [hD]; exact gb_set _ _ _ _ _
            have hsn := HKU.out
            have hsi := HIU.out
            replace HKU := Lib.hid (World.ownsRow.kept hsn gD (.inr (row_other kN hsn (by decide)).symm))
            replace HIU := Lib.hid (World.ownsRow.kept hsi gD (.inr (row_other kN hsi (by decide)).symm))
            replace kN : Blk y3_8 (w.heap.size + 3) 26 #[.bool false, .slice none 0 0, .slice xo xn xc, .slice yo yn yc] := by rw [hD]; exact kN.set 3 _
            replace kM := kM.keep gD (ne_some (by omega))
            replace kR := kR.keep gD (ne_some (by omega))
            replace cx := World.grownBy.cell gD cx (show some ab ≠ some (w.heap.size + 3) from ne_some (by omega))
            replace HG := Lib.hid (gb_step HG.out gD (by omega))
            replace hud := Nat.le_trans hud gD.size
            clear hD n3 f3 gD hsn hsi
            refine hK.out _ _ (⟨kM.cell 0 rfl, kM.cell 1 rfl, cx⟩) (fun hHeld => ?_)
            clear hK K
            try simp only [Act.put, List.setIfInBounds_toArray, List.set_cons_zero, List.set_cons_succ]
            refine wpAnyH_done (by kernel_rfl) ?_ _
            refine NoPanic.normal ?_
            go_wp2
            go_roundw
            case rel =>
              refine ⟨k + 1, _, _, by omega, by go_num, kM, kN, ?_, ?_, HG.out, kR⟩
              · rw [keysM_succ]; exact HKU.out
              · rw [kidsM_succ, HKD.out]; exact HIU.out
            case measure => simp [intOf]; omega
    · have hk2 : k = min L.length 30 := by omega
      subst hk2
      have n0 := kN.cell 0 rfl
      have n1 := kN.cell 1 rfl
      have n2 := kN.cell 2 rfl
      have n3 := kN.cell 3 rfl
      have HC1 := Lib.hid hrowS.sl
      have HC2 := Lib.hid hrowI.sl
      have HG := Lib.hid hg
      clear hrowS hrowI hg
      rcases Nat.lt_or_ge 30 L.length with hll | hll
      · have hm : min L.length 30 = 30 := by omega
        rw [hm] at HC1 HC2 ⊢
        go_wp2_with ((with_reducible refine st_node rfl (w.heap.size + 1) 26 ?_ ?_ ?_ ?_ ?_ ?_ ?_ ?_ ?_ ?_ ?_ ?_ _ _ _ _ kR ?_); rotate_left 10; (· rfl); (· rfl); intro w9 n9 g9)
        refine bodyPost_ret (results_c rfl _ _ _ _ _ _ _ rfl n9) rfl ?_
        unfold innerM
        rw [hm]
        exact ⟨_, rfl, ⟨_, _, _, rfl, Sl.nil _ _, stsKeepN HC1.out (Nbl.node kR) g9, HC2.out.keepN (Nbl.node kR) g9⟩, gb_step HG.out g9 (by omega)⟩
      · have hm : min L.length 30 = L.length := by omega
        rw [hm] at HC1 HC2 ⊢
        go_wp2_with ((with_reducible refine st_node rfl (w.heap.size + 1) 26 ?_ ?_ ?_ ?_ ?_ ?_ ?_ ?_ ?_ ?_ ?_ ?_ _ _ _ _ kR ?_); rotate_left 10; (· rfl); (· rfl); intro w9 n9 g9)
        refine bodyPost_ret (results_c rfl _ _ _ _ _ _ _ rfl n9) rfl ?_
        unfold innerM
        rw [hm]
        exact ⟨_, rfl, ⟨_, _, _, rfl, Sl.nil _ _, stsKeepN HC1.out (Nbl.node kR) g9, HC2.out.keepN (Nbl.node kR) g9⟩, gb_step HG.out g9 (by omega)⟩
end Go.Proofs.YthhimhjegodklaaGreat.N11

