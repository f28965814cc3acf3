/-
  What the document's own Put answers, over this seat's translation; conditions: the root's numbers fit.
-/
import Derived.Test.YtckkbcgolphajaaDoorQv
import Derived.OrdersHeld
import Derived.Deep.RegionHeld3
namespace Go.Proofs.YtckkbcgolphajaaDoor
open Go.RowKit

def putC (r : Rt) : Nat := if MayR r then 0 else 2
def putS (r : Rt) : List UInt8 := if MayR r then putL r else []
/-- A text that reads as these bytes, and a number. -/
def PutGot (w : World) (r : Rt) (e : Ending) (w' : World) : Prop := ∃ t : ByteArray, e = .returned (.tuple #[.string t, .int .i64 (putC r : Nat)]) ∧ t.data.toList = putS r ∧ w.grownBy w' none
theorem chunks_snoc (cs : List Int) (i : Nat) (h : i < cs.length) : chunksL (cs.take (i + 1)) = chunksL (cs.take i) ++ dg (cs.getD i 0).toNat 2 := by
  rw [List.take_succ_eq_append_getElem h]
  unfold chunksL
  rw [List.map_append, List.flatten_append, List.getD_eq_getElem?_getD, List.getElem?_eq_getElem h]
  simp
theorem chunks_all (cs : List Int) (h : cs.length = 8) : chunksL (cs.take 8) = chunksL cs := by rw [List.take_of_length_le (by omega)]
theorem root_info (r : Rt) (h : r.cs.length = 8) : (Tryd.prog.info? 25).map (·.size) = some (rootC r).toArray.size := by
  rw [List.size_toArray, rootC_length r h]; kernel_rfl
theorem root_one (r : Rt) : (rootC r).toArray.all (·.oneCell') = true := by
  rw [Array.all_eq_true_iff_forall_mem]
  intro v hv
  simp only [List.mem_toArray, rootC, List.mem_cons] at hv
  rcases hv with rfl | rfl | hv
  · rfl
  · rfl
  · obtain ⟨k, _, rfl⟩ := List.mem_map.1 hv
    rfl
set_option maxRecDepth 100000 in
set_option maxHeartbeats 2000000 in
theorem refPut_no (r : Rt) (w : World) (hr : Fit r) (hm : ¬ MayR r) : Calls Tryd.prog 11 #[RV r] w (PutGot w r) := by
  have HC := Lib.hid (show putC r = 2 from if_neg hm)
  have HS := Lib.hid (show putS r = [] from if_neg hm)
  have HI := Lib.hid (root_info r hr.1)
  have HF := Lib.hid (fun W => may_any r W hr)
  unfold RV at HF ⊢
  generalize (rootC r).toArray = C at HF HI ⊢
  have HM := Lib.hid (not_may hm)
  clear hr hm
  go_enter Tryd.func11, Tryd.ntmps11
  go_wp2_with (first
    | (refine wpList_load_row rfl 25 (.tmp 1) rfl w.heap.size rfl 25 C (0, 0) _ (heap_alloc_new _ _) Tryd.underlying25 rfl HI.out ?_)
    | (go_at_call 23; (with_reducible refine (HF.out _).mono ?_); rintro e w2 ⟨rfl, g2⟩; rw [HM.out])
    | fail)
  go_ret2
  exact ⟨⟨#[]⟩, by rw [HC.out]; rfl, by rw [HS.out], gb_trans (gb_alloc _ _ _) g2⟩
set_option maxRecDepth 100000 in
set_option maxHeartbeats 4000000 in
theorem refPut_yes (r : Rt) (w : World) (hr : Fit r) (hm : MayR r) : Calls Tryd.prog 11 #[RV r] w (PutGot w r) := by
  have HC := Lib.hid (show putC r = 0 from if_pos hm)
  have HS := Lib.hid (show putS r = putL r from if_pos hm)
  have HI := Lib.hid (root_info r hr.1)
  have HF := Lib.hid (fun W => may_any r W hr)
  have HR := Lib.hid hr
  obtain ⟨n, hn⟩ : ∃ n : Nat, r.n = (n : Int) := ⟨r.n.toNat, by have := hm.2.1; omega⟩
  have hn1 : n ≤ 1024 := by have := hm.2.2.1; omega
  have hnw : IntKind.u64.wrap (n : Int) = (n : Int) := u64_small _ (by omega)
  have he := hr.2.1
  have k0 : RB (w.alloc (.cells (rootC r).toArray 25)) w.heap.size r := Blk.mk w _ _
  have HB := Lib.hid (fun i (hi : i < 8) => may_chunk hm i hi)
  have HM := Lib.hid (show decide (MayR r) = true from decide_eq_true hm)
  have HD := Lib.hid (fun W => number_any r.e 8 8 W rfl he (by decide))
  have HN := Lib.hid (fun W => number_any n 2 2 W rfl (by omega) (by decide))
  have HZ := Lib.hid (fun W => noughts_any 222 222 W rfl (by decide))
  have HX := Lib.hid hn
  unfold RV at HF ⊢
  obtain ⟨C, hC⟩ : ∃ C, (rootC r).toArray = C := ⟨_, rfl⟩
  rw [hC] at HF HI k0 ⊢
  have HE := Lib.hid (fun W (g : (w.alloc (.cells C 25)).grownBy W none) => (k0.keep0 g).epoch)
  have HQ := Lib.hid (fun W (g : (w.alloc (.cells C 25)).grownBy W none) => (k0.keep0 g).sectors)
  have HK := Lib.hid (fun W (g : (w.alloc (.cells C 25)).grownBy W none) i (hi : i < 8) => (k0.keep0 g).chunk i (by have := hr.1; omega))
  rw [hn] at HQ
  clear hr hm hC hn k0
  go_enter Tryd.func11, Tryd.ntmps11
  go_wp2_with (first
    | (refine wpList_load_row rfl 25 (.tmp 1) rfl w.heap.size rfl 25 C (0, 0) _ (heap_alloc_new _ _) Tryd.underlying25 rfl HI.out ?_)
    | (go_at_call 23; (with_reducible refine (HF.out _).mono ?_); rintro e w2 ⟨rfl, g2⟩; rw [HM.out])
    | fail)
  have G2 := Lib.hid g2
  clear g2
  refine wp_region_noPanic ?_
  refine wp_region_held_drew (S := fun w' => (w2).grownBy w' none) (by kernel_rfl) (gb_drew _ _) (fun hHeld => ?_)
  refine wpAnyH_take (i := 0) (v := ?_) (List.getElem?_toArray.trans rfl) (by kernel_rfl) (by kernel_rfl) (by kernel_rfl) (fun _ _ _ h => h) (Or.inl ⟨by rfl, ?_⟩) hHeld ?_
  rotate_left
  · intro w' hSw; go_simp; try with_reducible rfl
  try simp only [Act.put, List.setIfInBounds_toArray, List.set_cons_zero, List.set_cons_succ]
  refine wpAnyH_take (i := 1) (v := ?_) (List.getElem?_toArray.trans rfl) (by kernel_rfl) (by kernel_rfl) (by kernel_rfl) (fun _ _ _ h => h) (Or.inl ⟨by rfl, ?_⟩) hHeld ?_
  rotate_left
  · intro w' hSw; have hc := HE.out w' (gb_trans G2.out hSw); go_simp; try with_reducible rfl
  try simp only [Act.put, List.setIfInBounds_toArray, List.set_cons_zero, List.set_cons_succ]
  refine wpAnyH_take (i := 3) (v := ?_) (List.getElem?_toArray.trans rfl) (by kernel_rfl) (by kernel_rfl) (by kernel_rfl) (fun _ _ _ h => h) (Or.inl ⟨by rfl, ?_⟩) hHeld ?_
  rotate_left
  · intro w' hSw; go_simp; try with_reducible rfl
  try simp only [Act.put, List.setIfInBounds_toArray, List.set_cons_zero, List.set_cons_succ]
  refine wpAnyH_take (i := 4) (v := ?_) (List.getElem?_toArray.trans rfl) (by kernel_rfl) (by kernel_rfl) (by kernel_rfl) (fun _ _ _ h => h) (Or.inl ⟨by rfl, ?_⟩) hHeld ?_
  rotate_left
  · intro w' hSw; have hc := HQ.out w' (gb_trans G2.out hSw); go_simp; try with_reducible rfl
  try simp only [Act.put, List.setIfInBounds_toArray, List.set_cons_zero, List.set_cons_succ]
  refine wpAnyH_take (i := 5) (v := ?_) (List.getElem?_toArray.trans rfl) (by kernel_rfl) (by kernel_rfl) (by kernel_rfl) (fun _ _ _ h => h) (Or.inl ⟨by rfl, ?_⟩) hHeld ?_
  rotate_left
  · intro w' hSw; go_simp; try with_reducible rfl
  try simp only [Act.put, List.setIfInBounds_toArray, List.set_cons_zero, List.set_cons_succ]
  refine wpAnyH_ready (rs := [2]) (by kernel_rfl) (by simp) ?_
  refine AllReadyH.cons (List.getElem?_toArray.trans rfl) (fun K hK => ?_) AllReadyH.nil
  go_simp
  go_at_call 24
  (with_reducible refine (HD.out _).mono ?_)
  rintro e w3 ⟨t1, rfl, ht1, g3⟩
  have hs1 : t1.size = 8 := by show t1.data.size = 8; rw [← Array.length_toList, ht1, dg_length]
  refine hK.out _ _ (gb_trans hHeld g3) (fun hHeld => ?_)
  clear hK K
  try simp only [Act.put, List.setIfInBounds_toArray, List.set_cons_zero, List.set_cons_succ]
  refine wpAnyH_ready (rs := [6]) (by kernel_rfl) (by simp) ?_
  refine AllReadyH.cons (List.getElem?_toArray.trans rfl) (fun K hK => ?_) AllReadyH.nil
  go_simp
  go_at_call 24
  (with_reducible refine (HN.out _).mono ?_)
  rintro e w4 ⟨t2, rfl, ht2, g4⟩
  have hs2 : t2.size = 2 := by show t2.data.size = 2; rw [← Array.length_toList, ht2, dg_length]
  refine hK.out _ _ (gb_trans hHeld g4) (fun hHeld => ?_)
  clear hK K
  try simp only [Act.put, List.setIfInBounds_toArray, List.set_cons_zero, List.set_cons_succ]
  refine wpAnyH_take (i := 7) (v := ?_) (List.getElem?_toArray.trans rfl) (by kernel_rfl) (by kernel_rfl) (by kernel_rfl) (fun _ _ _ h => h) (Or.inl ⟨by rfl, ?_⟩) hHeld ?_
  rotate_left
  · intro w' hSw; go_simp; try with_reducible rfl
  try simp only [Act.put, List.setIfInBounds_toArray, List.set_cons_zero, List.set_cons_succ]
  refine wpAnyH_take (i := 8) (v := ?_) (List.getElem?_toArray.trans rfl) (by kernel_rfl) (by kernel_rfl) (by kernel_rfl) (fun _ _ _ h => h) (Or.inl ⟨by rfl, ?_⟩) hHeld ?_
  rotate_left
  · intro w' hSw; go_simp; try with_reducible rfl
  try simp only [Act.put, List.setIfInBounds_toArray, List.set_cons_zero, List.set_cons_succ]
  refine wpAnyH_done (by kernel_rfl) ?_ _
  refine NoPanic.normal ?_
  have HG4 := Lib.hid (gb_trans G2.out hHeld)
  obtain ⟨u, hu⟩ : ∃ u, t1 ++ t2 = u := ⟨_, rfl⟩
  have HU := Lib.hid (show u.data.toList = dg r.e 8 ++ dg n 2 by rw [← hu, ap_list, ht1, ht2])
  rw [hu]
  clear hHeld ht1 ht2 hu g3 g4 hs1 hs2
  go_wp2
  go_loopw [4, 5] (fun s i wr => ∃ (j : Nat) (t : ByteArray), j ≤ 8 ∧ i = .int .i64 j ∧ s = .string t ∧ t.data.toList = (dg r.e 8 ++ dg n 2) ++ chunksL (r.cs.take j) ∧ (w.alloc (.cells C 25)).grownBy wr none) (fun _ i _ => 9 - (intOf i).toNat)
  case atStart => exact ⟨0, u, by omega, rfl, rfl, by rw [HU.out]; simp [chunksL], HG4.out⟩
  case round =>
    obtain ⟨j, t, hj, rfl, rfl, ht, hg⟩ := hrel
    have hts : t.size ≤ 26 := by
      show t.data.size ≤ 26
      rw [← Array.length_toList, ht]
      simp only [List.length_append, dg_length, chunksL_length, List.length_take]
      omega
    by_cases hlt : j < 8
    · have hcj := HK.out _ hg j hlt
      rw [Nat.add_comm j 2] at hcj
      have hcb := HB.out j hlt
      obtain ⟨c, hc⟩ : ∃ c : Nat, r.cs.getD j 0 = (c : Int) := ⟨(r.cs.getD j 0).toNat, by omega⟩
      have HN2 := Lib.hid (show ∀ v : ByteArray, v.data.toList = dg c 2 → (t ++ v).data.toList = (dg r.e 8 ++ dg n 2) ++ chunksL (r.cs.take (j + 1)) from fun v hv => by
        rw [ap_list, ht, hv, chunks_snoc _ _ (by have := HR.out.1; omega), hc, Int.toNat_natCast, List.append_assoc])
      rw [hc] at hcj hcb
      have hcw : IntKind.u64.wrap (c : Int) = (c : Int) := u64_small _ (by omega)
      have HV := Lib.hid (fun W => number_any c 2 2 W rfl (by omega) (by decide))
      have HGJ := Lib.hid hg
      clear ht hc hg
      go_wp2_with (go_at_call 24; (with_reducible refine (HV.out _).mono ?_); rintro e w5 ⟨v, rfl, hv, g5⟩; have hvs : v.size = 2 := (by show v.data.size = 2; rw [← Array.length_toList, hv, dg_length]))
      go_roundw
      case rel => exact ⟨j + 1, _, by omega, by go_num, rfl, HN2.out _ hv, gb_trans HGJ.out g5⟩
      case measure => simp [intOf]; omega
    · obtain rfl : j = 8 := by omega
      have HT := Lib.hid (show t.data.toList = (dg r.e 8 ++ dg n 2) ++ chunksL r.cs by rw [ht, chunks_all _ HR.out.1])
      have HGJ := Lib.hid hg
      clear ht hg
      go_wp2
      have G2 := HGJ
      have no1 : ¬ 9223372036854775807 < t.size + 222 := by omega
      have no2 : ¬ 9223372036854775807 < t.size + 222 + 8 := by omega
      refine wp_region_noPanic ?_
      refine wp_region_held_drew (S := fun w' => (wr).grownBy w' none) (by kernel_rfl) (gb_drew _ _) (fun hHeld => ?_)
      refine wpAnyH_take (i := 0) (v := ?_) (List.getElem?_toArray.trans rfl) (by kernel_rfl) (by kernel_rfl) (by kernel_rfl) (fun _ _ _ h => h) (Or.inl ⟨by rfl, ?_⟩) hHeld ?_
      rotate_left
      · intro w' hSw; go_simp; try with_reducible rfl
      try simp only [Act.put, List.setIfInBounds_toArray, List.set_cons_zero, List.set_cons_succ]
      refine wpAnyH_take (i := 3) (v := ?_) (List.getElem?_toArray.trans rfl) (by kernel_rfl) (by kernel_rfl) (by kernel_rfl) (fun _ _ _ h => h) (Or.inl ⟨by rfl, ?_⟩) hHeld ?_
      rotate_left
      · intro w' hSw; go_simp; try with_reducible rfl
      try simp only [Act.put, List.setIfInBounds_toArray, List.set_cons_zero, List.set_cons_succ]
      refine wpAnyH_take (i := 4) (v := ?_) (List.getElem?_toArray.trans rfl) (by kernel_rfl) (by kernel_rfl) (by kernel_rfl) (fun _ _ _ h => h) (Or.inl ⟨by rfl, ?_⟩) hHeld ?_
      rotate_left
      · intro w' hSw; have hc := HE.out w' (gb_trans G2.out hSw); go_simp; try with_reducible rfl
      try simp only [Act.put, List.setIfInBounds_toArray, List.set_cons_zero, List.set_cons_succ]
      refine wpAnyH_ready (rs := [1]) (by kernel_rfl) (by simp) ?_
      refine AllReadyH.cons (List.getElem?_toArray.trans rfl) (fun K hK => ?_) AllReadyH.nil
      go_simp
      go_at_call 25
      (with_reducible refine (HZ.out _).mono ?_)
      rintro e w6 ⟨t3, rfl, ht3, g6⟩
      have hs3 : t3.size = 222 := by show t3.data.size = 222; rw [← Array.length_toList, ht3, zer_length]
      refine hK.out _ _ (gb_trans hHeld g6) (fun hHeld => ?_)
      clear hK K
      try simp only [Act.put, List.setIfInBounds_toArray, List.set_cons_zero, List.set_cons_succ]
      refine wpAnyH_take (i := 2) (v := ?_) (List.getElem?_toArray.trans rfl) (by kernel_rfl) (by kernel_rfl) (by kernel_rfl) (fun _ _ _ h => h) (Or.inl ⟨by rfl, ?_⟩) hHeld ?_
      rotate_left
      · intro w' hSw; go_simp; try with_reducible rfl
      try simp only [Act.put, List.setIfInBounds_toArray, List.set_cons_zero, List.set_cons_succ]
      refine wpAnyH_ready (rs := [5]) (by kernel_rfl) (by simp) ?_
      refine AllReadyH.cons (List.getElem?_toArray.trans rfl) (fun K hK => ?_) AllReadyH.nil
      go_simp
      go_at_call 24
      (with_reducible refine (HD.out _).mono ?_)
      rintro e w7 ⟨t4, rfl, ht4, g7⟩
      have hs4 : t4.size = 8 := by show t4.data.size = 8; rw [← Array.length_toList, ht4, dg_length]
      refine hK.out _ _ (gb_trans hHeld g7) (fun hHeld => ?_)
      clear hK K
      try simp only [Act.put, List.setIfInBounds_toArray, List.set_cons_zero, List.set_cons_succ]
      refine wpAnyH_take (i := 6) (v := ?_) (List.getElem?_toArray.trans rfl) (by kernel_rfl) (by kernel_rfl) (by kernel_rfl) (fun _ _ _ h => h) (Or.inl ⟨by rfl, ?_⟩) hHeld ?_
      rotate_left
      · intro w' hSw; go_simp; try with_reducible rfl
      try simp only [Act.put, List.setIfInBounds_toArray, List.set_cons_zero, List.set_cons_succ]
      refine wpAnyH_take (i := 7) (v := ?_) (List.getElem?_toArray.trans rfl) (by kernel_rfl) (by kernel_rfl) (by kernel_rfl) (fun _ _ _ h => h) (Or.inl ⟨by rfl, ?_⟩) hHeld ?_
      rotate_left
      · intro w' hSw; go_simp; try with_reducible rfl
      try simp only [Act.put, List.setIfInBounds_toArray, List.set_cons_zero, List.set_cons_succ]
      refine wpAnyH_take (i := 8) (v := ?_) (List.getElem?_toArray.trans rfl) (by kernel_rfl) (by kernel_rfl) (by kernel_rfl) (fun _ _ _ h => h) (Or.inl ⟨by rfl, ?_⟩) hHeld ?_
      rotate_left
      · intro w' hSw; go_simp; try with_reducible rfl
      try simp only [Act.put, List.setIfInBounds_toArray, List.set_cons_zero, List.set_cons_succ]
      refine wpAnyH_done (by kernel_rfl) ?_ _
      refine NoPanic.normal ?_
      go_wp2
      go_ret2
      exact ⟨_, by rw [HC.out]; rfl, by rw [HS.out]; simp only [ap_list, HT.out, ht3, ht4]; unfold putL; rw [HX.out, Int.toNat_natCast]; simp only [List.append_assoc], gb_trans (gb_alloc _ _ _) (gb_trans HGJ.out hHeld)⟩
theorem refPut_any (r : Rt) (w : World) (hr : Fit r) : Calls Tryd.prog 11 #[RV r] w (PutGot w r) := by
  by_cases hm : MayR r
  · exact refPut_yes r w hr hm
  · exact refPut_no r w hr hm
end Go.Proofs.YtckkbcgolphajaaDoor
