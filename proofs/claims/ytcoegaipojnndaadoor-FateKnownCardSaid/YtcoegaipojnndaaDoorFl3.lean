/-
  The statements' own first question (works), over this seat's translation: it answers true; condition: the table of masks reads as the program lays it.
-/
import Derived.Test.YtcoegaipojnndaaDoorFl2
namespace Go.Proofs.YtcoegaipojnndaaDoor
open Go.RowKit

def cs0 : List UInt8 := [5, 1, 0, 128]
theorem w_came : cameF cs0 (manyN 3) = [true, false, true] := by decide +kernel
theorem w_torn : tornF cs0 (manyN 3) = 2 := by decide +kernel
theorem w_at : atF cs0 (manyN 3) = 128 := by decide +kernel
theorem w_putE : putE [true, false, true] 2 128 = 0 := by decide +kernel
theorem w_putB : putB [true, false, true] 2 128 = cs0 := by decide +kernel
theorem w_after' (x y z : ByteArray) (hy : y.size = 256) (hz : z.size = 256) : afterF [x] [(0, y), (0, z)] [true, true] 1 100 = [cutS z 100 y] := by
  have h1 : cameTo [true, true] [true, true].length = [0, 1] := by decide +kernel
  unfold afterF foldW
  rw [h1]
  simp only [List.foldl_cons, List.foldl_nil]
  have f0 : fitsB 0 y 1 = true := by unfold fitsB; rw [decide_eq_true hy]; rfl
  have f1 : fitsB 0 z 1 = true := by unfold fitsB; rw [decide_eq_true hz]; rfl
  rw [stepW_yes [(0, y), (0, z)] 1 100 [x] 0 (0, y) rfl f0, if_neg (by omega)]
  show stepW [(0, y), (0, z)] 1 100 [y] 1 = _
  rw [stepW_yes [(0, y), (0, z)] 1 100 [y] 1 (0, z) rfl f1, if_pos (show ((1 : Nat) : Int) = 1 from rfl)]
  rfl
theorem w_cut : cutS (secS 99) 100 (secS 98) = (secS 99).extract 0 100 ++ (secS 98).extract 0 156 := by
  unfold cutS
  have hc : clampN 100 = 100 := by decide
  rw [hc]
  have hx : (secS 98).extract 100 256 = (secS 98).extract 0 156 := by
    apply ba_ext
    rw [ba_extract, ba_extract]
    show ((rep 256 98).toArray.toList.take 256).drop 100 = ((rep 256 98).toArray.toList.take 156).drop 0
    simp only [List.drop_zero]
    unfold rep
    rw [List.take_replicate, List.take_replicate, List.drop_replicate, show min 256 256 - 100 = 156 from rfl, show min 156 256 = 156 from rfl]
  rw [hx]
def ws0 : List (Int × ByteArray) := [(0, secS 98), (0, secS 99)]
theorem w_after : afterF [secS 97] ws0 [true, true] 1 100 = [(secS 99).extract 0 100 ++ (secS 98).extract 0 156] := by
  unfold ws0
  rw [w_after' _ _ _ (secS_size 98) (secS_size 99), w_cut]
theorem bts_lit {w : World} {b n : Nat} {l : List UInt8} {cs : Array Value} (h : Blk w b 5 cs) (hc : cs = (bytesC l).toArray) (hn : l.length = n) : Bts w (.slice (some ⟨b, 0, none⟩) n n) l := by
  subst hc; exact bts_of_blk h hn
theorem bls_lit {w : World} {b n : Nat} {l : List Bool} {cs : Array Value} (h : Blk w b 4 cs) (hc : cs = (bools l).toArray) (hn : l.length = n) : Bls w (.slice (some ⟨b, 0, none⟩) n n) l := by
  subst hc; exact bls_of_blk h hn
theorem sts_lit {w : World} {b n : Nat} {l : List ByteArray} {cs : Array Value} (h : Blk w b 9 cs) (hc : cs = (strsC l).toArray) (hn : l.length = n) : Sts w (.slice (some ⟨b, 0, none⟩) n n) l := by
  subst hc; exact sts_of_blk h hn
theorem wts_lit {w : World} {b n : Nat} {l : List (Int × ByteArray)} {cs : Array Value} (h : Blk w b 35 cs) (hc : cs = (wrC l).toArray) (hn : l.length = n) : Wts w (.slice (some ⟨b, 0, none⟩) n n) l := by
  subst hc; subst hn
  refine ⟨some ⟨b, 0, none⟩, l.length, rfl, Nat.le_refl _, wrC_length l, (fun e => by cases e), ?_⟩
  intro a e j u hj
  cases e
  have := h.cell j (v := u) (by rw [List.getElem?_toArray]; exact hj)
  rw [add_lit]; exact this
def TrueGot (w : World) (e : Ending) (w' : World) : Prop := e = .returned (.bool true) ∧ w.grownBy w' none
set_option linter.unusedSimpArgs false in
set_option maxRecDepth 100000 in
set_option maxHeartbeats 2000000 in
theorem works_any (w : World) (hm : Masks w) : Calls Tryd.prog 7 #[] w (TrueGot w) := by
  have HM := Lib.hid hm
  clear hm
  have k0 := Blk.mk w 5 #[.int .u8 5, .int .u8 1, .int .u8 0, .int .u8 128]
  have g0 := gb_alloc w (.cells #[.int .u8 5, .int .u8 1, .int .u8 0, .int .u8 128] 5) none
  go_enter Tryd.func7, Tryd.ntmps7
  go_wp2_with fail
  go_at_call 9
  (with_reducible refine (read_any _ cs0 3 _ (HM.out.keep0 g0) (bts_lit (n := 4) k0 rfl rfl) (by omega) (by omega)).mono ?_)
  rintro e w1 ⟨v1, rfl, hv1, g1⟩
  rw [w_torn, w_at] 
  rw [w_came] at hv1
  replace g0 := gb_trans g0 g1
  clear k0 g1
  obtain ⟨o1, cap1, rfl, hn1, hx1⟩ := bls_parts hv1
  have HV1 := Lib.hid hv1
  have HX1 := Lib.hid hx1
  have f0 := Blk.mk w1 25 #[.slice o1 3 cap1, .int .i64 2, .int .i64 128]
  have ga := gb_trans g0 (gb_alloc w1 (.cells #[.slice o1 3 cap1, .int .i64 2, .int .i64 128] 25) none)
  have HP := Lib.hid (put_any (.slice o1 3 cap1) [true, false, true] 2 128 _ (HM.out.keep0 ga) (HV1.out.keep0 (gb_alloc w1 (.cells #[.slice o1 3 cap1, .int .i64 2, .int .i64 128] 25) none)) (by decide))
  have gw := gb_alloc w1 (.cells #[.slice o1 3 cap1, .int .i64 2, .int .i64 128] 25) none
  have HN1 := Lib.hid hn1
  clear hv1 hx1 hn1
  have c00 := f0.cell 0 rfl
  have c01 := f0.cell 1 rfl
  have c02 := f0.cell 2 rfl
  go_wp2_with fail
  go_at_call 8
  (with_reducible refine HP.out.mono ?_)
  rintro e w2 ⟨v2, rfl, hv2, g2⟩
  rw [w_putE]
  rw [w_putB] at hv2
  replace ga := gb_trans ga g2
  replace gw := gb_trans gw g2
  have f2 := (f0.keep0 g2)
  have HV2 := Lib.hid hv2
  obtain ⟨o2, cap2, rfl, _, _, _, _⟩ := hv2
  clear HP f0 c00 c01 c02
  go_wp2_with fail
  go_at_call 10
  (with_reducible refine (sector_any 97 97 _ rfl).mono ?_)
  rintro e wA ⟨rfl, gA⟩
  go_wp2_with fail
  have s1 := Blk.mk wA 9 #[.string (secS 97)]
  go_at_call 10
  (with_reducible refine (sector_any 98 98 _ rfl).mono ?_)
  rintro e wB ⟨rfl, gB⟩
  replace s1 := s1.keep0 gB
  replace gB := gb_trans gA (gb_trans (gb_alloc _ _ _) gB)
  clear gA
  go_wp2_with fail
  go_at_call 10
  (with_reducible refine (sector_any 99 99 _ rfl).mono ?_)
  rintro e wC ⟨rfl, gC⟩
  replace s1 := s1.keep0 gC
  replace gC := gb_trans gB gC
  clear gB
  go_wp2_with fail
  have s2 := Blk.mk wC 35 #[.int .i64 0, .string (secS 98), .int .i64 0, .string (secS 99)]
  have s3 := Blk.mk (wC.alloc (.cells #[.int .i64 0, .string (secS 98), .int .i64 0, .string (secS 99)] 35)) 4 #[.bool true, .bool true]
  have gE := gb_trans (gb_alloc wC (.cells #[.int .i64 0, .string (secS 98), .int .i64 0, .string (secS 99)] 35) none) (gb_alloc _ (.cells #[.bool true, .bool true] 4) none)
  replace s1 := s1.keep0 gE
  replace s2 := s2.keep0 (gb_alloc _ (.cells #[.bool true, .bool true] 4) none)
  replace gC := gb_trans gC gE
  clear gE
  simp only [World.size_alloc] at s3
  go_at_call 11
  (with_reducible refine (after_any (.slice (some ⟨wA.heap.size, 0, none⟩) 1 1) (.slice (some ⟨wC.heap.size, 0, none⟩) 2 2) (.slice (some ⟨wC.heap.size + 1, 0, none⟩) 2 2) [secS 97] ws0 [true, true] 1 100 _ (sts_lit (n := 1) s1 rfl rfl) (wts_lit (n := 2) s2 rfl rfl) (bls_lit (n := 2) s3 rfl rfl) (by decide) (by decide) (by decide) (by unfold Whole256; intro s hs; rw [List.mem_singleton.1 hs]; exact secS_size 97) (by omega) (by omega)).mono ?_)
  rintro e wD ⟨v3, rfl, hv3, gD⟩
  rw [w_after] at hv3
  replace gD := gb_trans gC gD
  clear gC s1 s2 s3
  replace f2 := f2.keep0 gD
  replace ga := gb_trans ga gD
  replace gw := gb_trans gw gD
  have HV4 := Lib.hid (HV2.out.keep0 gD)
  obtain ⟨o3, cap3, rfl, _, _, hn3, hx3⟩ := hv3
  cases o3 with
  | none => have := (hn3 rfl).1; cases this
  | some y =>
    have d3 := hx3 y rfl 0 _ rfl
    rw [add_zero] at d3
    cases o1 with
    | none => have := HN1.out rfl; cases this
    | some x =>
      cases o2 with
      | none =>
        obtain ⟨oo, cc, hh, _, _, hnn, _⟩ := HV4.out
        injection hh with h1 h2 h3
        subst h1
        have := (hnn rfl).1
        cases this
      | some u =>
        have e0 := gw.cell (HX1.out x rfl 0 _ rfl) (by simp)
        have e1 : wD.cell? ⟨x.block, x.off + 1, none⟩ = some (.bool false) := gw.cell (HX1.out x rfl 1 _ rfl) (by simp)
        have e2 : wD.cell? ⟨x.block, x.off + 2, none⟩ = some (.bool true) := gw.cell (HX1.out x rfl 2 _ rfl) (by simp)
        rw [add_zero] at e0
        have c00 := f2.cell 0 rfl
        have c01 := f2.cell 1 rfl
        have c02 := f2.cell 2 rfl
        have hcv : ∀ w', wD.grownBy w' none → (convert 29 9 (.slice (some u) cs0.length cap2)).run Tryd.prog w' = .ok (.string ⟨#[5, 1, 0, 128]⟩) w' := by
          intro w' g
          have h4 := HV4.out.keep0 g
          obtain ⟨oo, cc, hh, _, _, _, hxx⟩ := h4
          injection hh with h1 h2 h3
          subst h1; subst h3
          exact run_convert_bytes_back w' 29 9 5 u cap2 cs0 Tryd.underlying29 Tryd.underlying5 Tryd.underlying9 (fun j hj => hxx u rfl j _ (by rw [bytes_at hj, List.getD, List.getElem?_eq_getElem hj]; rfl))
        have HCv := Lib.hid hcv
        have z8 := secS_size 98
        have z9 := secS_size 99
        have hcat : (9223372036854775807 < ((secS 99).extract 0 100).size + ((secS 98).extract 0 156).size) = False := by
          simp only [ByteArray.size_extract, z8, z9, eq_iff_iff, iff_false]; omega
        clear hcv
        go_wp2_with fail
        refine wp_region_noPanic ?_
        refine wp_region_held_drew (S := fun w' => (wD).grownBy w' none) (by kernel_rfl) (gb_drew _ _) (fun hHeld => ?_)
        refine wpAnyH_take (i := 0) (v := ?_) (List.getElem?_toArray.trans rfl) (by kernel_rfl) (by kernel_rfl) (by kernel_rfl) (fun _ _ _ h => h) (Or.inl ⟨by rfl, ?_⟩) hHeld ?_
        rotate_left
        · intro w' hSw; have q0 := hSw.cell c00 (by simp); have q1 := hSw.cell c01 (by simp); have q2 := hSw.cell c02 (by simp); have q3 := hSw.cell e0 (by simp); have q4 := hSw.cell e1 (by simp); have q5 := hSw.cell e2 (by simp); have q6 := hSw.cell d3 (by simp); go_simp; try with_reducible rfl
        try simp only [Act.put, List.setIfInBounds_toArray, List.set_cons_zero, List.set_cons_succ]
        refine wpAnyH_take (i := 1) (v := ?_) (List.getElem?_toArray.trans rfl) (by kernel_rfl) (by kernel_rfl) (by kernel_rfl) (fun _ _ _ h => h) (Or.inl ⟨by rfl, ?_⟩) hHeld ?_
        rotate_left
        · intro w' hSw; have q0 := hSw.cell c00 (by simp); have q1 := hSw.cell c01 (by simp); have q2 := hSw.cell c02 (by simp); have q3 := hSw.cell e0 (by simp); have q4 := hSw.cell e1 (by simp); have q5 := hSw.cell e2 (by simp); have q6 := hSw.cell d3 (by simp); go_simp; try with_reducible rfl
        try simp only [Act.put, List.setIfInBounds_toArray, List.set_cons_zero, List.set_cons_succ]
        refine wpAnyH_take (i := 2) (v := ?_) (List.getElem?_toArray.trans rfl) (by kernel_rfl) (by kernel_rfl) (by kernel_rfl) (fun _ _ _ h => h) (Or.inl ⟨by rfl, ?_⟩) hHeld ?_
        rotate_left
        · intro w' hSw; have q0 := hSw.cell c00 (by simp); have q1 := hSw.cell c01 (by simp); have q2 := hSw.cell c02 (by simp); have q3 := hSw.cell e0 (by simp); have q4 := hSw.cell e1 (by simp); have q5 := hSw.cell e2 (by simp); have q6 := hSw.cell d3 (by simp); go_simp; try with_reducible rfl
        try simp only [Act.put, List.setIfInBounds_toArray, List.set_cons_zero, List.set_cons_succ]
        refine wpAnyH_take (i := 3) (v := ?_) (List.getElem?_toArray.trans rfl) (by kernel_rfl) (by kernel_rfl) (by kernel_rfl) (fun _ _ _ h => h) (Or.inl ⟨by rfl, ?_⟩) hHeld ?_
        rotate_left
        · intro w' hSw; have q0 := hSw.cell c00 (by simp); have q1 := hSw.cell c01 (by simp); have q2 := hSw.cell c02 (by simp); have q3 := hSw.cell e0 (by simp); have q4 := hSw.cell e1 (by simp); have q5 := hSw.cell e2 (by simp); have q6 := hSw.cell d3 (by simp); go_simp; try with_reducible rfl
        try simp only [Act.put, List.setIfInBounds_toArray, List.set_cons_zero, List.set_cons_succ]
        refine wpAnyH_take (i := 4) (v := ?_) (List.getElem?_toArray.trans rfl) (by kernel_rfl) (by kernel_rfl) (by kernel_rfl) (fun _ _ _ h => h) (Or.inl ⟨by rfl, ?_⟩) hHeld ?_
        rotate_left
        · intro w' hSw; have q0 := hSw.cell c00 (by simp); have q1 := hSw.cell c01 (by simp); have q2 := hSw.cell c02 (by simp); have q3 := hSw.cell e0 (by simp); have q4 := hSw.cell e1 (by simp); have q5 := hSw.cell e2 (by simp); have q6 := hSw.cell d3 (by simp); go_simp; try with_reducible rfl
        try simp only [Act.put, List.setIfInBounds_toArray, List.set_cons_zero, List.set_cons_succ]
        refine wpAnyH_take (i := 5) (v := ?_) (List.getElem?_toArray.trans rfl) (by kernel_rfl) (by kernel_rfl) (by kernel_rfl) (fun _ _ _ h => h) (Or.inl ⟨by rfl, ?_⟩) hHeld ?_
        rotate_left
        · intro w' hSw; have q0 := hSw.cell c00 (by simp); have q1 := hSw.cell c01 (by simp); have q2 := hSw.cell c02 (by simp); have q3 := hSw.cell e0 (by simp); have q4 := hSw.cell e1 (by simp); have q5 := hSw.cell e2 (by simp); have q6 := hSw.cell d3 (by simp); go_simp; try with_reducible rfl
        try simp only [Act.put, List.setIfInBounds_toArray, List.set_cons_zero, List.set_cons_succ]
        refine wpAnyH_take (i := 6) (v := ?_) (List.getElem?_toArray.trans rfl) (by kernel_rfl) (by kernel_rfl) (by kernel_rfl) (fun _ _ _ h => h) (Or.inl ⟨by rfl, ?_⟩) hHeld ?_
        rotate_left
        · intro w' hSw; have q0 := hSw.cell c00 (by simp); have q1 := hSw.cell c01 (by simp); have q2 := hSw.cell c02 (by simp); have q3 := hSw.cell e0 (by simp); have q4 := hSw.cell e1 (by simp); have q5 := hSw.cell e2 (by simp); have q6 := hSw.cell d3 (by simp); go_simp; try with_reducible rfl
        try simp only [Act.put, List.setIfInBounds_toArray, List.set_cons_zero, List.set_cons_succ]
        refine wpAnyH_take (i := 7) (v := ?_) (List.getElem?_toArray.trans rfl) (by kernel_rfl) (by kernel_rfl) (by kernel_rfl) (fun _ _ _ h => h) (Or.inl ⟨by rfl, ?_⟩) hHeld ?_
        rotate_left
        · intro w' hSw; have q0 := hSw.cell c00 (by simp); have q1 := hSw.cell c01 (by simp); have q2 := hSw.cell c02 (by simp); have q3 := hSw.cell e0 (by simp); have q4 := hSw.cell e1 (by simp); have q5 := hSw.cell e2 (by simp); have q6 := hSw.cell d3 (by simp); go_simp; try with_reducible rfl
        try simp only [Act.put, List.setIfInBounds_toArray, List.set_cons_zero, List.set_cons_succ]
        refine wpAnyH_take (i := 8) (v := ?_) (List.getElem?_toArray.trans rfl) (by kernel_rfl) (by kernel_rfl) (by kernel_rfl) (fun _ _ _ h => h) (Or.inl ⟨by rfl, ?_⟩) hHeld ?_
        rotate_left
        · intro w' hSw; have q0 := hSw.cell c00 (by simp); have q1 := hSw.cell c01 (by simp); have q2 := hSw.cell c02 (by simp); have q3 := hSw.cell e0 (by simp); have q4 := hSw.cell e1 (by simp); have q5 := hSw.cell e2 (by simp); have q6 := hSw.cell d3 (by simp); go_simp; try with_reducible rfl
        try simp only [Act.put, List.setIfInBounds_toArray, List.set_cons_zero, List.set_cons_succ]
        refine wpAnyH_take (i := 9) (v := ?_) (List.getElem?_toArray.trans rfl) (by kernel_rfl) (by kernel_rfl) (by kernel_rfl) (fun _ _ _ h => h) (Or.inl ⟨by rfl, ?_⟩) hHeld ?_
        rotate_left
        · intro w' hSw; have q0 := hSw.cell c00 (by simp); have q1 := hSw.cell c01 (by simp); have q2 := hSw.cell c02 (by simp); have q3 := hSw.cell e0 (by simp); have q4 := hSw.cell e1 (by simp); have q5 := hSw.cell e2 (by simp); have q6 := hSw.cell d3 (by simp); go_simp; try with_reducible rfl
        try simp only [Act.put, List.setIfInBounds_toArray, List.set_cons_zero, List.set_cons_succ]
        refine wpAnyH_take (i := 10) (v := ?_) (List.getElem?_toArray.trans rfl) (by kernel_rfl) (by kernel_rfl) (by kernel_rfl) (fun _ _ _ h => h) (Or.inl ⟨by rfl, ?_⟩) hHeld ?_
        rotate_left
        · intro w' hSw; have q0 := hSw.cell c00 (by simp); have q1 := hSw.cell c01 (by simp); have q2 := hSw.cell c02 (by simp); have q3 := hSw.cell e0 (by simp); have q4 := hSw.cell e1 (by simp); have q5 := hSw.cell e2 (by simp); have q6 := hSw.cell d3 (by simp); go_simp; try with_reducible rfl
        try simp only [Act.put, List.setIfInBounds_toArray, List.set_cons_zero, List.set_cons_succ]
        refine wpAnyH_take (i := 11) (v := ?_) (List.getElem?_toArray.trans rfl) (by kernel_rfl) (by kernel_rfl) (by kernel_rfl) (fun _ _ _ h => h) (Or.inl ⟨by rfl, ?_⟩) hHeld ?_
        rotate_left
        · intro w' hSw; have q0 := hSw.cell c00 (by simp); have q1 := hSw.cell c01 (by simp); have q2 := hSw.cell c02 (by simp); have q3 := hSw.cell e0 (by simp); have q4 := hSw.cell e1 (by simp); have q5 := hSw.cell e2 (by simp); have q6 := hSw.cell d3 (by simp); go_simp; try with_reducible rfl
        try simp only [Act.put, List.setIfInBounds_toArray, List.set_cons_zero, List.set_cons_succ]
        refine wpAnyH_take (i := 12) (v := ?_) (List.getElem?_toArray.trans rfl) (by kernel_rfl) (by kernel_rfl) (by kernel_rfl) (fun _ _ _ h => h) (Or.inl ⟨by rfl, ?_⟩) hHeld ?_
        rotate_left
        · intro w' hSw; have q0 := hSw.cell c00 (by simp); have q1 := hSw.cell c01 (by simp); have q2 := hSw.cell c02 (by simp); have q3 := hSw.cell e0 (by simp); have q4 := hSw.cell e1 (by simp); have q5 := hSw.cell e2 (by simp); have q6 := hSw.cell d3 (by simp); go_simp; try with_reducible rfl
        try simp only [Act.put, List.setIfInBounds_toArray, List.set_cons_zero, List.set_cons_succ]
        refine wpAnyH_take (i := 13) (v := ?_) (List.getElem?_toArray.trans rfl) (by kernel_rfl) (by kernel_rfl) (by kernel_rfl) (fun _ _ _ h => h) (Or.inl ⟨by rfl, ?_⟩) hHeld ?_
        rotate_left
        · intro w' hSw; have q0 := hSw.cell c00 (by simp); have q1 := hSw.cell c01 (by simp); have q2 := hSw.cell c02 (by simp); have q3 := hSw.cell e0 (by simp); have q4 := hSw.cell e1 (by simp); have q5 := hSw.cell e2 (by simp); have q6 := hSw.cell d3 (by simp); go_simp; try with_reducible rfl
        try simp only [Act.put, List.setIfInBounds_toArray, List.set_cons_zero, List.set_cons_succ]
        refine wpAnyH_take (i := 14) (v := ?_) (List.getElem?_toArray.trans rfl) (by kernel_rfl) (by kernel_rfl) (by kernel_rfl) (fun _ _ _ h => h) (Or.inl ⟨by rfl, ?_⟩) hHeld ?_
        rotate_left
        · intro w' hSw; have q0 := hSw.cell c00 (by simp); have q1 := hSw.cell c01 (by simp); have q2 := hSw.cell c02 (by simp); have q3 := hSw.cell e0 (by simp); have q4 := hSw.cell e1 (by simp); have q5 := hSw.cell e2 (by simp); have q6 := hSw.cell d3 (by simp); go_simp; try with_reducible rfl
        try simp only [Act.put, List.setIfInBounds_toArray, List.set_cons_zero, List.set_cons_succ]
        refine wpAnyH_take (i := 15) (v := ?_) (List.getElem?_toArray.trans rfl) (by kernel_rfl) (by kernel_rfl) (by kernel_rfl) (fun _ _ _ h => h) (Or.inl ⟨by rfl, ?_⟩) hHeld ?_
        rotate_left
        · intro w' hSw; have q0 := hSw.cell c00 (by simp); have q1 := hSw.cell c01 (by simp); have q2 := hSw.cell c02 (by simp); have q3 := hSw.cell e0 (by simp); have q4 := hSw.cell e1 (by simp); have q5 := hSw.cell e2 (by simp); have q6 := hSw.cell d3 (by simp); go_simp; try with_reducible rfl
        try simp only [Act.put, List.setIfInBounds_toArray, List.set_cons_zero, List.set_cons_succ]
        refine wpAnyH_take (i := 16) (v := ?_) (List.getElem?_toArray.trans rfl) (by kernel_rfl) (by kernel_rfl) (by kernel_rfl) (fun _ _ _ h => h) (Or.inl ⟨by rfl, ?_⟩) hHeld ?_
        rotate_left
        · intro w' hSw; have q0 := hSw.cell c00 (by simp); have q1 := hSw.cell c01 (by simp); have q2 := hSw.cell c02 (by simp); have q3 := hSw.cell e0 (by simp); have q4 := hSw.cell e1 (by simp); have q5 := hSw.cell e2 (by simp); have q6 := hSw.cell d3 (by simp); go_simp; try with_reducible rfl
        try simp only [Act.put, List.setIfInBounds_toArray, List.set_cons_zero, List.set_cons_succ]
        refine wpAnyH_take (i := 17) (v := ?_) (List.getElem?_toArray.trans rfl) (by kernel_rfl) (by kernel_rfl) (by kernel_rfl) (fun _ _ _ h => h) (Or.inl ⟨by rfl, ?_⟩) hHeld ?_
        rotate_left
        · intro w' hSw; have q0 := hSw.cell c00 (by simp); have q1 := hSw.cell c01 (by simp); have q2 := hSw.cell c02 (by simp); have q3 := hSw.cell e0 (by simp); have q4 := hSw.cell e1 (by simp); have q5 := hSw.cell e2 (by simp); have q6 := hSw.cell d3 (by simp); go_simp; try with_reducible rfl
        try simp only [Act.put, List.setIfInBounds_toArray, List.set_cons_zero, List.set_cons_succ]
        refine wpAnyH_take (i := 18) (v := ?_) (List.getElem?_toArray.trans rfl) (by kernel_rfl) (by kernel_rfl) (by kernel_rfl) (fun _ _ _ h => h) (Or.inl ⟨by rfl, ?_⟩) hHeld ?_
        rotate_left
        · intro w' hSw; have q0 := hSw.cell c00 (by simp); have q1 := hSw.cell c01 (by simp); have q2 := hSw.cell c02 (by simp); have q3 := hSw.cell e0 (by simp); have q4 := hSw.cell e1 (by simp); have q5 := hSw.cell e2 (by simp); have q6 := hSw.cell d3 (by simp); go_simp; try with_reducible rfl
        try simp only [Act.put, List.setIfInBounds_toArray, List.set_cons_zero, List.set_cons_succ]
        refine wpAnyH_take (i := 19) (v := ?_) (List.getElem?_toArray.trans rfl) (by kernel_rfl) (by kernel_rfl) (by kernel_rfl) (fun _ _ _ h => h) (Or.inl ⟨by rfl, ?_⟩) hHeld ?_
        rotate_left
        · intro w' hSw; have q0 := hSw.cell c00 (by simp); have q1 := hSw.cell c01 (by simp); have q2 := hSw.cell c02 (by simp); have q3 := hSw.cell e0 (by simp); have q4 := hSw.cell e1 (by simp); have q5 := hSw.cell e2 (by simp); have q6 := hSw.cell d3 (by simp); go_simp; try with_reducible rfl
        try simp only [Act.put, List.setIfInBounds_toArray, List.set_cons_zero, List.set_cons_succ]
        refine wpAnyH_take (i := 20) (v := ?_) (List.getElem?_toArray.trans rfl) (by kernel_rfl) (by kernel_rfl) (by kernel_rfl) (fun _ _ _ h => h) (Or.inl ⟨by rfl, ?_⟩) hHeld ?_
        rotate_left
        · intro w' hSw; have q0 := hSw.cell c00 (by simp); have q1 := hSw.cell c01 (by simp); have q2 := hSw.cell c02 (by simp); have q3 := hSw.cell e0 (by simp); have q4 := hSw.cell e1 (by simp); have q5 := hSw.cell e2 (by simp); have q6 := hSw.cell d3 (by simp); go_simp; try with_reducible rfl
        try simp only [Act.put, List.setIfInBounds_toArray, List.set_cons_zero, List.set_cons_succ]
        refine wpAnyH_take (i := 21) (v := ?_) (List.getElem?_toArray.trans rfl) (by kernel_rfl) (by kernel_rfl) (by kernel_rfl) (fun _ _ _ h => h) (Or.inl ⟨by rfl, ?_⟩) hHeld ?_
        rotate_left
        · intro w' hSw; have q0 := hSw.cell c00 (by simp); have q1 := hSw.cell c01 (by simp); have q2 := hSw.cell c02 (by simp); have q3 := hSw.cell e0 (by simp); have q4 := hSw.cell e1 (by simp); have q5 := hSw.cell e2 (by simp); have q6 := hSw.cell d3 (by simp); go_simp; try with_reducible rfl
        try simp only [Act.put, List.setIfInBounds_toArray, List.set_cons_zero, List.set_cons_succ]
        refine wpAnyH_take (i := 22) (v := ?_) (List.getElem?_toArray.trans rfl) (by kernel_rfl) (by kernel_rfl) (by kernel_rfl) (fun _ _ _ h => h) (Or.inl ⟨by rfl, ?_⟩) hHeld ?_
        rotate_left
        · intro w' hSw; have q0 := hSw.cell c00 (by simp); have q1 := hSw.cell c01 (by simp); have q2 := hSw.cell c02 (by simp); have q3 := hSw.cell e0 (by simp); have q4 := hSw.cell e1 (by simp); have q5 := hSw.cell e2 (by simp); have q6 := hSw.cell d3 (by simp); go_simp; try with_reducible rfl
        try simp only [Act.put, List.setIfInBounds_toArray, List.set_cons_zero, List.set_cons_succ]
        refine wpAnyH_take (i := 23) (v := ?_) (List.getElem?_toArray.trans rfl) (by kernel_rfl) (by kernel_rfl) (by kernel_rfl) (fun _ _ _ h => h) (Or.inl ⟨by rfl, ?_⟩) hHeld ?_
        rotate_left
        · intro w' hSw; have q0 := hSw.cell c00 (by simp); have q1 := hSw.cell c01 (by simp); have q2 := hSw.cell c02 (by simp); have q3 := hSw.cell e0 (by simp); have q4 := hSw.cell e1 (by simp); have q5 := hSw.cell e2 (by simp); have q6 := hSw.cell d3 (by simp); go_simp; try with_reducible rfl
        try simp only [Act.put, List.setIfInBounds_toArray, List.set_cons_zero, List.set_cons_succ]
        refine wpAnyH_take (i := 24) (v := ?_) (List.getElem?_toArray.trans rfl) (by kernel_rfl) (by kernel_rfl) (by kernel_rfl) (fun _ _ _ h => h) (Or.inl ⟨by rfl, ?_⟩) hHeld ?_
        rotate_left
        · intro w' hSw; have q0 := hSw.cell c00 (by simp); have q1 := hSw.cell c01 (by simp); have q2 := hSw.cell c02 (by simp); have q3 := hSw.cell e0 (by simp); have q4 := hSw.cell e1 (by simp); have q5 := hSw.cell e2 (by simp); have q6 := hSw.cell d3 (by simp); go_simp; try with_reducible rfl
        try simp only [Act.put, List.setIfInBounds_toArray, List.set_cons_zero, List.set_cons_succ]
        refine wpAnyH_take (i := 25) (v := ?_) (List.getElem?_toArray.trans rfl) (by kernel_rfl) (by kernel_rfl) (by kernel_rfl) (fun _ _ _ h => h) (Or.inl ⟨by rfl, ?_⟩) hHeld ?_
        rotate_left
        · intro w' hSw; have q0 := hSw.cell c00 (by simp); have q1 := hSw.cell c01 (by simp); have q2 := hSw.cell c02 (by simp); have q3 := hSw.cell e0 (by simp); have q4 := hSw.cell e1 (by simp); have q5 := hSw.cell e2 (by simp); have q6 := hSw.cell d3 (by simp); go_simp; try with_reducible rfl
        try simp only [Act.put, List.setIfInBounds_toArray, List.set_cons_zero, List.set_cons_succ]
        refine wpAnyH_take (i := 26) (v := ?_) (List.getElem?_toArray.trans rfl) (by kernel_rfl) (by kernel_rfl) (by kernel_rfl) (fun _ _ _ h => h) (Or.inl ⟨by rfl, ?_⟩) hHeld ?_
        rotate_left
        · intro w' hSw; have q0 := hSw.cell c00 (by simp); have q1 := hSw.cell c01 (by simp); have q2 := hSw.cell c02 (by simp); have q3 := hSw.cell e0 (by simp); have q4 := hSw.cell e1 (by simp); have q5 := hSw.cell e2 (by simp); have q6 := hSw.cell d3 (by simp); go_simp; try with_reducible rfl
        try simp only [Act.put, List.setIfInBounds_toArray, List.set_cons_zero, List.set_cons_succ]
        refine wpAnyH_take (i := 27) (v := ?_) (List.getElem?_toArray.trans rfl) (by kernel_rfl) (by kernel_rfl) (by kernel_rfl) (fun _ _ _ h => h) (Or.inl ⟨by rfl, ?_⟩) hHeld ?_
        rotate_left
        · intro w' hSw; have q0 := hSw.cell c00 (by simp); have q1 := hSw.cell c01 (by simp); have q2 := hSw.cell c02 (by simp); have q3 := hSw.cell e0 (by simp); have q4 := hSw.cell e1 (by simp); have q5 := hSw.cell e2 (by simp); have q6 := hSw.cell d3 (by simp); go_simp; try with_reducible rfl
        try simp only [Act.put, List.setIfInBounds_toArray, List.set_cons_zero, List.set_cons_succ]
        refine wpAnyH_take (i := 28) (v := ?_) (List.getElem?_toArray.trans rfl) (by kernel_rfl) (by kernel_rfl) (by kernel_rfl) (fun _ _ _ h => h) (Or.inl ⟨by rfl, ?_⟩) hHeld ?_
        rotate_left
        · intro w' hSw; have q0 := hSw.cell c00 (by simp); have q1 := hSw.cell c01 (by simp); have q2 := hSw.cell c02 (by simp); have q3 := hSw.cell e0 (by simp); have q4 := hSw.cell e1 (by simp); have q5 := hSw.cell e2 (by simp); have q6 := hSw.cell d3 (by simp); go_simp; try with_reducible rfl
        try simp only [Act.put, List.setIfInBounds_toArray, List.set_cons_zero, List.set_cons_succ]
        refine wpAnyH_take (i := 29) (v := ?_) (List.getElem?_toArray.trans rfl) (by kernel_rfl) (by kernel_rfl) (by kernel_rfl) (fun _ _ _ h => h) (Or.inl ⟨by rfl, ?_⟩) hHeld ?_
        rotate_left
        · intro w' hSw; have q0 := hSw.cell c00 (by simp); have q1 := hSw.cell c01 (by simp); have q2 := hSw.cell c02 (by simp); have q3 := hSw.cell e0 (by simp); have q4 := hSw.cell e1 (by simp); have q5 := hSw.cell e2 (by simp); have q6 := hSw.cell d3 (by simp); go_simp; try with_reducible rfl
        try simp only [Act.put, List.setIfInBounds_toArray, List.set_cons_zero, List.set_cons_succ]
        refine wpAnyH_take (i := 30) (v := ?_) (List.getElem?_toArray.trans rfl) (by kernel_rfl) (by kernel_rfl) (by kernel_rfl) (fun _ _ _ h => h) (Or.inl ⟨by rfl, ?_⟩) hHeld ?_
        rotate_left
        · intro w' hSw; have q0 := hSw.cell c00 (by simp); have q1 := hSw.cell c01 (by simp); have q2 := hSw.cell c02 (by simp); have q3 := hSw.cell e0 (by simp); have q4 := hSw.cell e1 (by simp); have q5 := hSw.cell e2 (by simp); have q6 := hSw.cell d3 (by simp); go_simp; try with_reducible rfl
        try simp only [Act.put, List.setIfInBounds_toArray, List.set_cons_zero, List.set_cons_succ]
        refine wpAnyH_take (i := 31) (v := ?_) (List.getElem?_toArray.trans rfl) (by kernel_rfl) (by kernel_rfl) (by kernel_rfl) (fun _ _ _ h => h) (Or.inl ⟨by rfl, ?_⟩) hHeld ?_
        rotate_left
        · intro w' hSw; have q0 := hSw.cell c00 (by simp); have q1 := hSw.cell c01 (by simp); have q2 := hSw.cell c02 (by simp); have q3 := hSw.cell e0 (by simp); have q4 := hSw.cell e1 (by simp); have q5 := hSw.cell e2 (by simp); have q6 := hSw.cell d3 (by simp); go_simp; try with_reducible rfl
        try simp only [Act.put, List.setIfInBounds_toArray, List.set_cons_zero, List.set_cons_succ]
        refine wpAnyH_take (i := 32) (v := ?_) (List.getElem?_toArray.trans rfl) (by kernel_rfl) (by kernel_rfl) (by kernel_rfl) (fun _ _ _ h => h) (Or.inl ⟨by rfl, ?_⟩) hHeld ?_
        rotate_left
        · intro w' hSw; have q0 := hSw.cell c00 (by simp); have q1 := hSw.cell c01 (by simp); have q2 := hSw.cell c02 (by simp); have q3 := hSw.cell e0 (by simp); have q4 := hSw.cell e1 (by simp); have q5 := hSw.cell e2 (by simp); have q6 := hSw.cell d3 (by simp); go_simp; try with_reducible rfl
        try simp only [Act.put, List.setIfInBounds_toArray, List.set_cons_zero, List.set_cons_succ]
        refine wpAnyH_take (i := 33) (v := ?_) (List.getElem?_toArray.trans rfl) (by kernel_rfl) (by kernel_rfl) (by kernel_rfl) (fun _ _ _ h => h) (Or.inl ⟨by rfl, ?_⟩) hHeld ?_
        rotate_left
        · intro w' hSw; have q0 := hSw.cell c00 (by simp); have q1 := hSw.cell c01 (by simp); have q2 := hSw.cell c02 (by simp); have q3 := hSw.cell e0 (by simp); have q4 := hSw.cell e1 (by simp); have q5 := hSw.cell e2 (by simp); have q6 := hSw.cell d3 (by simp); go_simp; try with_reducible rfl
        try simp only [Act.put, List.setIfInBounds_toArray, List.set_cons_zero, List.set_cons_succ]
        refine wpAnyH_take (i := 34) (v := ?_) (List.getElem?_toArray.trans rfl) (by kernel_rfl) (by kernel_rfl) (by kernel_rfl) (fun _ _ _ h => h) (Or.inl ⟨by rfl, ?_⟩) hHeld ?_
        rotate_left
        · intro w' hSw; have q0 := hSw.cell c00 (by simp); have q1 := hSw.cell c01 (by simp); have q2 := hSw.cell c02 (by simp); have q3 := hSw.cell e0 (by simp); have q4 := hSw.cell e1 (by simp); have q5 := hSw.cell e2 (by simp); have q6 := hSw.cell d3 (by simp); go_simp; try with_reducible rfl
        try simp only [Act.put, List.setIfInBounds_toArray, List.set_cons_zero, List.set_cons_succ]
        refine wpAnyH_take (i := 35) (v := ?_) (List.getElem?_toArray.trans rfl) (by kernel_rfl) (by kernel_rfl) (by kernel_rfl) (fun _ _ _ h => h) (Or.inl ⟨by rfl, ?_⟩) hHeld ?_
        rotate_left
        · intro w' hSw; have q0 := hSw.cell c00 (by simp); have q1 := hSw.cell c01 (by simp); have q2 := hSw.cell c02 (by simp); have q3 := hSw.cell e0 (by simp); have q4 := hSw.cell e1 (by simp); have q5 := hSw.cell e2 (by simp); have q6 := hSw.cell d3 (by simp); go_simp; try with_reducible rfl
        try simp only [Act.put, List.setIfInBounds_toArray, List.set_cons_zero, List.set_cons_succ]
        refine wpAnyH_take (i := 36) (v := ?_) (List.getElem?_toArray.trans rfl) (by kernel_rfl) (by kernel_rfl) (by kernel_rfl) (fun _ _ _ h => h) (Or.inl ⟨by rfl, ?_⟩) hHeld ?_
        rotate_left
        · intro w' hSw; have q0 := hSw.cell c00 (by simp); have q1 := hSw.cell c01 (by simp); have q2 := hSw.cell c02 (by simp); have q3 := hSw.cell e0 (by simp); have q4 := hSw.cell e1 (by simp); have q5 := hSw.cell e2 (by simp); have q6 := hSw.cell d3 (by simp); go_simp; try with_reducible rfl
        try simp only [Act.put, List.setIfInBounds_toArray, List.set_cons_zero, List.set_cons_succ]
        refine wpAnyH_take (i := 37) (v := ?_) (List.getElem?_toArray.trans rfl) (by kernel_rfl) (by kernel_rfl) (by kernel_rfl) (fun _ _ _ h => h) (Or.inl ⟨by rfl, ?_⟩) hHeld ?_
        rotate_left
        · intro w' hSw; have q0 := hSw.cell c00 (by simp); have q1 := hSw.cell c01 (by simp); have q2 := hSw.cell c02 (by simp); have q3 := hSw.cell e0 (by simp); have q4 := hSw.cell e1 (by simp); have q5 := hSw.cell e2 (by simp); have q6 := hSw.cell d3 (by simp); go_simp; try with_reducible rfl
        try simp only [Act.put, List.setIfInBounds_toArray, List.set_cons_zero, List.set_cons_succ]
        refine wpAnyH_take (i := 38) (v := ?_) (List.getElem?_toArray.trans rfl) (by kernel_rfl) (by kernel_rfl) (by kernel_rfl) (fun _ _ _ h => h) (Or.inl ⟨by rfl, ?_⟩) hHeld ?_
        rotate_left
        · intro w' hSw; have q0 := hSw.cell c00 (by simp); have q1 := hSw.cell c01 (by simp); have q2 := hSw.cell c02 (by simp); have q3 := hSw.cell e0 (by simp); have q4 := hSw.cell e1 (by simp); have q5 := hSw.cell e2 (by simp); have q6 := hSw.cell d3 (by simp); go_simp; try with_reducible rfl
        try simp only [Act.put, List.setIfInBounds_toArray, List.set_cons_zero, List.set_cons_succ]
        refine wpAnyH_take (i := 39) (v := ?_) (List.getElem?_toArray.trans rfl) (by kernel_rfl) (by kernel_rfl) (by kernel_rfl) (fun _ _ _ h => h) (Or.inl ⟨by rfl, ?_⟩) hHeld ?_
        rotate_left
        · intro w' hSw; have q0 := hSw.cell c00 (by simp); have q1 := hSw.cell c01 (by simp); have q2 := hSw.cell c02 (by simp); have q3 := hSw.cell e0 (by simp); have q4 := hSw.cell e1 (by simp); have q5 := hSw.cell e2 (by simp); have q6 := hSw.cell d3 (by simp); have q7 := HCv.out _ hSw; go_simp; try with_reducible rfl
        try simp only [Act.put, List.setIfInBounds_toArray, List.set_cons_zero, List.set_cons_succ]
        refine wpAnyH_take (i := 40) (v := ?_) (List.getElem?_toArray.trans rfl) (by kernel_rfl) (by kernel_rfl) (by kernel_rfl) (fun _ _ _ h => h) (Or.inl ⟨by rfl, ?_⟩) hHeld ?_
        rotate_left
        · intro w' hSw; have q0 := hSw.cell c00 (by simp); have q1 := hSw.cell c01 (by simp); have q2 := hSw.cell c02 (by simp); have q3 := hSw.cell e0 (by simp); have q4 := hSw.cell e1 (by simp); have q5 := hSw.cell e2 (by simp); have q6 := hSw.cell d3 (by simp); go_simp; try with_reducible rfl
        try simp only [Act.put, List.setIfInBounds_toArray, List.set_cons_zero, List.set_cons_succ]
        refine wpAnyH_take (i := 41) (v := ?_) (List.getElem?_toArray.trans rfl) (by kernel_rfl) (by kernel_rfl) (by kernel_rfl) (fun _ _ _ h => h) (Or.inl ⟨by rfl, ?_⟩) hHeld ?_
        rotate_left
        · intro w' hSw; have q0 := hSw.cell c00 (by simp); have q1 := hSw.cell c01 (by simp); have q2 := hSw.cell c02 (by simp); have q3 := hSw.cell e0 (by simp); have q4 := hSw.cell e1 (by simp); have q5 := hSw.cell e2 (by simp); have q6 := hSw.cell d3 (by simp); go_simp; try with_reducible rfl
        try simp only [Act.put, List.setIfInBounds_toArray, List.set_cons_zero, List.set_cons_succ]
        refine wpAnyH_take (i := 42) (v := ?_) (List.getElem?_toArray.trans rfl) (by kernel_rfl) (by kernel_rfl) (by kernel_rfl) (fun _ _ _ h => h) (Or.inl ⟨by rfl, ?_⟩) hHeld ?_
        rotate_left
        · intro w' hSw; have q0 := hSw.cell c00 (by simp); have q1 := hSw.cell c01 (by simp); have q2 := hSw.cell c02 (by simp); have q3 := hSw.cell e0 (by simp); have q4 := hSw.cell e1 (by simp); have q5 := hSw.cell e2 (by simp); have q6 := hSw.cell d3 (by simp); go_simp; try with_reducible rfl
        try simp only [Act.put, List.setIfInBounds_toArray, List.set_cons_zero, List.set_cons_succ]
        refine wpAnyH_take (i := 43) (v := ?_) (List.getElem?_toArray.trans rfl) (by kernel_rfl) (by kernel_rfl) (by kernel_rfl) (fun _ _ _ h => h) (Or.inl ⟨by rfl, ?_⟩) hHeld ?_
        rotate_left
        · intro w' hSw; have q0 := hSw.cell c00 (by simp); have q1 := hSw.cell c01 (by simp); have q2 := hSw.cell c02 (by simp); have q3 := hSw.cell e0 (by simp); have q4 := hSw.cell e1 (by simp); have q5 := hSw.cell e2 (by simp); have q6 := hSw.cell d3 (by simp); go_simp; try with_reducible rfl
        try simp only [Act.put, List.setIfInBounds_toArray, List.set_cons_zero, List.set_cons_succ]
        refine wpAnyH_take (i := 44) (v := ?_) (List.getElem?_toArray.trans rfl) (by kernel_rfl) (by kernel_rfl) (by kernel_rfl) (fun _ _ _ h => h) (Or.inl ⟨by rfl, ?_⟩) hHeld ?_
        rotate_left
        · intro w' hSw; have q0 := hSw.cell c00 (by simp); have q1 := hSw.cell c01 (by simp); have q2 := hSw.cell c02 (by simp); have q3 := hSw.cell e0 (by simp); have q4 := hSw.cell e1 (by simp); have q5 := hSw.cell e2 (by simp); have q6 := hSw.cell d3 (by simp); go_simp; try with_reducible rfl
        try simp only [Act.put, List.setIfInBounds_toArray, List.set_cons_zero, List.set_cons_succ]
        refine wpAnyH_take (i := 45) (v := ?_) (List.getElem?_toArray.trans rfl) (by kernel_rfl) (by kernel_rfl) (by kernel_rfl) (fun _ _ _ h => h) (Or.inl ⟨by rfl, ?_⟩) hHeld ?_
        rotate_left
        · intro w' hSw; have q0 := hSw.cell c00 (by simp); have q1 := hSw.cell c01 (by simp); have q2 := hSw.cell c02 (by simp); have q3 := hSw.cell e0 (by simp); have q4 := hSw.cell e1 (by simp); have q5 := hSw.cell e2 (by simp); have q6 := hSw.cell d3 (by simp); go_simp; try with_reducible rfl
        try simp only [Act.put, List.setIfInBounds_toArray, List.set_cons_zero, List.set_cons_succ]
        refine wpAnyH_take (i := 46) (v := ?_) (List.getElem?_toArray.trans rfl) (by kernel_rfl) (by kernel_rfl) (by kernel_rfl) (fun _ _ _ h => h) (Or.inl ⟨by rfl, ?_⟩) hHeld ?_
        rotate_left
        · intro w' hSw; have q0 := hSw.cell c00 (by simp); have q1 := hSw.cell c01 (by simp); have q2 := hSw.cell c02 (by simp); have q3 := hSw.cell e0 (by simp); have q4 := hSw.cell e1 (by simp); have q5 := hSw.cell e2 (by simp); have q6 := hSw.cell d3 (by simp); go_simp; try with_reducible rfl
        try simp only [Act.put, List.setIfInBounds_toArray, List.set_cons_zero, List.set_cons_succ]
        refine wpAnyH_take (i := 47) (v := ?_) (List.getElem?_toArray.trans rfl) (by kernel_rfl) (by kernel_rfl) (by kernel_rfl) (fun _ _ _ h => h) (Or.inl ⟨by rfl, ?_⟩) hHeld ?_
        rotate_left
        · intro w' hSw; have q0 := hSw.cell c00 (by simp); have q1 := hSw.cell c01 (by simp); have q2 := hSw.cell c02 (by simp); have q3 := hSw.cell e0 (by simp); have q4 := hSw.cell e1 (by simp); have q5 := hSw.cell e2 (by simp); have q6 := hSw.cell d3 (by simp); go_simp; try with_reducible rfl
        try simp only [Act.put, List.setIfInBounds_toArray, List.set_cons_zero, List.set_cons_succ]
        refine wpAnyH_take (i := 48) (v := ?_) (List.getElem?_toArray.trans rfl) (by kernel_rfl) (by kernel_rfl) (by kernel_rfl) (fun _ _ _ h => h) (Or.inl ⟨by rfl, ?_⟩) hHeld ?_
        rotate_left
        · intro w' hSw; have q0 := hSw.cell c00 (by simp); have q1 := hSw.cell c01 (by simp); have q2 := hSw.cell c02 (by simp); have q3 := hSw.cell e0 (by simp); have q4 := hSw.cell e1 (by simp); have q5 := hSw.cell e2 (by simp); have q6 := hSw.cell d3 (by simp); go_simp; try with_reducible rfl
        try simp only [Act.put, List.setIfInBounds_toArray, List.set_cons_zero, List.set_cons_succ]
        refine wpAnyH_take (i := 49) (v := ?_) (List.getElem?_toArray.trans rfl) (by kernel_rfl) (by kernel_rfl) (by kernel_rfl) (fun _ _ _ h => h) (Or.inl ⟨by rfl, ?_⟩) hHeld ?_
        rotate_left
        · intro w' hSw; have q0 := hSw.cell c00 (by simp); have q1 := hSw.cell c01 (by simp); have q2 := hSw.cell c02 (by simp); have q3 := hSw.cell e0 (by simp); have q4 := hSw.cell e1 (by simp); have q5 := hSw.cell e2 (by simp); have q6 := hSw.cell d3 (by simp); go_simp; try with_reducible rfl
        try simp only [Act.put, List.setIfInBounds_toArray, List.set_cons_zero, List.set_cons_succ]
        refine wpAnyH_take (i := 50) (v := ?_) (List.getElem?_toArray.trans rfl) (by kernel_rfl) (by kernel_rfl) (by kernel_rfl) (fun _ _ _ h => h) (Or.inl ⟨by rfl, ?_⟩) hHeld ?_
        rotate_left
        · intro w' hSw; have q0 := hSw.cell c00 (by simp); have q1 := hSw.cell c01 (by simp); have q2 := hSw.cell c02 (by simp); have q3 := hSw.cell e0 (by simp); have q4 := hSw.cell e1 (by simp); have q5 := hSw.cell e2 (by simp); have q6 := hSw.cell d3 (by simp); go_simp; try with_reducible rfl
        try simp only [Act.put, List.setIfInBounds_toArray, List.set_cons_zero, List.set_cons_succ]
        refine wpAnyH_ready (rs := [51]) (by kernel_rfl) (by simp) ?_
        refine AllReadyH.cons (List.getElem?_toArray.trans rfl) (fun K hK => ?_) AllReadyH.nil
        go_simp
        go_at_call 10
        (with_reducible refine (sector_any 99 99 _ rfl).mono ?_)
        rintro e wN ⟨rfl, gN⟩
        refine hK.out _ _ (gb_trans hHeld gN) (fun hHeld => ?_)
        clear hK K
        try simp only [Act.put, List.setIfInBounds_toArray, List.set_cons_zero, List.set_cons_succ]
        refine wpAnyH_take (i := 52) (v := ?_) (List.getElem?_toArray.trans rfl) (by kernel_rfl) (by kernel_rfl) (by kernel_rfl) (fun _ _ _ h => h) (Or.inl ⟨by rfl, ?_⟩) hHeld ?_
        rotate_left
        · intro w' hSw; have q0 := hSw.cell c00 (by simp); have q1 := hSw.cell c01 (by simp); have q2 := hSw.cell c02 (by simp); have q3 := hSw.cell e0 (by simp); have q4 := hSw.cell e1 (by simp); have q5 := hSw.cell e2 (by simp); have q6 := hSw.cell d3 (by simp); go_simp; try with_reducible rfl
        try simp only [Act.put, List.setIfInBounds_toArray, List.set_cons_zero, List.set_cons_succ]
        refine wpAnyH_ready (rs := [53]) (by kernel_rfl) (by simp) ?_
        refine AllReadyH.cons (List.getElem?_toArray.trans rfl) (fun K hK => ?_) AllReadyH.nil
        go_simp
        go_at_call 10
        (with_reducible refine (sector_any 98 98 _ rfl).mono ?_)
        rintro e wN ⟨rfl, gN⟩
        refine hK.out _ _ (gb_trans hHeld gN) (fun hHeld => ?_)
        clear hK K
        try simp only [Act.put, List.setIfInBounds_toArray, List.set_cons_zero, List.set_cons_succ]
        refine wpAnyH_take (i := 54) (v := ?_) (List.getElem?_toArray.trans rfl) (by kernel_rfl) (by kernel_rfl) (by kernel_rfl) (fun _ _ _ h => h) (Or.inl ⟨by rfl, ?_⟩) hHeld ?_
        rotate_left
        · intro w' hSw; have q0 := hSw.cell c00 (by simp); have q1 := hSw.cell c01 (by simp); have q2 := hSw.cell c02 (by simp); have q3 := hSw.cell e0 (by simp); have q4 := hSw.cell e1 (by simp); have q5 := hSw.cell e2 (by simp); have q6 := hSw.cell d3 (by simp); go_simp; try with_reducible rfl
        try simp only [Act.put, List.setIfInBounds_toArray, List.set_cons_zero, List.set_cons_succ]
        refine wpAnyH_take (i := 55) (v := ?_) (List.getElem?_toArray.trans rfl) (by kernel_rfl) (by kernel_rfl) (by kernel_rfl) (fun _ _ _ h => h) (Or.inl ⟨by rfl, ?_⟩) hHeld ?_
        rotate_left
        · intro w' hSw; have q0 := hSw.cell c00 (by simp); have q1 := hSw.cell c01 (by simp); have q2 := hSw.cell c02 (by simp); have q3 := hSw.cell e0 (by simp); have q4 := hSw.cell e1 (by simp); have q5 := hSw.cell e2 (by simp); have q6 := hSw.cell d3 (by simp); go_simp; try with_reducible rfl
        try simp only [Act.put, List.setIfInBounds_toArray, List.set_cons_zero, List.set_cons_succ]
        refine wpAnyH_take (i := 56) (v := ?_) (List.getElem?_toArray.trans rfl) (by kernel_rfl) (by kernel_rfl) (by kernel_rfl) (fun _ _ _ h => h) (Or.inl ⟨by rfl, ?_⟩) hHeld ?_
        rotate_left
        · intro w' hSw; have q0 := hSw.cell c00 (by simp); have q1 := hSw.cell c01 (by simp); have q2 := hSw.cell c02 (by simp); have q3 := hSw.cell e0 (by simp); have q4 := hSw.cell e1 (by simp); have q5 := hSw.cell e2 (by simp); have q6 := hSw.cell d3 (by simp); go_simp; try with_reducible rfl
        try simp only [Act.put, List.setIfInBounds_toArray, List.set_cons_zero, List.set_cons_succ]
        refine wpAnyH_take (i := 57) (v := ?_) (List.getElem?_toArray.trans rfl) (by kernel_rfl) (by kernel_rfl) (by kernel_rfl) (fun _ _ _ h => h) (Or.inl ⟨by rfl, ?_⟩) hHeld ?_
        rotate_left
        · intro w' hSw; have q0 := hSw.cell c00 (by simp); have q1 := hSw.cell c01 (by simp); have q2 := hSw.cell c02 (by simp); have q3 := hSw.cell e0 (by simp); have q4 := hSw.cell e1 (by simp); have q5 := hSw.cell e2 (by simp); have q6 := hSw.cell d3 (by simp); go_simp; try with_reducible rfl
        try simp only [Act.put, List.setIfInBounds_toArray, List.set_cons_zero, List.set_cons_succ]
        refine wpAnyH_take (i := 58) (v := ?_) (List.getElem?_toArray.trans rfl) (by kernel_rfl) (by kernel_rfl) (by kernel_rfl) (fun _ _ _ h => h) (Or.inl ⟨by rfl, ?_⟩) hHeld ?_
        rotate_left
        · intro w' hSw; have q0 := hSw.cell c00 (by simp); have q1 := hSw.cell c01 (by simp); have q2 := hSw.cell c02 (by simp); have q3 := hSw.cell e0 (by simp); have q4 := hSw.cell e1 (by simp); have q5 := hSw.cell e2 (by simp); have q6 := hSw.cell d3 (by simp); go_simp; try with_reducible rfl
        try simp only [Act.put, List.setIfInBounds_toArray, List.set_cons_zero, List.set_cons_succ]
        refine wpAnyH_done (by kernel_rfl) ?_ _
        refine NoPanic.normal ?_
        go_wp2
        go_ret
        exact ⟨rfl, gb_trans ga hHeld⟩
end Go.Proofs.YtcoegaipojnndaaDoor

