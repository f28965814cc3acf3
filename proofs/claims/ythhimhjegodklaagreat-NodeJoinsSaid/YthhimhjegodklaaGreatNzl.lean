/-
  What the document's bytes of a cell, and of a node, are, over this seat's translation: those of plain mathematics; conditions: the cell may be, or the node, it lies as it is told, and has at most 300,000 of each.
-/
import Derived.Test.YthhimhjegodklaaGreatNzk
import Derived.Test.YthhimhjegodklaaGreatNzf
namespace Go.Proofs.YthhimhjegodklaaGreat.N11
set_option linter.unusedSimpArgs false
set_option linter.unusedVariables false
open Go.RowKit
theorem text_is {s t : ByteArray} (hs : s.size ≤ 255) (ht : ⟨(textL s).toArray⟩ = t) (W : World) : Calls Tryz.prog 42 #[.string s] W fun e w' => e = .returned (.string t) ∧ W.grownBy w' none :=
  (ref_text_ok s W hs).mono fun e w' hq => by rw [← ht]; exact hq
theorem num_is {n : Nat} {t : ByteArray} (hn : n < 65536) (ht : ⟨(digits n 2).toArray⟩ = t) (W : World) : Calls Tryz.prog 41 #[.int .u64 n, .int .i64 2] W fun e w' => e = .returned (.string t) ∧ W.grownBy w' none :=
  (ref_bytes 2 n W (by omega) (by omega)).mono fun e w' hq => by rw [← ht]; exact hq
theorem key_255 {k : ByteArray} (h : keyB k = true) : k.size ≤ 40 := by
  unfold keyB at h; rw [Bool.and_eq_true, decide_eq_true_eq, decide_eq_true_eq] at h; exact h.2
theorem cell_way {k v : ByteArray} {f l : Int} (h : cellB ⟨k, v, f, l⟩ = true) : k.size ≤ 40 ∧ ((f = 0 ∧ v.size ≤ 40 ∧ cellL ⟨k, v, f, l⟩ = textL k ++ textL v) ∨ ∃ m o : Nat, f = (m : Int) ∧ l = (o : Int) ∧ 0 < m ∧ m < 65536 ∧ o < 65536 ∧ cellL ⟨k, v, f, l⟩ = textL k ++ (digits 255 1 ++ digits m 2 ++ digits o 2)) := by
  unfold cellB at h
  rw [Bool.and_eq_true, Bool.or_eq_true] at h
  refine ⟨key_255 h.1, ?_⟩
  unfold cellL valL
  by_cases hl : longB ⟨k, v, f, l⟩ = true
  · right
    have hl2 := hl
    unfold longB pageB at hl2
    simp only [Bool.and_eq_true, decide_eq_true_eq] at hl2
    obtain ⟨⟨⟨h1, h2, h3⟩, h4⟩, h5⟩ := hl2
    refine ⟨f.toNat, l.toNat, by omega, by omega, by omega, by omega, by omega, by rw [if_pos hl]⟩
  · left
    rcases h.2 with h2 | h2
    · unfold shortB at h2
      simp only [Bool.and_eq_true, decide_eq_true_eq] at h2
      exact ⟨h2.1.2, h2.1.1, by rw [if_neg hl]⟩
    · exact absurd h2 hl
theorem txt_size {l : List UInt8} {t : ByteArray} (h : ⟨l.toArray⟩ = t) : t.size = l.length := by rw [← h, size_arr]
set_option maxRecDepth 100000 in
set_option maxHeartbeats 2000000 in
theorem refCell_any (k v : ByteArray) (f l : Int) (w : World) (hc : cellB ⟨k, v, f, l⟩ = true) : Calls Tryz.prog 40 #[.agg #[.string k, .string v, .int .i64 f, .int .i64 l]] w fun e w' => e = .returned (.string ⟨(cellL ⟨k, v, f, l⟩).toArray⟩) ∧ w.grownBy w' none := by
  obtain ⟨hk, hway⟩ := cell_way hc
  obtain ⟨u0, hu, kC, g0, hz0⟩ := new1 w 55 #[.string k, .string v, .int .i64 f, .int .i64 l]
  have HU := Lib.hid hu
  have c0 := kC.cell 0 rfl
  have c1 := kC.cell 1 rfl
  have c2 := kC.cell 2 rfl
  have c3 := kC.cell 3 rfl
  clear hu hz0 kC hc
  obtain ⟨t1, ht1⟩ : ∃ t1 : ByteArray, ⟨(textL k).toArray⟩ = t1 := ⟨_, rfl⟩
  have hz1 : t1.size ≤ 41 := by rw [txt_size ht1, textL_length]; omega
  have HT := Lib.hid (fun W => text_is (show k.size ≤ 255 by omega) ht1 W)
  rcases hway with ⟨rfl, hv, he⟩ | ⟨m, o, rfl, rfl, hm0, hm, ho, he⟩
  · obtain ⟨t2, ht2⟩ : ∃ t2 : ByteArray, ⟨(textL v).toArray⟩ = t2 := ⟨_, rfl⟩
    have hz2 : t2.size ≤ 41 := by rw [txt_size ht2, textL_length]; omega
    have HV := Lib.hid (fun W => text_is (show v.size ≤ 255 by omega) ht2 W)
    have HE := Lib.hid (show t1 ++ t2 = ⟨(cellL ⟨k, v, 0, l⟩).toArray⟩ by rw [he, ← ht1, ← ht2]; exact str_append _ _)
    clear ht1 ht2 he
    have hsum : (9223372036854775807 < t1.size + t2.size) = False := by simp; omega
    go_enter Tryz.func40, Tryz.ntmps40
    go_upto_region 2 with fail
    rw [← HU.out]
    refine wp_region_noPanic ?_
    refine wp_region_held_drew (S := fun w' => u0.grownBy w' none) (by kernel_rfl) (gb_drew _ _) (fun hHeld => ?_)
    refine wpAnyH_take (i := 0) (v := ?_) (List.getElem?_toArray.trans rfl) (by kernel_rfl) (by kernel_rfl) (by kernel_rfl) (fun _ _ _ h => h) (Or.inl ⟨by rfl, ?_⟩) hHeld ?_
    rotate_left
    · intro w' hSw; have d0 := hSw.cell c0 (by simp); have d1 := hSw.cell c1 (by simp); go_simp; try with_reducible rfl
    try simp only [Act.put, List.setIfInBounds_toArray, List.set_cons_zero, List.set_cons_succ]
    refine wpAnyH_take (i := 1) (v := ?_) (List.getElem?_toArray.trans rfl) (by kernel_rfl) (by kernel_rfl) (by kernel_rfl) (fun _ _ _ h => h) (Or.inl ⟨by rfl, ?_⟩) hHeld ?_
    rotate_left
    · intro w' hSw; have d0 := hSw.cell c0 (by simp); have d1 := hSw.cell c1 (by simp); go_simp; try with_reducible rfl
    try simp only [Act.put, List.setIfInBounds_toArray, List.set_cons_zero, List.set_cons_succ]
    refine wpAnyH_take (i := 3) (v := ?_) (List.getElem?_toArray.trans rfl) (by kernel_rfl) (by kernel_rfl) (by kernel_rfl) (fun _ _ _ h => h) (Or.inl ⟨by rfl, ?_⟩) hHeld ?_
    rotate_left
    · intro w' hSw; have d0 := hSw.cell c0 (by simp); have d1 := hSw.cell c1 (by simp); go_simp; try with_reducible rfl
    try simp only [Act.put, List.setIfInBounds_toArray, List.set_cons_zero, List.set_cons_succ]
    refine wpAnyH_take (i := 4) (v := ?_) (List.getElem?_toArray.trans rfl) (by kernel_rfl) (by kernel_rfl) (by kernel_rfl) (fun _ _ _ h => h) (Or.inl ⟨by rfl, ?_⟩) hHeld ?_
    rotate_left
    · intro w' hSw; have d0 := hSw.cell c0 (by simp); have d1 := hSw.cell c1 (by simp); go_simp; try with_reducible rfl
    try simp only [Act.put, List.setIfInBounds_toArray, List.set_cons_zero, List.set_cons_succ]
    refine wpAnyH_ready (rs := [2]) (by kernel_rfl) (by simp) ?_
    refine AllReadyH.cons (List.getElem?_toArray.trans rfl) (fun K hK => ?_) AllReadyH.nil
    go_simp
    go_at_call 42
    (with_reducible refine (HT.out _).mono ?_)
    rintro e wa ⟨rfl, gwa⟩
    refine hK.out _ _ (gb_trans hHeld gwa) (fun hHeld => ?_)
    clear hK K
    try simp only [Act.put, List.setIfInBounds_toArray, List.set_cons_zero, List.set_cons_succ]
    refine wpAnyH_ready (rs := [5]) (by kernel_rfl) (by simp) ?_
    refine AllReadyH.cons (List.getElem?_toArray.trans rfl) (fun K hK => ?_) AllReadyH.nil
    go_simp
    go_at_call 42
    (with_reducible refine (HV.out _).mono ?_)
    rintro e wb ⟨rfl, gwb⟩
    refine hK.out _ _ (gb_trans hHeld gwb) (fun hHeld => ?_)
    clear hK K
    try simp only [Act.put, List.setIfInBounds_toArray, List.set_cons_zero, List.set_cons_succ]
    refine wpAnyH_take (i := 6) (v := ?_) (List.getElem?_toArray.trans rfl) (by kernel_rfl) (by kernel_rfl) (by kernel_rfl) (fun _ _ _ h => h) (Or.inl ⟨by rfl, ?_⟩) hHeld ?_
    rotate_left
    · intro w' hSw; have d0 := hSw.cell c0 (by simp); have d1 := hSw.cell c1 (by simp); go_simp; try with_reducible rfl
    try simp only [Act.put, List.setIfInBounds_toArray, List.set_cons_zero, List.set_cons_succ]
    refine wpAnyH_take (i := 7) (v := ?_) (List.getElem?_toArray.trans rfl) (by kernel_rfl) (by kernel_rfl) (by kernel_rfl) (fun _ _ _ h => h) (Or.inl ⟨by rfl, ?_⟩) hHeld ?_
    rotate_left
    · intro w' hSw; have d0 := hSw.cell c0 (by simp); have d1 := hSw.cell c1 (by simp); go_simp; try with_reducible rfl
    try simp only [Act.put, List.setIfInBounds_toArray, List.set_cons_zero, List.set_cons_succ]
    refine wpAnyH_done (by kernel_rfl) ?_ _
    refine NoPanic.normal ?_
    go_wp2
    go_ret
    exact ⟨by first | rfl | (rw [HE.out]; rfl), gb_trans g0 hHeld⟩
  · obtain ⟨t2, ht2⟩ : ∃ t2 : ByteArray, ⟨(digits m 2).toArray⟩ = t2 := ⟨_, rfl⟩
    obtain ⟨t3, ht3⟩ : ∃ t3 : ByteArray, ⟨(digits o 2).toArray⟩ = t3 := ⟨_, rfl⟩
    have hz2 : t2.size = 2 := by rw [txt_size ht2, digits_length]
    have hz3 : t3.size = 2 := by rw [txt_size ht3, digits_length]
    have HM := Lib.hid (fun W => num_is hm ht2 W)
    have HO := Lib.hid (fun W => num_is ho ht3 W)
    have HE := Lib.hid (show t1 ++ ⟨#[255]⟩ ++ t2 ++ t3 = ⟨(cellL ⟨k, v, (m : Int), (o : Int)⟩).toArray⟩ by
      rw [he, ← ht1, ← ht2, ← ht3, show (⟨#[255]⟩ : ByteArray) = ⟨[255].toArray⟩ from rfl, str_append, str_append, str_append, List.append_assoc, List.append_assoc, List.append_assoc]; rfl)
    have hmz : ((m : Int) == 0) = false := by simp; omega
    have hw1 : IntKind.u64.wrap (m : Int) = (m : Int) := IntWalk.u64_in _ (by omega)
    have hw2 : IntKind.u64.wrap (o : Int) = (o : Int) := IntWalk.u64_in _ (by omega)
    clear ht1 ht2 ht3 he
    obtain ⟨q1, hq1⟩ : ∃ q1, t1 ++ ⟨#[255]⟩ = q1 := ⟨_, rfl⟩
    obtain ⟨q2, hq2⟩ : ∃ q2, q1 ++ t2 = q2 := ⟨_, rfl⟩
    have hsum1 : (9223372036854775807 < t1.size + 1) = False := by simp; omega
    have hs1 : q1.size ≤ 42 := by rw [← hq1, ByteArray.size_append]; show t1.size + 1 ≤ 42; omega
    have hsum2 : (9223372036854775807 < q1.size + 2) = False := by simp; omega
    have hs2 : q2.size ≤ 44 := by rw [← hq2, ByteArray.size_append]; omega
    have hsum3 : (9223372036854775807 < q2.size + 2) = False := by simp; omega
    rw [hq1, hq2] at HE
    go_enter Tryz.func40, Tryz.ntmps40
    go_upto_region 3 with fail
    rw [← HU.out]
    refine wp_region_noPanic ?_
    refine wp_region_held_drew (S := fun w' => u0.grownBy w' none) (by kernel_rfl) (gb_drew _ _) (fun hHeld => ?_)
    refine wpAnyH_take (i := 0) (v := ?_) (List.getElem?_toArray.trans rfl) (by kernel_rfl) (by kernel_rfl) (by kernel_rfl) (fun _ _ _ h => h) (Or.inl ⟨by rfl, ?_⟩) hHeld ?_
    rotate_left
    · intro w' hSw; have d0 := hSw.cell c0 (by simp); have d2 := hSw.cell c2 (by simp); have d3 := hSw.cell c3 (by simp); go_simp; try with_reducible rfl
    try simp only [Act.put, List.setIfInBounds_toArray, List.set_cons_zero, List.set_cons_succ]
    refine wpAnyH_take (i := 1) (v := ?_) (List.getElem?_toArray.trans rfl) (by kernel_rfl) (by kernel_rfl) (by kernel_rfl) (fun _ _ _ h => h) (Or.inl ⟨by rfl, ?_⟩) hHeld ?_
    rotate_left
    · intro w' hSw; have d0 := hSw.cell c0 (by simp); have d2 := hSw.cell c2 (by simp); have d3 := hSw.cell c3 (by simp); go_simp; try with_reducible rfl
    try simp only [Act.put, List.setIfInBounds_toArray, List.set_cons_zero, List.set_cons_succ]
    refine wpAnyH_take (i := 4) (v := ?_) (List.getElem?_toArray.trans rfl) (by kernel_rfl) (by kernel_rfl) (by kernel_rfl) (fun _ _ _ h => h) (Or.inl ⟨by rfl, ?_⟩) hHeld ?_
    rotate_left
    · intro w' hSw; have d0 := hSw.cell c0 (by simp); have d2 := hSw.cell c2 (by simp); have d3 := hSw.cell c3 (by simp); go_simp; try with_reducible rfl
    try simp only [Act.put, List.setIfInBounds_toArray, List.set_cons_zero, List.set_cons_succ]
    refine wpAnyH_take (i := 5) (v := ?_) (List.getElem?_toArray.trans rfl) (by kernel_rfl) (by kernel_rfl) (by kernel_rfl) (fun _ _ _ h => h) (Or.inl ⟨by rfl, ?_⟩) hHeld ?_
    rotate_left
    · intro w' hSw; have d0 := hSw.cell c0 (by simp); have d2 := hSw.cell c2 (by simp); have d3 := hSw.cell c3 (by simp); go_simp; try with_reducible rfl
    try simp only [Act.put, List.setIfInBounds_toArray, List.set_cons_zero, List.set_cons_succ]
    refine wpAnyH_take (i := 6) (v := ?_) (List.getElem?_toArray.trans rfl) (by kernel_rfl) (by kernel_rfl) (by kernel_rfl) (fun _ _ _ h => h) (Or.inl ⟨by rfl, ?_⟩) hHeld ?_
    rotate_left
    · intro w' hSw; have d0 := hSw.cell c0 (by simp); have d2 := hSw.cell c2 (by simp); have d3 := hSw.cell c3 (by simp); go_simp; try with_reducible rfl
    try simp only [Act.put, List.setIfInBounds_toArray, List.set_cons_zero, List.set_cons_succ]
    refine wpAnyH_take (i := 9) (v := ?_) (List.getElem?_toArray.trans rfl) (by kernel_rfl) (by kernel_rfl) (by kernel_rfl) (fun _ _ _ h => h) (Or.inl ⟨by rfl, ?_⟩) hHeld ?_
    rotate_left
    · intro w' hSw; have d0 := hSw.cell c0 (by simp); have d2 := hSw.cell c2 (by simp); have d3 := hSw.cell c3 (by simp); go_simp; try with_reducible rfl
    try simp only [Act.put, List.setIfInBounds_toArray, List.set_cons_zero, List.set_cons_succ]
    refine wpAnyH_take (i := 10) (v := ?_) (List.getElem?_toArray.trans rfl) (by kernel_rfl) (by kernel_rfl) (by kernel_rfl) (fun _ _ _ h => h) (Or.inl ⟨by rfl, ?_⟩) hHeld ?_
    rotate_left
    · intro w' hSw; have d0 := hSw.cell c0 (by simp); have d2 := hSw.cell c2 (by simp); have d3 := hSw.cell c3 (by simp); go_simp; try with_reducible rfl
    try simp only [Act.put, List.setIfInBounds_toArray, List.set_cons_zero, List.set_cons_succ]
    refine wpAnyH_take (i := 11) (v := ?_) (List.getElem?_toArray.trans rfl) (by kernel_rfl) (by kernel_rfl) (by kernel_rfl) (fun _ _ _ h => h) (Or.inl ⟨by rfl, ?_⟩) hHeld ?_
    rotate_left
    · intro w' hSw; have d0 := hSw.cell c0 (by simp); have d2 := hSw.cell c2 (by simp); have d3 := hSw.cell c3 (by simp); go_simp; try with_reducible rfl
    try simp only [Act.put, List.setIfInBounds_toArray, List.set_cons_zero, List.set_cons_succ]
    refine wpAnyH_ready (rs := [2]) (by kernel_rfl) (by simp) ?_
    refine AllReadyH.cons (List.getElem?_toArray.trans rfl) (fun K hK => ?_) AllReadyH.nil
    go_simp
    go_at_call 42
    (with_reducible refine (HT.out _).mono ?_)
    rintro e wa ⟨rfl, gwa⟩
    refine hK.out _ _ (gb_trans hHeld gwa) (fun hHeld => ?_)
    clear hK K
    try simp only [Act.put, List.setIfInBounds_toArray, List.set_cons_zero, List.set_cons_succ]
    refine wpAnyH_take (i := 3) (v := ?_) (List.getElem?_toArray.trans rfl) (by kernel_rfl) (by kernel_rfl) (by kernel_rfl) (fun _ _ _ h => h) (Or.inl ⟨by rfl, ?_⟩) hHeld ?_
    rotate_left
    · intro w' hSw; have d0 := hSw.cell c0 (by simp); have d2 := hSw.cell c2 (by simp); have d3 := hSw.cell c3 (by simp); go_simp; try with_reducible rfl
    try simp only [Act.put, List.setIfInBounds_toArray, List.set_cons_zero, List.set_cons_succ]
    refine wpAnyH_ready (rs := [7]) (by kernel_rfl) (by simp) ?_
    refine AllReadyH.cons (List.getElem?_toArray.trans rfl) (fun K hK => ?_) AllReadyH.nil
    go_simp
    go_at_call 41
    (with_reducible refine (HM.out _).mono ?_)
    rintro e wb ⟨rfl, gwb⟩
    refine hK.out _ _ (gb_trans hHeld gwb) (fun hHeld => ?_)
    clear hK K
    try simp only [Act.put, List.setIfInBounds_toArray, List.set_cons_zero, List.set_cons_succ]
    refine wpAnyH_take (i := 8) (v := ?_) (List.getElem?_toArray.trans rfl) (by kernel_rfl) (by kernel_rfl) (by kernel_rfl) (fun _ _ _ h => h) (Or.inl ⟨by rfl, ?_⟩) hHeld ?_
    rotate_left
    · intro w' hSw; have d0 := hSw.cell c0 (by simp); have d2 := hSw.cell c2 (by simp); have d3 := hSw.cell c3 (by simp); go_simp; try with_reducible rfl
    try simp only [Act.put, List.setIfInBounds_toArray, List.set_cons_zero, List.set_cons_succ]
    refine wpAnyH_ready (rs := [12]) (by kernel_rfl) (by simp) ?_
    refine AllReadyH.cons (List.getElem?_toArray.trans rfl) (fun K hK => ?_) AllReadyH.nil
    go_simp
    go_at_call 41
    (with_reducible refine (HO.out _).mono ?_)
    rintro e wc ⟨rfl, gwc⟩
    refine hK.out _ _ (gb_trans hHeld gwc) (fun hHeld => ?_)
    clear hK K
    try simp only [Act.put, List.setIfInBounds_toArray, List.set_cons_zero, List.set_cons_succ]
    refine wpAnyH_take (i := 13) (v := ?_) (List.getElem?_toArray.trans rfl) (by kernel_rfl) (by kernel_rfl) (by kernel_rfl) (fun _ _ _ h => h) (Or.inl ⟨by rfl, ?_⟩) hHeld ?_
    rotate_left
    · intro w' hSw; have d0 := hSw.cell c0 (by simp); have d2 := hSw.cell c2 (by simp); have d3 := hSw.cell c3 (by simp); go_simp; try with_reducible rfl
    try simp only [Act.put, List.setIfInBounds_toArray, List.set_cons_zero, List.set_cons_succ]
    refine wpAnyH_take (i := 14) (v := ?_) (List.getElem?_toArray.trans rfl) (by kernel_rfl) (by kernel_rfl) (by kernel_rfl) (fun _ _ _ h => h) (Or.inl ⟨by rfl, ?_⟩) hHeld ?_
    rotate_left
    · intro w' hSw; have d0 := hSw.cell c0 (by simp); have d2 := hSw.cell c2 (by simp); have d3 := hSw.cell c3 (by simp); go_simp; try with_reducible rfl
    try simp only [Act.put, List.setIfInBounds_toArray, List.set_cons_zero, List.set_cons_succ]
    refine wpAnyH_done (by kernel_rfl) ?_ _
    refine NoPanic.normal ?_
    go_wp2
    go_ret
    exact ⟨by first | rfl | (rw [HE.out]; rfl), gb_trans g0 hHeld⟩
end Go.Proofs.YthhimhjegodklaaGreat.N11

