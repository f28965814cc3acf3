/-
  FateEnds' walk: for all letters, all drawn writes and every place the statement's function returns true; condition: the table of masks reads as the program lays it.
-/
import Derived.Test.YtefpnhckplcfgaaDoorFe
namespace Go.Proofs.YtefpnhckplcfgaaDoor
open Go.RowKit

theorem came_nil (N i : Nat) : (cameF [] N).getD i false = false := by
  unfold cameF
  simp only [List.getD, List.getElem?_map]
  by_cases h : i < N
  · simp [h, wentB]
  · simp [h]
theorem all_at (ss : List ByteArray) (ws : List (Int × ByteArray)) (N k : Nat) : (foldW ws (-1) 0 ss (List.range N)).getD k noS = lastF ss ws (List.replicate N true) (-1) 0 k N := by
  unfold lastF; rw [came_all N N (Nat.le_refl _)]
theorem wrC_append (p q : List (Int × ByteArray)) : wrC (p ++ q) = wrC p ++ wrC q := by simp [wrC]
theorem wts_take {w : World} {ao : Option Addr} {n cap m : Nat} {l : List (Int × ByteArray)} (h : Wts w (.slice ao n cap) l) (hl : l.length = n) (hm : m ≤ n) : Wts w (.slice ao m cap) (l.take m) := by
  obtain ⟨ao', cap', e, hc, _, hn, hx⟩ := h
  injection e with e1 e2 e3
  subst e1; subst e3
  have hlm : (l.take m).length = m := by rw [List.length_take]; omega
  refine ⟨ao, cap, by rw [hlm], by rw [hlm]; omega, wrC_length _, fun e => ⟨by rw [hlm]; have := (hn e).1; omega, (hn e).2⟩, ?_⟩
  intro a e j u hj
  have hj2 := (List.getElem?_eq_some_iff.1 hj).1
  rw [wrC_length, hlm] at hj2
  refine hx a e j u ?_
  rw [← hj]
  have : wrC l = wrC (l.take m) ++ wrC (l.drop m) := by rw [← wrC_append, List.take_append_drop]
  rw [this, List.getElem?_append_left (by rw [wrC_length, hlm]; omega)]
theorem wts_drop {w : World} {a : Addr} {n cap m : Nat} {l : List (Int × ByteArray)} (h : Wts w (.slice (some a) n cap) l) (hl : l.length = n) (hm : m ≤ n) : Wts w (.slice (some (a.add (m * 2))) (n - m) (cap - m)) (l.drop m) := by
  obtain ⟨ao', cap', e, hc, _, hn, hx⟩ := h
  injection e with e1 e2 e3
  subst e1; subst e3
  have hlm : (l.drop m).length = n - m := by rw [List.length_drop]; omega
  refine ⟨some (a.add (m * 2)), cap - m, by rw [hlm], by rw [hlm]; omega, wrC_length _, (fun e => by cases e), ?_⟩
  intro b e j u hj
  cases e
  rw [add_add]
  refine hx a rfl _ u ?_
  rw [← hj]
  have : wrC l = wrC (l.take m) ++ wrC (l.drop m) := by rw [← wrC_append, List.take_append_drop]
  have hlt : (wrC (l.take m)).length = m * 2 := by rw [wrC_length, List.length_take]; congr 1; omega
  rw [this, List.getElem?_append_right (by omega), hlt, Nat.add_sub_cancel_left]
theorem wts_empty (w : World) (l : List (Int × ByteArray)) (h : l = []) : Wts w (.slice none 0 0) l := by subst h; exact Sl.nil 2 w
theorem wts_drop_if {w : World} {a : Addr} {n cap m : Nat} {l : List (Int × ByteArray)} (h : Wts w (.slice (some a) n cap) l) (hl : l.length = n) (hm : m ≤ n) (hc : n ≤ cap) : Wts w (.slice (if cap = m then some a else some (a.add (m * 2))) (n - m) (cap - m)) (l.drop m) := by
  by_cases e : cap = m
  · rw [if_pos e]
    have hnm : n = m := by omega
    have hd : l.drop m = [] := List.drop_eq_nil_of_le (by omega)
    rw [hd]
    refine ⟨some a, cap - m, by rw [hnm]; simp, Nat.zero_le _, rfl, (fun e => by cases e), ?_⟩
    intro b _ j u hj
    cases hj
  · rw [if_neg e]; exact wts_drop h hl hm
set_option maxRecDepth 100000 in
set_option maxHeartbeats 2000000 in
theorem ends_walk (v0 v1 : Value) (l0 : List UInt8) (ly : List Lay) (c : UInt8) (w : World) (hm : Masks w) (h0 : Bts w v0 l0) (h1 : Lys w v1 ly) :
    Calls Tryd.prog 8 #[v0, v1, .int .u8 (c.toNat : Nat)] w (TrueGot w) := by
  have HM := Lib.hid hm
  have H0 := Lib.hid h0
  have H1 := Lib.hid h1
  clear hm h1 h0
  obtain ⟨N, hN⟩ : ∃ N, (wrsF ly).length = N := ⟨_, rfl⟩
  have hN20 : N ≤ 20 := by rw [← hN, wrsF_length]; omega
  have HN := Lib.hid hN
  obtain ⟨n, hn⟩ : ∃ n, (secsF l0).length = n := ⟨_, rfl⟩
  have hn8 : n ≤ 8 := by rw [← hn, secsF_length]; omega
  have HNN := Lib.hid hn
  have hcm : manyN ((N : Nat) : Int) = N := by unfold manyN; omega
  have hmay := read_may [] N
  have hlen := cameF_length [] N
  have hcn := came_nil N
  have HRd : ∀ W, w.grownBy W none → Calls Tryd.prog 10 #[.slice none 0 0, .int .i64 (N : Nat)] W (FateGot W (cameF [] N) (tornF [] N) (atF [] N)) := by
    intro W g
    have h := read_any (.slice none 0 0) [] (N : Nat) W (HM.out.keep0 g) (Bts.nil W) (by omega) (by omega)
    rw [hcm] at h
    exact h
  generalize cameF [] N = l at hmay hlen HRd hcn
  generalize tornF [] N = t at hmay HRd
  generalize atF [] N = a at hmay HRd
  have HR := Lib.hid HRd
  have ha : 0 ≤ a ∧ a ≤ 256 := by
    rcases may_cases hmay with ⟨_, h⟩ | ⟨_, _, _, _, h⟩ <;> omega
  have HWh : Hid (∀ (p : Nat) (z : Int) (W : World), z = p → p ≤ 20 → Calls Tryd.prog 12 #[.int .i64 z] W (FateGot W (List.replicate p true) (-1) 0)) := by
    refine Lib.hid ?_
    rintro p z W rfl hp
    have h := whole_any (p : Nat) W (by omega) (by omega)
    rw [show manyN ((p : Nat) : Int) = p by unfold manyN; omega] at h
    exact h
  have HSL : Hid ((secsF l0).length ≤ 1000) := Lib.hid (by rw [secsF_length]; omega)
  have HWL : Hid ((wrsF ly).length ≤ 1000) := Lib.hid (by rw [HN.out]; omega)
  have HNo : Hid (afterF (secsF l0) (wrsF ly) l t a = secsF l0) := Lib.hid (after_none _ _ _ _ _ hcn)
  have HAl : Hid (afterF (secsF l0) (wrsF ly) (List.replicate N true) (-1) 0 = foldW (wrsF ly) (-1) 0 (secsF l0) (List.range N)) := Lib.hid (after_all _ _ _ _ _)
  have HFL : Hid ((foldW (wrsF ly) (-1) 0 (secsF l0) (List.range N)).length = n) := Lib.hid (by rw [foldW_length, hn])
  obtain ⟨m, hmm⟩ : ∃ m : Nat, c.toNat % (N + 1) = m := ⟨_, rfl⟩
  have hmN : m ≤ N := by have := Nat.mod_lt c.toNat (show 0 < N + 1 by omega); omega
  have hc256 := c.toNat_lt
  have hw1 : IntKind.i64.wrap ((N : Int) + 1) = (N : Int) + 1 := IntWalk.i64_in _ (by omega)
  have hz1 : ((N : Int) + 1 = 0) = False := by simp; omega
  have hwr : IntKind.i64.wrap (m : Int) = (m : Int) := IntWalk.i64_in _ (by omega)
  have hrm : ((c.toNat : Nat) : Int).tmod ((N : Int) + 1) = (m : Int) := by
    rw [← hmm]; exact (Int.ofNat_tmod _ _).symm
  have HHf : Hid (afterF (afterF (secsF l0) ((wrsF ly).take m) (List.replicate m true) (-1) 0) ((wrsF ly).drop m) (List.replicate (N - m) true) (-1) 0 = foldW (wrsF ly) (-1) 0 (secsF l0) (List.range N)) := by
    have h := after_halves (secsF l0) (wrsF ly) m (by rw [hN]; exact hmN)
    rw [hN] at h
    exact Lib.hid h
  clear HRd hmay hcm hN hn hcn hmm
  generalize c.toNat = cn at hc256 hrm ⊢
  go_enter Tryd.func8, Tryd.ntmps8
  go_wp2_with (first
    | (go_at_call 14; (with_reducible refine (works_any _ HM.out).mono ?_); rintro e w0 ⟨rfl, g0⟩)
    | (go_at_call 17; (with_reducible refine (sectors_any _ l0 _ (H0.out.keep0 g0)).mono ?_); rintro e w1 ⟨vs, rfl, hvs, g1⟩; replace g0 := gb_trans g0 g1; have HS := Lib.hid hvs; obtain ⟨xo, xcap, rfl, _, _, _, _⟩ := hvs; rw [HNN.out] at HS; rw [HNN.out])
    | (go_at_call 18; (with_reducible refine (writes_any _ ly _ (H1.out.keep0 g0)).mono ?_); rintro e w2 ⟨vw, rfl, hvw, g2⟩; replace HS := Lib.hid (HS.out.keep0 g2); replace g0 := gb_trans g0 g2; have HW := Lib.hid hvw; obtain ⟨yo, ycap, rfl, hyc, _, hyn, _⟩ := hvw; rw [HN.out] at HW hyc hyn; rw [HN.out])
    | (go_at_call 12; (with_reducible refine (HWh.out N _ _ rfl hN20).mono ?_); rintro e w3 ⟨vf, rfl, hvf, g3⟩; replace HS := Lib.hid (HS.out.keep0 g3); replace HW := Lib.hid (HW.out.keep0 g3); replace g0 := gb_trans g0 g3)
    | (go_at_call 19; (with_reducible refine (after_any _ _ _ (secsF l0) (wrsF ly) (List.replicate N true) (-1) 0 _ HS.out HW.out hvf (by rw [List.length_replicate]; omega) HSL.out HWL.out (secsF_whole l0) (by omega) (by omega)).mono ?_); rintro e w4 ⟨vg, rfl, hvg, g4⟩; replace HS := Lib.hid (HS.out.keep0 g4); replace HW := Lib.hid (HW.out.keep0 g4); replace g0 := gb_trans g0 g4; rw [HAl.out] at hvg; have HA := Lib.hid hvg; obtain ⟨ao, acap, rfl, _, _, _, _⟩ := hvg; rw [HFL.out] at HA; rw [HFL.out]; clear hvf HAl)
    | (go_at_call 10; (with_reducible refine (HR.out _ g0).mono ?_); rintro e w5 ⟨vr, rfl, hvr, g5⟩; replace HS := Lib.hid (HS.out.keep0 g5); replace HW := Lib.hid (HW.out.keep0 g5); replace HA := Lib.hid (HA.out.keep0 g5); replace g0 := gb_trans g0 g5)
    | (go_at_call 19; (with_reducible refine (after_any _ _ _ (secsF l0) (wrsF ly) l t a _ HS.out HW.out hvr (by omega) HSL.out HWL.out (secsF_whole l0) (by omega) (by omega)).mono ?_); rintro e w6 ⟨vn, rfl, hvn, g6⟩; replace HS := Lib.hid (HS.out.keep0 g6); replace HW := Lib.hid (HW.out.keep0 g6); replace HA := Lib.hid (HA.out.keep0 g6); replace g0 := gb_trans g0 g6; rw [HNo.out] at hvn; have HB := Lib.hid hvn; obtain ⟨bo, bcap, rfl, _, _, _, _⟩ := hvn; rw [HNN.out] at HB; rw [HNN.out]))
  obtain ⟨Q, hQ⟩ : ∃ Q, afterF (secsF l0) ((wrsF ly).take m) (List.replicate m true) (-1) 0 = Q := ⟨_, rfl⟩
  have HQL : Hid (Q.length ≤ 1000) := Lib.hid (by rw [← hQ]; unfold afterF; rw [foldW_length]; exact HSL.out)
  have HQW : Hid (Whole256 Q) := Lib.hid (by rw [← hQ]; exact foldW_whole _ _ _ _ _ (secsF_whole l0))
  have HTL : Hid (((wrsF ly).take m).length ≤ 1000) := Lib.hid (by rw [List.length_take]; have := HWL.out; omega)
  have HDL : Hid (((wrsF ly).drop m).length ≤ 1000) := Lib.hid (by rw [List.length_drop]; have := HWL.out; omega)
  rw [hQ] at HHf
  have hwd : IntKind.i64.wrap ((N : Int) - (m : Int)) = (N : Int) - (m : Int) := IntWalk.i64_in _ (by omega)
  have hm0 : (0 : Int) ≤ (m : Int) := by omega
  have hm1 : (m : Int) ≤ (N : Int) := by omega
  have hm2 : (m : Int) ≤ (ycap : Int) := by omega
  have hm3 : (N : Int) ≤ (ycap : Int) := by omega
  clear hw1 hz1 hwr hrm
  have HYC := Lib.hid hyc
  cases yo with
  | none =>
    obtain ⟨h1, h2⟩ := hyn rfl
    subst h1; subst h2
    obtain rfl : m = 0 := by omega
    have hw0 : IntKind.i64.wrap 0 = 0 := IntWalk.i64_in _ (by omega)
    refine wp_region_noPanic ?_
    refine wp_region_held_drew (S := fun w' => (w6).grownBy w' none) (by kernel_rfl) (gb_drew _ _) (fun hHeld => ?_)
    refine wpAnyH_take (i := 0) (v := ?_) (List.getElem?_toArray.trans rfl) (by kernel_rfl) (by kernel_rfl) (by kernel_rfl) (fun _ _ _ h => h) (Or.inl ⟨by rfl, ?_⟩) hHeld ?_
    rotate_left
    · intro w' hSw; go_simp; try with_reducible rfl
    try simp only [Act.put, List.setIfInBounds_toArray, List.set_cons_zero, List.set_cons_succ]
    refine wpAnyH_take (i := 1) (v := ?_) (List.getElem?_toArray.trans rfl) (by kernel_rfl) (by kernel_rfl) (by kernel_rfl) (fun _ _ _ h => h) (Or.inl ⟨by rfl, ?_⟩) hHeld ?_
    rotate_left
    · intro w' hSw; go_simp; try with_reducible rfl
    try simp only [Act.put, List.setIfInBounds_toArray, List.set_cons_zero, List.set_cons_succ]
    refine wpAnyH_take (i := 2) (v := ?_) (List.getElem?_toArray.trans rfl) (by kernel_rfl) (by kernel_rfl) (by kernel_rfl) (fun _ _ _ h => h) (Or.inl ⟨by rfl, ?_⟩) hHeld ?_
    rotate_left
    · intro w' hSw; go_simp; try with_reducible rfl
    try simp only [Act.put, List.setIfInBounds_toArray, List.set_cons_zero, List.set_cons_succ]
    refine wpAnyH_take (i := 3) (v := ?_) (List.getElem?_toArray.trans rfl) (by kernel_rfl) (by kernel_rfl) (by kernel_rfl) (fun _ _ _ h => h) (Or.inl ⟨by rfl, ?_⟩) hHeld ?_
    rotate_left
    · intro w' hSw; go_simp; try with_reducible rfl
    try simp only [Act.put, List.setIfInBounds_toArray, List.set_cons_zero, List.set_cons_succ]
    refine wpAnyH_take (i := 4) (v := ?_) (List.getElem?_toArray.trans rfl) (by kernel_rfl) (by kernel_rfl) (by kernel_rfl) (fun _ _ _ h => h) (Or.inl ⟨by rfl, ?_⟩) hHeld ?_
    rotate_left
    · intro w' hSw; go_simp; try with_reducible rfl
    try simp only [Act.put, List.setIfInBounds_toArray, List.set_cons_zero, List.set_cons_succ]
    refine wpAnyH_take (i := 7) (v := ?_) (List.getElem?_toArray.trans rfl) (by kernel_rfl) (by kernel_rfl) (by kernel_rfl) (fun _ _ _ h => h) (Or.inl ⟨by rfl, ?_⟩) hHeld ?_
    rotate_left
    · intro w' hSw; go_simp; try with_reducible rfl
    try simp only [Act.put, List.setIfInBounds_toArray, List.set_cons_zero, List.set_cons_succ]
    refine wpAnyH_take (i := 8) (v := ?_) (List.getElem?_toArray.trans rfl) (by kernel_rfl) (by kernel_rfl) (by kernel_rfl) (fun _ _ _ h => h) (Or.inl ⟨by rfl, ?_⟩) hHeld ?_
    rotate_left
    · intro w' hSw; go_simp; try with_reducible rfl
    try simp only [Act.put, List.setIfInBounds_toArray, List.set_cons_zero, List.set_cons_succ]
    refine wpAnyH_take (i := 9) (v := ?_) (List.getElem?_toArray.trans rfl) (by kernel_rfl) (by kernel_rfl) (by kernel_rfl) (fun _ _ _ h => h) (Or.inl ⟨by rfl, ?_⟩) hHeld ?_
    rotate_left
    · intro w' hSw; go_simp; try with_reducible rfl
    try simp only [Act.put, List.setIfInBounds_toArray, List.set_cons_zero, List.set_cons_succ]
    refine wpAnyH_take (i := 10) (v := ?_) (List.getElem?_toArray.trans rfl) (by kernel_rfl) (by kernel_rfl) (by kernel_rfl) (fun _ _ _ h => h) (Or.inl ⟨by rfl, ?_⟩) hHeld ?_
    rotate_left
    · intro w' hSw; go_simp; try with_reducible rfl
    try simp only [Act.put, List.setIfInBounds_toArray, List.set_cons_zero, List.set_cons_succ]
    refine wpAnyH_take (i := 11) (v := ?_) (List.getElem?_toArray.trans rfl) (by kernel_rfl) (by kernel_rfl) (by kernel_rfl) (fun _ _ _ h => h) (Or.inl ⟨by rfl, ?_⟩) hHeld ?_
    rotate_left
    · intro w' hSw; go_simp; try with_reducible rfl
    try simp only [Act.put, List.setIfInBounds_toArray, List.set_cons_zero, List.set_cons_succ]
    refine wpAnyH_take (i := 12) (v := ?_) (List.getElem?_toArray.trans rfl) (by kernel_rfl) (by kernel_rfl) (by kernel_rfl) (fun _ _ _ h => h) (Or.inl ⟨by rfl, ?_⟩) hHeld ?_
    rotate_left
    · intro w' hSw; go_simp; try with_reducible rfl
    try simp only [Act.put, List.setIfInBounds_toArray, List.set_cons_zero, List.set_cons_succ]
    refine wpAnyH_take (i := 13) (v := ?_) (List.getElem?_toArray.trans rfl) (by kernel_rfl) (by kernel_rfl) (by kernel_rfl) (fun _ _ _ h => h) (Or.inl ⟨by rfl, ?_⟩) hHeld ?_
    rotate_left
    · intro w' hSw; go_simp; try with_reducible rfl
    try simp only [Act.put, List.setIfInBounds_toArray, List.set_cons_zero, List.set_cons_succ]
    refine wpAnyH_ready (rs := [5]) (by kernel_rfl) (by simp) ?_
    refine AllReadyH.cons (List.getElem?_toArray.trans rfl) (fun K hK => ?_) AllReadyH.nil
    go_simp
    go_at_call 12
    (with_reducible refine (HWh.out 0 _ _ (by omega) (by omega)).mono ?_)
    rintro e wh ⟨vh, rfl, hvh, gN⟩
    refine hK.out _ _ (gb_trans hHeld gN) (fun hHeld => ?_)
    clear hK K
    try simp only [Act.put, List.setIfInBounds_toArray, List.set_cons_zero, List.set_cons_succ]
    refine wpAnyH_ready (rs := [6]) (by kernel_rfl) (by simp) ?_
    refine AllReadyH.cons (List.getElem?_toArray.trans rfl) (fun K hK => ?_) AllReadyH.nil
    go_simp
    go_at_call 19
    (with_reducible refine (after_any _ _ _ (secsF l0) ((wrsF ly).take 0) (List.replicate 0 true) (-1) 0 _ (HS.out.keep0 hHeld) (wts_empty _ _ rfl) hvh (by rw [List.length_replicate]; omega) HSL.out HTL.out (secsF_whole l0) (by omega) (by omega)).mono ?_)
    rintro e wi ⟨vi, rfl, hvi, gN⟩
    rw [hQ] at hvi
    clear hvh
    refine hK.out _ _ (gb_trans hHeld gN) (fun hHeld => ?_)
    clear hK K
    try simp only [Act.put, List.setIfInBounds_toArray, List.set_cons_zero, List.set_cons_succ]
    refine wpAnyH_ready (rs := [14]) (by kernel_rfl) (by simp) ?_
    refine AllReadyH.cons (List.getElem?_toArray.trans rfl) (fun K hK => ?_) AllReadyH.nil
    go_simp
    go_at_call 12
    (with_reducible refine (HWh.out (0 - 0) _ _ (by omega) (by omega)).mono ?_)
    rintro e wj ⟨vj, rfl, hvj, gN⟩
    replace hvi := hvi.keep0 gN
    refine hK.out _ _ (gb_trans hHeld gN) (fun hHeld => ?_)
    clear hK K
    try simp only [Act.put, List.setIfInBounds_toArray, List.set_cons_zero, List.set_cons_succ]
    refine wpAnyH_ready (rs := [15]) (by kernel_rfl) (by simp) ?_
    refine AllReadyH.cons (List.getElem?_toArray.trans rfl) (fun K hK => ?_) AllReadyH.nil
    go_simp
    go_at_call 19
    (with_reducible refine (after_any _ _ _ Q ((wrsF ly).drop 0) (List.replicate (0 - 0) true) (-1) 0 _ hvi (wts_empty _ _ (by rw [List.drop_zero]; exact List.eq_nil_of_length_eq_zero HN.out)) hvj (by rw [List.length_replicate]; omega) HQL.out HDL.out HQW.out (by omega) (by omega)).mono ?_)
    rintro e wk ⟨vk, rfl, hvk, gN⟩
    rw [HHf.out] at hvk
    have HC := Lib.hid hvk
    obtain ⟨co, ccap, rfl, _, _, _, _⟩ := hvk
    rw [HFL.out] at HC
    rw [HFL.out]
    clear hvi hvj
    refine hK.out _ _ (gb_trans hHeld gN) (fun hHeld => ?_)
    clear hK K
    try simp only [Act.put, List.setIfInBounds_toArray, List.set_cons_zero, List.set_cons_succ]
    refine wpAnyH_take (i := 16) (v := ?_) (List.getElem?_toArray.trans rfl) (by kernel_rfl) (by kernel_rfl) (by kernel_rfl) (fun _ _ _ h => h) (Or.inl ⟨by rfl, ?_⟩) hHeld ?_
    rotate_left
    · intro w' hSw; go_simp; try with_reducible rfl
    try simp only [Act.put, List.setIfInBounds_toArray, List.set_cons_zero, List.set_cons_succ]
    refine wpAnyH_done (by kernel_rfl) ?_ _
    refine NoPanic.normal ?_
    have g7 := gb_trans g0 hHeld
    replace HA := Lib.hid (HA.out.keep0 hHeld)
    replace HB := Lib.hid (HB.out.keep0 hHeld)
    replace HS := Lib.hid (HS.out.keep0 hHeld)
    replace HW := Lib.hid (HW.out.keep0 hHeld)
    clear hm0 hm1 hm2 hm3 hwd
    go_wp2_with fail
    go_loopw [13] (fun v wr => ∃ k : Nat, k ≤ n ∧ v = .int .i64 k ∧ wk.grownBy wr none) (fun v _ => n - (intOf v).toNat)
    case atStart => exact ⟨0, by omega, rfl, gb_refl _ _⟩
    case round =>
      obtain ⟨k, hk, rfl, hg⟩ := hrel
      by_cases hkn : k < n
      · have hkn' : (k : Int) < (n : Int) := by omega
        have hk0 : (0 : Int) ≤ (k : Int) := by omega
        have hkl : Hid (k < (secsF l0).length) := Lib.hid (by rw [HNN.out]; omega)
        obtain ⟨ax, rfl, d0⟩ := sts_cell (HS.out.keep0 hg) (j := k) hkl.out
        go_wp2_with fail
        go_loopw [14, 15] (fun v14 v15 ww => ∃ i : Nat, i ≤ 0 ∧ v14 = .string (lastF (secsF l0) (wrsF ly) (List.replicate 0 true) (-1) 0 k i) ∧ v15 = .int .i64 i ∧ wr.grownBy ww none) (fun _ v _ => 0 - (intOf v).toNat)
        case atStart => exact ⟨0, by omega, rfl, rfl, gb_refl _ _⟩
        case round =>
          obtain ⟨i, hi, rfl, rfl, hgi⟩ := hrel
          have hS := gb_trans hg hgi
          replace d0 := hgi.cell d0 (by simp)
          obtain rfl : i = 0 := by omega
          obtain ⟨aa, rfl, d1⟩ := sts_cell (HA.out.keep0 hS) (j := k) (by rw [HFL.out]; omega)
          obtain ⟨ac, rfl, d2⟩ := sts_cell (HC.out.keep0 hS) (j := k) (by rw [HFL.out]; omega)
          obtain ⟨ab, rfl, d3⟩ := sts_cell (HB.out.keep0 hS) (j := k) hkl.out
          rw [all_at] at d1 d2
          generalize lastF (secsF l0) (wrsF ly) (List.replicate 0 true) (-1) 0 k 0 = L at d1 d2 ⊢
          generalize (secsF l0).getD k noS = s0 at d0 d3
          go_wp2_with fail
          go_quiet (fail)
          go_wp2
          go_roundw
          case rel => exact ⟨k + 1, by omega, by go_num, gb_trans hS (gb_drewN _ _ _)⟩
          case measure => simp [intOf]; omega
      · obtain rfl : k = n := by omega
        go_wp2
        go_ret
        exact ⟨rfl, gb_trans g7 hg⟩
  | some y =>
    refine wp_region_noPanic ?_
    refine wp_region_held_drew (S := fun w' => (w6).grownBy w' none) (by kernel_rfl) (gb_drew _ _) (fun hHeld => ?_)
    refine wpAnyH_take (i := 0) (v := ?_) (List.getElem?_toArray.trans rfl) (by kernel_rfl) (by kernel_rfl) (by kernel_rfl) (fun _ _ _ h => h) (Or.inl ⟨by rfl, ?_⟩) hHeld ?_
    rotate_left
    · intro w' hSw; go_simp; try with_reducible rfl
    try simp only [Act.put, List.setIfInBounds_toArray, List.set_cons_zero, List.set_cons_succ]
    refine wpAnyH_take (i := 1) (v := ?_) (List.getElem?_toArray.trans rfl) (by kernel_rfl) (by kernel_rfl) (by kernel_rfl) (fun _ _ _ h => h) (Or.inl ⟨by rfl, ?_⟩) hHeld ?_
    rotate_left
    · intro w' hSw; go_simp; try with_reducible rfl
    try simp only [Act.put, List.setIfInBounds_toArray, List.set_cons_zero, List.set_cons_succ]
    refine wpAnyH_take (i := 2) (v := ?_) (List.getElem?_toArray.trans rfl) (by kernel_rfl) (by kernel_rfl) (by kernel_rfl) (fun _ _ _ h => h) (Or.inl ⟨by rfl, ?_⟩) hHeld ?_
    rotate_left
    · intro w' hSw; go_simp; try with_reducible rfl
    try simp only [Act.put, List.setIfInBounds_toArray, List.set_cons_zero, List.set_cons_succ]
    refine wpAnyH_take (i := 3) (v := ?_) (List.getElem?_toArray.trans rfl) (by kernel_rfl) (by kernel_rfl) (by kernel_rfl) (fun _ _ _ h => h) (Or.inl ⟨by rfl, ?_⟩) hHeld ?_
    rotate_left
    · intro w' hSw; go_simp; try with_reducible rfl
    try simp only [Act.put, List.setIfInBounds_toArray, List.set_cons_zero, List.set_cons_succ]
    refine wpAnyH_take (i := 4) (v := ?_) (List.getElem?_toArray.trans rfl) (by kernel_rfl) (by kernel_rfl) (by kernel_rfl) (fun _ _ _ h => h) (Or.inl ⟨by rfl, ?_⟩) hHeld ?_
    rotate_left
    · intro w' hSw; go_simp; try with_reducible rfl
    try simp only [Act.put, List.setIfInBounds_toArray, List.set_cons_zero, List.set_cons_succ]
    refine wpAnyH_take (i := 7) (v := ?_) (List.getElem?_toArray.trans rfl) (by kernel_rfl) (by kernel_rfl) (by kernel_rfl) (fun _ _ _ h => h) (Or.inl ⟨by rfl, ?_⟩) hHeld ?_
    rotate_left
    · intro w' hSw; go_simp; try with_reducible rfl
    try simp only [Act.put, List.setIfInBounds_toArray, List.set_cons_zero, List.set_cons_succ]
    refine wpAnyH_take (i := 8) (v := ?_) (List.getElem?_toArray.trans rfl) (by kernel_rfl) (by kernel_rfl) (by kernel_rfl) (fun _ _ _ h => h) (Or.inl ⟨by rfl, ?_⟩) hHeld ?_
    rotate_left
    · intro w' hSw; go_simp; try with_reducible rfl
    try simp only [Act.put, List.setIfInBounds_toArray, List.set_cons_zero, List.set_cons_succ]
    refine wpAnyH_take (i := 9) (v := ?_) (List.getElem?_toArray.trans rfl) (by kernel_rfl) (by kernel_rfl) (by kernel_rfl) (fun _ _ _ h => h) (Or.inl ⟨by rfl, ?_⟩) hHeld ?_
    rotate_left
    · intro w' hSw; go_simp; try with_reducible rfl
    try simp only [Act.put, List.setIfInBounds_toArray, List.set_cons_zero, List.set_cons_succ]
    refine wpAnyH_take (i := 10) (v := ?_) (List.getElem?_toArray.trans rfl) (by kernel_rfl) (by kernel_rfl) (by kernel_rfl) (fun _ _ _ h => h) (Or.inl ⟨by rfl, ?_⟩) hHeld ?_
    rotate_left
    · intro w' hSw; go_simp; try with_reducible rfl
    try simp only [Act.put, List.setIfInBounds_toArray, List.set_cons_zero, List.set_cons_succ]
    refine wpAnyH_take (i := 11) (v := ?_) (List.getElem?_toArray.trans rfl) (by kernel_rfl) (by kernel_rfl) (by kernel_rfl) (fun _ _ _ h => h) (Or.inl ⟨by rfl, ?_⟩) hHeld ?_
    rotate_left
    · intro w' hSw; go_simp; try with_reducible rfl
    try simp only [Act.put, List.setIfInBounds_toArray, List.set_cons_zero, List.set_cons_succ]
    refine wpAnyH_take (i := 12) (v := ?_) (List.getElem?_toArray.trans rfl) (by kernel_rfl) (by kernel_rfl) (by kernel_rfl) (fun _ _ _ h => h) (Or.inl ⟨by rfl, ?_⟩) hHeld ?_
    rotate_left
    · intro w' hSw; go_simp; try with_reducible rfl
    try simp only [Act.put, List.setIfInBounds_toArray, List.set_cons_zero, List.set_cons_succ]
    refine wpAnyH_take (i := 13) (v := ?_) (List.getElem?_toArray.trans rfl) (by kernel_rfl) (by kernel_rfl) (by kernel_rfl) (fun _ _ _ h => h) (Or.inl ⟨by rfl, ?_⟩) hHeld ?_
    rotate_left
    · intro w' hSw; go_simp; try with_reducible rfl
    try simp only [Act.put, List.setIfInBounds_toArray, List.set_cons_zero, List.set_cons_succ]
    refine wpAnyH_ready (rs := [5]) (by kernel_rfl) (by simp) ?_
    refine AllReadyH.cons (List.getElem?_toArray.trans rfl) (fun K hK => ?_) AllReadyH.nil
    go_simp
    go_at_call 12
    (with_reducible refine (HWh.out m _ _ rfl (by omega)).mono ?_)
    rintro e wh ⟨vh, rfl, hvh, gN⟩
    refine hK.out _ _ (gb_trans hHeld gN) (fun hHeld => ?_)
    clear hK K
    try simp only [Act.put, List.setIfInBounds_toArray, List.set_cons_zero, List.set_cons_succ]
    refine wpAnyH_ready (rs := [6]) (by kernel_rfl) (by simp) ?_
    refine AllReadyH.cons (List.getElem?_toArray.trans rfl) (fun K hK => ?_) AllReadyH.nil
    go_simp
    go_at_call 19
    (with_reducible refine (after_any _ _ _ (secsF l0) ((wrsF ly).take m) (List.replicate m true) (-1) 0 _ (HS.out.keep0 hHeld) (wts_take (HW.out.keep0 hHeld) HN.out hmN) hvh (by rw [List.length_replicate]; omega) HSL.out HTL.out (secsF_whole l0) (by omega) (by omega)).mono ?_)
    rintro e wi ⟨vi, rfl, hvi, gN⟩
    rw [hQ] at hvi
    clear hvh
    refine hK.out _ _ (gb_trans hHeld gN) (fun hHeld => ?_)
    clear hK K
    try simp only [Act.put, List.setIfInBounds_toArray, List.set_cons_zero, List.set_cons_succ]
    refine wpAnyH_ready (rs := [14]) (by kernel_rfl) (by simp) ?_
    refine AllReadyH.cons (List.getElem?_toArray.trans rfl) (fun K hK => ?_) AllReadyH.nil
    go_simp
    go_at_call 12
    (with_reducible refine (HWh.out (N - m) _ _ (by omega) (by omega)).mono ?_)
    rintro e wj ⟨vj, rfl, hvj, gN⟩
    replace hvi := hvi.keep0 gN
    refine hK.out _ _ (gb_trans hHeld gN) (fun hHeld => ?_)
    clear hK K
    try simp only [Act.put, List.setIfInBounds_toArray, List.set_cons_zero, List.set_cons_succ]
    refine wpAnyH_ready (rs := [15]) (by kernel_rfl) (by simp) ?_
    refine AllReadyH.cons (List.getElem?_toArray.trans rfl) (fun K hK => ?_) AllReadyH.nil
    go_simp
    go_at_call 19
    (with_reducible refine (after_any _ _ _ Q ((wrsF ly).drop m) (List.replicate (N - m) true) (-1) 0 _ hvi (wts_drop_if (HW.out.keep0 hHeld) HN.out hmN HYC.out) hvj (by rw [List.length_replicate]; omega) HQL.out HDL.out HQW.out (by omega) (by omega)).mono ?_)
    rintro e wk ⟨vk, rfl, hvk, gN⟩
    rw [HHf.out] at hvk
    have HC := Lib.hid hvk
    obtain ⟨co, ccap, rfl, _, _, _, _⟩ := hvk
    rw [HFL.out] at HC
    rw [HFL.out]
    clear hvi hvj
    refine hK.out _ _ (gb_trans hHeld gN) (fun hHeld => ?_)
    clear hK K
    try simp only [Act.put, List.setIfInBounds_toArray, List.set_cons_zero, List.set_cons_succ]
    refine wpAnyH_take (i := 16) (v := ?_) (List.getElem?_toArray.trans rfl) (by kernel_rfl) (by kernel_rfl) (by kernel_rfl) (fun _ _ _ h => h) (Or.inl ⟨by rfl, ?_⟩) hHeld ?_
    rotate_left
    · intro w' hSw; go_simp; try with_reducible rfl
    try simp only [Act.put, List.setIfInBounds_toArray, List.set_cons_zero, List.set_cons_succ]
    refine wpAnyH_done (by kernel_rfl) ?_ _
    refine NoPanic.normal ?_
    generalize (if ycap = m then some y else some (y.add (m * 2))) = yd
    have g7 := gb_trans g0 hHeld
    replace HA := Lib.hid (HA.out.keep0 hHeld)
    replace HB := Lib.hid (HB.out.keep0 hHeld)
    replace HS := Lib.hid (HS.out.keep0 hHeld)
    replace HW := Lib.hid (HW.out.keep0 hHeld)
    clear hm0 hm1 hm2 hm3 hwd
    go_wp2_with fail
    go_loopw [13] (fun v wr => ∃ k : Nat, k ≤ n ∧ v = .int .i64 k ∧ wk.grownBy wr none) (fun v _ => n - (intOf v).toNat)
    case atStart => exact ⟨0, by omega, rfl, gb_refl _ _⟩
    case round =>
      obtain ⟨k, hk, rfl, hg⟩ := hrel
      by_cases hkn : k < n
      · have hkn' : (k : Int) < (n : Int) := by omega
        have hk0 : (0 : Int) ≤ (k : Int) := by omega
        have hkl : Hid (k < (secsF l0).length) := Lib.hid (by rw [HNN.out]; omega)
        obtain ⟨ax, rfl, d0⟩ := sts_cell (HS.out.keep0 hg) (j := k) hkl.out
        go_wp2_with fail
        go_loopw [14, 15] (fun v14 v15 ww => ∃ i : Nat, i ≤ N ∧ v14 = .string (lastF (secsF l0) (wrsF ly) (List.replicate N true) (-1) 0 k i) ∧ v15 = .int .i64 i ∧ wr.grownBy ww none) (fun _ v _ => N - (intOf v).toNat)
        case atStart => exact ⟨0, by omega, rfl, rfl, gb_refl _ _⟩
        case round =>
          obtain ⟨i, hi, rfl, rfl, hgi⟩ := hrel
          have hS := gb_trans hg hgi
          replace d0 := hgi.cell d0 (by simp)
          by_cases hiN : i < N
          · have hiN' : (i : Int) < (N : Int) := by omega
            have hi0 : (0 : Int) ≤ (i : Int) := by omega
            obtain ⟨aw, x, haw, hx, e0, e1⟩ := wts_cell (HW.out.keep0 hS) (j := i) (by rw [HN.out]; omega)
            first | cases haw | (exfalso; cases haw)
            obtain ⟨x1, x2⟩ := x
            simp only at e0 e1
            rw [← add_add] at e1
            replace e1 : wr.cell? ⟨(y.add (i * 2)).block, (y.add (i * 2)).off + 1, none⟩ = some (.string x2) := e1
            have hb : (List.replicate N true).getD i false = true := by simp [List.getD, hiN]
            have hoff := last_off (secsF l0) (wrsF ly) (List.replicate N true) (-1) 0 k i hb _ hx
            have hat := last_at (secsF l0) (wrsF ly) (List.replicate N true) (-1) 0 k i hkl.out hb _ hx
            rw [if_neg (show ¬ ((i : Nat) : Int) = -1 by omega)] at hat
            generalize lastF (secsF l0) (wrsF ly) (List.replicate N true) (-1) 0 k i = L at hoff ⊢
            clear hb
            by_cases hx1 : x1 = (k : Int)
            · subst hx1
              have hkk : ((k : Int) == (k : Int)) = true := by simp
              by_cases hx2 : x2.size = 256
              · have E := Lib.hid (hat rfl hx2)
                clear hoff hat hx
                have hsz : ((x2.size : Int) == 256) = true := by rw [hx2]; rfl
                go_wp2
                go_roundw
                case rel => exact ⟨i + 1, by omega, by rw [E.out], by go_num, gb_trans hgi (gb_refl _ _)⟩
                case measure => simp [intOf]; omega
              · have E := Lib.hid (hoff (Or.inr hx2))
                clear hoff hat hx
                have hsz : ((x2.size : Int) == 256) = false := by simp; omega
                go_wp2
                go_roundw
                case rel => exact ⟨i + 1, by omega, by rw [E.out], by go_num, gb_trans hgi (gb_refl _ _)⟩
                case measure => simp [intOf]; omega
            · have E := Lib.hid (hoff (Or.inl hx1))
              clear hoff hat hx
              have hkx : (x1 == (k : Int)) = false := by simp [hx1]
              go_wp2
              go_roundw
              case rel => exact ⟨i + 1, by omega, by rw [E.out], by go_num, gb_trans hgi (gb_refl _ _)⟩
              case measure => simp [intOf]; omega
          · obtain rfl : i = N := by omega
            obtain ⟨aa, rfl, d1⟩ := sts_cell (HA.out.keep0 hS) (j := k) (by rw [HFL.out]; omega)
            obtain ⟨ac, rfl, d2⟩ := sts_cell (HC.out.keep0 hS) (j := k) (by rw [HFL.out]; omega)
            obtain ⟨ab, rfl, d3⟩ := sts_cell (HB.out.keep0 hS) (j := k) hkl.out
            rw [all_at] at d1 d2
            generalize lastF (secsF l0) (wrsF ly) (List.replicate i true) (-1) 0 k i = L at d1 d2 ⊢
            generalize (secsF l0).getD k noS = s0 at d0 d3
            go_wp2_with fail
            go_quiet (fail)
            go_wp2
            go_roundw
            case rel => exact ⟨k + 1, by omega, by go_num, gb_trans hS (gb_drewN _ _ _)⟩
            case measure => simp [intOf]; omega
      · obtain rfl : k = n := by omega
        go_wp2
        go_ret
        exact ⟨rfl, gb_trans g7 hg⟩
end Go.Proofs.YtefpnhckplcfgaaDoor
