/-
  How nodes are joined, by the program's own calls (join), over this seat's translation; conditions: the nodes lie as they are told, and have at most half a million of each.
-/
import Derived.Test.YthhimhjegodklaaGreatNj
namespace Go.Proofs.YthhimhjegodklaaGreat.N11
set_option linter.unusedSimpArgs false
set_option linter.unusedVariables false
open Go.RowKit
theorem parts2_C {w : World} {b : Nat} {t : TypeId} {x y : Value} {l r : List Ce} (h : Blk w b t #[x, y]) (hx : Ces w x l) (hy : Ces w y r) : PartsC w (.slice (some ⟨b, 0, none⟩) 2 2) [l, r] := by
  refine ⟨_, 2, rfl, Nat.le_refl _, fun i l' hi => ?_⟩
  match i, hi with
  | 0, hi => cases hi; exact ⟨x, h.cell 0 rfl, hx⟩
  | 1, hi => cases hi; exact ⟨y, h.cell 1 rfl, hy⟩
theorem parts2_S {w : World} {b : Nat} {t : TypeId} {x y : Value} {l r : List ByteArray} (h : Blk w b t #[x, y]) (hx : Sts w x l) (hy : Sts w y r) : PartsS w (.slice (some ⟨b, 0, none⟩) 2 2) [l, r] := by
  refine ⟨_, 2, rfl, Nat.le_refl _, fun i l' hi => ?_⟩
  match i, hi with
  | 0, hi => cases hi; exact ⟨x, h.cell 0 rfl, hx⟩
  | 1, hi => cases hi; exact ⟨y, h.cell 1 rfl, hy⟩
theorem parts2_I {w : World} {b : Nat} {t : TypeId} {x y : Value} {l r : List Int} (h : Blk w b t #[x, y]) (hx : Ins w x l) (hy : Ins w y r) : PartsI w (.slice (some ⟨b, 0, none⟩) 2 2) [l, r] := by
  refine ⟨_, 2, rfl, Nat.le_refl _, fun i l' hi => ?_⟩
  match i, hi with
  | 0, hi => cases hi; exact ⟨x, h.cell 0 rfl, hx⟩
  | 1, hi => cases hi; exact ⟨y, h.cell 1 rfl, hy⟩
theorem shape' {k : Nat} {w : World} {v : Value} {n : Nat} {cs : List Value} (h : Sl k w v n cs) : ∃ ao m cap, v = .slice ao m cap := by
  obtain ⟨ao, cap, rfl, _⟩ := h; exact ⟨ao, n, cap, rfl⟩
theorem partsKeep_S {w w' : World} {v : Value} {ls : List (List ByteArray)} (h : PartsS w v ls) (g : w.grownBy w' none) : PartsS w' v ls := by
  obtain ⟨a, cap, h1, h2, h3⟩ := h
  exact ⟨a, cap, h1, h2, fun i l hi => by obtain ⟨x, hx, hp⟩ := h3 i l hi; exact ⟨x, g.cell hx (by simp), stsKeep0 hp g⟩⟩
theorem partsKeep_I {w w' : World} {v : Value} {ls : List (List Int)} (h : PartsI w v ls) (g : w.grownBy w' none) : PartsI w' v ls := by
  obtain ⟨a, cap, h1, h2, h3⟩ := h
  exact ⟨a, cap, h1, h2, fun i l hi => by obtain ⟨x, hx, hp⟩ := h3 i l hi; exact ⟨x, g.cell hx (by simp), hp.keep0 g⟩⟩
theorem parts3_S {w : World} {b : Nat} {t : TypeId} {x y z : Value} {l m r : List ByteArray} (h : Blk w b t #[x, y, z]) (hx : Sts w x l) (hy : Sts w y m) (hz : Sts w z r) : PartsS w (.slice (some ⟨b, 0, none⟩) 3 3) [l, m, r] := by
  refine ⟨_, 3, rfl, Nat.le_refl _, fun i l' hi => ?_⟩
  match i, hi with
  | 0, hi => cases hi; exact ⟨x, h.cell 0 rfl, hx⟩
  | 1, hi => cases hi; exact ⟨y, h.cell 1 rfl, hy⟩
  | 2, hi => cases hi; exact ⟨z, h.cell 2 rfl, hz⟩
theorem sts_one {w : World} {b : Nat} {t : TypeId} {k : ByteArray} (h : Blk w b t #[.string k]) : Sts w (.slice (some ⟨b, 0, none⟩) 1 1) [k] := by
  refine ⟨_, 1, rfl, Nat.le_refl _, rfl, fun e => (by cases e), fun a e j u hj => ?_⟩
  cases e
  match j, hj with
  | 0, hj => cases hj; exact h.cell 0 rfl
theorem ins_one {w : World} {b : Nat} {t : TypeId} {n : Int} (h : Blk w b t #[.int .i64 n]) : Ins w (.slice (some ⟨b, 0, none⟩) 1 1) [n] := by
  refine ⟨_, 1, rfl, Nat.le_refl _, rfl, fun e => (by cases e), fun a e j u hj => ?_⟩
  cases e
  match j, hj with
  | 0, hj => cases hj; exact h.cell 0 rfl
set_option maxRecDepth 100000 in
set_option maxHeartbeats 1000000 in
theorem joinL_any (lf lg : Bool) (a b c p q r : Value) (cs ds : List Ce) (k : ByteArray) (w : World) (ha : Ces w a cs) (hp : Ces w p ds) (hl : cs.length ≤ 500000) (hl2 : ds.length ≤ 500000) :
    Calls Tryz.prog 92 #[.agg #[.bool lf, a, b, c], .agg #[.bool lg, p, q, r], .string k] w (NodeGot ⟨true, cs ++ ds, [], []⟩ w) := by
  have HC : Hid (∀ W v, PartsC W v [cs, ds] → Calls Tryz.prog 99 #[v] W (GotC (cs ++ ds) W)) := Lib.hid (fun W v h => by
    have := concat_C v [cs, ds] W h (by simp) (by simp; omega)
    simpa using this)
  have HA := Lib.hid ha
  have HP := Lib.hid hp
  obtain ⟨ao, ca, rfl⟩ := Sl.shape ha
  obtain ⟨bo, cb, rfl⟩ := Sl.shape hp
  clear ha hp hl hl2
  generalize cs.length = n1 at HA ⊢
  generalize ds.length = n2 at HP ⊢
  obtain ⟨w0, hw0, kb, k1, k2, g0, hz⟩ := new3 w 69 #[.bool lf, .slice ao n1 ca, b, c] 26 #[.bool lg, .slice bo n2 cb, q, r] 26 #[.bool false, .slice none 0 0, .slice none 0 0, .slice none 0 0]
  obtain ⟨wb, hwb, k3, g3, hz3⟩ := new1 w0 22 #[.slice ao n1 ca, .slice bo n2 cb]
  have HW := Lib.hid hw0
  have HWB := Lib.hid hwb
  have HPT := Lib.hid (HC.out _ _ (parts2_C k3 (HA.out.keep0 (gb_trans g0 g3)) (HP.out.keep0 (gb_trans g0 g3))))
  have HSZ := Lib.hid hz
  rw [hz] at HPT
  replace k2 := k2.keep0 g3
  replace g0 := gb_trans g0 g3
  clear hw0 hwb kb k1 k3 HC g3 hz3 hz
  go_enter Tryz.func92, Tryz.ntmps92
  go_wp2_with (first
    | (go_at_call 99; rw [← HW.out, ← HWB.out]; (with_reducible refine HPT.out.mono ?_); rintro e w1 ⟨v1, rfl, h1, g1⟩; obtain ⟨a1, m1, e1, rfl⟩ := shape' h1; have H1 := Lib.hid h1; replace k2 := k2.keep0 g1; replace g0 := gb_trans g0 g1; clear h1 g1)
    | ((with_reducible refine st_node rfl (w.heap.size + 1 + 1) 26 true ?_ none none ?_ 0 0 ?_ 0 0 ?_ ?_ _ _ _ _ k2 ?_); rotate_left 3; (· rfl); (· rfl); intro w2 nn2 g2))
  refine bodyPost_ret (results_c rfl _ _ _ _ _ _ _ rfl nn2) rfl ⟨_, rfl, ⟨_, _, _, rfl, H1.out.keepN (Nbl.node k2) g2, Sl.nil _ _, Sl.nil _ _⟩, gb_step g0 g2 (by omega)⟩
set_option maxRecDepth 100000 in
set_option maxHeartbeats 1000000 in
theorem joinI_any (lf lg : Bool) (a b c p q r : Value) (ks ls : List ByteArray) (is js : List Int) (k : ByteArray) (w : World) (ha : Sts w a ks) (hp : Sts w p ls) (hb : Ins w b is) (hq : Ins w q js) (hl : ks.length ≤ 300000) (hl2 : ls.length ≤ 300000) (hl3 : is.length ≤ 300001) (hl4 : js.length ≤ 300001) :
    Calls Tryz.prog 115 #[.agg #[.bool lf, c, a, b], .agg #[.bool lg, r, p, q], .string k] w (NodeGot ⟨false, [], ks ++ k :: ls, is ++ js⟩ w) := by
  have HCS : Hid (∀ W v, PartsS W v [ks, [k], ls] → Calls Tryz.prog 123 #[v] W (GotS (ks ++ k :: ls) W)) := Lib.hid (fun W v h => by
    have := concat_S v [ks, [k], ls] W h (by simp) (by simp; omega)
    simpa using this)
  have HCI : Hid (∀ W v, PartsI W v [is, js] → Calls Tryz.prog 124 #[v] W (GotI (is ++ js) W)) := Lib.hid (fun W v h => by
    have := concat_I v [is, js] W h (by simp) (by simp; omega)
    simpa using this)
  have HA := Lib.hid ha
  have HP := Lib.hid hp
  have HK := Lib.hid hb
  have HR := Lib.hid hq
  obtain ⟨ao, ca, rfl⟩ := Sl.shape ha
  obtain ⟨bo, cb, rfl⟩ := Sl.shape hp
  obtain ⟨co, cc, rfl⟩ := Sl.shape hb
  obtain ⟨eo, cd, rfl⟩ := Sl.shape hq
  clear ha hp hb hq hl hl2 hl3 hl4
  generalize ks.length = n1 at HA ⊢
  generalize ls.length = n2 at HP ⊢
  generalize is.length = n3 at HK ⊢
  generalize js.length = n4 at HR ⊢
  obtain ⟨w0, hw0, kb, k1, k2, g0, hz⟩ := new3 w 70 #[.bool lf, c, .slice ao n1 ca, .slice co n3 cc] 26 #[.bool lg, r, .slice bo n2 cb, .slice eo n4 cd] 26 #[.bool false, .slice none 0 0, .slice none 0 0, .slice none 0 0]
  have HW := Lib.hid hw0
  clear hw0 hz
  go_enter Tryz.func115, Tryz.ntmps115
  go_wp2
  rw [← HW.out]
  refine wp_region_noPanic ?_
  refine wp_region_held_drew (S := fun w' => w.grownBy w' none ∧ Blk w' w.heap.size 70 #[.bool lf, c, .slice ao n1 ca, .slice co n3 cc] ∧ Blk w' (w.heap.size + 1) 26 #[.bool lg, r, .slice bo n2 cb, .slice eo n4 cd]) (by kernel_rfl) ⟨gb_trans g0 (gb_drew _ _), kb.keep0 (gb_drew _ _), k1.keep0 (gb_drew _ _)⟩ (fun hHeld => ?_)
  have K6 := Lib.hid (k2.keep0 (gb_drew w0 none))
  generalize w0.drew = u0 at hHeld K6 ⊢
  refine wpAnyH_take (i := 0) (v := ?_) (List.getElem?_toArray.trans rfl) (by kernel_rfl) (by kernel_rfl) (by kernel_rfl) (fun _ _ _ h => h) (Or.inl ⟨by rfl, ?_⟩) hHeld ?_
  rotate_left
  · intro w' hSw; obtain ⟨hg, b0, b1⟩ := hSw; have d2 := b0.cell 2 rfl; have d3 := b0.cell 3 rfl; have e2 := b1.cell 2 rfl; have e3 := b1.cell 3 rfl; clear b0 b1; go_simp; try with_reducible rfl
  try simp only [Act.put, List.setIfInBounds_toArray, List.set_cons_zero, List.set_cons_succ]
  refine wpAnyH_take (i := 1) (v := ?_) (List.getElem?_toArray.trans rfl) (by kernel_rfl) (by kernel_rfl) (by kernel_rfl) (fun _ _ _ h => h) (Or.inl ⟨by rfl, ?_⟩) hHeld ?_
  rotate_left
  · intro w' hSw; obtain ⟨hg, b0, b1⟩ := hSw; have d2 := b0.cell 2 rfl; have d3 := b0.cell 3 rfl; have e2 := b1.cell 2 rfl; have e3 := b1.cell 3 rfl; clear b0 b1; go_simp; try with_reducible rfl
  try simp only [Act.put, List.setIfInBounds_toArray, List.set_cons_zero, List.set_cons_succ]
  refine wpAnyH_take (i := 2) (v := ?_) (List.getElem?_toArray.trans rfl) (by kernel_rfl) (by kernel_rfl) (by kernel_rfl) (fun _ _ _ h => h) (Or.inl ⟨by rfl, ?_⟩) hHeld ?_
  rotate_left
  · intro w' hSw; obtain ⟨hg, b0, b1⟩ := hSw; have d2 := b0.cell 2 rfl; have d3 := b0.cell 3 rfl; have e2 := b1.cell 2 rfl; have e3 := b1.cell 3 rfl; clear b0 b1; go_simp; try with_reducible rfl
  try simp only [Act.put, List.setIfInBounds_toArray, List.set_cons_zero, List.set_cons_succ]
  refine wpAnyH_take (i := 4) (v := ?_) (List.getElem?_toArray.trans rfl) (by kernel_rfl) (by kernel_rfl) (by kernel_rfl) (fun _ _ _ h => h) (Or.inl ⟨by rfl, ?_⟩) hHeld ?_
  rotate_left
  · intro w' hSw; obtain ⟨hg, b0, b1⟩ := hSw; have d2 := b0.cell 2 rfl; have d3 := b0.cell 3 rfl; have e2 := b1.cell 2 rfl; have e3 := b1.cell 3 rfl; clear b0 b1; go_simp; try with_reducible rfl
  try simp only [Act.put, List.setIfInBounds_toArray, List.set_cons_zero, List.set_cons_succ]
  refine wpAnyH_take (i := 5) (v := ?_) (List.getElem?_toArray.trans rfl) (by kernel_rfl) (by kernel_rfl) (by kernel_rfl) (fun _ _ _ h => h) (Or.inl ⟨by rfl, ?_⟩) hHeld ?_
  rotate_left
  · intro w' hSw; obtain ⟨hg, b0, b1⟩ := hSw; have d2 := b0.cell 2 rfl; have d3 := b0.cell 3 rfl; have e2 := b1.cell 2 rfl; have e3 := b1.cell 3 rfl; clear b0 b1; go_simp; try with_reducible rfl
  try simp only [Act.put, List.setIfInBounds_toArray, List.set_cons_zero, List.set_cons_succ]
  refine wpAnyH_take (i := 8) (v := ?_) (List.getElem?_toArray.trans rfl) (by kernel_rfl) (by kernel_rfl) (by kernel_rfl) (fun _ _ _ h => h) (Or.inl ⟨by rfl, ?_⟩) hHeld ?_
  rotate_left
  · intro w' hSw; obtain ⟨hg, b0, b1⟩ := hSw; have d2 := b0.cell 2 rfl; have d3 := b0.cell 3 rfl; have e2 := b1.cell 2 rfl; have e3 := b1.cell 3 rfl; clear b0 b1; go_simp; try with_reducible rfl
  try simp only [Act.put, List.setIfInBounds_toArray, List.set_cons_zero, List.set_cons_succ]
  refine wpAnyH_take (i := 9) (v := ?_) (List.getElem?_toArray.trans rfl) (by kernel_rfl) (by kernel_rfl) (by kernel_rfl) (fun _ _ _ h => h) (Or.inl ⟨by rfl, ?_⟩) hHeld ?_
  rotate_left
  · intro w' hSw; obtain ⟨hg, b0, b1⟩ := hSw; have d2 := b0.cell 2 rfl; have d3 := b0.cell 3 rfl; have e2 := b1.cell 2 rfl; have e3 := b1.cell 3 rfl; clear b0 b1; go_simp; try with_reducible rfl
  try simp only [Act.put, List.setIfInBounds_toArray, List.set_cons_zero, List.set_cons_succ]
  refine wpAnyH_take (i := 10) (v := ?_) (List.getElem?_toArray.trans rfl) (by kernel_rfl) (by kernel_rfl) (by kernel_rfl) (fun _ _ _ h => h) (Or.inl ⟨by rfl, ?_⟩) hHeld ?_
  rotate_left
  · intro w' hSw; obtain ⟨hg, b0, b1⟩ := hSw; have d2 := b0.cell 2 rfl; have d3 := b0.cell 3 rfl; have e2 := b1.cell 2 rfl; have e3 := b1.cell 3 rfl; clear b0 b1; go_simp; try with_reducible rfl
  try simp only [Act.put, List.setIfInBounds_toArray, List.set_cons_zero, List.set_cons_succ]
  refine wpAnyH_take (i := 11) (v := ?_) (List.getElem?_toArray.trans rfl) (by kernel_rfl) (by kernel_rfl) (by kernel_rfl) (fun _ _ _ h => h) (Or.inl ⟨by rfl, ?_⟩) hHeld ?_
  rotate_left
  · intro w' hSw; obtain ⟨hg, b0, b1⟩ := hSw; have d2 := b0.cell 2 rfl; have d3 := b0.cell 3 rfl; have e2 := b1.cell 2 rfl; have e3 := b1.cell 3 rfl; clear b0 b1; go_simp; try with_reducible rfl
  try simp only [Act.put, List.setIfInBounds_toArray, List.set_cons_zero, List.set_cons_succ]
  refine wpAnyH_ready (rs := [3, 12]) (by kernel_rfl) (by simp) ?_
  refine AllReadyH.cons (List.getElem?_toArray.trans rfl) (fun K hK => ?_) (AllReadyH.cons (List.getElem?_toArray.trans rfl) (fun K hK => ?_) AllReadyH.nil)
  · go_simp
    obtain ⟨x1, hn, kk, gx1, hz⟩ := new1 u0 9 #[.string k]
    rw [← hn]
    have K3 := Lib.hid (sts_one kk)
    clear hn kk hz
    generalize u0.heap.size = b3 at K3 ⊢
    replace K6 := Lib.hid (Blk.keep0 K6.out gx1)
    refine hK.out _ _ (⟨gb_trans hHeld.1 gx1, hHeld.2.1.keep0 gx1, hHeld.2.2.keep0 gx1⟩) (fun hHeld => ?_)
    clear hK K
    try simp only [Act.put, List.setIfInBounds_toArray, List.set_cons_zero, List.set_cons_succ]
    refine wpAnyH_ready (rs := [6, 12]) (by kernel_rfl) (by simp) ?_
    refine AllReadyH.cons (List.getElem?_toArray.trans rfl) (fun K hK => ?_) (AllReadyH.cons (List.getElem?_toArray.trans rfl) (fun K hK => ?_) AllReadyH.nil)
    · go_simp
      obtain ⟨x2, hn, kk, gx2, hz⟩ := new1 x1 23 #[.slice ao n1 ca, .slice (some ⟨b3, 0, none⟩) 1 1, .slice bo n2 cb]
      rw [← hn]
      have P6 := Lib.hid (parts3_S kk (stsKeep0 HA.out (gb_trans hHeld.1 gx2)) (stsKeep0 K3.out gx2) (stsKeep0 HP.out (gb_trans hHeld.1 gx2)))
      clear hn kk hz
      generalize x1.heap.size = b6 at P6 ⊢
      replace K6 := Lib.hid (Blk.keep0 K6.out gx2)
      replace K3 := Lib.hid (stsKeep0 K3.out gx2)
      refine hK.out _ _ (⟨gb_trans hHeld.1 gx2, hHeld.2.1.keep0 gx2, hHeld.2.2.keep0 gx2⟩) (fun hHeld => ?_)
      clear hK K
      try simp only [Act.put, List.setIfInBounds_toArray, List.set_cons_zero, List.set_cons_succ]
      refine wpAnyH_ready (rs := [7, 12]) (by kernel_rfl) (by simp) ?_
      refine AllReadyH.cons (List.getElem?_toArray.trans rfl) (fun K hK => ?_) (AllReadyH.cons (List.getElem?_toArray.trans rfl) (fun K hK => ?_) AllReadyH.nil)
      · go_simp
        go_at_call 123
        (with_reducible refine (HCS.out _ _ P6.out).mono ?_)
        rintro e x3 ⟨v7, rfl, h7, gx3⟩
        obtain ⟨a7, m7, e7, rfl⟩ := shape' h7
        have K7 := Lib.hid h7
        clear h7
        replace K6 := Lib.hid (Blk.keep0 K6.out gx3)
        replace K3 := Lib.hid (stsKeep0 K3.out gx3)
        replace P6 := Lib.hid (partsKeep_S P6.out gx3)
        refine hK.out _ _ (⟨gb_trans hHeld.1 gx3, hHeld.2.1.keep0 gx3, hHeld.2.2.keep0 gx3⟩) (fun hHeld => ?_)
        clear hK K
        try simp only [Act.put, List.setIfInBounds_toArray, List.set_cons_zero, List.set_cons_succ]
        refine wpAnyH_ready (rs := [12]) (by kernel_rfl) (by simp) ?_
        refine AllReadyH.cons (List.getElem?_toArray.trans rfl) (fun K hK => ?_) AllReadyH.nil
        go_simp
        obtain ⟨x4, hn, kk, gx4, hz⟩ := new1 x3 24 #[.slice co n3 cc, .slice eo n4 cd]
        rw [← hn]
        have P12 := Lib.hid (parts2_I kk (HK.out.keep0 (gb_trans hHeld.1 gx4)) (HR.out.keep0 (gb_trans hHeld.1 gx4)))
        clear hn kk hz
        generalize x3.heap.size = b12 at P12 ⊢
        replace K6 := Lib.hid (Blk.keep0 K6.out gx4)
        replace K3 := Lib.hid (stsKeep0 K3.out gx4)
        replace P6 := Lib.hid (partsKeep_S P6.out gx4)
        replace K7 := Lib.hid (stsKeep0 K7.out gx4)
        refine hK.out _ _ (⟨gb_trans hHeld.1 gx4, hHeld.2.1.keep0 gx4, hHeld.2.2.keep0 gx4⟩) (fun hHeld => ?_)
        clear hK K
        try simp only [Act.put, List.setIfInBounds_toArray, List.set_cons_zero, List.set_cons_succ]
        refine wpAnyH_ready (rs := [13]) (by kernel_rfl) (by simp) ?_
        refine AllReadyH.cons (List.getElem?_toArray.trans rfl) (fun K hK => ?_) AllReadyH.nil
        go_simp
        go_at_call 124
        (with_reducible refine (HCI.out _ _ P12.out).mono ?_)
        rintro e x5 ⟨v13, rfl, h13, gx5⟩
        obtain ⟨a13, m13, e13, rfl⟩ := shape' h13
        have K13 := Lib.hid h13
        clear h13
        replace K6 := Lib.hid (Blk.keep0 K6.out gx5)
        replace K3 := Lib.hid (stsKeep0 K3.out gx5)
        replace P6 := Lib.hid (partsKeep_S P6.out gx5)
        replace K7 := Lib.hid (stsKeep0 K7.out gx5)
        replace P12 := Lib.hid (partsKeep_I P12.out gx5)
        refine hK.out _ _ (⟨gb_trans hHeld.1 gx5, hHeld.2.1.keep0 gx5, hHeld.2.2.keep0 gx5⟩) (fun hHeld => ?_)
        clear hK K
        try simp only [Act.put, List.setIfInBounds_toArray, List.set_cons_zero, List.set_cons_succ]
        refine wpAnyH_take (i := 14) (v := ?_) (List.getElem?_toArray.trans rfl) (by kernel_rfl) (by kernel_rfl) (by kernel_rfl) (fun _ _ _ h => h) (Or.inl ⟨by rfl, ?_⟩) hHeld ?_
        rotate_left
        · intro w' hSw; obtain ⟨hg, b0, b1⟩ := hSw; have d2 := b0.cell 2 rfl; have d3 := b0.cell 3 rfl; have e2 := b1.cell 2 rfl; have e3 := b1.cell 3 rfl; clear b0 b1; go_simp; try with_reducible rfl
        try simp only [Act.put, List.setIfInBounds_toArray, List.set_cons_zero, List.set_cons_succ]
        refine wpAnyH_ready (rs := [15]) (by kernel_rfl) (by simp) ?_
        refine AllReadyH.cons (List.getElem?_toArray.trans rfl) (fun K hK => ?_) AllReadyH.nil
        refine st_nodeO _ _ rfl (w.heap.size + 1 + 1) 26 false none a7 a13 0 m7 m13 0 e7 e13 rfl (by first | rfl | simp [Act.eval]) _ _ _ _ K6.out ?_
        intro x6 n15 g15
        replace K7 := Lib.hid (stsKeepN K7.out (Nbl.node K6.out) g15)
        replace K13 := Lib.hid (K13.out.keepN (Nbl.node K6.out) g15)
        refine hK.out _ _ (⟨gb_step hHeld.1 g15 (by omega), hHeld.2.1.keep g15 (ne_some (by omega)), hHeld.2.2.keep g15 (ne_some (by omega))⟩) (fun hHeld => ?_)
        clear hK K
        try simp only [Act.put, List.setIfInBounds_toArray, List.set_cons_zero, List.set_cons_succ]
        refine wpAnyH_done (by kernel_rfl) ?_ _
        refine NoPanic.normal ?_
        go_wp2
        refine bodyPost_ret (results_c rfl _ _ _ _ _ _ _ rfl n15) rfl ⟨_, rfl, ⟨_, _, _, rfl, Sl.nil _ _, ?_, ?_⟩, hHeld.1⟩
        · exact K7.out
        · exact K13.out
      · go_simp
        obtain ⟨x7, hn, kk, gx7, hz⟩ := new1 x2 24 #[.slice co n3 cc, .slice eo n4 cd]
        rw [← hn]
        have P12 := Lib.hid (parts2_I kk (HK.out.keep0 (gb_trans hHeld.1 gx7)) (HR.out.keep0 (gb_trans hHeld.1 gx7)))
        clear hn kk hz
        generalize x2.heap.size = b12 at P12 ⊢
        replace K6 := Lib.hid (Blk.keep0 K6.out gx7)
        replace K3 := Lib.hid (stsKeep0 K3.out gx7)
        replace P6 := Lib.hid (partsKeep_S P6.out gx7)
        refine hK.out _ _ (⟨gb_trans hHeld.1 gx7, hHeld.2.1.keep0 gx7, hHeld.2.2.keep0 gx7⟩) (fun hHeld => ?_)
        clear hK K
        try simp only [Act.put, List.setIfInBounds_toArray, List.set_cons_zero, List.set_cons_succ]
        refine wpAnyH_ready (rs := [7]) (by kernel_rfl) (by simp) ?_
        refine AllReadyH.cons (List.getElem?_toArray.trans rfl) (fun K hK => ?_) AllReadyH.nil
        go_simp
        go_at_call 123
        (with_reducible refine (HCS.out _ _ P6.out).mono ?_)
        rintro e x8 ⟨v7, rfl, h7, gx8⟩
        obtain ⟨a7, m7, e7, rfl⟩ := shape' h7
        have K7 := Lib.hid h7
        clear h7
        replace K6 := Lib.hid (Blk.keep0 K6.out gx8)
        replace K3 := Lib.hid (stsKeep0 K3.out gx8)
        replace P6 := Lib.hid (partsKeep_S P6.out gx8)
        replace P12 := Lib.hid (partsKeep_I P12.out gx8)
        refine hK.out _ _ (⟨gb_trans hHeld.1 gx8, hHeld.2.1.keep0 gx8, hHeld.2.2.keep0 gx8⟩) (fun hHeld => ?_)
        clear hK K
        try simp only [Act.put, List.setIfInBounds_toArray, List.set_cons_zero, List.set_cons_succ]
        refine wpAnyH_ready (rs := [13]) (by kernel_rfl) (by simp) ?_
        refine AllReadyH.cons (List.getElem?_toArray.trans rfl) (fun K hK => ?_) AllReadyH.nil
        go_simp
        go_at_call 124
        (with_reducible refine (HCI.out _ _ P12.out).mono ?_)
        rintro e x9 ⟨v13, rfl, h13, gx9⟩
        obtain ⟨a13, m13, e13, rfl⟩ := shape' h13
        have K13 := Lib.hid h13
        clear h13
        replace K6 := Lib.hid (Blk.keep0 K6.out gx9)
        replace K3 := Lib.hid (stsKeep0 K3.out gx9)
        replace P6 := Lib.hid (partsKeep_S P6.out gx9)
        replace P12 := Lib.hid (partsKeep_I P12.out gx9)
        replace K7 := Lib.hid (stsKeep0 K7.out gx9)
        refine hK.out _ _ (⟨gb_trans hHeld.1 gx9, hHeld.2.1.keep0 gx9, hHeld.2.2.keep0 gx9⟩) (fun hHeld => ?_)
        clear hK K
        try simp only [Act.put, List.setIfInBounds_toArray, List.set_cons_zero, List.set_cons_succ]
        refine wpAnyH_take (i := 14) (v := ?_) (List.getElem?_toArray.trans rfl) (by kernel_rfl) (by kernel_rfl) (by kernel_rfl) (fun _ _ _ h => h) (Or.inl ⟨by rfl, ?_⟩) hHeld ?_
        rotate_left
        · intro w' hSw; obtain ⟨hg, b0, b1⟩ := hSw; have d2 := b0.cell 2 rfl; have d3 := b0.cell 3 rfl; have e2 := b1.cell 2 rfl; have e3 := b1.cell 3 rfl; clear b0 b1; go_simp; try with_reducible rfl
        try simp only [Act.put, List.setIfInBounds_toArray, List.set_cons_zero, List.set_cons_succ]
        refine wpAnyH_ready (rs := [15]) (by kernel_rfl) (by simp) ?_
        refine AllReadyH.cons (List.getElem?_toArray.trans rfl) (fun K hK => ?_) AllReadyH.nil
        refine st_nodeO _ _ rfl (w.heap.size + 1 + 1) 26 false none a7 a13 0 m7 m13 0 e7 e13 rfl (by first | rfl | simp [Act.eval]) _ _ _ _ K6.out ?_
        intro x10 n15 g15
        replace K7 := Lib.hid (stsKeepN K7.out (Nbl.node K6.out) g15)
        replace K13 := Lib.hid (K13.out.keepN (Nbl.node K6.out) g15)
        refine hK.out _ _ (⟨gb_step hHeld.1 g15 (by omega), hHeld.2.1.keep g15 (ne_some (by omega)), hHeld.2.2.keep g15 (ne_some (by omega))⟩) (fun hHeld => ?_)
        clear hK K
        try simp only [Act.put, List.setIfInBounds_toArray, List.set_cons_zero, List.set_cons_succ]
        refine wpAnyH_done (by kernel_rfl) ?_ _
        refine NoPanic.normal ?_
        go_wp2
        refine bodyPost_ret (results_c rfl _ _ _ _ _ _ _ rfl n15) rfl ⟨_, rfl, ⟨_, _, _, rfl, Sl.nil _ _, ?_, ?_⟩, hHeld.1⟩
        · exact K7.out
        · exact K13.out
    · go_simp
      obtain ⟨x11, hn, kk, gx11, hz⟩ := new1 x1 24 #[.slice co n3 cc, .slice eo n4 cd]
      rw [← hn]
      have P12 := Lib.hid (parts2_I kk (HK.out.keep0 (gb_trans hHeld.1 gx11)) (HR.out.keep0 (gb_trans hHeld.1 gx11)))
      clear hn kk hz
      generalize x1.heap.size = b12 at P12 ⊢
      replace K6 := Lib.hid (Blk.keep0 K6.out gx11)
      replace K3 := Lib.hid (stsKeep0 K3.out gx11)
      refine hK.out _ _ (⟨gb_trans hHeld.1 gx11, hHeld.2.1.keep0 gx11, hHeld.2.2.keep0 gx11⟩) (fun hHeld => ?_)
      clear hK K
      try simp only [Act.put, List.setIfInBounds_toArray, List.set_cons_zero, List.set_cons_succ]
      refine wpAnyH_ready (rs := [6]) (by kernel_rfl) (by simp) ?_
      refine AllReadyH.cons (List.getElem?_toArray.trans rfl) (fun K hK => ?_) AllReadyH.nil
      go_simp
      obtain ⟨x12, hn, kk, gx12, hz⟩ := new1 x11 23 #[.slice ao n1 ca, .slice (some ⟨b3, 0, none⟩) 1 1, .slice bo n2 cb]
      rw [← hn]
      have P6 := Lib.hid (parts3_S kk (stsKeep0 HA.out (gb_trans hHeld.1 gx12)) (stsKeep0 K3.out gx12) (stsKeep0 HP.out (gb_trans hHeld.1 gx12)))
      clear hn kk hz
      generalize x11.heap.size = b6 at P6 ⊢
      replace K6 := Lib.hid (Blk.keep0 K6.out gx12)
      replace K3 := Lib.hid (stsKeep0 K3.out gx12)
      replace P12 := Lib.hid (partsKeep_I P12.out gx12)
      refine hK.out _ _ (⟨gb_trans hHeld.1 gx12, hHeld.2.1.keep0 gx12, hHeld.2.2.keep0 gx12⟩) (fun hHeld => ?_)
      clear hK K
      try simp only [Act.put, List.setIfInBounds_toArray, List.set_cons_zero, List.set_cons_succ]
      refine wpAnyH_ready (rs := [7]) (by kernel_rfl) (by simp) ?_
      refine AllReadyH.cons (List.getElem?_toArray.trans rfl) (fun K hK => ?_) AllReadyH.nil
      go_simp
      go_at_call 123
      (with_reducible refine (HCS.out _ _ P6.out).mono ?_)
      rintro e x13 ⟨v7, rfl, h7, gx13⟩
      obtain ⟨a7, m7, e7, rfl⟩ := shape' h7
      have K7 := Lib.hid h7
      clear h7
      replace K6 := Lib.hid (Blk.keep0 K6.out gx13)
      replace K3 := Lib.hid (stsKeep0 K3.out gx13)
      replace P12 := Lib.hid (partsKeep_I P12.out gx13)
      replace P6 := Lib.hid (partsKeep_S P6.out gx13)
      refine hK.out _ _ (⟨gb_trans hHeld.1 gx13, hHeld.2.1.keep0 gx13, hHeld.2.2.keep0 gx13⟩) (fun hHeld => ?_)
      clear hK K
      try simp only [Act.put, List.setIfInBounds_toArray, List.set_cons_zero, List.set_cons_succ]
      refine wpAnyH_ready (rs := [13]) (by kernel_rfl) (by simp) ?_
      refine AllReadyH.cons (List.getElem?_toArray.trans rfl) (fun K hK => ?_) AllReadyH.nil
      go_simp
      go_at_call 124
      (with_reducible refine (HCI.out _ _ P12.out).mono ?_)
      rintro e x14 ⟨v13, rfl, h13, gx14⟩
      obtain ⟨a13, m13, e13, rfl⟩ := shape' h13
      have K13 := Lib.hid h13
      clear h13
      replace K6 := Lib.hid (Blk.keep0 K6.out gx14)
      replace K3 := Lib.hid (stsKeep0 K3.out gx14)
      replace P12 := Lib.hid (partsKeep_I P12.out gx14)
      replace P6 := Lib.hid (partsKeep_S P6.out gx14)
      replace K7 := Lib.hid (stsKeep0 K7.out gx14)
      refine hK.out _ _ (⟨gb_trans hHeld.1 gx14, hHeld.2.1.keep0 gx14, hHeld.2.2.keep0 gx14⟩) (fun hHeld => ?_)
      clear hK K
      try simp only [Act.put, List.setIfInBounds_toArray, List.set_cons_zero, List.set_cons_succ]
      refine wpAnyH_take (i := 14) (v := ?_) (List.getElem?_toArray.trans rfl) (by kernel_rfl) (by kernel_rfl) (by kernel_rfl) (fun _ _ _ h => h) (Or.inl ⟨by rfl, ?_⟩) hHeld ?_
      rotate_left
      · intro w' hSw; obtain ⟨hg, b0, b1⟩ := hSw; have d2 := b0.cell 2 rfl; have d3 := b0.cell 3 rfl; have e2 := b1.cell 2 rfl; have e3 := b1.cell 3 rfl; clear b0 b1; go_simp; try with_reducible rfl
      try simp only [Act.put, List.setIfInBounds_toArray, List.set_cons_zero, List.set_cons_succ]
      refine wpAnyH_ready (rs := [15]) (by kernel_rfl) (by simp) ?_
      refine AllReadyH.cons (List.getElem?_toArray.trans rfl) (fun K hK => ?_) AllReadyH.nil
      refine st_nodeO _ _ rfl (w.heap.size + 1 + 1) 26 false none a7 a13 0 m7 m13 0 e7 e13 rfl (by first | rfl | simp [Act.eval]) _ _ _ _ K6.out ?_
      intro x15 n15 g15
      replace K7 := Lib.hid (stsKeepN K7.out (Nbl.node K6.out) g15)
      replace K13 := Lib.hid (K13.out.keepN (Nbl.node K6.out) g15)
      refine hK.out _ _ (⟨gb_step hHeld.1 g15 (by omega), hHeld.2.1.keep g15 (ne_some (by omega)), hHeld.2.2.keep g15 (ne_some (by omega))⟩) (fun hHeld => ?_)
      clear hK K
      try simp only [Act.put, List.setIfInBounds_toArray, List.set_cons_zero, List.set_cons_succ]
      refine wpAnyH_done (by kernel_rfl) ?_ _
      refine NoPanic.normal ?_
      go_wp2
      refine bodyPost_ret (results_c rfl _ _ _ _ _ _ _ rfl n15) rfl ⟨_, rfl, ⟨_, _, _, rfl, Sl.nil _ _, ?_, ?_⟩, hHeld.1⟩
      · exact K7.out
      · exact K13.out
  · go_simp
    obtain ⟨x16, hn, kk, gx16, hz⟩ := new1 u0 24 #[.slice co n3 cc, .slice eo n4 cd]
    rw [← hn]
    have P12 := Lib.hid (parts2_I kk (HK.out.keep0 (gb_trans hHeld.1 gx16)) (HR.out.keep0 (gb_trans hHeld.1 gx16)))
    clear hn kk hz
    generalize u0.heap.size = b12 at P12 ⊢
    replace K6 := Lib.hid (Blk.keep0 K6.out gx16)
    refine hK.out _ _ (⟨gb_trans hHeld.1 gx16, hHeld.2.1.keep0 gx16, hHeld.2.2.keep0 gx16⟩) (fun hHeld => ?_)
    clear hK K
    try simp only [Act.put, List.setIfInBounds_toArray, List.set_cons_zero, List.set_cons_succ]
    refine wpAnyH_ready (rs := [3]) (by kernel_rfl) (by simp) ?_
    refine AllReadyH.cons (List.getElem?_toArray.trans rfl) (fun K hK => ?_) AllReadyH.nil
    go_simp
    obtain ⟨x17, hn, kk, gx17, hz⟩ := new1 x16 9 #[.string k]
    rw [← hn]
    have K3 := Lib.hid (sts_one kk)
    clear hn kk hz
    generalize x16.heap.size = b3 at K3 ⊢
    replace K6 := Lib.hid (Blk.keep0 K6.out gx17)
    replace P12 := Lib.hid (partsKeep_I P12.out gx17)
    refine hK.out _ _ (⟨gb_trans hHeld.1 gx17, hHeld.2.1.keep0 gx17, hHeld.2.2.keep0 gx17⟩) (fun hHeld => ?_)
    clear hK K
    try simp only [Act.put, List.setIfInBounds_toArray, List.set_cons_zero, List.set_cons_succ]
    refine wpAnyH_ready (rs := [6]) (by kernel_rfl) (by simp) ?_
    refine AllReadyH.cons (List.getElem?_toArray.trans rfl) (fun K hK => ?_) AllReadyH.nil
    go_simp
    obtain ⟨x18, hn, kk, gx18, hz⟩ := new1 x17 23 #[.slice ao n1 ca, .slice (some ⟨b3, 0, none⟩) 1 1, .slice bo n2 cb]
    rw [← hn]
    have P6 := Lib.hid (parts3_S kk (stsKeep0 HA.out (gb_trans hHeld.1 gx18)) (stsKeep0 K3.out gx18) (stsKeep0 HP.out (gb_trans hHeld.1 gx18)))
    clear hn kk hz
    generalize x17.heap.size = b6 at P6 ⊢
    replace K6 := Lib.hid (Blk.keep0 K6.out gx18)
    replace P12 := Lib.hid (partsKeep_I P12.out gx18)
    replace K3 := Lib.hid (stsKeep0 K3.out gx18)
    refine hK.out _ _ (⟨gb_trans hHeld.1 gx18, hHeld.2.1.keep0 gx18, hHeld.2.2.keep0 gx18⟩) (fun hHeld => ?_)
    clear hK K
    try simp only [Act.put, List.setIfInBounds_toArray, List.set_cons_zero, List.set_cons_succ]
    refine wpAnyH_ready (rs := [7]) (by kernel_rfl) (by simp) ?_
    refine AllReadyH.cons (List.getElem?_toArray.trans rfl) (fun K hK => ?_) AllReadyH.nil
    go_simp
    go_at_call 123
    (with_reducible refine (HCS.out _ _ P6.out).mono ?_)
    rintro e x19 ⟨v7, rfl, h7, gx19⟩
    obtain ⟨a7, m7, e7, rfl⟩ := shape' h7
    have K7 := Lib.hid h7
    clear h7
    replace K6 := Lib.hid (Blk.keep0 K6.out gx19)
    replace P12 := Lib.hid (partsKeep_I P12.out gx19)
    replace K3 := Lib.hid (stsKeep0 K3.out gx19)
    replace P6 := Lib.hid (partsKeep_S P6.out gx19)
    refine hK.out _ _ (⟨gb_trans hHeld.1 gx19, hHeld.2.1.keep0 gx19, hHeld.2.2.keep0 gx19⟩) (fun hHeld => ?_)
    clear hK K
    try simp only [Act.put, List.setIfInBounds_toArray, List.set_cons_zero, List.set_cons_succ]
    refine wpAnyH_ready (rs := [13]) (by kernel_rfl) (by simp) ?_
    refine AllReadyH.cons (List.getElem?_toArray.trans rfl) (fun K hK => ?_) AllReadyH.nil
    go_simp
    go_at_call 124
    (with_reducible refine (HCI.out _ _ P12.out).mono ?_)
    rintro e x20 ⟨v13, rfl, h13, gx20⟩
    obtain ⟨a13, m13, e13, rfl⟩ := shape' h13
    have K13 := Lib.hid h13
    clear h13
    replace K6 := Lib.hid (Blk.keep0 K6.out gx20)
    replace P12 := Lib.hid (partsKeep_I P12.out gx20)
    replace K3 := Lib.hid (stsKeep0 K3.out gx20)
    replace P6 := Lib.hid (partsKeep_S P6.out gx20)
    replace K7 := Lib.hid (stsKeep0 K7.out gx20)
    refine hK.out _ _ (⟨gb_trans hHeld.1 gx20, hHeld.2.1.keep0 gx20, hHeld.2.2.keep0 gx20⟩) (fun hHeld => ?_)
    clear hK K
    try simp only [Act.put, List.setIfInBounds_toArray, List.set_cons_zero, List.set_cons_succ]
    refine wpAnyH_take (i := 14) (v := ?_) (List.getElem?_toArray.trans rfl) (by kernel_rfl) (by kernel_rfl) (by kernel_rfl) (fun _ _ _ h => h) (Or.inl ⟨by rfl, ?_⟩) hHeld ?_
    rotate_left
    · intro w' hSw; obtain ⟨hg, b0, b1⟩ := hSw; have d2 := b0.cell 2 rfl; have d3 := b0.cell 3 rfl; have e2 := b1.cell 2 rfl; have e3 := b1.cell 3 rfl; clear b0 b1; go_simp; try with_reducible rfl
    try simp only [Act.put, List.setIfInBounds_toArray, List.set_cons_zero, List.set_cons_succ]
    refine wpAnyH_ready (rs := [15]) (by kernel_rfl) (by simp) ?_
    refine AllReadyH.cons (List.getElem?_toArray.trans rfl) (fun K hK => ?_) AllReadyH.nil
    refine st_nodeO _ _ rfl (w.heap.size + 1 + 1) 26 false none a7 a13 0 m7 m13 0 e7 e13 rfl (by first | rfl | simp [Act.eval]) _ _ _ _ K6.out ?_
    intro x21 n15 g15
    replace K7 := Lib.hid (stsKeepN K7.out (Nbl.node K6.out) g15)
    replace K13 := Lib.hid (K13.out.keepN (Nbl.node K6.out) g15)
    refine hK.out _ _ (⟨gb_step hHeld.1 g15 (by omega), hHeld.2.1.keep g15 (ne_some (by omega)), hHeld.2.2.keep g15 (ne_some (by omega))⟩) (fun hHeld => ?_)
    clear hK K
    try simp only [Act.put, List.setIfInBounds_toArray, List.set_cons_zero, List.set_cons_succ]
    refine wpAnyH_done (by kernel_rfl) ?_ _
    refine NoPanic.normal ?_
    go_wp2
    refine bodyPost_ret (results_c rfl _ _ _ _ _ _ _ rfl n15) rfl ⟨_, rfl, ⟨_, _, _, rfl, Sl.nil _ _, ?_, ?_⟩, hHeld.1⟩
    · exact K7.out
    · exact K13.out
end Go.Proofs.YthhimhjegodklaaGreat.N11

