/-
  The law NodeRoom, walked: both parts of a made node that does not fit, but did without its last item, fit; conditions: the numbers lie.
-/
import Derived.Test.YthhimhjegodklaaGreatNzf
import Derived.Test.YthhimhjegodklaaGreatNze
import Derived.Deep.DeepCutAuto
namespace Go.Proofs.YthhimhjegodklaaGreat.N11
set_option linter.unusedSimpArgs false
set_option linter.unusedVariables false
open Go.RowKit
theorem bs_take {w : World} {a : Addr} {n cap : Nat} {L : List UInt8} (h : Bs w (.slice (some a) n cap) L) (k : Nat) (hk : k ≤ L.length) : Bs w (.slice (some a) k cap) (L.take k) := by
  obtain ⟨ao, cap', he, h2, h3, h4⟩ := h
  cases he
  refine ⟨some a, cap, by rw [List.length_take, Nat.min_eq_left hk], by rw [List.length_take]; omega, (fun e => by cases e), fun b e j u hj => ?_⟩
  cases e
  refine h4 a rfl j u ?_
  unfold bcells at hj ⊢
  rw [List.map_take] at hj
  have hj2 : j < k := by
    have := (List.getElem?_eq_some_iff.1 hj).1
    rw [List.length_take] at this; omega
  rw [List.getElem?_take_of_lt hj2] at hj
  exact hj
/-- Both made nodes, in an array. -/
def PairAt (w : World) (b : Nat) (h : ByteArray) (L : List UInt8) : Prop := ∃ a1 a2 a3 o1 o2 o3 n1 n2 n3 c1 c2 c3 m1 m2 m3 d1 d2 d3, Blk w b 27 #[.bool true, .slice a1 n1 c1, .slice a2 n2 c2, .slice a3 n3 c3, .bool false, .slice o1 m1 d1, .slice o2 m2 d2, .slice o3 m3 d3] ∧ NdV w (.agg #[.bool true, .slice a1 n1 c1, .slice a2 n2 c2, .slice a3 n3 c3]) (leafM h L) ∧ NdV w (.agg #[.bool false, .slice o1 m1 d1, .slice o2 m2 d2, .slice o3 m3 d3]) (innerM h L)
theorem PairAt.keep0 {w w' : World} {b : Nat} {h : ByteArray} {L : List UInt8} (p : PairAt w b h L) (g : w.grownBy w' none) : PairAt w' b h L := by
  obtain ⟨a1, a2, a3, o1, o2, o3, n1, n2, n3, c1, c2, c3, m1, m2, m3, d1, d2, d3, q1, q2, q3⟩ := p
  exact ⟨a1, a2, a3, o1, o2, o3, n1, n2, n3, c1, c2, c3, m1, m2, m3, d1, d2, d3, q1.keep0 g, q2.keep0 g, q3.keep0 g⟩
theorem leafX {w : World} {v : Value} {h : ByteArray} {L : List UInt8} (hv : NdV w v (leafM h L)) : ∃ a1 n1 c1 a2 n2 c2 a3 n3 c3, v = .agg #[.bool true, .slice a1 n1 c1, .slice a2 n2 c2, .slice a3 n3 c3] := by
  obtain ⟨a1, c1, a2, c2, a3, c3, rfl⟩ := NdV.parts hv
  exact ⟨_, _, _, _, _, _, _, _, _, rfl⟩
theorem innerX {w : World} {v : Value} {h : ByteArray} {L : List UInt8} (hv : NdV w v (innerM h L)) : ∃ a1 n1 c1 a2 n2 c2 a3 n3 c3, v = .agg #[.bool false, .slice a1 n1 c1, .slice a2 n2 c2, .slice a3 n3 c3] := by
  obtain ⟨a1, c1, a2, c2, a3, c3, rfl⟩ := NdV.parts hv
  exact ⟨_, _, _, _, _, _, _, _, _, rfl⟩
theorem Nbl.two {w : World} {b : Nat} {t : TypeId} {x y : Bool} {a1 a2 a3 o1 o2 o3 : Option Addr} {n1 n2 n3 c1 c2 c3 m1 m2 m3 d1 d2 d3 : Nat} (h : Blk w b t #[.bool x, .slice a1 n1 c1, .slice a2 n2 c2, .slice a3 n3 c3, .bool y, .slice o1 m1 d1, .slice o2 m2 d2, .slice o3 m3 d3]) : Nbl w b :=
  ⟨t, _, h, fun u hu => by simp at hu; rcases hu with rfl | rfl | rfl | rfl | rfl | rfl | rfl | rfl <;> rfl⟩
theorem PairAt.lt {w : World} {b : Nat} {h : ByteArray} {L : List UInt8} (p : PairAt w b h L) : b < w.heap.size := by
  obtain ⟨a1, a2, a3, o1, o2, o3, n1, n2, n3, c1, c2, c3, m1, m2, m3, d1, d2, d3, q1, q2, q3⟩ := p
  exact q1.lt
theorem PairAt.keepN {w w' : World} {b j : Nat} {h : ByteArray} {L : List UInt8} (p : PairAt w b h L) (nb : Nbl w j) (g : w.grownBy w' (some j)) (hj : b ≠ j) : PairAt w' b h L := by
  obtain ⟨a1, a2, a3, o1, o2, o3, n1, n2, n3, c1, c2, c3, m1, m2, m3, d1, d2, d3, q1, q2, q3⟩ := p
  exact ⟨a1, a2, a3, o1, o2, o3, n1, n2, n3, c1, c2, c3, m1, m2, m3, d1, d2, d3, q1.keep g (ne_some hj), q2.keepN nb g, q3.keepN nb g⟩
theorem cellsM_pre (h : ByteArray) (L : List UInt8) (k j : Nat) (hj : j ≤ k) : (cellsM h L k).take j = cellsM h L j := by
  unfold cellsM; rw [← List.map_take, List.take_range, Nat.min_eq_left hj]
theorem keysM_pre (h : ByteArray) (L : List UInt8) (k j : Nat) (hj : j ≤ k) : (keysM h L k).take j = keysM h L j := by
  unfold keysM; rw [← List.map_take, List.take_range, Nat.min_eq_left hj]
theorem leafT (h : ByteArray) (L : List UInt8) (k : Nat) (hk : k ≤ L.length) (h30 : k ≤ 30) : leafM h (L.take k) = ⟨true, cellsM h L k, [], []⟩ := by
  unfold leafM
  rw [List.length_take, show min (min k L.length) 30 = k by omega, cellsM_take h L k k (Nat.le_refl _) hk]
theorem innerT (h : ByteArray) (L : List UInt8) (k : Nat) (hk : k ≤ L.length) (h30 : k ≤ 30) : (innerM h (L.take k)).keys = keysM h L k ∧ (innerM h (L.take k)).leaf = false := by
  unfold innerM
  refine ⟨?_, rfl⟩
  show keysM h (L.take k) (min (L.take k).length 30) = _
  rw [List.length_take, show min (min k L.length) 30 = k by omega, keysM_take h L k k (Nat.le_refl _) hk]
theorem leaf_room (h : ByteArray) (L : List UInt8) (k : Nat) (hk : k + 1 ≤ L.length) (h30 : k + 1 ≤ 30) (hm : (leafM h (L.take k)).fits = true) : (leafM h (L.take (k + 1))).few = false ∧ ∀ r A B key, BestN (leafM h (L.take (k + 1))) r → IsCut (leafM h (L.take (k + 1))) r A B key → A.fits = true ∧ B.fits = true := by
  have hmay := leafM_may h (L.take (k + 1)) (by rw [List.length_take]; omega)
  unfold Nd.fits at hm
  rw [Bool.and_eq_true, decide_eq_true_eq] at hm
  have hk1 : 1 ≤ k := by
    rcases Nat.eq_zero_or_pos k with h0 | h0
    · subst h0; have h2 := leafM_none h (L.take 0) (by simp); rw [h2] at hm; exact absurd hm.1 Bool.false_ne_true
    · exact h0
  have e1 := leafT h L (k + 1) hk h30
  have e2 := leafT h L k (by omega) (by omega)
  have hcl : (leafM h (L.take (k + 1))).cells.length = k + 1 := by rw [e1]; exact cellsM_length h L _
  have hfew : (leafM h (L.take (k + 1))).few = false := by
    unfold Nd.few
    rw [hmay, if_pos (show (leafM h (L.take (k + 1))).leaf = true from rfl), hcl]
    simp; omega
  refine ⟨hfew, fun r A B key hb hc => room_leaf rfl hmay hb hfew hc ?_⟩
  rw [hcl, e1, Nat.add_sub_cancel]
  show 2 + sumF cellSz ((cellsM h L (k + 1)).take k) ≤ 240
  rw [cellsM_pre h L (k + 1) k (by omega)]
  have h3 := hm.2
  rw [e2] at h3
  exact h3
theorem inner_room (h : ByteArray) (L : List UInt8) (k : Nat) (hk : k + 1 ≤ L.length) (h30 : k + 1 ≤ 30) (hn : (innerM h (L.take (k + 1))).fits = false) (hm : (innerM h (L.take k)).fits = true) : (innerM h (L.take (k + 1))).few = false ∧ ∀ r A B key, BestN (innerM h (L.take (k + 1))) r → IsCut (innerM h (L.take (k + 1))) r A B key → A.fits = true ∧ B.fits = true := by
  have hmay := innerM_may h (L.take (k + 1)) (by rw [List.length_take]; omega)
  unfold Nd.fits at hm
  rw [Bool.and_eq_true, decide_eq_true_eq] at hm
  obtain ⟨e1, l1⟩ := innerT h L (k + 1) hk h30
  obtain ⟨e2, l2⟩ := innerT h L k (by omega) (by omega)
  have hcl : (innerM h (L.take (k + 1))).keys.length = k + 1 := by rw [e1]; exact keysM_length h L _
  have hsz : (innerM h (L.take (k + 1))).size = 4 + sumF keySz (innerM h (L.take (k + 1))).keys := rfl
  have hk2 : 2 ≤ k := by
    rcases Nat.lt_or_ge k 2 with h0 | h0
    · unfold Nd.fits at hn
      rw [hmay, Bool.true_and, decide_eq_false_iff_not, hsz] at hn
      have := sumF_le keySz (innerM h (L.take (k + 1))).keys 43 (fun x hx => (keySz_le x (((may_inner l1).1 hmay).2.2.2.1 x hx)).2)
      rw [hcl] at this
      omega
    · exact h0
  have hfew : (innerM h (L.take (k + 1))).few = false := by
    unfold Nd.few
    rw [hmay, if_neg (by rw [l1]; exact Bool.false_ne_true), hcl]
    simp; omega
  refine ⟨hfew, fun r A B key hb hc => room_inner l1 hmay hb hfew hc ?_⟩
  rw [hcl, e1, Nat.add_sub_cancel, keysM_pre h L (k + 1) k (by omega)]
  have h3 : 4 + sumF keySz (innerM h (L.take k)).keys ≤ 240 := hm.2
  rw [e2] at h3
  exact h3
theorem cut_lim {n A B : Nd} {r : Nat} {k : ByteArray} (hc : IsCut n r A B k) (ho : n.Lim) : A.Lim ∧ B.Lim := by
  have h1 := ho.cells
  have h2 := ho.keys
  have h3 := ho.kids
  rcases hc with ⟨_, x, _, rfl, rfl, rfl⟩ | ⟨_, _, rfl, rfl⟩
  · exact ⟨⟨by show (n.cells.take r).length ≤ 300000; rw [List.length_take]; omega, Nat.zero_le _, Nat.zero_le _⟩, ⟨by show (n.cells.drop r).length ≤ 300000; rw [List.length_drop]; omega, Nat.zero_le _, Nat.zero_le _⟩⟩
  · exact ⟨⟨Nat.zero_le _, by show (n.keys.take r).length ≤ 300000; rw [List.length_take]; omega, by show (n.kids.take (r + 1)).length ≤ 300001; rw [List.length_take]; omega⟩, ⟨Nat.zero_le _, by show (n.keys.drop (r + 1)).length ≤ 300000; rw [List.length_drop]; omega, by show (n.kids.drop (r + 1)).length ≤ 300001; rw [List.length_drop]; omega⟩⟩
theorem ndX {w : World} {v : Value} {n : Nd} (hv : NdV w v n) : ∃ lf a1 n1 c1 a2 n2 c2 a3 n3 c3, v = .agg #[.bool lf, .slice a1 n1 c1, .slice a2 n2 c2, .slice a3 n3 c3] := by
  obtain ⟨a1, c1, a2, c2, a3, c3, rfl⟩ := NdV.parts hv
  exact ⟨_, _, _, _, _, _, _, _, _, _, rfl⟩
theorem fits_is {n : Nd} {b : Bool} (hf : n.fits = b) (ho : n.Lim) (W : World) (v : Value) (hv : NdV W v n) : Calls Tryz.prog 15 #[v] W fun e w' => e = .returned (.bool b) ∧ W.grownBy w' none :=
  (fits_any v n W hv ho).mono fun e w' hq => by rw [hf] at hq; exact hq
set_option maxRecDepth 100000 in
set_option maxHeartbeats 4000000 in
theorem room_any (h : ByteArray) (v : Value) (L : List UInt8) (w : World) (hv : Bs w v L) : Calls Tryz.prog 5 #[.agg #[.string h, v]] w fun e w' => e = .returned (.bool true) ∧ Below w.heap.size w w' := by
  obtain ⟨ao, cap, rfl, hcap, hnil, hcell⟩ := hv
  have HV := Lib.hid (show Bs w (.slice ao L.length cap) L from ⟨ao, cap, rfl, hcap, hnil, hcell⟩)
  obtain ⟨w0, hw0, kM, g0, hz0⟩ := new1 w 30 #[.string h, .slice ao L.length cap]
  have HW := Lib.hid hw0
  clear hw0 hz0 hnil hcell
  go_enter Tryz.func5, Tryz.ntmps5
  go_wp2_with (go_at_call 13; rw [← HW.out]; (with_reducible refine (works_any _).mono ?_); rintro e w1 ⟨rfl, g1⟩; have kM1 := kM.keep0 g1; have G1 := gb_trans g0 g1; clear g0 g1 kM)
  go_loopw [3] (fun z wr => ∃ k : Nat, k ≤ min L.length 30 ∧ z = .int .i64 ((k : Int) + 1) ∧ Blk wr w.heap.size 30 #[.string h, .slice ao L.length cap] ∧ w.grownBy wr none) (fun z _ => min L.length 30 + 1 - (intOf z).toNat)
  case atStart => exact ⟨0, Nat.zero_le _, rfl, kM1, G1⟩
  case round =>
    clear kM1 G1
    obtain ⟨k0, hk0, rfl, kM, hg⟩ := hrel
    have c0 := kM.cell 0 rfl
    have c1 := kM.cell 1 rfl
    by_cases hlt : k0 < min L.length 30
    · obtain ⟨k, hk⟩ : ∃ k, k0 + 1 = k := ⟨_, rfl⟩
      have hkz : (k0 : Int) + 1 = (k : Int) := by omega
      rw [hkz]
      have h1 : k ≤ L.length := by omega
      have h30 : k ≤ 30 := by omega
      have hkc : k ≤ cap := by omega
      cases ao with
      | none =>
        obtain ⟨ao', cap', he, hcap, hnil, hcell⟩ := HV.out
        cases he
        have := (hnil rfl).1
        omega
      | some a =>
      have HL : Hid (∀ j, j ≤ L.length → ∀ W, w.grownBy W none → Calls Tryz.prog 8 #[.agg #[.string h, .slice (some a) j cap]] W (MadeGot (leafM h (L.take j)) W)) := Lib.hid (fun j hj W g => leaf_any h _ _ W (bs_take (HV.out.keep0 g) j hj))
      have HI : Hid (∀ j, j ≤ L.length → ∀ W, w.grownBy W none → Calls Tryz.prog 9 #[.agg #[.string h, .slice (some a) j cap]] W (MadeGot (innerM h (L.take j)) W)) := Lib.hid (fun j hj W g => inner_any h _ _ W (bs_take (HV.out.keep0 g) j hj))
      have KM := Lib.hid kM
      have HG := Lib.hid hg
      clear kM hg
      go_wp2
      clear c0 c1
      refine wp_region_noPanic ?_
      refine wp_region_held_drew (S := fun w' => w'.cell? ⟨w.heap.size, 0, none⟩ = some (.string h) ∧ w'.cell? ⟨w.heap.size, 1, none⟩ = some (.slice (some a) L.length cap)) (by kernel_rfl) ⟨(KM.out.keep0 (gb_drew _ none)).cell 0 rfl, (KM.out.keep0 (gb_drew _ none)).cell 1 rfl⟩ (fun hHeld => ?_)
      replace KM := Lib.hid (KM.out.keep0 (gb_drew wr none))
      replace HG := Lib.hid (gb_trans HG.out (gb_drew wr none))
      generalize wr.drew = wrd at KM HG hHeld ⊢
      refine wpAnyH_take (i := 0) (v := ?_) (List.getElem?_toArray.trans rfl) (by kernel_rfl) (by kernel_rfl) (by kernel_rfl) (fun _ _ _ h => h) (Or.inl ⟨by rfl, ?_⟩) hHeld ?_
      rotate_left
      · intro w' hSw; have m0 := hSw.1; have m1 := hSw.2; go_simp; try with_reducible rfl
      try simp only [Act.put, List.setIfInBounds_toArray, List.set_cons_zero, List.set_cons_succ]
      refine wpAnyH_take (i := 1) (v := ?_) (List.getElem?_toArray.trans rfl) (by kernel_rfl) (by kernel_rfl) (by kernel_rfl) (fun _ _ _ h => h) (Or.inl ⟨by rfl, ?_⟩) hHeld ?_
      rotate_left
      · intro w' hSw; have m0 := hSw.1; have m1 := hSw.2; go_simp; try with_reducible rfl
      try simp only [Act.put, List.setIfInBounds_toArray, List.set_cons_zero, List.set_cons_succ]
      refine wpAnyH_take (i := 2) (v := ?_) (List.getElem?_toArray.trans rfl) (by kernel_rfl) (by kernel_rfl) (by kernel_rfl) (fun _ _ _ h => h) (Or.inl ⟨by rfl, ?_⟩) hHeld ?_
      rotate_left
      · intro w' hSw; have m0 := hSw.1; have m1 := hSw.2; go_simp; try with_reducible rfl
      try simp only [Act.put, List.setIfInBounds_toArray, List.set_cons_zero, List.set_cons_succ]
      refine wpAnyH_take (i := 3) (v := ?_) (List.getElem?_toArray.trans rfl) (by kernel_rfl) (by kernel_rfl) (by kernel_rfl) (fun _ _ _ h => h) (Or.inl ⟨by rfl, ?_⟩) hHeld ?_
      rotate_left
      · intro w' hSw; have m0 := hSw.1; have m1 := hSw.2; go_simp; try with_reducible rfl
      try simp only [Act.put, List.setIfInBounds_toArray, List.set_cons_zero, List.set_cons_succ]
      refine wpAnyH_take (i := 4) (v := ?_) (List.getElem?_toArray.trans rfl) (by kernel_rfl) (by kernel_rfl) (by kernel_rfl) (fun _ _ _ h => h) (Or.inl ⟨by rfl, ?_⟩) hHeld ?_
      rotate_left
      · intro w' hSw; have m0 := hSw.1; have m1 := hSw.2; go_simp; try with_reducible rfl
      try simp only [Act.put, List.setIfInBounds_toArray, List.set_cons_zero, List.set_cons_succ]
      refine wpAnyH_take (i := 5) (v := ?_) (List.getElem?_toArray.trans rfl) (by kernel_rfl) (by kernel_rfl) (by kernel_rfl) (fun _ _ _ h => h) (Or.inl ⟨by rfl, ?_⟩) hHeld ?_
      rotate_left
      · intro w' hSw; have m0 := hSw.1; have m1 := hSw.2; go_simp; try with_reducible rfl
      try simp only [Act.put, List.setIfInBounds_toArray, List.set_cons_zero, List.set_cons_succ]
      refine wpAnyH_take (i := 6) (v := ?_) (List.getElem?_toArray.trans rfl) (by kernel_rfl) (by kernel_rfl) (by kernel_rfl) (fun _ _ _ h => h) (Or.inl ⟨by rfl, ?_⟩) hHeld ?_
      rotate_left
      · intro w' hSw; have m0 := hSw.1; have m1 := hSw.2; go_simp; try with_reducible rfl
      try simp only [Act.put, List.setIfInBounds_toArray, List.set_cons_zero, List.set_cons_succ]
      refine wpAnyH_ready (rs := [7]) (by kernel_rfl) (by simp) ?_
      refine AllReadyH.cons (List.getElem?_toArray.trans rfl) (fun K hK => ?_) AllReadyH.nil
      go_simp
      obtain ⟨p1, hC, kC, gx1, hzz⟩ := new1 wrd 30 #[.string ⟨#[]⟩, .slice none 0 0]
      rw [← hC]
      clear hC hzz
      have hb4 : w.heap.size < wrd.heap.size := KM.out.lt
      replace KM := Lib.hid (KM.out.keep0 gx1)
      replace HG := Lib.hid (gb_trans HG.out gx1)
      have HB : Hid (∀ W, World.grownBy p1 W (some wrd.heap.size) → World.grownBy wrd W none) := Lib.hid (fun W q => gb_step gx1 q (Nat.le_refl _))
      generalize wrd.heap.size = b4 at kC hb4 HB ⊢
      have K4 := Lib.hid kC
      clear kC
      refine hK.out _ _ (⟨KM.out.cell 0 rfl, KM.out.cell 1 rfl⟩) (fun hHeld => ?_)
      clear hK K
      try simp only [Act.put, List.setIfInBounds_toArray, List.set_cons_zero, List.set_cons_succ]
      refine wpAnyH_ready (rs := [8]) (by kernel_rfl) (by simp) ?_
      refine AllReadyH.cons (List.getElem?_toArray.trans rfl) (fun K hK => ?_) AllReadyH.nil
      have n0 := K4.out.cell 0 rfl
      have n1 := K4.out.cell 1 rfl
      have f0 := K4.out.free 0
      have f1 := K4.out.free 1
      go_simp
      obtain ⟨p2, hD⟩ : ∃ z : World, z = (p1.setCell ⟨b4, 0, none⟩ (.string h)).setCell ⟨b4, 1, none⟩ (.slice (some a) k cap) := ⟨_, rfl⟩
      rw [← hD]
      have gx2 : p1.grownBy p2 (some b4) := by rw [hD]; exact gb_trans (gb_set _ _ _ _ _) (gb_set _ _ _ _ _)
      have kS : Blk p2 b4 30 #[.string h, .slice (some a) k cap] := by rw [hD]; exact (K4.out.set 0 _).set 1 _
      clear hD n0 n1 f0 f1 K4
      have K4 := Lib.hid kS
      clear kS
      replace KM := Lib.hid (KM.out.keep gx2 (ne_some (by omega)))
      replace HG := Lib.hid (gb_step HG.out gx2 (by omega))
      clear HB
      refine hK.out _ _ (⟨KM.out.cell 0 rfl, KM.out.cell 1 rfl⟩) (fun hHeld => ?_)
      clear hK K
      try simp only [Act.put, List.setIfInBounds_toArray, List.set_cons_zero, List.set_cons_succ]
      refine wpAnyH_done (by kernel_rfl) ?_ _
      refine NoPanic.normal ?_
      go_wp2_with fail
      go_upto_region 7 with fail
      go_cut [5] (fun s5 wx => ∃ b5 : Nat, s5 = .pointer (some ⟨b5, 0, none⟩) ∧ PairAt wx b5 h (L.take k) ∧ Blk wx w.heap.size 30 #[.string h, .slice (some a) L.length cap] ∧ w.grownBy wx none)
      case first =>
              refine wp_region_noPanic ?_
              refine wp_region_held_drew (S := fun w' => w'.cell? ⟨b4, 0, none⟩ = some (.string h) ∧ w'.cell? ⟨b4, 1, none⟩ = some (.slice (some a) k cap)) (by kernel_rfl) ⟨(K4.out.keep0 (gb_drew _ none)).cell 0 rfl, (K4.out.keep0 (gb_drew _ none)).cell 1 rfl⟩ (fun hHeld => ?_)
              replace KM := Lib.hid (KM.out.keep0 (gb_drew p2 none))
              replace K4 := Lib.hid (K4.out.keep0 (gb_drew p2 none))
              replace HG := Lib.hid (gb_trans HG.out (gb_drew p2 none))
              generalize p2.drew = x2d at KM K4 HG hHeld ⊢
              refine wpAnyH_take (i := 0) (v := ?_) (List.getElem?_toArray.trans rfl) (by kernel_rfl) (by kernel_rfl) (by kernel_rfl) (fun _ _ _ h => h) (Or.inl ⟨by rfl, ?_⟩) hHeld ?_
              rotate_left
              · intro w' hSw; have m0 := hSw.1; have m1 := hSw.2; go_simp; try with_reducible rfl
              try simp only [Act.put, List.setIfInBounds_toArray, List.set_cons_zero, List.set_cons_succ]
              refine wpAnyH_take (i := 2) (v := ?_) (List.getElem?_toArray.trans rfl) (by kernel_rfl) (by kernel_rfl) (by kernel_rfl) (fun _ _ _ h => h) (Or.inl ⟨by rfl, ?_⟩) hHeld ?_
              rotate_left
              · intro w' hSw; have m0 := hSw.1; have m1 := hSw.2; go_simp; try with_reducible rfl
              try simp only [Act.put, List.setIfInBounds_toArray, List.set_cons_zero, List.set_cons_succ]
              refine wpAnyH_ready (rs := [1, 5]) (by kernel_rfl) (by simp) ?_
              refine AllReadyH.cons (List.getElem?_toArray.trans rfl) (fun K hK => ?_) (AllReadyH.cons (List.getElem?_toArray.trans rfl) (fun K hK => ?_) AllReadyH.nil)
              · go_simp
                go_at_call 8
                (with_reducible refine (HL.out _ (by omega) _ HG.out).mono ?_)
                rintro e q1 ⟨v, rfl, hv, gx1⟩
                obtain ⟨l1, l2, l3, l4, l5, l6, l7, l8, l9, rfl⟩ := leafX hv
                replace KM := Lib.hid (KM.out.keep0 gx1)
                replace K4 := Lib.hid (K4.out.keep0 gx1)
                replace HG := Lib.hid (gb_trans HG.out gx1)
                try replace K5 := Lib.hid (K5.out.keep0 gx1)
                try replace VI := Lib.hid (VI.out.keep0 gx1)
                have VL := Lib.hid hv
                clear hv
                refine hK.out _ _ (⟨K4.out.cell 0 rfl, K4.out.cell 1 rfl⟩) (fun hHeld => ?_)
                clear hK K
                try simp only [Act.put, List.setIfInBounds_toArray, List.set_cons_zero, List.set_cons_succ]
                refine wpAnyH_ready (rs := [3, 5]) (by kernel_rfl) (by simp) ?_
                refine AllReadyH.cons (List.getElem?_toArray.trans rfl) (fun K hK => ?_) (AllReadyH.cons (List.getElem?_toArray.trans rfl) (fun K hK => ?_) AllReadyH.nil)
                · go_simp
                  go_at_call 9
                  (with_reducible refine (HI.out _ (by omega) _ HG.out).mono ?_)
                  rintro e q2 ⟨v, rfl, hv, gx2⟩
                  obtain ⟨o1, o2, o3, o4, o5, o6, o7, o8, o9, rfl⟩ := innerX hv
                  replace KM := Lib.hid (KM.out.keep0 gx2)
                  replace K4 := Lib.hid (K4.out.keep0 gx2)
                  replace HG := Lib.hid (gb_trans HG.out gx2)
                  try replace K5 := Lib.hid (K5.out.keep0 gx2)
                  try replace VL := Lib.hid (VL.out.keep0 gx2)
                  have VI := Lib.hid hv
                  clear hv
                  refine hK.out _ _ (⟨K4.out.cell 0 rfl, K4.out.cell 1 rfl⟩) (fun hHeld => ?_)
                  clear hK K
                  try simp only [Act.put, List.setIfInBounds_toArray, List.set_cons_zero, List.set_cons_succ]
                  refine wpAnyH_take (i := 4) (v := ?_) (List.getElem?_toArray.trans rfl) (by kernel_rfl) (by kernel_rfl) (by kernel_rfl) (fun _ _ _ h => h) (Or.inl ⟨by rfl, ?_⟩) hHeld ?_
                  rotate_left
                  · intro w' hSw; go_simp; try with_reducible rfl
                  try simp only [Act.put, List.setIfInBounds_toArray, List.set_cons_zero, List.set_cons_succ]
                  refine wpAnyH_ready (rs := [5]) (by kernel_rfl) (by simp) ?_
                  refine AllReadyH.cons (List.getElem?_toArray.trans rfl) (fun K hK => ?_) AllReadyH.nil
                  go_simp
                  obtain ⟨q3, hC, kC, gx3, hzz⟩ := new1 q2 27 #[.bool false, .slice none 0 0, .slice none 0 0, .slice none 0 0, .bool false, .slice none 0 0, .slice none 0 0, .slice none 0 0]
                  rw [← hC]
                  clear hC hzz
                  have hb5 : w.heap.size < q2.heap.size := KM.out.lt
                  have hb54 : b4 < q2.heap.size := K4.out.lt
                  replace KM := Lib.hid (KM.out.keep0 gx3)
                  replace K4 := Lib.hid (K4.out.keep0 gx3)
                  replace HG := Lib.hid (gb_trans HG.out gx3)
                  try replace VL := Lib.hid (VL.out.keep0 gx3)
                  try replace VI := Lib.hid (VI.out.keep0 gx3)
                  generalize q2.heap.size = b5 at kC hb5 hb54  ⊢
                  have K5 := Lib.hid kC
                  clear kC
                  refine hK.out _ _ (⟨K4.out.cell 0 rfl, K4.out.cell 1 rfl⟩) (fun hHeld => ?_)
                  clear hK K
                  try simp only [Act.put, List.setIfInBounds_toArray, List.set_cons_zero, List.set_cons_succ]
                  refine wpAnyH_ready (rs := [6]) (by kernel_rfl) (by simp) ?_
                  refine AllReadyH.cons (List.getElem?_toArray.trans rfl) (fun K hK => ?_) AllReadyH.nil
                  have n0 := K5.out.cell 0 rfl
                  have n1 := K5.out.cell 1 rfl
                  have n2 := K5.out.cell 2 rfl
                  have n3 := K5.out.cell 3 rfl
                  have n4 := K5.out.cell 4 rfl
                  have n5 := K5.out.cell 5 rfl
                  have n6 := K5.out.cell 6 rfl
                  have n7 := K5.out.cell 7 rfl
                  have f0 := K5.out.free 0
                  have f1 := K5.out.free 1
                  have f2 := K5.out.free 2
                  have f3 := K5.out.free 3
                  have f4 := K5.out.free 4
                  have f5 := K5.out.free 5
                  have f6 := K5.out.free 6
                  have f7 := K5.out.free 7
                  go_simp
                  obtain ⟨q4, hD⟩ : ∃ z : World, z = ((((((((q3.setCell ⟨b5, 0, none⟩ (.bool true)).setCell ⟨b5, 1, none⟩ (.slice l1 l2 l3)).setCell ⟨b5, 2, none⟩ (.slice l4 l5 l6)).setCell ⟨b5, 3, none⟩ (.slice l7 l8 l9)).setCell ⟨b5, 4, none⟩ (.bool false)).setCell ⟨b5, 5, none⟩ (.slice o1 o2 o3)).setCell ⟨b5, 6, none⟩ (.slice o4 o5 o6)).setCell ⟨b5, 7, none⟩ (.slice o7 o8 o9)) := ⟨_, rfl⟩
                  rw [← hD]
                  have gx4 : q3.grownBy q4 (some b5) := by rw [hD]; exact gb_trans (gb_trans (gb_trans (gb_trans (gb_trans (gb_trans (gb_trans (gb_set _ _ _ _ _) (gb_set _ _ _ _ _)) (gb_set _ _ _ _ _)) (gb_set _ _ _ _ _)) (gb_set _ _ _ _ _)) (gb_set _ _ _ _ _)) (gb_set _ _ _ _ _)) (gb_set _ _ _ _ _)
                  have kS : Blk q4 b5 27 #[.bool true, .slice l1 l2 l3, .slice l4 l5 l6, .slice l7 l8 l9, .bool false, .slice o1 o2 o3, .slice o4 o5 o6, .slice o7 o8 o9] := by rw [hD]; exact ((((((((K5.out.set 0 _).set 1 _).set 2 _).set 3 _).set 4 _).set 5 _).set 6 _).set 7 _)
                  clear hD n0 f0 n1 f1 n2 f2 n3 f3 n4 f4 n5 f5 n6 f6 n7 f7
                  replace VL := Lib.hid (VL.out.keepN (Nbl.two K5.out) gx4)
                  replace VI := Lib.hid (VI.out.keepN (Nbl.two K5.out) gx4)
                  clear K5
                  have K5 := Lib.hid kS
                  clear kS
                  replace KM := Lib.hid (KM.out.keep gx4 (ne_some (by omega)))
                  replace K4 := Lib.hid (K4.out.keep gx4 (ne_some (by omega)))
                  replace HG := Lib.hid (gb_step HG.out gx4 (by omega))
                  refine hK.out _ _ (⟨K4.out.cell 0 rfl, K4.out.cell 1 rfl⟩) (fun hHeld => ?_)
                  clear hK K
                  try simp only [Act.put, List.setIfInBounds_toArray, List.set_cons_zero, List.set_cons_succ]
                  refine wpAnyH_done (by kernel_rfl) ?_ _
                  refine NoPanic.normal ?_
                  go_wp2_with fail
                  go_meet
                  exact ⟨b5, rfl, ⟨_, _, _, _, _, _, _, _, _, _, _, _, _, _, _, _, _, _, K5.out, VL.out, VI.out⟩, KM.out, HG.out⟩
                · go_simp
                  obtain ⟨q5, hC, kC, gx5, hzz⟩ := new1 q1 27 #[.bool false, .slice none 0 0, .slice none 0 0, .slice none 0 0, .bool false, .slice none 0 0, .slice none 0 0, .slice none 0 0]
                  rw [← hC]
                  clear hC hzz
                  have hb5 : w.heap.size < q1.heap.size := KM.out.lt
                  have hb54 : b4 < q1.heap.size := K4.out.lt
                  replace KM := Lib.hid (KM.out.keep0 gx5)
                  replace K4 := Lib.hid (K4.out.keep0 gx5)
                  replace HG := Lib.hid (gb_trans HG.out gx5)
                  try replace VL := Lib.hid (VL.out.keep0 gx5)
                  try replace VI := Lib.hid (VI.out.keep0 gx5)
                  generalize q1.heap.size = b5 at kC hb5 hb54  ⊢
                  have K5 := Lib.hid kC
                  clear kC
                  refine hK.out _ _ (⟨K4.out.cell 0 rfl, K4.out.cell 1 rfl⟩) (fun hHeld => ?_)
                  clear hK K
                  try simp only [Act.put, List.setIfInBounds_toArray, List.set_cons_zero, List.set_cons_succ]
                  refine wpAnyH_ready (rs := [3]) (by kernel_rfl) (by simp) ?_
                  refine AllReadyH.cons (List.getElem?_toArray.trans rfl) (fun K hK => ?_) AllReadyH.nil
                  go_simp
                  go_at_call 9
                  (with_reducible refine (HI.out _ (by omega) _ HG.out).mono ?_)
                  rintro e q6 ⟨v, rfl, hv, gx6⟩
                  obtain ⟨o1, o2, o3, o4, o5, o6, o7, o8, o9, rfl⟩ := innerX hv
                  replace KM := Lib.hid (KM.out.keep0 gx6)
                  replace K4 := Lib.hid (K4.out.keep0 gx6)
                  replace HG := Lib.hid (gb_trans HG.out gx6)
                  try replace K5 := Lib.hid (K5.out.keep0 gx6)
                  try replace VL := Lib.hid (VL.out.keep0 gx6)
                  have VI := Lib.hid hv
                  clear hv
                  refine hK.out _ _ (⟨K4.out.cell 0 rfl, K4.out.cell 1 rfl⟩) (fun hHeld => ?_)
                  clear hK K
                  try simp only [Act.put, List.setIfInBounds_toArray, List.set_cons_zero, List.set_cons_succ]
                  refine wpAnyH_take (i := 4) (v := ?_) (List.getElem?_toArray.trans rfl) (by kernel_rfl) (by kernel_rfl) (by kernel_rfl) (fun _ _ _ h => h) (Or.inl ⟨by rfl, ?_⟩) hHeld ?_
                  rotate_left
                  · intro w' hSw; go_simp; try with_reducible rfl
                  try simp only [Act.put, List.setIfInBounds_toArray, List.set_cons_zero, List.set_cons_succ]
                  refine wpAnyH_ready (rs := [6]) (by kernel_rfl) (by simp) ?_
                  refine AllReadyH.cons (List.getElem?_toArray.trans rfl) (fun K hK => ?_) AllReadyH.nil
                  have n0 := K5.out.cell 0 rfl
                  have n1 := K5.out.cell 1 rfl
                  have n2 := K5.out.cell 2 rfl
                  have n3 := K5.out.cell 3 rfl
                  have n4 := K5.out.cell 4 rfl
                  have n5 := K5.out.cell 5 rfl
                  have n6 := K5.out.cell 6 rfl
                  have n7 := K5.out.cell 7 rfl
                  have f0 := K5.out.free 0
                  have f1 := K5.out.free 1
                  have f2 := K5.out.free 2
                  have f3 := K5.out.free 3
                  have f4 := K5.out.free 4
                  have f5 := K5.out.free 5
                  have f6 := K5.out.free 6
                  have f7 := K5.out.free 7
                  go_simp
                  obtain ⟨q7, hD⟩ : ∃ z : World, z = ((((((((q6.setCell ⟨b5, 0, none⟩ (.bool true)).setCell ⟨b5, 1, none⟩ (.slice l1 l2 l3)).setCell ⟨b5, 2, none⟩ (.slice l4 l5 l6)).setCell ⟨b5, 3, none⟩ (.slice l7 l8 l9)).setCell ⟨b5, 4, none⟩ (.bool false)).setCell ⟨b5, 5, none⟩ (.slice o1 o2 o3)).setCell ⟨b5, 6, none⟩ (.slice o4 o5 o6)).setCell ⟨b5, 7, none⟩ (.slice o7 o8 o9)) := ⟨_, rfl⟩
                  rw [← hD]
                  have gx7 : q6.grownBy q7 (some b5) := by rw [hD]; exact gb_trans (gb_trans (gb_trans (gb_trans (gb_trans (gb_trans (gb_trans (gb_set _ _ _ _ _) (gb_set _ _ _ _ _)) (gb_set _ _ _ _ _)) (gb_set _ _ _ _ _)) (gb_set _ _ _ _ _)) (gb_set _ _ _ _ _)) (gb_set _ _ _ _ _)) (gb_set _ _ _ _ _)
                  have kS : Blk q7 b5 27 #[.bool true, .slice l1 l2 l3, .slice l4 l5 l6, .slice l7 l8 l9, .bool false, .slice o1 o2 o3, .slice o4 o5 o6, .slice o7 o8 o9] := by rw [hD]; exact ((((((((K5.out.set 0 _).set 1 _).set 2 _).set 3 _).set 4 _).set 5 _).set 6 _).set 7 _)
                  clear hD n0 f0 n1 f1 n2 f2 n3 f3 n4 f4 n5 f5 n6 f6 n7 f7
                  replace VL := Lib.hid (VL.out.keepN (Nbl.two K5.out) gx7)
                  replace VI := Lib.hid (VI.out.keepN (Nbl.two K5.out) gx7)
                  clear K5
                  have K5 := Lib.hid kS
                  clear kS
                  replace KM := Lib.hid (KM.out.keep gx7 (ne_some (by omega)))
                  replace K4 := Lib.hid (K4.out.keep gx7 (ne_some (by omega)))
                  replace HG := Lib.hid (gb_step HG.out gx7 (by omega))
                  refine hK.out _ _ (⟨K4.out.cell 0 rfl, K4.out.cell 1 rfl⟩) (fun hHeld => ?_)
                  clear hK K
                  try simp only [Act.put, List.setIfInBounds_toArray, List.set_cons_zero, List.set_cons_succ]
                  refine wpAnyH_done (by kernel_rfl) ?_ _
                  refine NoPanic.normal ?_
                  go_wp2_with fail
                  go_meet
                  exact ⟨b5, rfl, ⟨_, _, _, _, _, _, _, _, _, _, _, _, _, _, _, _, _, _, K5.out, VL.out, VI.out⟩, KM.out, HG.out⟩
              · go_simp
                obtain ⟨q8, hC, kC, gx8, hzz⟩ := new1 x2d 27 #[.bool false, .slice none 0 0, .slice none 0 0, .slice none 0 0, .bool false, .slice none 0 0, .slice none 0 0, .slice none 0 0]
                rw [← hC]
                clear hC hzz
                have hb5 : w.heap.size < x2d.heap.size := KM.out.lt
                have hb54 : b4 < x2d.heap.size := K4.out.lt
                replace KM := Lib.hid (KM.out.keep0 gx8)
                replace K4 := Lib.hid (K4.out.keep0 gx8)
                replace HG := Lib.hid (gb_trans HG.out gx8)
                try replace VL := Lib.hid (VL.out.keep0 gx8)
                try replace VI := Lib.hid (VI.out.keep0 gx8)
                generalize x2d.heap.size = b5 at kC hb5 hb54  ⊢
                have K5 := Lib.hid kC
                clear kC
                refine hK.out _ _ (⟨K4.out.cell 0 rfl, K4.out.cell 1 rfl⟩) (fun hHeld => ?_)
                clear hK K
                try simp only [Act.put, List.setIfInBounds_toArray, List.set_cons_zero, List.set_cons_succ]
                refine wpAnyH_ready (rs := [1]) (by kernel_rfl) (by simp) ?_
                refine AllReadyH.cons (List.getElem?_toArray.trans rfl) (fun K hK => ?_) AllReadyH.nil
                go_simp
                go_at_call 8
                (with_reducible refine (HL.out _ (by omega) _ HG.out).mono ?_)
                rintro e q9 ⟨v, rfl, hv, gx9⟩
                obtain ⟨l1, l2, l3, l4, l5, l6, l7, l8, l9, rfl⟩ := leafX hv
                replace KM := Lib.hid (KM.out.keep0 gx9)
                replace K4 := Lib.hid (K4.out.keep0 gx9)
                replace HG := Lib.hid (gb_trans HG.out gx9)
                try replace K5 := Lib.hid (K5.out.keep0 gx9)
                try replace VI := Lib.hid (VI.out.keep0 gx9)
                have VL := Lib.hid hv
                clear hv
                refine hK.out _ _ (⟨K4.out.cell 0 rfl, K4.out.cell 1 rfl⟩) (fun hHeld => ?_)
                clear hK K
                try simp only [Act.put, List.setIfInBounds_toArray, List.set_cons_zero, List.set_cons_succ]
                refine wpAnyH_ready (rs := [3]) (by kernel_rfl) (by simp) ?_
                refine AllReadyH.cons (List.getElem?_toArray.trans rfl) (fun K hK => ?_) AllReadyH.nil
                go_simp
                go_at_call 9
                (with_reducible refine (HI.out _ (by omega) _ HG.out).mono ?_)
                rintro e q10 ⟨v, rfl, hv, gx10⟩
                obtain ⟨o1, o2, o3, o4, o5, o6, o7, o8, o9, rfl⟩ := innerX hv
                replace KM := Lib.hid (KM.out.keep0 gx10)
                replace K4 := Lib.hid (K4.out.keep0 gx10)
                replace HG := Lib.hid (gb_trans HG.out gx10)
                try replace K5 := Lib.hid (K5.out.keep0 gx10)
                try replace VL := Lib.hid (VL.out.keep0 gx10)
                have VI := Lib.hid hv
                clear hv
                refine hK.out _ _ (⟨K4.out.cell 0 rfl, K4.out.cell 1 rfl⟩) (fun hHeld => ?_)
                clear hK K
                try simp only [Act.put, List.setIfInBounds_toArray, List.set_cons_zero, List.set_cons_succ]
                refine wpAnyH_take (i := 4) (v := ?_) (List.getElem?_toArray.trans rfl) (by kernel_rfl) (by kernel_rfl) (by kernel_rfl) (fun _ _ _ h => h) (Or.inl ⟨by rfl, ?_⟩) hHeld ?_
                rotate_left
                · intro w' hSw; go_simp; try with_reducible rfl
                try simp only [Act.put, List.setIfInBounds_toArray, List.set_cons_zero, List.set_cons_succ]
                refine wpAnyH_ready (rs := [6]) (by kernel_rfl) (by simp) ?_
                refine AllReadyH.cons (List.getElem?_toArray.trans rfl) (fun K hK => ?_) AllReadyH.nil
                have n0 := K5.out.cell 0 rfl
                have n1 := K5.out.cell 1 rfl
                have n2 := K5.out.cell 2 rfl
                have n3 := K5.out.cell 3 rfl
                have n4 := K5.out.cell 4 rfl
                have n5 := K5.out.cell 5 rfl
                have n6 := K5.out.cell 6 rfl
                have n7 := K5.out.cell 7 rfl
                have f0 := K5.out.free 0
                have f1 := K5.out.free 1
                have f2 := K5.out.free 2
                have f3 := K5.out.free 3
                have f4 := K5.out.free 4
                have f5 := K5.out.free 5
                have f6 := K5.out.free 6
                have f7 := K5.out.free 7
                go_simp
                obtain ⟨q11, hD⟩ : ∃ z : World, z = ((((((((q10.setCell ⟨b5, 0, none⟩ (.bool true)).setCell ⟨b5, 1, none⟩ (.slice l1 l2 l3)).setCell ⟨b5, 2, none⟩ (.slice l4 l5 l6)).setCell ⟨b5, 3, none⟩ (.slice l7 l8 l9)).setCell ⟨b5, 4, none⟩ (.bool false)).setCell ⟨b5, 5, none⟩ (.slice o1 o2 o3)).setCell ⟨b5, 6, none⟩ (.slice o4 o5 o6)).setCell ⟨b5, 7, none⟩ (.slice o7 o8 o9)) := ⟨_, rfl⟩
                rw [← hD]
                have gx11 : q10.grownBy q11 (some b5) := by rw [hD]; exact gb_trans (gb_trans (gb_trans (gb_trans (gb_trans (gb_trans (gb_trans (gb_set _ _ _ _ _) (gb_set _ _ _ _ _)) (gb_set _ _ _ _ _)) (gb_set _ _ _ _ _)) (gb_set _ _ _ _ _)) (gb_set _ _ _ _ _)) (gb_set _ _ _ _ _)) (gb_set _ _ _ _ _)
                have kS : Blk q11 b5 27 #[.bool true, .slice l1 l2 l3, .slice l4 l5 l6, .slice l7 l8 l9, .bool false, .slice o1 o2 o3, .slice o4 o5 o6, .slice o7 o8 o9] := by rw [hD]; exact ((((((((K5.out.set 0 _).set 1 _).set 2 _).set 3 _).set 4 _).set 5 _).set 6 _).set 7 _)
                clear hD n0 f0 n1 f1 n2 f2 n3 f3 n4 f4 n5 f5 n6 f6 n7 f7
                replace VL := Lib.hid (VL.out.keepN (Nbl.two K5.out) gx11)
                replace VI := Lib.hid (VI.out.keepN (Nbl.two K5.out) gx11)
                clear K5
                have K5 := Lib.hid kS
                clear kS
                replace KM := Lib.hid (KM.out.keep gx11 (ne_some (by omega)))
                replace K4 := Lib.hid (K4.out.keep gx11 (ne_some (by omega)))
                replace HG := Lib.hid (gb_step HG.out gx11 (by omega))
                refine hK.out _ _ (⟨K4.out.cell 0 rfl, K4.out.cell 1 rfl⟩) (fun hHeld => ?_)
                clear hK K
                try simp only [Act.put, List.setIfInBounds_toArray, List.set_cons_zero, List.set_cons_succ]
                refine wpAnyH_done (by kernel_rfl) ?_ _
                refine NoPanic.normal ?_
                go_wp2_with fail
                go_meet
                exact ⟨b5, rfl, ⟨_, _, _, _, _, _, _, _, _, _, _, _, _, _, _, _, _, _, K5.out, VL.out, VI.out⟩, KM.out, HG.out⟩
      case rest =>
        clear KM HG K4
        obtain ⟨b5, rfl, p5, kM2, hg2⟩ := hcut
        have KM := Lib.hid kM2
        have HG := Lib.hid hg2
        have P5 := Lib.hid p5
        clear kM2 hg2 p5
        have hs1 : IntKind.i64.wrap ((k : Int) - 1) = (k0 : Int) := by rw [IntWalk.i64_in _ (by omega)]; omega
        have hs2 : (k : Int) - 1 = (k0 : Int) := by omega
        have hs3 : IntKind.i64.wrap (k0 : Int) = (k0 : Int) := IntWalk.i64_in _ (by omega)
        have hk0c : k0 ≤ cap := by omega
        go_wp2
        refine wp_region_noPanic ?_
        refine wp_region_held_drew (S := fun w' => w'.cell? ⟨w.heap.size, 0, none⟩ = some (.string h) ∧ w'.cell? ⟨w.heap.size, 1, none⟩ = some (.slice (some a) L.length cap)) (by kernel_rfl) ⟨(KM.out.keep0 (gb_drew _ none)).cell 0 rfl, (KM.out.keep0 (gb_drew _ none)).cell 1 rfl⟩ (fun hHeld => ?_)
        replace KM := Lib.hid (KM.out.keep0 (gb_drew wc none))
        replace P5 := Lib.hid (P5.out.keep0 (gb_drew wc none))
        replace HG := Lib.hid (gb_trans HG.out (gb_drew wc none))
        generalize wc.drew = wcd at KM P5 HG hHeld ⊢
        refine wpAnyH_take (i := 0) (v := ?_) (List.getElem?_toArray.trans rfl) (by kernel_rfl) (by kernel_rfl) (by kernel_rfl) (fun _ _ _ h => h) (Or.inl ⟨by rfl, ?_⟩) hHeld ?_
        rotate_left
        · intro w' hSw; have m0 := hSw.1; have m1 := hSw.2; go_simp; try with_reducible rfl
        try simp only [Act.put, List.setIfInBounds_toArray, List.set_cons_zero, List.set_cons_succ]
        refine wpAnyH_take (i := 1) (v := ?_) (List.getElem?_toArray.trans rfl) (by kernel_rfl) (by kernel_rfl) (by kernel_rfl) (fun _ _ _ h => h) (Or.inl ⟨by rfl, ?_⟩) hHeld ?_
        rotate_left
        · intro w' hSw; have m0 := hSw.1; have m1 := hSw.2; go_simp; try with_reducible rfl
        try simp only [Act.put, List.setIfInBounds_toArray, List.set_cons_zero, List.set_cons_succ]
        refine wpAnyH_take (i := 2) (v := ?_) (List.getElem?_toArray.trans rfl) (by kernel_rfl) (by kernel_rfl) (by kernel_rfl) (fun _ _ _ h => h) (Or.inl ⟨by rfl, ?_⟩) hHeld ?_
        rotate_left
        · intro w' hSw; have m0 := hSw.1; have m1 := hSw.2; go_simp; try with_reducible rfl
        try simp only [Act.put, List.setIfInBounds_toArray, List.set_cons_zero, List.set_cons_succ]
        refine wpAnyH_take (i := 3) (v := ?_) (List.getElem?_toArray.trans rfl) (by kernel_rfl) (by kernel_rfl) (by kernel_rfl) (fun _ _ _ h => h) (Or.inl ⟨by rfl, ?_⟩) hHeld ?_
        rotate_left
        · intro w' hSw; have m0 := hSw.1; have m1 := hSw.2; go_simp; try with_reducible rfl
        try simp only [Act.put, List.setIfInBounds_toArray, List.set_cons_zero, List.set_cons_succ]
        refine wpAnyH_take (i := 4) (v := ?_) (List.getElem?_toArray.trans rfl) (by kernel_rfl) (by kernel_rfl) (by kernel_rfl) (fun _ _ _ h => h) (Or.inl ⟨by rfl, ?_⟩) hHeld ?_
        rotate_left
        · intro w' hSw; have m0 := hSw.1; have m1 := hSw.2; go_simp; try with_reducible rfl
        try simp only [Act.put, List.setIfInBounds_toArray, List.set_cons_zero, List.set_cons_succ]
        refine wpAnyH_take (i := 5) (v := ?_) (List.getElem?_toArray.trans rfl) (by kernel_rfl) (by kernel_rfl) (by kernel_rfl) (fun _ _ _ h => h) (Or.inl ⟨by rfl, ?_⟩) hHeld ?_
        rotate_left
        · intro w' hSw; have m0 := hSw.1; have m1 := hSw.2; go_simp; try with_reducible rfl
        try simp only [Act.put, List.setIfInBounds_toArray, List.set_cons_zero, List.set_cons_succ]
        refine wpAnyH_take (i := 6) (v := ?_) (List.getElem?_toArray.trans rfl) (by kernel_rfl) (by kernel_rfl) (by kernel_rfl) (fun _ _ _ h => h) (Or.inl ⟨by rfl, ?_⟩) hHeld ?_
        rotate_left
        · intro w' hSw; have m0 := hSw.1; have m1 := hSw.2; go_simp; try with_reducible rfl
        try simp only [Act.put, List.setIfInBounds_toArray, List.set_cons_zero, List.set_cons_succ]
        refine wpAnyH_take (i := 7) (v := ?_) (List.getElem?_toArray.trans rfl) (by kernel_rfl) (by kernel_rfl) (by kernel_rfl) (fun _ _ _ h => h) (Or.inl ⟨by rfl, ?_⟩) hHeld ?_
        rotate_left
        · intro w' hSw; have m0 := hSw.1; have m1 := hSw.2; go_simp; try with_reducible rfl
        try simp only [Act.put, List.setIfInBounds_toArray, List.set_cons_zero, List.set_cons_succ]
        refine wpAnyH_ready (rs := [8]) (by kernel_rfl) (by simp) ?_
        refine AllReadyH.cons (List.getElem?_toArray.trans rfl) (fun K hK => ?_) AllReadyH.nil
        go_simp
        obtain ⟨s1, hC, kC, gx1, hzz⟩ := new1 wcd 30 #[.string ⟨#[]⟩, .slice none 0 0]
        rw [← hC]
        clear hC hzz
        have hb6 : w.heap.size < wcd.heap.size := KM.out.lt
        replace KM := Lib.hid (KM.out.keep0 gx1)
        replace HG := Lib.hid (gb_trans HG.out gx1)
        have HB : Hid (∀ W, World.grownBy s1 W (some wcd.heap.size) → World.grownBy wcd W none) := Lib.hid (fun W q => gb_step gx1 q (Nat.le_refl _))
        generalize wcd.heap.size = b6 at kC hb6 HB ⊢
        have K6 := Lib.hid kC
        clear kC
        refine hK.out _ _ (⟨KM.out.cell 0 rfl, KM.out.cell 1 rfl⟩) (fun hHeld => ?_)
        clear hK K
        try simp only [Act.put, List.setIfInBounds_toArray, List.set_cons_zero, List.set_cons_succ]
        refine wpAnyH_ready (rs := [9]) (by kernel_rfl) (by simp) ?_
        refine AllReadyH.cons (List.getElem?_toArray.trans rfl) (fun K hK => ?_) AllReadyH.nil
        have n0 := K6.out.cell 0 rfl
        have n1 := K6.out.cell 1 rfl
        have f0 := K6.out.free 0
        have f1 := K6.out.free 1
        go_simp
        obtain ⟨s2, hD⟩ : ∃ z : World, z = (s1.setCell ⟨b6, 0, none⟩ (.string h)).setCell ⟨b6, 1, none⟩ (.slice (some a) k0 cap) := ⟨_, rfl⟩
        rw [← hD]
        have gx2 : s1.grownBy s2 (some b6) := by rw [hD]; exact gb_trans (gb_set _ _ _ _ _) (gb_set _ _ _ _ _)
        have kS : Blk s2 b6 30 #[.string h, .slice (some a) k0 cap] := by rw [hD]; exact (K6.out.set 0 _).set 1 _
        clear hD n0 n1 f0 f1 K6
        have K6 := Lib.hid kS
        clear kS
        replace KM := Lib.hid (KM.out.keep gx2 (ne_some (by omega)))
        replace HG := Lib.hid (gb_step HG.out gx2 (by omega))
        replace P5 := Lib.hid (PairAt.keep0 P5.out (HB.out _ gx2))
        clear HB
        refine hK.out _ _ (⟨KM.out.cell 0 rfl, KM.out.cell 1 rfl⟩) (fun hHeld => ?_)
        clear hK K
        try simp only [Act.put, List.setIfInBounds_toArray, List.set_cons_zero, List.set_cons_succ]
        refine wpAnyH_done (by kernel_rfl) ?_ _
        refine NoPanic.normal ?_
        go_wp2_with fail
        go_upto_region 9 with fail
        go_cut [7] (fun s7 wx => ∃ b7 : Nat, s7 = .pointer (some ⟨b7, 0, none⟩) ∧ PairAt wx b7 h (L.take k0) ∧ PairAt wx b5 h (L.take k) ∧ Blk wx w.heap.size 30 #[.string h, .slice (some a) L.length cap] ∧ w.grownBy wx none)
        case first =>
                refine wp_region_noPanic ?_
                refine wp_region_held_drew (S := fun w' => w'.cell? ⟨b6, 0, none⟩ = some (.string h) ∧ w'.cell? ⟨b6, 1, none⟩ = some (.slice (some a) k0 cap)) (by kernel_rfl) ⟨(K6.out.keep0 (gb_drew _ none)).cell 0 rfl, (K6.out.keep0 (gb_drew _ none)).cell 1 rfl⟩ (fun hHeld => ?_)
                replace KM := Lib.hid (KM.out.keep0 (gb_drew s2 none))
                replace K6 := Lib.hid (K6.out.keep0 (gb_drew s2 none))
                replace P5 := Lib.hid (P5.out.keep0 (gb_drew s2 none))
                replace HG := Lib.hid (gb_trans HG.out (gb_drew s2 none))
                generalize s2.drew = x2d at KM K6 P5 HG hHeld ⊢
                refine wpAnyH_take (i := 0) (v := ?_) (List.getElem?_toArray.trans rfl) (by kernel_rfl) (by kernel_rfl) (by kernel_rfl) (fun _ _ _ h => h) (Or.inl ⟨by rfl, ?_⟩) hHeld ?_
                rotate_left
                · intro w' hSw; have m0 := hSw.1; have m1 := hSw.2; go_simp; try with_reducible rfl
                try simp only [Act.put, List.setIfInBounds_toArray, List.set_cons_zero, List.set_cons_succ]
                refine wpAnyH_take (i := 2) (v := ?_) (List.getElem?_toArray.trans rfl) (by kernel_rfl) (by kernel_rfl) (by kernel_rfl) (fun _ _ _ h => h) (Or.inl ⟨by rfl, ?_⟩) hHeld ?_
                rotate_left
                · intro w' hSw; have m0 := hSw.1; have m1 := hSw.2; go_simp; try with_reducible rfl
                try simp only [Act.put, List.setIfInBounds_toArray, List.set_cons_zero, List.set_cons_succ]
                refine wpAnyH_ready (rs := [1, 5]) (by kernel_rfl) (by simp) ?_
                refine AllReadyH.cons (List.getElem?_toArray.trans rfl) (fun K hK => ?_) (AllReadyH.cons (List.getElem?_toArray.trans rfl) (fun K hK => ?_) AllReadyH.nil)
                · go_simp
                  go_at_call 8
                  (with_reducible refine (HL.out _ (by omega) _ HG.out).mono ?_)
                  rintro e t1 ⟨v, rfl, hv, gx1⟩
                  obtain ⟨l1, l2, l3, l4, l5, l6, l7, l8, l9, rfl⟩ := leafX hv
                  replace KM := Lib.hid (KM.out.keep0 gx1)
                  replace K6 := Lib.hid (K6.out.keep0 gx1)
                  replace P5 := Lib.hid (P5.out.keep0 gx1)
                  replace HG := Lib.hid (gb_trans HG.out gx1)
                  try replace K7 := Lib.hid (K7.out.keep0 gx1)
                  try replace VI := Lib.hid (VI.out.keep0 gx1)
                  have VL := Lib.hid hv
                  clear hv
                  refine hK.out _ _ (⟨K6.out.cell 0 rfl, K6.out.cell 1 rfl⟩) (fun hHeld => ?_)
                  clear hK K
                  try simp only [Act.put, List.setIfInBounds_toArray, List.set_cons_zero, List.set_cons_succ]
                  refine wpAnyH_ready (rs := [3, 5]) (by kernel_rfl) (by simp) ?_
                  refine AllReadyH.cons (List.getElem?_toArray.trans rfl) (fun K hK => ?_) (AllReadyH.cons (List.getElem?_toArray.trans rfl) (fun K hK => ?_) AllReadyH.nil)
                  · go_simp
                    go_at_call 9
                    (with_reducible refine (HI.out _ (by omega) _ HG.out).mono ?_)
                    rintro e t2 ⟨v, rfl, hv, gx2⟩
                    obtain ⟨o1, o2, o3, o4, o5, o6, o7, o8, o9, rfl⟩ := innerX hv
                    replace KM := Lib.hid (KM.out.keep0 gx2)
                    replace K6 := Lib.hid (K6.out.keep0 gx2)
                    replace P5 := Lib.hid (P5.out.keep0 gx2)
                    replace HG := Lib.hid (gb_trans HG.out gx2)
                    try replace K7 := Lib.hid (K7.out.keep0 gx2)
                    try replace VL := Lib.hid (VL.out.keep0 gx2)
                    have VI := Lib.hid hv
                    clear hv
                    refine hK.out _ _ (⟨K6.out.cell 0 rfl, K6.out.cell 1 rfl⟩) (fun hHeld => ?_)
                    clear hK K
                    try simp only [Act.put, List.setIfInBounds_toArray, List.set_cons_zero, List.set_cons_succ]
                    refine wpAnyH_take (i := 4) (v := ?_) (List.getElem?_toArray.trans rfl) (by kernel_rfl) (by kernel_rfl) (by kernel_rfl) (fun _ _ _ h => h) (Or.inl ⟨by rfl, ?_⟩) hHeld ?_
                    rotate_left
                    · intro w' hSw; go_simp; try with_reducible rfl
                    try simp only [Act.put, List.setIfInBounds_toArray, List.set_cons_zero, List.set_cons_succ]
                    refine wpAnyH_ready (rs := [5]) (by kernel_rfl) (by simp) ?_
                    refine AllReadyH.cons (List.getElem?_toArray.trans rfl) (fun K hK => ?_) AllReadyH.nil
                    go_simp
                    obtain ⟨t3, hC, kC, gx3, hzz⟩ := new1 t2 27 #[.bool false, .slice none 0 0, .slice none 0 0, .slice none 0 0, .bool false, .slice none 0 0, .slice none 0 0, .slice none 0 0]
                    rw [← hC]
                    clear hC hzz
                    have hb7 : w.heap.size < t2.heap.size := KM.out.lt
                    have hb74 : b6 < t2.heap.size := K6.out.lt
                    have hb7P5 : b5 < t2.heap.size := PairAt.lt P5.out
                    replace KM := Lib.hid (KM.out.keep0 gx3)
                    replace K6 := Lib.hid (K6.out.keep0 gx3)
                    replace P5 := Lib.hid (P5.out.keep0 gx3)
                    replace HG := Lib.hid (gb_trans HG.out gx3)
                    try replace VL := Lib.hid (VL.out.keep0 gx3)
                    try replace VI := Lib.hid (VI.out.keep0 gx3)
                    generalize t2.heap.size = b7 at kC hb7 hb74 hb7P5 ⊢
                    have K7 := Lib.hid kC
                    clear kC
                    refine hK.out _ _ (⟨K6.out.cell 0 rfl, K6.out.cell 1 rfl⟩) (fun hHeld => ?_)
                    clear hK K
                    try simp only [Act.put, List.setIfInBounds_toArray, List.set_cons_zero, List.set_cons_succ]
                    refine wpAnyH_ready (rs := [6]) (by kernel_rfl) (by simp) ?_
                    refine AllReadyH.cons (List.getElem?_toArray.trans rfl) (fun K hK => ?_) AllReadyH.nil
                    have n0 := K7.out.cell 0 rfl
                    have n1 := K7.out.cell 1 rfl
                    have n2 := K7.out.cell 2 rfl
                    have n3 := K7.out.cell 3 rfl
                    have n4 := K7.out.cell 4 rfl
                    have n5 := K7.out.cell 5 rfl
                    have n6 := K7.out.cell 6 rfl
                    have n7 := K7.out.cell 7 rfl
                    have f0 := K7.out.free 0
                    have f1 := K7.out.free 1
                    have f2 := K7.out.free 2
                    have f3 := K7.out.free 3
                    have f4 := K7.out.free 4
                    have f5 := K7.out.free 5
                    have f6 := K7.out.free 6
                    have f7 := K7.out.free 7
                    go_simp
                    obtain ⟨t4, hD⟩ : ∃ z : World, z = ((((((((t3.setCell ⟨b7, 0, none⟩ (.bool true)).setCell ⟨b7, 1, none⟩ (.slice l1 l2 l3)).setCell ⟨b7, 2, none⟩ (.slice l4 l5 l6)).setCell ⟨b7, 3, none⟩ (.slice l7 l8 l9)).setCell ⟨b7, 4, none⟩ (.bool false)).setCell ⟨b7, 5, none⟩ (.slice o1 o2 o3)).setCell ⟨b7, 6, none⟩ (.slice o4 o5 o6)).setCell ⟨b7, 7, none⟩ (.slice o7 o8 o9)) := ⟨_, rfl⟩
                    rw [← hD]
                    have gx4 : t3.grownBy t4 (some b7) := by rw [hD]; exact gb_trans (gb_trans (gb_trans (gb_trans (gb_trans (gb_trans (gb_trans (gb_set _ _ _ _ _) (gb_set _ _ _ _ _)) (gb_set _ _ _ _ _)) (gb_set _ _ _ _ _)) (gb_set _ _ _ _ _)) (gb_set _ _ _ _ _)) (gb_set _ _ _ _ _)) (gb_set _ _ _ _ _)
                    have kS : Blk t4 b7 27 #[.bool true, .slice l1 l2 l3, .slice l4 l5 l6, .slice l7 l8 l9, .bool false, .slice o1 o2 o3, .slice o4 o5 o6, .slice o7 o8 o9] := by rw [hD]; exact ((((((((K7.out.set 0 _).set 1 _).set 2 _).set 3 _).set 4 _).set 5 _).set 6 _).set 7 _)
                    clear hD n0 f0 n1 f1 n2 f2 n3 f3 n4 f4 n5 f5 n6 f6 n7 f7
                    replace VL := Lib.hid (VL.out.keepN (Nbl.two K7.out) gx4)
                    replace VI := Lib.hid (VI.out.keepN (Nbl.two K7.out) gx4)
                    replace P5 := Lib.hid (PairAt.keepN P5.out (Nbl.two K7.out) gx4 (by omega))
                    clear K7
                    have K7 := Lib.hid kS
                    clear kS
                    replace KM := Lib.hid (KM.out.keep gx4 (ne_some (by omega)))
                    replace K6 := Lib.hid (K6.out.keep gx4 (ne_some (by omega)))
                    replace HG := Lib.hid (gb_step HG.out gx4 (by omega))
                    refine hK.out _ _ (⟨K6.out.cell 0 rfl, K6.out.cell 1 rfl⟩) (fun hHeld => ?_)
                    clear hK K
                    try simp only [Act.put, List.setIfInBounds_toArray, List.set_cons_zero, List.set_cons_succ]
                    refine wpAnyH_done (by kernel_rfl) ?_ _
                    refine NoPanic.normal ?_
                    go_wp2_with fail
                    go_meet
                    exact ⟨b7, rfl, ⟨_, _, _, _, _, _, _, _, _, _, _, _, _, _, _, _, _, _, K7.out, VL.out, VI.out⟩, P5.out, KM.out, HG.out⟩
                  · go_simp
                    obtain ⟨t5, hC, kC, gx5, hzz⟩ := new1 t1 27 #[.bool false, .slice none 0 0, .slice none 0 0, .slice none 0 0, .bool false, .slice none 0 0, .slice none 0 0, .slice none 0 0]
                    rw [← hC]
                    clear hC hzz
                    have hb7 : w.heap.size < t1.heap.size := KM.out.lt
                    have hb74 : b6 < t1.heap.size := K6.out.lt
                    have hb7P5 : b5 < t1.heap.size := PairAt.lt P5.out
                    replace KM := Lib.hid (KM.out.keep0 gx5)
                    replace K6 := Lib.hid (K6.out.keep0 gx5)
                    replace P5 := Lib.hid (P5.out.keep0 gx5)
                    replace HG := Lib.hid (gb_trans HG.out gx5)
                    try replace VL := Lib.hid (VL.out.keep0 gx5)
                    try replace VI := Lib.hid (VI.out.keep0 gx5)
                    generalize t1.heap.size = b7 at kC hb7 hb74 hb7P5 ⊢
                    have K7 := Lib.hid kC
                    clear kC
                    refine hK.out _ _ (⟨K6.out.cell 0 rfl, K6.out.cell 1 rfl⟩) (fun hHeld => ?_)
                    clear hK K
                    try simp only [Act.put, List.setIfInBounds_toArray, List.set_cons_zero, List.set_cons_succ]
                    refine wpAnyH_ready (rs := [3]) (by kernel_rfl) (by simp) ?_
                    refine AllReadyH.cons (List.getElem?_toArray.trans rfl) (fun K hK => ?_) AllReadyH.nil
                    go_simp
                    go_at_call 9
                    (with_reducible refine (HI.out _ (by omega) _ HG.out).mono ?_)
                    rintro e t6 ⟨v, rfl, hv, gx6⟩
                    obtain ⟨o1, o2, o3, o4, o5, o6, o7, o8, o9, rfl⟩ := innerX hv
                    replace KM := Lib.hid (KM.out.keep0 gx6)
                    replace K6 := Lib.hid (K6.out.keep0 gx6)
                    replace P5 := Lib.hid (P5.out.keep0 gx6)
                    replace HG := Lib.hid (gb_trans HG.out gx6)
                    try replace K7 := Lib.hid (K7.out.keep0 gx6)
                    try replace VL := Lib.hid (VL.out.keep0 gx6)
                    have VI := Lib.hid hv
                    clear hv
                    refine hK.out _ _ (⟨K6.out.cell 0 rfl, K6.out.cell 1 rfl⟩) (fun hHeld => ?_)
                    clear hK K
                    try simp only [Act.put, List.setIfInBounds_toArray, List.set_cons_zero, List.set_cons_succ]
                    refine wpAnyH_take (i := 4) (v := ?_) (List.getElem?_toArray.trans rfl) (by kernel_rfl) (by kernel_rfl) (by kernel_rfl) (fun _ _ _ h => h) (Or.inl ⟨by rfl, ?_⟩) hHeld ?_
                    rotate_left
                    · intro w' hSw; go_simp; try with_reducible rfl
                    try simp only [Act.put, List.setIfInBounds_toArray, List.set_cons_zero, List.set_cons_succ]
                    refine wpAnyH_ready (rs := [6]) (by kernel_rfl) (by simp) ?_
                    refine AllReadyH.cons (List.getElem?_toArray.trans rfl) (fun K hK => ?_) AllReadyH.nil
                    have n0 := K7.out.cell 0 rfl
                    have n1 := K7.out.cell 1 rfl
                    have n2 := K7.out.cell 2 rfl
                    have n3 := K7.out.cell 3 rfl
                    have n4 := K7.out.cell 4 rfl
                    have n5 := K7.out.cell 5 rfl
                    have n6 := K7.out.cell 6 rfl
                    have n7 := K7.out.cell 7 rfl
                    have f0 := K7.out.free 0
                    have f1 := K7.out.free 1
                    have f2 := K7.out.free 2
                    have f3 := K7.out.free 3
                    have f4 := K7.out.free 4
                    have f5 := K7.out.free 5
                    have f6 := K7.out.free 6
                    have f7 := K7.out.free 7
                    go_simp
                    obtain ⟨t7, hD⟩ : ∃ z : World, z = ((((((((t6.setCell ⟨b7, 0, none⟩ (.bool true)).setCell ⟨b7, 1, none⟩ (.slice l1 l2 l3)).setCell ⟨b7, 2, none⟩ (.slice l4 l5 l6)).setCell ⟨b7, 3, none⟩ (.slice l7 l8 l9)).setCell ⟨b7, 4, none⟩ (.bool false)).setCell ⟨b7, 5, none⟩ (.slice o1 o2 o3)).setCell ⟨b7, 6, none⟩ (.slice o4 o5 o6)).setCell ⟨b7, 7, none⟩ (.slice o7 o8 o9)) := ⟨_, rfl⟩
                    rw [← hD]
                    have gx7 : t6.grownBy t7 (some b7) := by rw [hD]; exact gb_trans (gb_trans (gb_trans (gb_trans (gb_trans (gb_trans (gb_trans (gb_set _ _ _ _ _) (gb_set _ _ _ _ _)) (gb_set _ _ _ _ _)) (gb_set _ _ _ _ _)) (gb_set _ _ _ _ _)) (gb_set _ _ _ _ _)) (gb_set _ _ _ _ _)) (gb_set _ _ _ _ _)
                    have kS : Blk t7 b7 27 #[.bool true, .slice l1 l2 l3, .slice l4 l5 l6, .slice l7 l8 l9, .bool false, .slice o1 o2 o3, .slice o4 o5 o6, .slice o7 o8 o9] := by rw [hD]; exact ((((((((K7.out.set 0 _).set 1 _).set 2 _).set 3 _).set 4 _).set 5 _).set 6 _).set 7 _)
                    clear hD n0 f0 n1 f1 n2 f2 n3 f3 n4 f4 n5 f5 n6 f6 n7 f7
                    replace VL := Lib.hid (VL.out.keepN (Nbl.two K7.out) gx7)
                    replace VI := Lib.hid (VI.out.keepN (Nbl.two K7.out) gx7)
                    replace P5 := Lib.hid (PairAt.keepN P5.out (Nbl.two K7.out) gx7 (by omega))
                    clear K7
                    have K7 := Lib.hid kS
                    clear kS
                    replace KM := Lib.hid (KM.out.keep gx7 (ne_some (by omega)))
                    replace K6 := Lib.hid (K6.out.keep gx7 (ne_some (by omega)))
                    replace HG := Lib.hid (gb_step HG.out gx7 (by omega))
                    refine hK.out _ _ (⟨K6.out.cell 0 rfl, K6.out.cell 1 rfl⟩) (fun hHeld => ?_)
                    clear hK K
                    try simp only [Act.put, List.setIfInBounds_toArray, List.set_cons_zero, List.set_cons_succ]
                    refine wpAnyH_done (by kernel_rfl) ?_ _
                    refine NoPanic.normal ?_
                    go_wp2_with fail
                    go_meet
                    exact ⟨b7, rfl, ⟨_, _, _, _, _, _, _, _, _, _, _, _, _, _, _, _, _, _, K7.out, VL.out, VI.out⟩, P5.out, KM.out, HG.out⟩
                · go_simp
                  obtain ⟨t8, hC, kC, gx8, hzz⟩ := new1 x2d 27 #[.bool false, .slice none 0 0, .slice none 0 0, .slice none 0 0, .bool false, .slice none 0 0, .slice none 0 0, .slice none 0 0]
                  rw [← hC]
                  clear hC hzz
                  have hb7 : w.heap.size < x2d.heap.size := KM.out.lt
                  have hb74 : b6 < x2d.heap.size := K6.out.lt
                  have hb7P5 : b5 < x2d.heap.size := PairAt.lt P5.out
                  replace KM := Lib.hid (KM.out.keep0 gx8)
                  replace K6 := Lib.hid (K6.out.keep0 gx8)
                  replace P5 := Lib.hid (P5.out.keep0 gx8)
                  replace HG := Lib.hid (gb_trans HG.out gx8)
                  try replace VL := Lib.hid (VL.out.keep0 gx8)
                  try replace VI := Lib.hid (VI.out.keep0 gx8)
                  generalize x2d.heap.size = b7 at kC hb7 hb74 hb7P5 ⊢
                  have K7 := Lib.hid kC
                  clear kC
                  refine hK.out _ _ (⟨K6.out.cell 0 rfl, K6.out.cell 1 rfl⟩) (fun hHeld => ?_)
                  clear hK K
                  try simp only [Act.put, List.setIfInBounds_toArray, List.set_cons_zero, List.set_cons_succ]
                  refine wpAnyH_ready (rs := [1]) (by kernel_rfl) (by simp) ?_
                  refine AllReadyH.cons (List.getElem?_toArray.trans rfl) (fun K hK => ?_) AllReadyH.nil
                  go_simp
                  go_at_call 8
                  (with_reducible refine (HL.out _ (by omega) _ HG.out).mono ?_)
                  rintro e t9 ⟨v, rfl, hv, gx9⟩
                  obtain ⟨l1, l2, l3, l4, l5, l6, l7, l8, l9, rfl⟩ := leafX hv
                  replace KM := Lib.hid (KM.out.keep0 gx9)
                  replace K6 := Lib.hid (K6.out.keep0 gx9)
                  replace P5 := Lib.hid (P5.out.keep0 gx9)
                  replace HG := Lib.hid (gb_trans HG.out gx9)
                  try replace K7 := Lib.hid (K7.out.keep0 gx9)
                  try replace VI := Lib.hid (VI.out.keep0 gx9)
                  have VL := Lib.hid hv
                  clear hv
                  refine hK.out _ _ (⟨K6.out.cell 0 rfl, K6.out.cell 1 rfl⟩) (fun hHeld => ?_)
                  clear hK K
                  try simp only [Act.put, List.setIfInBounds_toArray, List.set_cons_zero, List.set_cons_succ]
                  refine wpAnyH_ready (rs := [3]) (by kernel_rfl) (by simp) ?_
                  refine AllReadyH.cons (List.getElem?_toArray.trans rfl) (fun K hK => ?_) AllReadyH.nil
                  go_simp
                  go_at_call 9
                  (with_reducible refine (HI.out _ (by omega) _ HG.out).mono ?_)
                  rintro e t10 ⟨v, rfl, hv, gx10⟩
                  obtain ⟨o1, o2, o3, o4, o5, o6, o7, o8, o9, rfl⟩ := innerX hv
                  replace KM := Lib.hid (KM.out.keep0 gx10)
                  replace K6 := Lib.hid (K6.out.keep0 gx10)
                  replace P5 := Lib.hid (P5.out.keep0 gx10)
                  replace HG := Lib.hid (gb_trans HG.out gx10)
                  try replace K7 := Lib.hid (K7.out.keep0 gx10)
                  try replace VL := Lib.hid (VL.out.keep0 gx10)
                  have VI := Lib.hid hv
                  clear hv
                  refine hK.out _ _ (⟨K6.out.cell 0 rfl, K6.out.cell 1 rfl⟩) (fun hHeld => ?_)
                  clear hK K
                  try simp only [Act.put, List.setIfInBounds_toArray, List.set_cons_zero, List.set_cons_succ]
                  refine wpAnyH_take (i := 4) (v := ?_) (List.getElem?_toArray.trans rfl) (by kernel_rfl) (by kernel_rfl) (by kernel_rfl) (fun _ _ _ h => h) (Or.inl ⟨by rfl, ?_⟩) hHeld ?_
                  rotate_left
                  · intro w' hSw; go_simp; try with_reducible rfl
                  try simp only [Act.put, List.setIfInBounds_toArray, List.set_cons_zero, List.set_cons_succ]
                  refine wpAnyH_ready (rs := [6]) (by kernel_rfl) (by simp) ?_
                  refine AllReadyH.cons (List.getElem?_toArray.trans rfl) (fun K hK => ?_) AllReadyH.nil
                  have n0 := K7.out.cell 0 rfl
                  have n1 := K7.out.cell 1 rfl
                  have n2 := K7.out.cell 2 rfl
                  have n3 := K7.out.cell 3 rfl
                  have n4 := K7.out.cell 4 rfl
                  have n5 := K7.out.cell 5 rfl
                  have n6 := K7.out.cell 6 rfl
                  have n7 := K7.out.cell 7 rfl
                  have f0 := K7.out.free 0
                  have f1 := K7.out.free 1
                  have f2 := K7.out.free 2
                  have f3 := K7.out.free 3
                  have f4 := K7.out.free 4
                  have f5 := K7.out.free 5
                  have f6 := K7.out.free 6
                  have f7 := K7.out.free 7
                  go_simp
                  obtain ⟨t11, hD⟩ : ∃ z : World, z = ((((((((t10.setCell ⟨b7, 0, none⟩ (.bool true)).setCell ⟨b7, 1, none⟩ (.slice l1 l2 l3)).setCell ⟨b7, 2, none⟩ (.slice l4 l5 l6)).setCell ⟨b7, 3, none⟩ (.slice l7 l8 l9)).setCell ⟨b7, 4, none⟩ (.bool false)).setCell ⟨b7, 5, none⟩ (.slice o1 o2 o3)).setCell ⟨b7, 6, none⟩ (.slice o4 o5 o6)).setCell ⟨b7, 7, none⟩ (.slice o7 o8 o9)) := ⟨_, rfl⟩
                  rw [← hD]
                  have gx11 : t10.grownBy t11 (some b7) := by rw [hD]; exact gb_trans (gb_trans (gb_trans (gb_trans (gb_trans (gb_trans (gb_trans (gb_set _ _ _ _ _) (gb_set _ _ _ _ _)) (gb_set _ _ _ _ _)) (gb_set _ _ _ _ _)) (gb_set _ _ _ _ _)) (gb_set _ _ _ _ _)) (gb_set _ _ _ _ _)) (gb_set _ _ _ _ _)
                  have kS : Blk t11 b7 27 #[.bool true, .slice l1 l2 l3, .slice l4 l5 l6, .slice l7 l8 l9, .bool false, .slice o1 o2 o3, .slice o4 o5 o6, .slice o7 o8 o9] := by rw [hD]; exact ((((((((K7.out.set 0 _).set 1 _).set 2 _).set 3 _).set 4 _).set 5 _).set 6 _).set 7 _)
                  clear hD n0 f0 n1 f1 n2 f2 n3 f3 n4 f4 n5 f5 n6 f6 n7 f7
                  replace VL := Lib.hid (VL.out.keepN (Nbl.two K7.out) gx11)
                  replace VI := Lib.hid (VI.out.keepN (Nbl.two K7.out) gx11)
                  replace P5 := Lib.hid (PairAt.keepN P5.out (Nbl.two K7.out) gx11 (by omega))
                  clear K7
                  have K7 := Lib.hid kS
                  clear kS
                  replace KM := Lib.hid (KM.out.keep gx11 (ne_some (by omega)))
                  replace K6 := Lib.hid (K6.out.keep gx11 (ne_some (by omega)))
                  replace HG := Lib.hid (gb_step HG.out gx11 (by omega))
                  refine hK.out _ _ (⟨K6.out.cell 0 rfl, K6.out.cell 1 rfl⟩) (fun hHeld => ?_)
                  clear hK K
                  try simp only [Act.put, List.setIfInBounds_toArray, List.set_cons_zero, List.set_cons_succ]
                  refine wpAnyH_done (by kernel_rfl) ?_ _
                  refine NoPanic.normal ?_
                  go_wp2_with fail
                  go_meet
                  exact ⟨b7, rfl, ⟨_, _, _, _, _, _, _, _, _, _, _, _, _, _, _, _, _, _, K7.out, VL.out, VI.out⟩, P5.out, KM.out, HG.out⟩
        case rest =>
          clear KM HG P5 K6 hs1 hs2 hs3
          obtain ⟨b7, rfl, p7, p5, kM2, hg2⟩ := hcut
          go_wp2
          go_loopw [8] (fun z wq => ∃ i : Nat, i ≤ 2 ∧ z = .int .i64 i ∧ PairAt wq b5 h (L.take k) ∧ PairAt wq b7 h (L.take k0) ∧ Blk wq w.heap.size 30 #[.string h, .slice (some a) L.length cap] ∧ w.grownBy wq none) (fun z _ => 2 - (intOf z).toNat)
          case atStart => exact ⟨0, by omega, rfl, p5, p7, kM2, hg2⟩
          case round =>
            clear p5 p7 kM2 hg2
            obtain ⟨i, hi2, rfl, p5, p7, kM, hg⟩ := hrel
            by_cases hi : i < 2
            · rcases (show i = 0 ∨ i = 1 by omega) with rfl | rfl
              · obtain ⟨a1, a2, a3, o1, o2, o3, n1, n2, n3, c1, c2, c3, m1, m2, m3, d1, d2, d3, kP, vL, vI⟩ := id p5
                obtain ⟨a1', a2', a3', o1', o2', o3', n1', n2', n3', c1', c2', c3', m1', m2', m3', d1', d2', d3', kQ, vL', vI'⟩ := id p7
                have P5 := Lib.hid p5
                have P7 := Lib.hid p7
                have KM := Lib.hid kM
                have HG := Lib.hid hg
                have V1 := Lib.hid vL
                have V2 := Lib.hid vL'
                have cx0 := kP.cell 0 rfl
                have cx1 := kP.cell 1 rfl
                have cx2 := kP.cell 2 rfl
                have cx3 := kP.cell 3 rfl
                have cy0 := kQ.cell 0 rfl
                have cy1 := kQ.cell 1 rfl
                have cy2 := kQ.cell 2 rfl
                have cy3 := kQ.cell 3 rfl
                clear p5 p7 kM hg vL vI vL' vI' kP kQ
                have lim1 : (leafM h (L.take k)).Lim := (leafM_half h _).lim
                have lim2 : (leafM h (L.take k0)).Lim := (leafM_half h _).lim
                rcases hfn : (leafM h (L.take k)).fits with _ | _
                · have HF1 := Lib.hid (fits_is hfn lim1)
                  rcases hfm : (leafM h (L.take k0)).fits with _ | _
                  · have HF2 := Lib.hid (fits_is hfm lim2)
                    clear hfn hfm lim1 lim2
                    go_wp2_with (first | (go_at_call 15; (with_reducible refine (HF1.out _ _ V1.out).mono ?_); rintro e w2 ⟨rfl, g2⟩; replace P5 := Lib.hid (P5.out.keep0 g2); replace P7 := Lib.hid (P7.out.keep0 g2); replace KM := Lib.hid (KM.out.keep0 g2); replace V1 := Lib.hid (V1.out.keep0 g2); replace V2 := Lib.hid (V2.out.keep0 g2); replace HG := Lib.hid (gb_trans HG.out g2); replace cx0 := World.grownBy.cell g2 cx0 (by simp); replace cx1 := World.grownBy.cell g2 cx1 (by simp); replace cx2 := World.grownBy.cell g2 cx2 (by simp); replace cx3 := World.grownBy.cell g2 cx3 (by simp); replace cy0 := World.grownBy.cell g2 cy0 (by simp); replace cy1 := World.grownBy.cell g2 cy1 (by simp); replace cy2 := World.grownBy.cell g2 cy2 (by simp); replace cy3 := World.grownBy.cell g2 cy3 (by simp); clear g2) | (go_at_call 15; (with_reducible refine (HF2.out _ _ V2.out).mono ?_); rintro e w3 ⟨rfl, g3⟩; replace P5 := Lib.hid (P5.out.keep0 g3); replace P7 := Lib.hid (P7.out.keep0 g3); replace KM := Lib.hid (KM.out.keep0 g3); replace V1 := Lib.hid (V1.out.keep0 g3); replace V2 := Lib.hid (V2.out.keep0 g3); replace HG := Lib.hid (gb_trans HG.out g3); replace cx0 := World.grownBy.cell g3 cx0 (by simp); replace cx1 := World.grownBy.cell g3 cx1 (by simp); replace cx2 := World.grownBy.cell g3 cx2 (by simp); replace cx3 := World.grownBy.cell g3 cx3 (by simp); replace cy0 := World.grownBy.cell g3 cy0 (by simp); replace cy1 := World.grownBy.cell g3 cy1 (by simp); replace cy2 := World.grownBy.cell g3 cy2 (by simp); replace cy3 := World.grownBy.cell g3 cy3 (by simp); clear g3))
                    go_roundw
                    case rel => exact ⟨1, by omega, by go_num, P5.out, P7.out, KM.out, HG.out⟩
                    case measure => simp [intOf]
                  · have HF2 := Lib.hid (fits_is hfm lim2)
                    have hrm : (leafM h (L.take k)).few = false ∧ ∀ r A B key, BestN (leafM h (L.take k)) r → IsCut (leafM h (L.take k)) r A B key → A.fits = true ∧ B.fits = true := by
                      rw [← hk] at hfn ⊢
                      exact leaf_room h L k0 (by omega) (by omega) hfm
                    have HSP : Hid (∀ W v, NdV W v (leafM h (L.take k)) → Calls Tryz.prog 18 #[v] W (SplitYes (leafM h (L.take k)) W)) := Lib.hid (fun W v hv => split_yes v _ W hv lim1 hrm.1)
                    have HRM := Lib.hid hrm.2
                    have HLIM := Lib.hid lim1
                    clear hfn hfm lim1 lim2 hrm
                    go_wp2_with (first | (go_at_call 15; (with_reducible refine (HF1.out _ _ V1.out).mono ?_); rintro e w2 ⟨rfl, g2⟩; replace P5 := Lib.hid (P5.out.keep0 g2); replace P7 := Lib.hid (P7.out.keep0 g2); replace KM := Lib.hid (KM.out.keep0 g2); replace V1 := Lib.hid (V1.out.keep0 g2); replace V2 := Lib.hid (V2.out.keep0 g2); replace HG := Lib.hid (gb_trans HG.out g2); replace cx0 := World.grownBy.cell g2 cx0 (by simp); replace cx1 := World.grownBy.cell g2 cx1 (by simp); replace cx2 := World.grownBy.cell g2 cx2 (by simp); replace cx3 := World.grownBy.cell g2 cx3 (by simp); replace cy0 := World.grownBy.cell g2 cy0 (by simp); replace cy1 := World.grownBy.cell g2 cy1 (by simp); replace cy2 := World.grownBy.cell g2 cy2 (by simp); replace cy3 := World.grownBy.cell g2 cy3 (by simp); clear g2) | (go_at_call 15; (with_reducible refine (HF2.out _ _ V2.out).mono ?_); rintro e w3 ⟨rfl, g3⟩; replace P5 := Lib.hid (P5.out.keep0 g3); replace P7 := Lib.hid (P7.out.keep0 g3); replace KM := Lib.hid (KM.out.keep0 g3); replace V1 := Lib.hid (V1.out.keep0 g3); replace V2 := Lib.hid (V2.out.keep0 g3); replace HG := Lib.hid (gb_trans HG.out g3); replace cx0 := World.grownBy.cell g3 cx0 (by simp); replace cx1 := World.grownBy.cell g3 cx1 (by simp); replace cx2 := World.grownBy.cell g3 cx2 (by simp); replace cx3 := World.grownBy.cell g3 cx3 (by simp); replace cy0 := World.grownBy.cell g3 cy0 (by simp); replace cy1 := World.grownBy.cell g3 cy1 (by simp); replace cy2 := World.grownBy.cell g3 cy2 (by simp); replace cy3 := World.grownBy.cell g3 cy3 (by simp); clear g3) | (go_at_call 18; (with_reducible refine (HSP.out _ _ V1.out).mono ?_); rintro e w4 ⟨r, A, B, key, va, vb, hb, hc, rfl, hA, hB, g4⟩; replace P5 := Lib.hid (P5.out.keep0 g4); replace P7 := Lib.hid (P7.out.keep0 g4); replace KM := Lib.hid (KM.out.keep0 g4); replace V1 := Lib.hid (V1.out.keep0 g4); replace V2 := Lib.hid (V2.out.keep0 g4); replace HG := Lib.hid (gb_trans HG.out g4); replace cx0 := World.grownBy.cell g4 cx0 (by simp); replace cx1 := World.grownBy.cell g4 cx1 (by simp); replace cx2 := World.grownBy.cell g4 cx2 (by simp); replace cx3 := World.grownBy.cell g4 cx3 (by simp); replace cy0 := World.grownBy.cell g4 cy0 (by simp); replace cy1 := World.grownBy.cell g4 cy1 (by simp); replace cy2 := World.grownBy.cell g4 cy2 (by simp); replace cy3 := World.grownBy.cell g4 cy3 (by simp); clear g4; obtain ⟨hfa, hfb⟩ := HRM.out r A B key hb hc; obtain ⟨la, lb⟩ := cut_lim hc HLIM.out; obtain ⟨e0, e1, e2, e3, e4, e5, e6, e7, e8, e9, rfl⟩ := ndX hA; obtain ⟨s0, s1, s2, s3, s4, s5, s6, s7, s8, s9, rfl⟩ := ndX hB; have VA := Lib.hid hA; have VB := Lib.hid hB; have HFA := Lib.hid (fits_is hfa la); have HFB := Lib.hid (fits_is hfb lb); clear hA hB hfa hfb la lb hb hc) | (go_at_call 15; obtain ⟨w5, hu, kA, kB, g5, hz5⟩ := new2 w4 26 #[.bool e0, .slice e1 e2 e3, .slice e4 e5 e6, .slice e7 e8 e9] 26 #[.bool s0, .slice s1 s2 s3, .slice s4 s5 s6, .slice s7 s8 s9]; rw [← hu]; clear hu hz5; replace P5 := Lib.hid (P5.out.keep0 g5); replace P7 := Lib.hid (P7.out.keep0 g5); replace KM := Lib.hid (KM.out.keep0 g5); replace V1 := Lib.hid (V1.out.keep0 g5); replace V2 := Lib.hid (V2.out.keep0 g5); replace VA := Lib.hid (VA.out.keep0 g5); replace VB := Lib.hid (VB.out.keep0 g5); replace HG := Lib.hid (gb_trans HG.out g5); replace cx0 := World.grownBy.cell g5 cx0 (by simp); replace cx1 := World.grownBy.cell g5 cx1 (by simp); replace cx2 := World.grownBy.cell g5 cx2 (by simp); replace cx3 := World.grownBy.cell g5 cx3 (by simp); replace cy0 := World.grownBy.cell g5 cy0 (by simp); replace cy1 := World.grownBy.cell g5 cy1 (by simp); replace cy2 := World.grownBy.cell g5 cy2 (by simp); replace cy3 := World.grownBy.cell g5 cy3 (by simp); clear g5; (with_reducible refine (HFA.out _ _ VA.out).mono ?_); rintro e w6 ⟨rfl, g6⟩; replace P5 := Lib.hid (P5.out.keep0 g6); replace P7 := Lib.hid (P7.out.keep0 g6); replace KM := Lib.hid (KM.out.keep0 g6); replace V1 := Lib.hid (V1.out.keep0 g6); replace V2 := Lib.hid (V2.out.keep0 g6); replace VB := Lib.hid (VB.out.keep0 g6); replace HG := Lib.hid (gb_trans HG.out g6); replace cx0 := World.grownBy.cell g6 cx0 (by simp); replace cx1 := World.grownBy.cell g6 cx1 (by simp); replace cx2 := World.grownBy.cell g6 cx2 (by simp); replace cx3 := World.grownBy.cell g6 cx3 (by simp); replace cy0 := World.grownBy.cell g6 cy0 (by simp); replace cy1 := World.grownBy.cell g6 cy1 (by simp); replace cy2 := World.grownBy.cell g6 cy2 (by simp); replace cy3 := World.grownBy.cell g6 cy3 (by simp); replace kB := kB.keep0 g6; have z0 := kB.cell 0 rfl; have z1 := kB.cell 1 rfl; have z2 := kB.cell 2 rfl; have z3 := kB.cell 3 rfl; clear g6) | (go_at_call 15; (with_reducible refine (HFB.out _ _ VB.out).mono ?_); rintro e w7 ⟨rfl, g7⟩; replace P5 := Lib.hid (P5.out.keep0 g7); replace P7 := Lib.hid (P7.out.keep0 g7); replace KM := Lib.hid (KM.out.keep0 g7); replace V1 := Lib.hid (V1.out.keep0 g7); replace V2 := Lib.hid (V2.out.keep0 g7); replace HG := Lib.hid (gb_trans HG.out g7); replace cx0 := World.grownBy.cell g7 cx0 (by simp); replace cx1 := World.grownBy.cell g7 cx1 (by simp); replace cx2 := World.grownBy.cell g7 cx2 (by simp); replace cx3 := World.grownBy.cell g7 cx3 (by simp); replace cy0 := World.grownBy.cell g7 cy0 (by simp); replace cy1 := World.grownBy.cell g7 cy1 (by simp); replace cy2 := World.grownBy.cell g7 cy2 (by simp); replace cy3 := World.grownBy.cell g7 cy3 (by simp); clear g7))
                    go_roundw
                    case rel => exact ⟨1, by omega, by go_num, P5.out, P7.out, KM.out, HG.out⟩
                    case measure => simp [intOf]
                · have HF1 := Lib.hid (fits_is hfn lim1)
                  clear hfn lim1 lim2
                  go_wp2_with (go_at_call 15; (with_reducible refine (HF1.out _ _ V1.out).mono ?_); rintro e w2 ⟨rfl, g2⟩; replace P5 := Lib.hid (P5.out.keep0 g2); replace P7 := Lib.hid (P7.out.keep0 g2); replace KM := Lib.hid (KM.out.keep0 g2); replace V1 := Lib.hid (V1.out.keep0 g2); replace V2 := Lib.hid (V2.out.keep0 g2); replace HG := Lib.hid (gb_trans HG.out g2); replace cx0 := World.grownBy.cell g2 cx0 (by simp); replace cx1 := World.grownBy.cell g2 cx1 (by simp); replace cx2 := World.grownBy.cell g2 cx2 (by simp); replace cx3 := World.grownBy.cell g2 cx3 (by simp); replace cy0 := World.grownBy.cell g2 cy0 (by simp); replace cy1 := World.grownBy.cell g2 cy1 (by simp); replace cy2 := World.grownBy.cell g2 cy2 (by simp); replace cy3 := World.grownBy.cell g2 cy3 (by simp); clear g2)
                  go_roundw
                  case rel => exact ⟨1, by omega, by go_num, P5.out, P7.out, KM.out, HG.out⟩
                  case measure => simp [intOf]
              · obtain ⟨a1, a2, a3, o1, o2, o3, n1, n2, n3, c1, c2, c3, m1, m2, m3, d1, d2, d3, kP, vL, vI⟩ := id p5
                obtain ⟨a1', a2', a3', o1', o2', o3', n1', n2', n3', c1', c2', c3', m1', m2', m3', d1', d2', d3', kQ, vL', vI'⟩ := id p7
                have P5 := Lib.hid p5
                have P7 := Lib.hid p7
                have KM := Lib.hid kM
                have HG := Lib.hid hg
                have V1 := Lib.hid vI
                have V2 := Lib.hid vI'
                have cx0 := kP.cell 4 rfl
                have cx1 := kP.cell 5 rfl
                have cx2 := kP.cell 6 rfl
                have cx3 := kP.cell 7 rfl
                have cy0 := kQ.cell 4 rfl
                have cy1 := kQ.cell 5 rfl
                have cy2 := kQ.cell 6 rfl
                have cy3 := kQ.cell 7 rfl
                clear p5 p7 kM hg vL vI vL' vI' kP kQ
                have lim1 : (innerM h (L.take k)).Lim := (innerM_half h _).lim
                have lim2 : (innerM h (L.take k0)).Lim := (innerM_half h _).lim
                rcases hfn : (innerM h (L.take k)).fits with _ | _
                · have HF1 := Lib.hid (fits_is hfn lim1)
                  rcases hfm : (innerM h (L.take k0)).fits with _ | _
                  · have HF2 := Lib.hid (fits_is hfm lim2)
                    clear hfn hfm lim1 lim2
                    go_wp2_with (first | (go_at_call 15; (with_reducible refine (HF1.out _ _ V1.out).mono ?_); rintro e w2 ⟨rfl, g2⟩; replace P5 := Lib.hid (P5.out.keep0 g2); replace P7 := Lib.hid (P7.out.keep0 g2); replace KM := Lib.hid (KM.out.keep0 g2); replace V1 := Lib.hid (V1.out.keep0 g2); replace V2 := Lib.hid (V2.out.keep0 g2); replace HG := Lib.hid (gb_trans HG.out g2); replace cx0 := World.grownBy.cell g2 cx0 (by simp); replace cx1 := World.grownBy.cell g2 cx1 (by simp); replace cx2 := World.grownBy.cell g2 cx2 (by simp); replace cx3 := World.grownBy.cell g2 cx3 (by simp); replace cy0 := World.grownBy.cell g2 cy0 (by simp); replace cy1 := World.grownBy.cell g2 cy1 (by simp); replace cy2 := World.grownBy.cell g2 cy2 (by simp); replace cy3 := World.grownBy.cell g2 cy3 (by simp); clear g2) | (go_at_call 15; (with_reducible refine (HF2.out _ _ V2.out).mono ?_); rintro e w3 ⟨rfl, g3⟩; replace P5 := Lib.hid (P5.out.keep0 g3); replace P7 := Lib.hid (P7.out.keep0 g3); replace KM := Lib.hid (KM.out.keep0 g3); replace V1 := Lib.hid (V1.out.keep0 g3); replace V2 := Lib.hid (V2.out.keep0 g3); replace HG := Lib.hid (gb_trans HG.out g3); replace cx0 := World.grownBy.cell g3 cx0 (by simp); replace cx1 := World.grownBy.cell g3 cx1 (by simp); replace cx2 := World.grownBy.cell g3 cx2 (by simp); replace cx3 := World.grownBy.cell g3 cx3 (by simp); replace cy0 := World.grownBy.cell g3 cy0 (by simp); replace cy1 := World.grownBy.cell g3 cy1 (by simp); replace cy2 := World.grownBy.cell g3 cy2 (by simp); replace cy3 := World.grownBy.cell g3 cy3 (by simp); clear g3))
                    go_roundw
                    case rel => exact ⟨2, by omega, by go_num, P5.out, P7.out, KM.out, HG.out⟩
                    case measure => simp [intOf]
                  · have HF2 := Lib.hid (fits_is hfm lim2)
                    have hrm : (innerM h (L.take k)).few = false ∧ ∀ r A B key, BestN (innerM h (L.take k)) r → IsCut (innerM h (L.take k)) r A B key → A.fits = true ∧ B.fits = true := by
                      rw [← hk] at hfn ⊢
                      exact inner_room h L k0 (by omega) (by omega) hfn hfm
                    have HSP : Hid (∀ W v, NdV W v (innerM h (L.take k)) → Calls Tryz.prog 18 #[v] W (SplitYes (innerM h (L.take k)) W)) := Lib.hid (fun W v hv => split_yes v _ W hv lim1 hrm.1)
                    have HRM := Lib.hid hrm.2
                    have HLIM := Lib.hid lim1
                    clear hfn hfm lim1 lim2 hrm
                    go_wp2_with (first | (go_at_call 15; (with_reducible refine (HF1.out _ _ V1.out).mono ?_); rintro e w2 ⟨rfl, g2⟩; replace P5 := Lib.hid (P5.out.keep0 g2); replace P7 := Lib.hid (P7.out.keep0 g2); replace KM := Lib.hid (KM.out.keep0 g2); replace V1 := Lib.hid (V1.out.keep0 g2); replace V2 := Lib.hid (V2.out.keep0 g2); replace HG := Lib.hid (gb_trans HG.out g2); replace cx0 := World.grownBy.cell g2 cx0 (by simp); replace cx1 := World.grownBy.cell g2 cx1 (by simp); replace cx2 := World.grownBy.cell g2 cx2 (by simp); replace cx3 := World.grownBy.cell g2 cx3 (by simp); replace cy0 := World.grownBy.cell g2 cy0 (by simp); replace cy1 := World.grownBy.cell g2 cy1 (by simp); replace cy2 := World.grownBy.cell g2 cy2 (by simp); replace cy3 := World.grownBy.cell g2 cy3 (by simp); clear g2) | (go_at_call 15; (with_reducible refine (HF2.out _ _ V2.out).mono ?_); rintro e w3 ⟨rfl, g3⟩; replace P5 := Lib.hid (P5.out.keep0 g3); replace P7 := Lib.hid (P7.out.keep0 g3); replace KM := Lib.hid (KM.out.keep0 g3); replace V1 := Lib.hid (V1.out.keep0 g3); replace V2 := Lib.hid (V2.out.keep0 g3); replace HG := Lib.hid (gb_trans HG.out g3); replace cx0 := World.grownBy.cell g3 cx0 (by simp); replace cx1 := World.grownBy.cell g3 cx1 (by simp); replace cx2 := World.grownBy.cell g3 cx2 (by simp); replace cx3 := World.grownBy.cell g3 cx3 (by simp); replace cy0 := World.grownBy.cell g3 cy0 (by simp); replace cy1 := World.grownBy.cell g3 cy1 (by simp); replace cy2 := World.grownBy.cell g3 cy2 (by simp); replace cy3 := World.grownBy.cell g3 cy3 (by simp); clear g3) | (go_at_call 18; (with_reducible refine (HSP.out _ _ V1.out).mono ?_); rintro e w4 ⟨r, A, B, key, va, vb, hb, hc, rfl, hA, hB, g4⟩; replace P5 := Lib.hid (P5.out.keep0 g4); replace P7 := Lib.hid (P7.out.keep0 g4); replace KM := Lib.hid (KM.out.keep0 g4); replace V1 := Lib.hid (V1.out.keep0 g4); replace V2 := Lib.hid (V2.out.keep0 g4); replace HG := Lib.hid (gb_trans HG.out g4); replace cx0 := World.grownBy.cell g4 cx0 (by simp); replace cx1 := World.grownBy.cell g4 cx1 (by simp); replace cx2 := World.grownBy.cell g4 cx2 (by simp); replace cx3 := World.grownBy.cell g4 cx3 (by simp); replace cy0 := World.grownBy.cell g4 cy0 (by simp); replace cy1 := World.grownBy.cell g4 cy1 (by simp); replace cy2 := World.grownBy.cell g4 cy2 (by simp); replace cy3 := World.grownBy.cell g4 cy3 (by simp); clear g4; obtain ⟨hfa, hfb⟩ := HRM.out r A B key hb hc; obtain ⟨la, lb⟩ := cut_lim hc HLIM.out; obtain ⟨e0, e1, e2, e3, e4, e5, e6, e7, e8, e9, rfl⟩ := ndX hA; obtain ⟨s0, s1, s2, s3, s4, s5, s6, s7, s8, s9, rfl⟩ := ndX hB; have VA := Lib.hid hA; have VB := Lib.hid hB; have HFA := Lib.hid (fits_is hfa la); have HFB := Lib.hid (fits_is hfb lb); clear hA hB hfa hfb la lb hb hc) | (go_at_call 15; obtain ⟨w5, hu, kA, kB, g5, hz5⟩ := new2 w4 26 #[.bool e0, .slice e1 e2 e3, .slice e4 e5 e6, .slice e7 e8 e9] 26 #[.bool s0, .slice s1 s2 s3, .slice s4 s5 s6, .slice s7 s8 s9]; rw [← hu]; clear hu hz5; replace P5 := Lib.hid (P5.out.keep0 g5); replace P7 := Lib.hid (P7.out.keep0 g5); replace KM := Lib.hid (KM.out.keep0 g5); replace V1 := Lib.hid (V1.out.keep0 g5); replace V2 := Lib.hid (V2.out.keep0 g5); replace VA := Lib.hid (VA.out.keep0 g5); replace VB := Lib.hid (VB.out.keep0 g5); replace HG := Lib.hid (gb_trans HG.out g5); replace cx0 := World.grownBy.cell g5 cx0 (by simp); replace cx1 := World.grownBy.cell g5 cx1 (by simp); replace cx2 := World.grownBy.cell g5 cx2 (by simp); replace cx3 := World.grownBy.cell g5 cx3 (by simp); replace cy0 := World.grownBy.cell g5 cy0 (by simp); replace cy1 := World.grownBy.cell g5 cy1 (by simp); replace cy2 := World.grownBy.cell g5 cy2 (by simp); replace cy3 := World.grownBy.cell g5 cy3 (by simp); clear g5; (with_reducible refine (HFA.out _ _ VA.out).mono ?_); rintro e w6 ⟨rfl, g6⟩; replace P5 := Lib.hid (P5.out.keep0 g6); replace P7 := Lib.hid (P7.out.keep0 g6); replace KM := Lib.hid (KM.out.keep0 g6); replace V1 := Lib.hid (V1.out.keep0 g6); replace V2 := Lib.hid (V2.out.keep0 g6); replace VB := Lib.hid (VB.out.keep0 g6); replace HG := Lib.hid (gb_trans HG.out g6); replace cx0 := World.grownBy.cell g6 cx0 (by simp); replace cx1 := World.grownBy.cell g6 cx1 (by simp); replace cx2 := World.grownBy.cell g6 cx2 (by simp); replace cx3 := World.grownBy.cell g6 cx3 (by simp); replace cy0 := World.grownBy.cell g6 cy0 (by simp); replace cy1 := World.grownBy.cell g6 cy1 (by simp); replace cy2 := World.grownBy.cell g6 cy2 (by simp); replace cy3 := World.grownBy.cell g6 cy3 (by simp); replace kB := kB.keep0 g6; have z0 := kB.cell 0 rfl; have z1 := kB.cell 1 rfl; have z2 := kB.cell 2 rfl; have z3 := kB.cell 3 rfl; clear g6) | (go_at_call 15; (with_reducible refine (HFB.out _ _ VB.out).mono ?_); rintro e w7 ⟨rfl, g7⟩; replace P5 := Lib.hid (P5.out.keep0 g7); replace P7 := Lib.hid (P7.out.keep0 g7); replace KM := Lib.hid (KM.out.keep0 g7); replace V1 := Lib.hid (V1.out.keep0 g7); replace V2 := Lib.hid (V2.out.keep0 g7); replace HG := Lib.hid (gb_trans HG.out g7); replace cx0 := World.grownBy.cell g7 cx0 (by simp); replace cx1 := World.grownBy.cell g7 cx1 (by simp); replace cx2 := World.grownBy.cell g7 cx2 (by simp); replace cx3 := World.grownBy.cell g7 cx3 (by simp); replace cy0 := World.grownBy.cell g7 cy0 (by simp); replace cy1 := World.grownBy.cell g7 cy1 (by simp); replace cy2 := World.grownBy.cell g7 cy2 (by simp); replace cy3 := World.grownBy.cell g7 cy3 (by simp); clear g7))
                    go_roundw
                    case rel => exact ⟨2, by omega, by go_num, P5.out, P7.out, KM.out, HG.out⟩
                    case measure => simp [intOf]
                · have HF1 := Lib.hid (fits_is hfn lim1)
                  clear hfn lim1 lim2
                  go_wp2_with (go_at_call 15; (with_reducible refine (HF1.out _ _ V1.out).mono ?_); rintro e w2 ⟨rfl, g2⟩; replace P5 := Lib.hid (P5.out.keep0 g2); replace P7 := Lib.hid (P7.out.keep0 g2); replace KM := Lib.hid (KM.out.keep0 g2); replace V1 := Lib.hid (V1.out.keep0 g2); replace V2 := Lib.hid (V2.out.keep0 g2); replace HG := Lib.hid (gb_trans HG.out g2); replace cx0 := World.grownBy.cell g2 cx0 (by simp); replace cx1 := World.grownBy.cell g2 cx1 (by simp); replace cx2 := World.grownBy.cell g2 cx2 (by simp); replace cx3 := World.grownBy.cell g2 cx3 (by simp); replace cy0 := World.grownBy.cell g2 cy0 (by simp); replace cy1 := World.grownBy.cell g2 cy1 (by simp); replace cy2 := World.grownBy.cell g2 cy2 (by simp); replace cy3 := World.grownBy.cell g2 cy3 (by simp); clear g2)
                  go_roundw
                  case rel => exact ⟨2, by omega, by go_num, P5.out, P7.out, KM.out, HG.out⟩
                  case measure => simp [intOf]
            · obtain rfl : i = 2 := by omega
              go_wp2
              go_roundw
              case rel => exact ⟨k, by omega, by go_num, kM, hg⟩
              case measure => simp [intOf]; omega
    · have hk1 : k0 = min L.length 30 := by omega
      rcases Nat.lt_or_ge 30 L.length with hll | hll
      · obtain rfl : k0 = 30 := by omega
        clear hk1 hk0 hlt
        go_wp2
        go_ret
        exact ⟨rfl, gb_below hg⟩
      · obtain rfl : k0 = L.length := by omega
        clear hk1 hk0 hlt
        go_wp2
        go_ret
        exact ⟨rfl, gb_below hg⟩
end Go.Proofs.YthhimhjegodklaaGreat.N11

