/-
  What few answers; the law NodeJoins, walked: whether two nodes are joined, and to what, is as the document's Join says; conditions: the nodes and the numbers lie.
-/
import Derived.Test.YthhimhjegodklaaGreatNzn
import Derived.Deep.MidRow
import Derived.Deep.DeepCutAuto
namespace Go.Proofs.YthhimhjegodklaaGreat.N11
set_option linter.unusedSimpArgs false
set_option linter.unusedVariables false
open Go.RowKit
theorem few_C {w : World} {ao : Option Addr} {cap : Nat} {l : List Ce} (h : Ces w (.slice ao l.length cap) l) : ∃ y1 y2 y3 j, min (l.length : Int) 40 = ((j : Nat) : Int) ∧ (∀ W, (Instr.sliceAt 22 (.slice ao l.length cap) none (some (.int .i64 (j : Nat))) none).run Tryz.prog W = .ok (.slice y1 y2 y3) W) ∧ Ces w (.slice y1 y2 y3) (l.take 40) := by
  obtain ⟨ao', cap', he, hcap, _⟩ := id h
  cases he
  obtain ⟨j, hj⟩ : ∃ j, min l.length 40 = j := ⟨_, rfl⟩
  have hc := cut_C h (a := 0) (b := j) (m := cap) (Nat.zero_le _) (by omega) (by omega) (Nat.le_refl _)
  rw [List.drop_zero, Nat.sub_zero, show l.take j = l.take 40 by rw [← hj, List.take_eq_take_iff]; omega] at hc
  exact ⟨_, _, _, j, by omega, fun W => upto_C ao l.length cap j (by omega) W, hc⟩
theorem few_S {w : World} {ao : Option Addr} {cap : Nat} {l : List ByteArray} (h : Sts w (.slice ao l.length cap) l) : ∃ y1 y2 y3 j, min (l.length : Int) 40 = ((j : Nat) : Int) ∧ (∀ W, (Instr.sliceAt 23 (.slice ao l.length cap) none (some (.int .i64 (j : Nat))) none).run Tryz.prog W = .ok (.slice y1 y2 y3) W) ∧ Sts w (.slice y1 y2 y3) (l.take 40) := by
  obtain ⟨ao', cap', he, hcap, _⟩ := id h
  cases he
  obtain ⟨j, hj⟩ : ∃ j, min l.length 40 = j := ⟨_, rfl⟩
  have hc := cut_S h (a := 0) (b := j) (m := cap) (Nat.zero_le _) (by omega) (by omega) (Nat.le_refl _)
  rw [List.drop_zero, Nat.sub_zero, show l.take j = l.take 40 by rw [← hj, List.take_eq_take_iff]; omega] at hc
  exact ⟨_, _, _, j, by omega, fun W => upto_S ao l.length cap j (by omega) W, hc⟩
theorem few_I {w : World} {ao : Option Addr} {cap : Nat} {l : List Int} (h : Ins w (.slice ao l.length cap) l) : ∃ y1 y2 y3 j, min (l.length : Int) 40 = ((j : Nat) : Int) ∧ (∀ W, (Instr.sliceAt 24 (.slice ao l.length cap) none (some (.int .i64 (j : Nat))) none).run Tryz.prog W = .ok (.slice y1 y2 y3) W) ∧ Ins w (.slice y1 y2 y3) (l.take 40) := by
  obtain ⟨ao', cap', he, hcap, _⟩ := id h
  cases he
  obtain ⟨j, hj⟩ : ∃ j, min l.length 40 = j := ⟨_, rfl⟩
  have hc := cut_I h (a := 0) (b := j) (m := cap) (Nat.zero_le _) (by omega) (by omega) (Nat.le_refl _)
  rw [List.drop_zero, Nat.sub_zero, show l.take j = l.take 40 by rw [← hj, List.take_eq_take_iff]; omega] at hc
  exact ⟨_, _, _, j, by omega, fun W => upto_I ao l.length cap j (by omega) W, hc⟩
def fewN (n : Nd) : Nd := ⟨n.leaf, n.cells.take 40, n.keys.take 40, n.kids.take 40⟩
theorem fewN_half (n : Nd) : (fewN n).Half := ⟨by unfold fewN; rw [List.length_take]; omega, by unfold fewN; rw [List.length_take]; omega, by unfold fewN; rw [List.length_take]; omega⟩
set_option maxRecDepth 100000 in
set_option maxHeartbeats 4000000 in
theorem few_any (v : Value) (n : Nd) (w : World) (hv : NdV w v n) : Calls Tryz.prog 7 #[v] w (MadeGot (fewN n) w) := by
  obtain ⟨p1, s1, p2, s2, p3, s3, rfl⟩ := NdV.parts hv
  obtain ⟨h1, h2, h3⟩ := NdV.opens hv
  obtain ⟨x1, x2, x3, j1, hj1, hs1, hx⟩ := few_C h1
  obtain ⟨y1, y2, y3, j2, hj2, hs2, hy⟩ := few_S h2
  obtain ⟨z1, z2, z3, j3, hj3, hs3, hz⟩ := few_I h3
  obtain ⟨lf, hlf⟩ : ∃ lf, n.leaf = lf := ⟨_, rfl⟩
  obtain ⟨r1, hr1⟩ : ∃ r, n.cells.length = r := ⟨_, rfl⟩
  obtain ⟨r2, hr2⟩ : ∃ r, n.keys.length = r := ⟨_, rfl⟩
  obtain ⟨r3, hr3⟩ : ∃ r, n.kids.length = r := ⟨_, rfl⟩
  rw [hr1] at hj1 hs1 ⊢
  rw [hr2] at hj2 hs2 ⊢
  rw [hr3] at hj3 hs3 ⊢
  rw [hlf]
  have HLF := Lib.hid hlf
  obtain ⟨w0, hw0, kP, kR, g0, hz0⟩ := new2 w 26 #[.bool lf, .slice p1 r1 s1, .slice p2 r2 s2, .slice p3 r3 s3] 26 #[.bool false, .slice none 0 0, .slice none 0 0, .slice none 0 0]
  have HW := Lib.hid hw0
  have VX := Lib.hid (hx.keep0 g0)
  have VY := Lib.hid (stsKeep0 hy g0)
  have VZ := Lib.hid (hz.keep0 g0)
  clear hw0 hz0 h1 h2 h3 hx hy hz hr1 hr2 hr3 hlf hv
  have hws : w.heap.size ≤ w.heap.size := Nat.le_refl _
  go_enter Tryz.func7, Tryz.ntmps7
  go_upto_region 1 with fail
  rw [← HW.out]
  clear HW
  generalize hbpe : w.heap.size = bp at kP kR hws ⊢
  obtain ⟨br, hbr⟩ : ∃ br, bp + 1 = br := ⟨_, rfl⟩
  rw [hbr] at kR ⊢
  have n1 := kP.cell 1 rfl
  have f1 := kP.free 1
  go_upto_region 2 with fail
  obtain ⟨u1, hD⟩ : ∃ z : World, z = w0.setCell ⟨bp, 1, none⟩ (.slice x1 x2 x3) := ⟨_, rfl⟩
  rw [← hD]
  have g1 : w0.grownBy u1 (some bp) := by rw [hD]; exact gb_set _ _ _ _ _
  have kP1 : Blk u1 bp 26 #[.bool lf, .slice x1 x2 x3, .slice p2 r2 s2, .slice p3 r3 s3] := by rw [hD]; exact kP.set 1 _
  replace VX := Lib.hid (VX.out.keepN (Nbl.node kP) g1)
  replace VY := Lib.hid (stsKeepN VY.out (Nbl.node kP) g1)
  replace VZ := Lib.hid (VZ.out.keepN (Nbl.node kP) g1)
  replace kR := kR.keep g1 (ne_some (by omega))
  replace g0 := gb_step g0 g1 (by omega)
  clear kP n1 f1 hD g1 hs1 hj1
  have kP : Blk u1 bp 26 #[.bool lf, .slice x1 x2 x3, .slice p2 r2 s2, .slice p3 r3 s3] := kP1
  clear kP1
  have n1 := kP.cell 2 rfl
  have f1 := kP.free 2
  go_upto_region 3 with fail
  obtain ⟨u2, hD⟩ : ∃ z : World, z = u1.setCell ⟨bp, 2, none⟩ (.slice y1 y2 y3) := ⟨_, rfl⟩
  rw [← hD]
  have g2 : u1.grownBy u2 (some bp) := by rw [hD]; exact gb_set _ _ _ _ _
  have kP2 : Blk u2 bp 26 #[.bool lf, .slice x1 x2 x3, .slice y1 y2 y3, .slice p3 r3 s3] := by rw [hD]; exact kP.set 2 _
  replace VX := Lib.hid (VX.out.keepN (Nbl.node kP) g2)
  replace VY := Lib.hid (stsKeepN VY.out (Nbl.node kP) g2)
  replace VZ := Lib.hid (VZ.out.keepN (Nbl.node kP) g2)
  replace kR := kR.keep g2 (ne_some (by omega))
  replace g0 := gb_step g0 g2 (by omega)
  clear kP n1 f1 hD g2 hs2 hj2
  have kP : Blk u2 bp 26 #[.bool lf, .slice x1 x2 x3, .slice y1 y2 y3, .slice p3 r3 s3] := kP2
  clear kP2
  have n1 := kP.cell 3 rfl
  have f1 := kP.free 3
  go_upto_region 4 with fail
  obtain ⟨u3, hD⟩ : ∃ z : World, z = u2.setCell ⟨bp, 3, none⟩ (.slice z1 z2 z3) := ⟨_, rfl⟩
  rw [← hD]
  have g3 : u2.grownBy u3 (some bp) := by rw [hD]; exact gb_set _ _ _ _ _
  have kP3 : Blk u3 bp 26 #[.bool lf, .slice x1 x2 x3, .slice y1 y2 y3, .slice z1 z2 z3] := by rw [hD]; exact kP.set 3 _
  replace VX := Lib.hid (VX.out.keepN (Nbl.node kP) g3)
  replace VY := Lib.hid (stsKeepN VY.out (Nbl.node kP) g3)
  replace VZ := Lib.hid (VZ.out.keepN (Nbl.node kP) g3)
  replace kR := kR.keep g3 (ne_some (by omega))
  replace g0 := gb_step g0 g3 (by omega)
  clear kP n1 f1 hD g3 hs3 hj3
  have kP : Blk u3 bp 26 #[.bool lf, .slice x1 x2 x3, .slice y1 y2 y3, .slice z1 z2 z3] := kP3
  clear kP3
  have e0 := kP.cell 0 rfl
  have e1 := kP.cell 1 rfl
  have e2 := kP.cell 2 rfl
  have e3 := kP.cell 3 rfl
  go_wp2_with ((with_reducible refine st_node rfl br 26 lf x1 y1 z1 x2 y2 z2 x3 y3 z3 ?_ ?_ _ _ _ _ kR ?_); (· rfl); (· rfl); intro w9 nn9 g9)
  refine bodyPost_ret (results_c rfl _ _ _ _ _ _ _ rfl nn9) rfl ⟨_, rfl, ⟨_, _, _, by unfold fewN; rw [HLF.out], VX.out.keepN (Nbl.node kR) g9, stsKeepN VY.out (Nbl.node kR) g9, VZ.out.keepN (Nbl.node kR) g9⟩, gb_step g0 g9 (by omega)⟩
theorem _root_.Go.Proofs.YthhimhjegodklaaGreat.Blk.there {w : World} {b n : Nat} {t : TypeId} {vs : Array Value} (h : Blk w b t vs) (hn : n = vs.size) : w.there b 0 n := by
  intro j hj
  rw [Nat.zero_add]
  exact ⟨by rw [h.cell j (Array.getElem?_eq_getElem (by omega))]; rfl, h.free j⟩
theorem set_run : ∀ (l : List Value) (o : Nat) (w : World) (b : Nat) (t : TypeId) (vs : Array Value), Blk w b t vs → o + l.length = vs.size → Blk (w.setCells b o l) b t (vs.toList.take o ++ l).toArray ∧ w.grownBy (w.setCells b o l) (some b)
  | [], o, w, b, t, vs, h, ho => by
    refine ⟨?_, gb_refl _ _⟩
    rw [List.append_nil, List.take_of_length_le (by simpa using Nat.le_of_eq ho.symm)]
    exact h
  | v :: l, o, w, b, t, vs, h, ho => by
    have hlt : o < vs.toList.length := by have : (v :: l).length = l.length + 1 := rfl; rw [Array.length_toList]; omega
    obtain ⟨h1, h2⟩ := set_run l (o + 1) (w.setCell ⟨b, o, none⟩ v) b t _ (h.set o v) (by rw [Array.size_setIfInBounds, ← ho]; simp; omega)
    refine ⟨?_, gb_trans (gb_set _ _ _ _ _) h2⟩
    have e : (vs.setIfInBounds o v).toList.take (o + 1) ++ l = vs.toList.take o ++ v :: l := by
      rw [Array.toList_setIfInBounds, List.take_add_one, List.take_set_of_le (Nat.le_refl _), List.getElem?_set_self hlt]
      simp
    rw [e] at h1
    exact h1
theorem quad_set {w : World} {b : Nat} {t : TypeId} {vs : Array Value} (h : Blk w b t vs) {l : List Value} (hl : l.length = vs.size) : Blk (w.setCells b 0 l) b t l.toArray ∧ w.grownBy (w.setCells b 0 l) (some b) := by
  have := set_run l 0 w b t vs h (by omega)
  rwa [List.take_zero, List.nil_append] at this
theorem Nbl.of {w : World} {b : Nat} {t : TypeId} {vs : Array Value} (h : Blk w b t vs) (hp : vs.toList.all (fun u => !plainV u) = true) : Nbl w b :=
  ⟨t, vs, h, fun u hu => by have := List.all_eq_true.1 hp u hu; simpa using this⟩
/-- Pairs of nodes, in an array of arrays. -/
def PairsAt (w : World) (b : Nat) (P : List (Nd × Nd)) : Prop := ∀ (i : Nat) (x : Nd × Nd), P[i]? = some x → ∃ q0f q0a q0b q0c q0d q0e q0g q0h q0i q0j q1f q1a q1b q1c q1d q1e q1g q1h q1i q1j,
  (∀ j u, (#[.bool q0f, .slice q0a q0b q0c, .slice q0d q0e q0g, .slice q0h q0i q0j, .bool q1f, .slice q1a q1b q1c, .slice q1d q1e q1g, .slice q1h q1i q1j] : Array Value)[j]? = some u → w.cell? ⟨b, i * 8 + j, none⟩ = some u) ∧ NdV w (.agg #[.bool q0f, .slice q0a q0b q0c, .slice q0d q0e q0g, .slice q0h q0i q0j]) x.1 ∧ NdV w (.agg #[.bool q1f, .slice q1a q1b q1c, .slice q1d q1e q1g, .slice q1h q1i q1j]) x.2
theorem PairsAt.keep0 {w w' : World} {b : Nat} {P : List (Nd × Nd)} (h : PairsAt w b P) (g : w.grownBy w' none) : PairsAt w' b P := by
  intro i x hx
  obtain ⟨q0f, q0a, q0b, q0c, q0d, q0e, q0g, q0h, q0i, q0j, q1f, q1a, q1b, q1c, q1d, q1e, q1g, q1h, q1i, q1j, h0, h1, h2⟩ := h i x hx
  exact ⟨q0f, q0a, q0b, q0c, q0d, q0e, q0g, q0h, q0i, q0j, q1f, q1a, q1b, q1c, q1d, q1e, q1g, q1h, q1i, q1j, fun j u hj => g.cell (h0 j u hj) (by simp), h1.keep0 g, h2.keep0 g⟩
theorem pairs_of {w : World} {b : Nat} {q0f q1f q2f q3f q4f q5f q6f q7f : Bool} {q0a q0d q0h q1a q1d q1h q2a q2d q2h q3a q3d q3h q4a q4d q4h q5a q5d q5h q6a q6d q6h q7a q7d q7h : Option Addr} {q0b q0c q0e q0g q0i q0j q1b q1c q1e q1g q1i q1j q2b q2c q2e q2g q2i q2j q3b q3c q3e q3g q3i q3j q4b q4c q4e q4g q4i q4j q5b q5c q5e q5g q5i q5j q6b q6c q6e q6g q6i q6j q7b q7c q7e q7g q7i q7j : Nat} {N0 N1 N2 N3 N4 N5 N6 N7 : Nd} (h : Blk w b 34 #[.bool q0f, .slice q0a q0b q0c, .slice q0d q0e q0g, .slice q0h q0i q0j, .bool q1f, .slice q1a q1b q1c, .slice q1d q1e q1g, .slice q1h q1i q1j, .bool q2f, .slice q2a q2b q2c, .slice q2d q2e q2g, .slice q2h q2i q2j, .bool q3f, .slice q3a q3b q3c, .slice q3d q3e q3g, .slice q3h q3i q3j, .bool q4f, .slice q4a q4b q4c, .slice q4d q4e q4g, .slice q4h q4i q4j, .bool q5f, .slice q5a q5b q5c, .slice q5d q5e q5g, .slice q5h q5i q5j, .bool q6f, .slice q6a q6b q6c, .slice q6d q6e q6g, .slice q6h q6i q6j, .bool q7f, .slice q7a q7b q7c, .slice q7d q7e q7g, .slice q7h q7i q7j])
    (v0 : NdV w (.agg #[.bool q0f, .slice q0a q0b q0c, .slice q0d q0e q0g, .slice q0h q0i q0j]) N0) (v1 : NdV w (.agg #[.bool q1f, .slice q1a q1b q1c, .slice q1d q1e q1g, .slice q1h q1i q1j]) N1) (v2 : NdV w (.agg #[.bool q2f, .slice q2a q2b q2c, .slice q2d q2e q2g, .slice q2h q2i q2j]) N2) (v3 : NdV w (.agg #[.bool q3f, .slice q3a q3b q3c, .slice q3d q3e q3g, .slice q3h q3i q3j]) N3) (v4 : NdV w (.agg #[.bool q4f, .slice q4a q4b q4c, .slice q4d q4e q4g, .slice q4h q4i q4j]) N4) (v5 : NdV w (.agg #[.bool q5f, .slice q5a q5b q5c, .slice q5d q5e q5g, .slice q5h q5i q5j]) N5) (v6 : NdV w (.agg #[.bool q6f, .slice q6a q6b q6c, .slice q6d q6e q6g, .slice q6h q6i q6j]) N6) (v7 : NdV w (.agg #[.bool q7f, .slice q7a q7b q7c, .slice q7d q7e q7g, .slice q7h q7i q7j]) N7) : PairsAt w b [(N0, N1), (N2, N3), (N4, N5), (N6, N7)] := by
  intro i x hx
  match i, hx with
  | 0, hx =>
    cases hx
    refine ⟨_, _, _, _, _, _, _, _, _, _, _, _, _, _, _, _, _, _, _, _, fun j u hj => ?_, v0, v1⟩
    refine h.cell _ ?_
    match j, hj with
    | 0, hj => exact hj
    | 1, hj => exact hj
    | 2, hj => exact hj
    | 3, hj => exact hj
    | 4, hj => exact hj
    | 5, hj => exact hj
    | 6, hj => exact hj
    | 7, hj => exact hj
  | 1, hx =>
    cases hx
    refine ⟨_, _, _, _, _, _, _, _, _, _, _, _, _, _, _, _, _, _, _, _, fun j u hj => ?_, v2, v3⟩
    refine h.cell _ ?_
    match j, hj with
    | 0, hj => exact hj
    | 1, hj => exact hj
    | 2, hj => exact hj
    | 3, hj => exact hj
    | 4, hj => exact hj
    | 5, hj => exact hj
    | 6, hj => exact hj
    | 7, hj => exact hj
  | 2, hx =>
    cases hx
    refine ⟨_, _, _, _, _, _, _, _, _, _, _, _, _, _, _, _, _, _, _, _, fun j u hj => ?_, v4, v5⟩
    refine h.cell _ ?_
    match j, hj with
    | 0, hj => exact hj
    | 1, hj => exact hj
    | 2, hj => exact hj
    | 3, hj => exact hj
    | 4, hj => exact hj
    | 5, hj => exact hj
    | 6, hj => exact hj
    | 7, hj => exact hj
  | 3, hx =>
    cases hx
    refine ⟨_, _, _, _, _, _, _, _, _, _, _, _, _, _, _, _, _, _, _, _, fun j u hj => ?_, v6, v7⟩
    refine h.cell _ ?_
    match j, hj with
    | 0, hj => exact hj
    | 1, hj => exact hj
    | 2, hj => exact hj
    | 3, hj => exact hj
    | 4, hj => exact hj
    | 5, hj => exact hj
    | 6, hj => exact hj
    | 7, hj => exact hj
theorem pairs_half (A1 A2 : Nd) (h1 h2 : ByteArray) (L1 L2 : List UInt8) (i : Nat) (x : Nd × Nd) (hx : [(fewN A1, fewN A2), (leafM h1 L1, leafM h2 L2), (innerM h1 L1, innerM h2 L2), (leafM h1 L1, innerM h2 L2)][i]? = some x) : x.1.Half ∧ x.2.Half := by
  match i, hx with
  | 0, hx => cases hx; exact ⟨fewN_half _, fewN_half _⟩
  | 1, hx => cases hx; exact ⟨leafM_half _ _, leafM_half _ _⟩
  | 2, hx => cases hx; exact ⟨innerM_half _ _, innerM_half _ _⟩
  | 3, hx => cases hx; exact ⟨leafM_half _ _, innerM_half _ _⟩
def joinO (n m : Nd) (k : ByteArray) : Nd := if joinB n m k then joinN n m k else Nd.zero
theorem joinO_lim {n m : Nd} (k : ByteArray) (hn : n.Half) (hm : m.Half) : (joinO n m k).Lim := by
  unfold joinO; split
  · exact Lim.join hn hm k
  · exact Lim.zero
/-- What a joining answers, opened. -/
def JoinOpen (n m : Nd) (k : ByteArray) (w : World) (e : Ending) (w' : World) : Prop := ∃ q0f q0a q0b q0c q0d q0e q0g q0h q0i q0j, e = .returned (.tuple #[.agg #[.bool q0f, .slice q0a q0b q0c, .slice q0d q0e q0g, .slice q0h q0i q0j], .bool (joinB n m k)]) ∧ NdV w' (.agg #[.bool q0f, .slice q0a q0b q0c, .slice q0d q0e q0g, .slice q0h q0i q0j]) (joinO n m k) ∧ w.grownBy w' none
theorem join_open {n m : Nd} {k : ByteArray} {w w' : World} {e : Ending} (h : JoinGot n m k w e w') : JoinOpen n m k w e w' := by
  obtain ⟨v, rfl, hv, hg⟩ := h
  obtain ⟨q0f, q0a, q0b, q0c, q0d, q0e, q0g, q0h, q0i, q0j, rfl⟩ := nd_shape hv
  exact ⟨q0f, q0a, q0b, q0c, q0d, q0e, q0g, q0h, q0i, q0j, rfl, hv, hg⟩
def NAx (w : World) (b : Nat) (n : Nd) : Prop := ∃ q0f q0a q0b q0c q0d q0e q0g q0h q0i q0j, Blk w b 26 #[.bool q0f, .slice q0a q0b q0c, .slice q0d q0e q0g, .slice q0h q0i q0j] ∧ NdV w (.agg #[.bool q0f, .slice q0a q0b q0c, .slice q0d q0e q0g, .slice q0h q0i q0j]) n
theorem NAx.keep0 {w w' : World} {b : Nat} {n : Nd} (h : NAx w b n) (g : w.grownBy w' none) : NAx w' b n := by
  obtain ⟨q0f, q0a, q0b, q0c, q0d, q0e, q0g, q0h, q0i, q0j, h1, h2⟩ := h
  exact ⟨q0f, q0a, q0b, q0c, q0d, q0e, q0g, q0h, q0i, q0j, h1.keep0 g, h2.keep0 g⟩
set_option maxRecDepth 100000 in
set_option maxHeartbeats 4000000 in
theorem joins_any (lf1 lf2 : Bool) (x11 z11 x21 z21 x31 z31 : Option Addr) (x12 z12 x13 z13 x22 z22 x23 z23 x32 z32 x33 z33 : Nat) (h1 h2 key : ByteArray) (v1 v2 : Value) (A1 A2 : Nd) (L1 L2 : List UInt8) (w : World)
    (hv1 : NdV w (.agg #[.bool lf1, .slice x11 x12 x13, .slice x21 x22 x23, .slice x31 x32 x33]) A1) (hv2 : NdV w (.agg #[.bool lf2, .slice z11 z12 z13, .slice z21 z22 z23, .slice z31 z32 z33]) A2) (hb1 : Bs w v1 L1) (hb2 : Bs w v2 L2) :
    Calls Tryz.prog 3 #[.agg #[.bool lf1, .slice x11 x12 x13, .slice x21 x22 x23, .slice x31 x32 x33, .bool lf2, .slice z11 z12 z13, .slice z21 z22 z23, .slice z31 z32 z33], .agg #[.string h1, v1, .string h2, v2], .string key] w fun e w' => e = .returned (.bool true) ∧ Below w.heap.size w w' := by
  obtain ⟨b1, c1, rfl, _⟩ := id hb1
  obtain ⟨b2, c2, rfl, _⟩ := id hb2
  obtain ⟨n1, hn1⟩ : ∃ r, L1.length = r := ⟨_, rfl⟩
  obtain ⟨n2, hn2⟩ : ∃ r, L2.length = r := ⟨_, rfl⟩
  rw [hn1] at hb1 ⊢
  rw [hn2] at hb2 ⊢
  clear hn1 hn2
  obtain ⟨w0, hw0, kL, kM, g0, hz0⟩ := new2 w 27 #[.bool lf1, .slice x11 x12 x13, .slice x21 x22 x23, .slice x31 x32 x33, .bool lf2, .slice z11 z12 z13, .slice z21 z22 z23, .slice z31 z32 z33] 31 #[.string h1, .slice b1 n1 c1, .string h2, .slice b2 n2 c2]
  have HW := Lib.hid hw0
  have HG := Lib.hid g0
  have HF1 : Hid (∀ W, w0.grownBy W none → Calls Tryz.prog 7 #[.agg #[.bool lf1, .slice x11 x12 x13, .slice x21 x22 x23, .slice x31 x32 x33]] W (MadeGot (fewN A1) W)) := Lib.hid (fun W g => few_any _ _ W ((hv1.keep0 g0).keep0 g))
  have HF2 : Hid (∀ W, w0.grownBy W none → Calls Tryz.prog 7 #[.agg #[.bool lf2, .slice z11 z12 z13, .slice z21 z22 z23, .slice z31 z32 z33]] W (MadeGot (fewN A2) W)) := Lib.hid (fun W g => few_any _ _ W ((hv2.keep0 g0).keep0 g))
  have HL1 : Hid (∀ W, w0.grownBy W none → Calls Tryz.prog 8 #[.agg #[.string h1, .slice b1 n1 c1]] W (MadeGot (leafM h1 L1) W)) := Lib.hid (fun W g => leaf_any h1 _ L1 W ((hb1.keep0 g0).keep0 g))
  have HL2 : Hid (∀ W, w0.grownBy W none → Calls Tryz.prog 8 #[.agg #[.string h2, .slice b2 n2 c2]] W (MadeGot (leafM h2 L2) W)) := Lib.hid (fun W g => leaf_any h2 _ L2 W ((hb2.keep0 g0).keep0 g))
  have HI1 : Hid (∀ W, w0.grownBy W none → Calls Tryz.prog 9 #[.agg #[.string h1, .slice b1 n1 c1]] W (MadeGot (innerM h1 L1) W)) := Lib.hid (fun W g => inner_any h1 _ L1 W ((hb1.keep0 g0).keep0 g))
  have HI2 : Hid (∀ W, w0.grownBy W none → Calls Tryz.prog 9 #[.agg #[.string h2, .slice b2 n2 c2]] W (MadeGot (innerM h2 L2) W)) := Lib.hid (fun W g => inner_any h2 _ L2 W ((hb2.keep0 g0).keep0 g))
  have l0 := kL.cell 0 rfl
  have l1 := kL.cell 1 rfl
  have l2 := kL.cell 2 rfl
  have l3 := kL.cell 3 rfl
  have l4 := kL.cell 4 rfl
  have l5 := kL.cell 5 rfl
  have l6 := kL.cell 6 rfl
  have l7 := kL.cell 7 rfl
  have m0 := kM.cell 0 rfl
  have m1 := kM.cell 1 rfl
  have m2 := kM.cell 2 rfl
  have m3 := kM.cell 3 rfl
  clear hw0 hz0 g0 kL kM hb1 hb2 hv1 hv2
  go_enter Tryz.func3, Tryz.ntmps3
  go_upto_region 1 with fail
  rw [← HW.out]
  go_cut [7] (fun s7 wx => ∃ b7 : Nat, s7 = .pointer (some ⟨b7, 0, none⟩) ∧ PairsAt wx b7 [(fewN A1, fewN A2), (leafM h1 L1, leafM h2 L2), (innerM h1 L1, innerM h2 L2), (leafM h1 L1, innerM h2 L2)] ∧ w.grownBy wx none)
  case first =>
    have GQ := Lib.hid (gb_drew w0 none)
    refine wp_region_noPanic ?_
    refine wp_region_held_drew (S := fun w' => w0.grownBy w' none) (by kernel_rfl) (gb_drew _ _) (fun hHeld => ?_)
    generalize w0.drew = wd at GQ hHeld ⊢
    refine wpAnyH_take (i := 0) (v := ?_) (List.getElem?_toArray.trans rfl) (by kernel_rfl) (by kernel_rfl) (by kernel_rfl) (fun _ _ _ h => h) (Or.inl ⟨by rfl, ?_⟩) hHeld ?_
    rotate_left
    · intro w' hSw; have y0 := hSw.cell l0 (by simp); have y1 := hSw.cell l1 (by simp); have y2 := hSw.cell l2 (by simp); have y3 := hSw.cell l3 (by simp); have y4 := hSw.cell l4 (by simp); have y5 := hSw.cell l5 (by simp); have y6 := hSw.cell l6 (by simp); have y7 := hSw.cell l7 (by simp); have v0 := hSw.cell m0 (by simp); have v1 := hSw.cell m1 (by simp); have v2 := hSw.cell m2 (by simp); have v3 := hSw.cell m3 (by simp); go_simp; try with_reducible rfl
    try simp only [Act.put, List.setIfInBounds_toArray, List.set_cons_zero, List.set_cons_succ]
    refine wpAnyH_take (i := 1) (v := ?_) (List.getElem?_toArray.trans rfl) (by kernel_rfl) (by kernel_rfl) (by kernel_rfl) (fun _ _ _ h => h) (Or.inl ⟨by rfl, ?_⟩) hHeld ?_
    rotate_left
    · intro w' hSw; have y0 := hSw.cell l0 (by simp); have y1 := hSw.cell l1 (by simp); have y2 := hSw.cell l2 (by simp); have y3 := hSw.cell l3 (by simp); have y4 := hSw.cell l4 (by simp); have y5 := hSw.cell l5 (by simp); have y6 := hSw.cell l6 (by simp); have y7 := hSw.cell l7 (by simp); have v0 := hSw.cell m0 (by simp); have v1 := hSw.cell m1 (by simp); have v2 := hSw.cell m2 (by simp); have v3 := hSw.cell m3 (by simp); go_simp; try with_reducible rfl
    try simp only [Act.put, List.setIfInBounds_toArray, List.set_cons_zero, List.set_cons_succ]
    refine wpAnyH_take (i := 3) (v := ?_) (List.getElem?_toArray.trans rfl) (by kernel_rfl) (by kernel_rfl) (by kernel_rfl) (fun _ _ _ h => h) (Or.inl ⟨by rfl, ?_⟩) hHeld ?_
    rotate_left
    · intro w' hSw; have y0 := hSw.cell l0 (by simp); have y1 := hSw.cell l1 (by simp); have y2 := hSw.cell l2 (by simp); have y3 := hSw.cell l3 (by simp); have y4 := hSw.cell l4 (by simp); have y5 := hSw.cell l5 (by simp); have y6 := hSw.cell l6 (by simp); have y7 := hSw.cell l7 (by simp); have v0 := hSw.cell m0 (by simp); have v1 := hSw.cell m1 (by simp); have v2 := hSw.cell m2 (by simp); have v3 := hSw.cell m3 (by simp); go_simp; try with_reducible rfl
    try simp only [Act.put, List.setIfInBounds_toArray, List.set_cons_zero, List.set_cons_succ]
    refine wpAnyH_take (i := 4) (v := ?_) (List.getElem?_toArray.trans rfl) (by kernel_rfl) (by kernel_rfl) (by kernel_rfl) (fun _ _ _ h => h) (Or.inl ⟨by rfl, ?_⟩) hHeld ?_
    rotate_left
    · intro w' hSw; have y0 := hSw.cell l0 (by simp); have y1 := hSw.cell l1 (by simp); have y2 := hSw.cell l2 (by simp); have y3 := hSw.cell l3 (by simp); have y4 := hSw.cell l4 (by simp); have y5 := hSw.cell l5 (by simp); have y6 := hSw.cell l6 (by simp); have y7 := hSw.cell l7 (by simp); have v0 := hSw.cell m0 (by simp); have v1 := hSw.cell m1 (by simp); have v2 := hSw.cell m2 (by simp); have v3 := hSw.cell m3 (by simp); go_simp; try with_reducible rfl
    try simp only [Act.put, List.setIfInBounds_toArray, List.set_cons_zero, List.set_cons_succ]
    refine wpAnyH_take (i := 7) (v := ?_) (List.getElem?_toArray.trans rfl) (by kernel_rfl) (by kernel_rfl) (by kernel_rfl) (fun _ _ _ h => h) (Or.inl ⟨by rfl, ?_⟩) hHeld ?_
    rotate_left
    · intro w' hSw; have y0 := hSw.cell l0 (by simp); have y1 := hSw.cell l1 (by simp); have y2 := hSw.cell l2 (by simp); have y3 := hSw.cell l3 (by simp); have y4 := hSw.cell l4 (by simp); have y5 := hSw.cell l5 (by simp); have y6 := hSw.cell l6 (by simp); have y7 := hSw.cell l7 (by simp); have v0 := hSw.cell m0 (by simp); have v1 := hSw.cell m1 (by simp); have v2 := hSw.cell m2 (by simp); have v3 := hSw.cell m3 (by simp); go_simp; try with_reducible rfl
    try simp only [Act.put, List.setIfInBounds_toArray, List.set_cons_zero, List.set_cons_succ]
    refine wpAnyH_take (i := 8) (v := ?_) (List.getElem?_toArray.trans rfl) (by kernel_rfl) (by kernel_rfl) (by kernel_rfl) (fun _ _ _ h => h) (Or.inl ⟨by rfl, ?_⟩) hHeld ?_
    rotate_left
    · intro w' hSw; have y0 := hSw.cell l0 (by simp); have y1 := hSw.cell l1 (by simp); have y2 := hSw.cell l2 (by simp); have y3 := hSw.cell l3 (by simp); have y4 := hSw.cell l4 (by simp); have y5 := hSw.cell l5 (by simp); have y6 := hSw.cell l6 (by simp); have y7 := hSw.cell l7 (by simp); have v0 := hSw.cell m0 (by simp); have v1 := hSw.cell m1 (by simp); have v2 := hSw.cell m2 (by simp); have v3 := hSw.cell m3 (by simp); go_simp; try with_reducible rfl
    try simp only [Act.put, List.setIfInBounds_toArray, List.set_cons_zero, List.set_cons_succ]
    refine wpAnyH_take (i := 10) (v := ?_) (List.getElem?_toArray.trans rfl) (by kernel_rfl) (by kernel_rfl) (by kernel_rfl) (fun _ _ _ h => h) (Or.inl ⟨by rfl, ?_⟩) hHeld ?_
    rotate_left
    · intro w' hSw; have y0 := hSw.cell l0 (by simp); have y1 := hSw.cell l1 (by simp); have y2 := hSw.cell l2 (by simp); have y3 := hSw.cell l3 (by simp); have y4 := hSw.cell l4 (by simp); have y5 := hSw.cell l5 (by simp); have y6 := hSw.cell l6 (by simp); have y7 := hSw.cell l7 (by simp); have v0 := hSw.cell m0 (by simp); have v1 := hSw.cell m1 (by simp); have v2 := hSw.cell m2 (by simp); have v3 := hSw.cell m3 (by simp); go_simp; try with_reducible rfl
    try simp only [Act.put, List.setIfInBounds_toArray, List.set_cons_zero, List.set_cons_succ]
    refine wpAnyH_take (i := 11) (v := ?_) (List.getElem?_toArray.trans rfl) (by kernel_rfl) (by kernel_rfl) (by kernel_rfl) (fun _ _ _ h => h) (Or.inl ⟨by rfl, ?_⟩) hHeld ?_
    rotate_left
    · intro w' hSw; have y0 := hSw.cell l0 (by simp); have y1 := hSw.cell l1 (by simp); have y2 := hSw.cell l2 (by simp); have y3 := hSw.cell l3 (by simp); have y4 := hSw.cell l4 (by simp); have y5 := hSw.cell l5 (by simp); have y6 := hSw.cell l6 (by simp); have y7 := hSw.cell l7 (by simp); have v0 := hSw.cell m0 (by simp); have v1 := hSw.cell m1 (by simp); have v2 := hSw.cell m2 (by simp); have v3 := hSw.cell m3 (by simp); go_simp; try with_reducible rfl
    try simp only [Act.put, List.setIfInBounds_toArray, List.set_cons_zero, List.set_cons_succ]
    refine wpAnyH_take (i := 14) (v := ?_) (List.getElem?_toArray.trans rfl) (by kernel_rfl) (by kernel_rfl) (by kernel_rfl) (fun _ _ _ h => h) (Or.inl ⟨by rfl, ?_⟩) hHeld ?_
    rotate_left
    · intro w' hSw; have y0 := hSw.cell l0 (by simp); have y1 := hSw.cell l1 (by simp); have y2 := hSw.cell l2 (by simp); have y3 := hSw.cell l3 (by simp); have y4 := hSw.cell l4 (by simp); have y5 := hSw.cell l5 (by simp); have y6 := hSw.cell l6 (by simp); have y7 := hSw.cell l7 (by simp); have v0 := hSw.cell m0 (by simp); have v1 := hSw.cell m1 (by simp); have v2 := hSw.cell m2 (by simp); have v3 := hSw.cell m3 (by simp); go_simp; try with_reducible rfl
    try simp only [Act.put, List.setIfInBounds_toArray, List.set_cons_zero, List.set_cons_succ]
    refine wpAnyH_take (i := 15) (v := ?_) (List.getElem?_toArray.trans rfl) (by kernel_rfl) (by kernel_rfl) (by kernel_rfl) (fun _ _ _ h => h) (Or.inl ⟨by rfl, ?_⟩) hHeld ?_
    rotate_left
    · intro w' hSw; have y0 := hSw.cell l0 (by simp); have y1 := hSw.cell l1 (by simp); have y2 := hSw.cell l2 (by simp); have y3 := hSw.cell l3 (by simp); have y4 := hSw.cell l4 (by simp); have y5 := hSw.cell l5 (by simp); have y6 := hSw.cell l6 (by simp); have y7 := hSw.cell l7 (by simp); have v0 := hSw.cell m0 (by simp); have v1 := hSw.cell m1 (by simp); have v2 := hSw.cell m2 (by simp); have v3 := hSw.cell m3 (by simp); go_simp; try with_reducible rfl
    try simp only [Act.put, List.setIfInBounds_toArray, List.set_cons_zero, List.set_cons_succ]
    refine wpAnyH_take (i := 17) (v := ?_) (List.getElem?_toArray.trans rfl) (by kernel_rfl) (by kernel_rfl) (by kernel_rfl) (fun _ _ _ h => h) (Or.inl ⟨by rfl, ?_⟩) hHeld ?_
    rotate_left
    · intro w' hSw; have y0 := hSw.cell l0 (by simp); have y1 := hSw.cell l1 (by simp); have y2 := hSw.cell l2 (by simp); have y3 := hSw.cell l3 (by simp); have y4 := hSw.cell l4 (by simp); have y5 := hSw.cell l5 (by simp); have y6 := hSw.cell l6 (by simp); have y7 := hSw.cell l7 (by simp); have v0 := hSw.cell m0 (by simp); have v1 := hSw.cell m1 (by simp); have v2 := hSw.cell m2 (by simp); have v3 := hSw.cell m3 (by simp); go_simp; try with_reducible rfl
    try simp only [Act.put, List.setIfInBounds_toArray, List.set_cons_zero, List.set_cons_succ]
    refine wpAnyH_take (i := 18) (v := ?_) (List.getElem?_toArray.trans rfl) (by kernel_rfl) (by kernel_rfl) (by kernel_rfl) (fun _ _ _ h => h) (Or.inl ⟨by rfl, ?_⟩) hHeld ?_
    rotate_left
    · intro w' hSw; have y0 := hSw.cell l0 (by simp); have y1 := hSw.cell l1 (by simp); have y2 := hSw.cell l2 (by simp); have y3 := hSw.cell l3 (by simp); have y4 := hSw.cell l4 (by simp); have y5 := hSw.cell l5 (by simp); have y6 := hSw.cell l6 (by simp); have y7 := hSw.cell l7 (by simp); have v0 := hSw.cell m0 (by simp); have v1 := hSw.cell m1 (by simp); have v2 := hSw.cell m2 (by simp); have v3 := hSw.cell m3 (by simp); go_simp; try with_reducible rfl
    try simp only [Act.put, List.setIfInBounds_toArray, List.set_cons_zero, List.set_cons_succ]
    refine wpAnyH_take (i := 21) (v := ?_) (List.getElem?_toArray.trans rfl) (by kernel_rfl) (by kernel_rfl) (by kernel_rfl) (fun _ _ _ h => h) (Or.inl ⟨by rfl, ?_⟩) hHeld ?_
    rotate_left
    · intro w' hSw; have y0 := hSw.cell l0 (by simp); have y1 := hSw.cell l1 (by simp); have y2 := hSw.cell l2 (by simp); have y3 := hSw.cell l3 (by simp); have y4 := hSw.cell l4 (by simp); have y5 := hSw.cell l5 (by simp); have y6 := hSw.cell l6 (by simp); have y7 := hSw.cell l7 (by simp); have v0 := hSw.cell m0 (by simp); have v1 := hSw.cell m1 (by simp); have v2 := hSw.cell m2 (by simp); have v3 := hSw.cell m3 (by simp); go_simp; try with_reducible rfl
    try simp only [Act.put, List.setIfInBounds_toArray, List.set_cons_zero, List.set_cons_succ]
    refine wpAnyH_take (i := 22) (v := ?_) (List.getElem?_toArray.trans rfl) (by kernel_rfl) (by kernel_rfl) (by kernel_rfl) (fun _ _ _ h => h) (Or.inl ⟨by rfl, ?_⟩) hHeld ?_
    rotate_left
    · intro w' hSw; have y0 := hSw.cell l0 (by simp); have y1 := hSw.cell l1 (by simp); have y2 := hSw.cell l2 (by simp); have y3 := hSw.cell l3 (by simp); have y4 := hSw.cell l4 (by simp); have y5 := hSw.cell l5 (by simp); have y6 := hSw.cell l6 (by simp); have y7 := hSw.cell l7 (by simp); have v0 := hSw.cell m0 (by simp); have v1 := hSw.cell m1 (by simp); have v2 := hSw.cell m2 (by simp); have v3 := hSw.cell m3 (by simp); go_simp; try with_reducible rfl
    try simp only [Act.put, List.setIfInBounds_toArray, List.set_cons_zero, List.set_cons_succ]
    refine wpAnyH_take (i := 24) (v := ?_) (List.getElem?_toArray.trans rfl) (by kernel_rfl) (by kernel_rfl) (by kernel_rfl) (fun _ _ _ h => h) (Or.inl ⟨by rfl, ?_⟩) hHeld ?_
    rotate_left
    · intro w' hSw; have y0 := hSw.cell l0 (by simp); have y1 := hSw.cell l1 (by simp); have y2 := hSw.cell l2 (by simp); have y3 := hSw.cell l3 (by simp); have y4 := hSw.cell l4 (by simp); have y5 := hSw.cell l5 (by simp); have y6 := hSw.cell l6 (by simp); have y7 := hSw.cell l7 (by simp); have v0 := hSw.cell m0 (by simp); have v1 := hSw.cell m1 (by simp); have v2 := hSw.cell m2 (by simp); have v3 := hSw.cell m3 (by simp); go_simp; try with_reducible rfl
    try simp only [Act.put, List.setIfInBounds_toArray, List.set_cons_zero, List.set_cons_succ]
    refine wpAnyH_take (i := 25) (v := ?_) (List.getElem?_toArray.trans rfl) (by kernel_rfl) (by kernel_rfl) (by kernel_rfl) (fun _ _ _ h => h) (Or.inl ⟨by rfl, ?_⟩) hHeld ?_
    rotate_left
    · intro w' hSw; have y0 := hSw.cell l0 (by simp); have y1 := hSw.cell l1 (by simp); have y2 := hSw.cell l2 (by simp); have y3 := hSw.cell l3 (by simp); have y4 := hSw.cell l4 (by simp); have y5 := hSw.cell l5 (by simp); have y6 := hSw.cell l6 (by simp); have y7 := hSw.cell l7 (by simp); have v0 := hSw.cell m0 (by simp); have v1 := hSw.cell m1 (by simp); have v2 := hSw.cell m2 (by simp); have v3 := hSw.cell m3 (by simp); go_simp; try with_reducible rfl
    try simp only [Act.put, List.setIfInBounds_toArray, List.set_cons_zero, List.set_cons_succ]
    refine wpAnyH_ready (rs := [2, 29]) (by kernel_rfl) (by simp) ?_
    refine AllReadyH.cons (List.getElem?_toArray.trans rfl) (fun K hK => ?_) (AllReadyH.cons (List.getElem?_toArray.trans rfl) (fun K hK => ?_) AllReadyH.nil)
    · go_simp
      go_at_call 7
      (with_reducible refine (HF1.out _ GQ.out).mono ?_)
      rintro e x1 ⟨v, rfl, hv, gx1⟩
      obtain ⟨q0f, q0a, q0b, q0c, q0d, q0e, q0g, q0h, q0i, q0j, rfl⟩ := nd_shape hv
      replace GQ := Lib.hid (gb_trans GQ.out gx1)
      try replace K7 := Lib.hid (K7.out.keep0 gx1)
      have Q0 := Lib.hid hv
      clear hv gx1
      refine hK.out _ _ (GQ.out) (fun hHeld => ?_)
      clear hK K
      try simp only [Act.put, List.setIfInBounds_toArray, List.set_cons_zero, List.set_cons_succ]
      refine wpAnyH_ready (rs := [5, 29]) (by kernel_rfl) (by simp) ?_
      refine AllReadyH.cons (List.getElem?_toArray.trans rfl) (fun K hK => ?_) (AllReadyH.cons (List.getElem?_toArray.trans rfl) (fun K hK => ?_) AllReadyH.nil)
      · go_simp
        go_at_call 7
        (with_reducible refine (HF2.out _ GQ.out).mono ?_)
        rintro e x2 ⟨v, rfl, hv, gx2⟩
        obtain ⟨q1f, q1a, q1b, q1c, q1d, q1e, q1g, q1h, q1i, q1j, rfl⟩ := nd_shape hv
        replace GQ := Lib.hid (gb_trans GQ.out gx2)
        replace Q0 := Lib.hid (Q0.out.keep0 gx2)
        try replace K7 := Lib.hid (K7.out.keep0 gx2)
        have Q1 := Lib.hid hv
        clear hv gx2
        refine hK.out _ _ (GQ.out) (fun hHeld => ?_)
        clear hK K
        try simp only [Act.put, List.setIfInBounds_toArray, List.set_cons_zero, List.set_cons_succ]
        refine wpAnyH_take (i := 6) (v := ?_) (List.getElem?_toArray.trans rfl) (by kernel_rfl) (by kernel_rfl) (by kernel_rfl) (fun _ _ _ h => h) (Or.inl ⟨by rfl, ?_⟩) hHeld ?_
        rotate_left
        · intro w' hSw; go_simp; try with_reducible rfl
        try simp only [Act.put, List.setIfInBounds_toArray, List.set_cons_zero, List.set_cons_succ]
        refine wpAnyH_ready (rs := [9, 29]) (by kernel_rfl) (by simp) ?_
        refine AllReadyH.cons (List.getElem?_toArray.trans rfl) (fun K hK => ?_) (AllReadyH.cons (List.getElem?_toArray.trans rfl) (fun K hK => ?_) AllReadyH.nil)
        · go_simp
          go_at_call 8
          (with_reducible refine (HL1.out _ GQ.out).mono ?_)
          rintro e x3 ⟨v, rfl, hv, gx3⟩
          obtain ⟨q2f, q2a, q2b, q2c, q2d, q2e, q2g, q2h, q2i, q2j, rfl⟩ := nd_shape hv
          replace GQ := Lib.hid (gb_trans GQ.out gx3)
          replace Q0 := Lib.hid (Q0.out.keep0 gx3)
          replace Q1 := Lib.hid (Q1.out.keep0 gx3)
          try replace K7 := Lib.hid (K7.out.keep0 gx3)
          have Q2 := Lib.hid hv
          clear hv gx3
          refine hK.out _ _ (GQ.out) (fun hHeld => ?_)
          clear hK K
          try simp only [Act.put, List.setIfInBounds_toArray, List.set_cons_zero, List.set_cons_succ]
          refine wpAnyH_ready (rs := [12, 29]) (by kernel_rfl) (by simp) ?_
          refine AllReadyH.cons (List.getElem?_toArray.trans rfl) (fun K hK => ?_) (AllReadyH.cons (List.getElem?_toArray.trans rfl) (fun K hK => ?_) AllReadyH.nil)
          · go_simp
            go_at_call 8
            (with_reducible refine (HL2.out _ GQ.out).mono ?_)
            rintro e x4 ⟨v, rfl, hv, gx4⟩
            obtain ⟨q3f, q3a, q3b, q3c, q3d, q3e, q3g, q3h, q3i, q3j, rfl⟩ := nd_shape hv
            replace GQ := Lib.hid (gb_trans GQ.out gx4)
            replace Q0 := Lib.hid (Q0.out.keep0 gx4)
            replace Q1 := Lib.hid (Q1.out.keep0 gx4)
            replace Q2 := Lib.hid (Q2.out.keep0 gx4)
            try replace K7 := Lib.hid (K7.out.keep0 gx4)
            have Q3 := Lib.hid hv
            clear hv gx4
            refine hK.out _ _ (GQ.out) (fun hHeld => ?_)
            clear hK K
            try simp only [Act.put, List.setIfInBounds_toArray, List.set_cons_zero, List.set_cons_succ]
            refine wpAnyH_take (i := 13) (v := ?_) (List.getElem?_toArray.trans rfl) (by kernel_rfl) (by kernel_rfl) (by kernel_rfl) (fun _ _ _ h => h) (Or.inl ⟨by rfl, ?_⟩) hHeld ?_
            rotate_left
            · intro w' hSw; go_simp; try with_reducible rfl
            try simp only [Act.put, List.setIfInBounds_toArray, List.set_cons_zero, List.set_cons_succ]
            refine wpAnyH_ready (rs := [16, 29]) (by kernel_rfl) (by simp) ?_
            refine AllReadyH.cons (List.getElem?_toArray.trans rfl) (fun K hK => ?_) (AllReadyH.cons (List.getElem?_toArray.trans rfl) (fun K hK => ?_) AllReadyH.nil)
            · go_simp
              go_at_call 9
              (with_reducible refine (HI1.out _ GQ.out).mono ?_)
              rintro e x5 ⟨v, rfl, hv, gx5⟩
              obtain ⟨q4f, q4a, q4b, q4c, q4d, q4e, q4g, q4h, q4i, q4j, rfl⟩ := nd_shape hv
              replace GQ := Lib.hid (gb_trans GQ.out gx5)
              replace Q0 := Lib.hid (Q0.out.keep0 gx5)
              replace Q1 := Lib.hid (Q1.out.keep0 gx5)
              replace Q2 := Lib.hid (Q2.out.keep0 gx5)
              replace Q3 := Lib.hid (Q3.out.keep0 gx5)
              try replace K7 := Lib.hid (K7.out.keep0 gx5)
              have Q4 := Lib.hid hv
              clear hv gx5
              refine hK.out _ _ (GQ.out) (fun hHeld => ?_)
              clear hK K
              try simp only [Act.put, List.setIfInBounds_toArray, List.set_cons_zero, List.set_cons_succ]
              refine wpAnyH_ready (rs := [19, 29]) (by kernel_rfl) (by simp) ?_
              refine AllReadyH.cons (List.getElem?_toArray.trans rfl) (fun K hK => ?_) (AllReadyH.cons (List.getElem?_toArray.trans rfl) (fun K hK => ?_) AllReadyH.nil)
              · go_simp
                go_at_call 9
                (with_reducible refine (HI2.out _ GQ.out).mono ?_)
                rintro e x6 ⟨v, rfl, hv, gx6⟩
                obtain ⟨q5f, q5a, q5b, q5c, q5d, q5e, q5g, q5h, q5i, q5j, rfl⟩ := nd_shape hv
                replace GQ := Lib.hid (gb_trans GQ.out gx6)
                replace Q0 := Lib.hid (Q0.out.keep0 gx6)
                replace Q1 := Lib.hid (Q1.out.keep0 gx6)
                replace Q2 := Lib.hid (Q2.out.keep0 gx6)
                replace Q3 := Lib.hid (Q3.out.keep0 gx6)
                replace Q4 := Lib.hid (Q4.out.keep0 gx6)
                try replace K7 := Lib.hid (K7.out.keep0 gx6)
                have Q5 := Lib.hid hv
                clear hv gx6
                refine hK.out _ _ (GQ.out) (fun hHeld => ?_)
                clear hK K
                try simp only [Act.put, List.setIfInBounds_toArray, List.set_cons_zero, List.set_cons_succ]
                refine wpAnyH_take (i := 20) (v := ?_) (List.getElem?_toArray.trans rfl) (by kernel_rfl) (by kernel_rfl) (by kernel_rfl) (fun _ _ _ h => h) (Or.inl ⟨by rfl, ?_⟩) hHeld ?_
                rotate_left
                · intro w' hSw; go_simp; try with_reducible rfl
                try simp only [Act.put, List.setIfInBounds_toArray, List.set_cons_zero, List.set_cons_succ]
                refine wpAnyH_ready (rs := [23, 29]) (by kernel_rfl) (by simp) ?_
                refine AllReadyH.cons (List.getElem?_toArray.trans rfl) (fun K hK => ?_) (AllReadyH.cons (List.getElem?_toArray.trans rfl) (fun K hK => ?_) AllReadyH.nil)
                · go_simp
                  go_at_call 8
                  (with_reducible refine (HL1.out _ GQ.out).mono ?_)
                  rintro e x7 ⟨v, rfl, hv, gx7⟩
                  obtain ⟨q6f, q6a, q6b, q6c, q6d, q6e, q6g, q6h, q6i, q6j, rfl⟩ := nd_shape hv
                  replace GQ := Lib.hid (gb_trans GQ.out gx7)
                  replace Q0 := Lib.hid (Q0.out.keep0 gx7)
                  replace Q1 := Lib.hid (Q1.out.keep0 gx7)
                  replace Q2 := Lib.hid (Q2.out.keep0 gx7)
                  replace Q3 := Lib.hid (Q3.out.keep0 gx7)
                  replace Q4 := Lib.hid (Q4.out.keep0 gx7)
                  replace Q5 := Lib.hid (Q5.out.keep0 gx7)
                  try replace K7 := Lib.hid (K7.out.keep0 gx7)
                  have Q6 := Lib.hid hv
                  clear hv gx7
                  refine hK.out _ _ (GQ.out) (fun hHeld => ?_)
                  clear hK K
                  try simp only [Act.put, List.setIfInBounds_toArray, List.set_cons_zero, List.set_cons_succ]
                  refine wpAnyH_ready (rs := [26, 29]) (by kernel_rfl) (by simp) ?_
                  refine AllReadyH.cons (List.getElem?_toArray.trans rfl) (fun K hK => ?_) (AllReadyH.cons (List.getElem?_toArray.trans rfl) (fun K hK => ?_) AllReadyH.nil)
                  · go_simp
                    go_at_call 9
                    (with_reducible refine (HI2.out _ GQ.out).mono ?_)
                    rintro e x8 ⟨v, rfl, hv, gx8⟩
                    obtain ⟨q7f, q7a, q7b, q7c, q7d, q7e, q7g, q7h, q7i, q7j, rfl⟩ := nd_shape hv
                    replace GQ := Lib.hid (gb_trans GQ.out gx8)
                    replace Q0 := Lib.hid (Q0.out.keep0 gx8)
                    replace Q1 := Lib.hid (Q1.out.keep0 gx8)
                    replace Q2 := Lib.hid (Q2.out.keep0 gx8)
                    replace Q3 := Lib.hid (Q3.out.keep0 gx8)
                    replace Q4 := Lib.hid (Q4.out.keep0 gx8)
                    replace Q5 := Lib.hid (Q5.out.keep0 gx8)
                    replace Q6 := Lib.hid (Q6.out.keep0 gx8)
                    try replace K7 := Lib.hid (K7.out.keep0 gx8)
                    have Q7 := Lib.hid hv
                    clear hv gx8
                    refine hK.out _ _ (GQ.out) (fun hHeld => ?_)
                    clear hK K
                    try simp only [Act.put, List.setIfInBounds_toArray, List.set_cons_zero, List.set_cons_succ]
                    refine wpAnyH_take (i := 27) (v := ?_) (List.getElem?_toArray.trans rfl) (by kernel_rfl) (by kernel_rfl) (by kernel_rfl) (fun _ _ _ h => h) (Or.inl ⟨by rfl, ?_⟩) hHeld ?_
                    rotate_left
                    · intro w' hSw; go_simp; try with_reducible rfl
                    try simp only [Act.put, List.setIfInBounds_toArray, List.set_cons_zero, List.set_cons_succ]
                    refine wpAnyH_take (i := 28) (v := ?_) (List.getElem?_toArray.trans rfl) (by kernel_rfl) (by kernel_rfl) (by kernel_rfl) (fun _ _ _ h => h) (Or.inl ⟨by rfl, ?_⟩) hHeld ?_
                    rotate_left
                    · intro w' hSw; go_simp; try with_reducible rfl
                    try simp only [Act.put, List.setIfInBounds_toArray, List.set_cons_zero, List.set_cons_succ]
                    refine wpAnyH_ready (rs := [29]) (by kernel_rfl) (by simp) ?_
                    refine AllReadyH.cons (List.getElem?_toArray.trans rfl) (fun K hK => ?_) AllReadyH.nil
                    go_simp
                    obtain ⟨x9, hC, kC, gx9, hzz⟩ := new1 x8 34 #[Value.bool false, .slice none 0 0, .slice none 0 0, .slice none 0 0, Value.bool false, .slice none 0 0, .slice none 0 0, .slice none 0 0, Value.bool false, .slice none 0 0, .slice none 0 0, .slice none 0 0, Value.bool false, .slice none 0 0, .slice none 0 0, .slice none 0 0, Value.bool false, .slice none 0 0, .slice none 0 0, .slice none 0 0, Value.bool false, .slice none 0 0, .slice none 0 0, .slice none 0 0, Value.bool false, .slice none 0 0, .slice none 0 0, .slice none 0 0, Value.bool false, .slice none 0 0, .slice none 0 0, .slice none 0 0]
                    rw [← hC]
                    clear hC hzz
                    have hb7 : w0.heap.size ≤ x8.heap.size := GQ.out.size
                    replace GQ := Lib.hid (gb_trans GQ.out gx9)
                    try replace Q0 := Lib.hid (Q0.out.keep0 gx9)
                    try replace Q1 := Lib.hid (Q1.out.keep0 gx9)
                    try replace Q2 := Lib.hid (Q2.out.keep0 gx9)
                    try replace Q3 := Lib.hid (Q3.out.keep0 gx9)
                    try replace Q4 := Lib.hid (Q4.out.keep0 gx9)
                    try replace Q5 := Lib.hid (Q5.out.keep0 gx9)
                    try replace Q6 := Lib.hid (Q6.out.keep0 gx9)
                    try replace Q7 := Lib.hid (Q7.out.keep0 gx9)
                    generalize x8.heap.size = b7 at kC hb7 ⊢
                    have K7 := Lib.hid kC
                    clear kC gx9
                    refine hK.out _ _ (GQ.out) (fun hHeld => ?_)
                    clear hK K
                    try simp only [Act.put, List.setIfInBounds_toArray, List.set_cons_zero, List.set_cons_succ]
                    refine wpAnyH_ready (rs := [30]) (by kernel_rfl) (by simp) ?_
                    refine AllReadyH.cons (List.getElem?_toArray.trans rfl) (fun K hK => ?_) AllReadyH.nil
                    refine wp_store_mid 34 _ _ rfl b7 0 #[.bool q0f, .slice q0a q0b q0c, .slice q0d q0e q0g, .slice q0h q0i q0j, .bool q1f, .slice q1a q1b q1c, .slice q1d q1e q1g, .slice q1h q1i q1j, .bool q2f, .slice q2a q2b q2c, .slice q2d q2e q2g, .slice q2h q2i q2j, .bool q3f, .slice q3a q3b q3c, .slice q3d q3e q3g, .slice q3h q3i q3j, .bool q4f, .slice q4a q4b q4c, .slice q4d q4e q4g, .slice q4h q4i q4j, .bool q5f, .slice q5a q5b q5c, .slice q5d q5e q5g, .slice q5h q5i q5j, .bool q6f, .slice q6a q6b q6c, .slice q6d q6e q6g, .slice q6h q6i q6j, .bool q7f, .slice q7a q7b q7c, .slice q7d q7e q7g, .slice q7h q7i q7j] rfl rfl (K7.out.there (by rfl)) (by kernel_rfl) (by kernel_rfl) ?_
                    obtain ⟨kS, gx10⟩ := quad_set K7.out (l := [.bool q0f, .slice q0a q0b q0c, .slice q0d q0e q0g, .slice q0h q0i q0j, .bool q1f, .slice q1a q1b q1c, .slice q1d q1e q1g, .slice q1h q1i q1j, .bool q2f, .slice q2a q2b q2c, .slice q2d q2e q2g, .slice q2h q2i q2j, .bool q3f, .slice q3a q3b q3c, .slice q3d q3e q3g, .slice q3h q3i q3j, .bool q4f, .slice q4a q4b q4c, .slice q4d q4e q4g, .slice q4h q4i q4j, .bool q5f, .slice q5a q5b q5c, .slice q5d q5e q5g, .slice q5h q5i q5j, .bool q6f, .slice q6a q6b q6c, .slice q6d q6e q6g, .slice q6h q6i q6j, .bool q7f, .slice q7a q7b q7c, .slice q7d q7e q7g, .slice q7h q7i q7j]) (by rfl)
                    obtain ⟨x10, hD⟩ : ∃ z : World, z = x9.setCells b7 0 [.bool q0f, .slice q0a q0b q0c, .slice q0d q0e q0g, .slice q0h q0i q0j, .bool q1f, .slice q1a q1b q1c, .slice q1d q1e q1g, .slice q1h q1i q1j, .bool q2f, .slice q2a q2b q2c, .slice q2d q2e q2g, .slice q2h q2i q2j, .bool q3f, .slice q3a q3b q3c, .slice q3d q3e q3g, .slice q3h q3i q3j, .bool q4f, .slice q4a q4b q4c, .slice q4d q4e q4g, .slice q4h q4i q4j, .bool q5f, .slice q5a q5b q5c, .slice q5d q5e q5g, .slice q5h q5i q5j, .bool q6f, .slice q6a q6b q6c, .slice q6d q6e q6g, .slice q6h q6i q6j, .bool q7f, .slice q7a q7b q7c, .slice q7d q7e q7g, .slice q7h q7i q7j] := ⟨_, rfl⟩
                    dsimp only [Act.put]
                    rw [← hD]
                    rw [← hD] at kS gx10
                    clear hD
                    have NB := Lib.hid (Nbl.of K7.out (by decide))
                    replace GQ := Lib.hid (gb_step GQ.out gx10 hb7)
                    replace Q0 := Lib.hid (Q0.out.keepN NB.out gx10)
                    replace Q1 := Lib.hid (Q1.out.keepN NB.out gx10)
                    replace Q2 := Lib.hid (Q2.out.keepN NB.out gx10)
                    replace Q3 := Lib.hid (Q3.out.keepN NB.out gx10)
                    replace Q4 := Lib.hid (Q4.out.keepN NB.out gx10)
                    replace Q5 := Lib.hid (Q5.out.keepN NB.out gx10)
                    replace Q6 := Lib.hid (Q6.out.keepN NB.out gx10)
                    replace Q7 := Lib.hid (Q7.out.keepN NB.out gx10)
                    clear K7 NB gx10
                    have K7 := Lib.hid kS
                    clear kS
                    refine hK.out _ _ (GQ.out) (fun hHeld => ?_)
                    clear hK K
                    try simp only [Act.put, List.setIfInBounds_toArray, List.set_cons_zero, List.set_cons_succ]
                    refine wpAnyH_done (by kernel_rfl) ?_ _
                    refine NoPanic.normal ?_
                    go_wp2_with fail
                    go_meet
                    case rel => exact ⟨b7, rfl, pairs_of K7.out Q0.out Q1.out Q2.out Q3.out Q4.out Q5.out Q6.out Q7.out, gb_trans HG.out GQ.out⟩
                  · go_simp
                    obtain ⟨x11, hC, kC, gx11, hzz⟩ := new1 x7 34 #[Value.bool false, .slice none 0 0, .slice none 0 0, .slice none 0 0, Value.bool false, .slice none 0 0, .slice none 0 0, .slice none 0 0, Value.bool false, .slice none 0 0, .slice none 0 0, .slice none 0 0, Value.bool false, .slice none 0 0, .slice none 0 0, .slice none 0 0, Value.bool false, .slice none 0 0, .slice none 0 0, .slice none 0 0, Value.bool false, .slice none 0 0, .slice none 0 0, .slice none 0 0, Value.bool false, .slice none 0 0, .slice none 0 0, .slice none 0 0, Value.bool false, .slice none 0 0, .slice none 0 0, .slice none 0 0]
                    rw [← hC]
                    clear hC hzz
                    have hb7 : w0.heap.size ≤ x7.heap.size := GQ.out.size
                    replace GQ := Lib.hid (gb_trans GQ.out gx11)
                    try replace Q0 := Lib.hid (Q0.out.keep0 gx11)
                    try replace Q1 := Lib.hid (Q1.out.keep0 gx11)
                    try replace Q2 := Lib.hid (Q2.out.keep0 gx11)
                    try replace Q3 := Lib.hid (Q3.out.keep0 gx11)
                    try replace Q4 := Lib.hid (Q4.out.keep0 gx11)
                    try replace Q5 := Lib.hid (Q5.out.keep0 gx11)
                    try replace Q6 := Lib.hid (Q6.out.keep0 gx11)
                    try replace Q7 := Lib.hid (Q7.out.keep0 gx11)
                    generalize x7.heap.size = b7 at kC hb7 ⊢
                    have K7 := Lib.hid kC
                    clear kC gx11
                    refine hK.out _ _ (GQ.out) (fun hHeld => ?_)
                    clear hK K
                    try simp only [Act.put, List.setIfInBounds_toArray, List.set_cons_zero, List.set_cons_succ]
                    refine wpAnyH_ready (rs := [26]) (by kernel_rfl) (by simp) ?_
                    refine AllReadyH.cons (List.getElem?_toArray.trans rfl) (fun K hK => ?_) AllReadyH.nil
                    go_simp
                    go_at_call 9
                    (with_reducible refine (HI2.out _ GQ.out).mono ?_)
                    rintro e x12 ⟨v, rfl, hv, gx12⟩
                    obtain ⟨q7f, q7a, q7b, q7c, q7d, q7e, q7g, q7h, q7i, q7j, rfl⟩ := nd_shape hv
                    replace GQ := Lib.hid (gb_trans GQ.out gx12)
                    replace Q0 := Lib.hid (Q0.out.keep0 gx12)
                    replace Q1 := Lib.hid (Q1.out.keep0 gx12)
                    replace Q2 := Lib.hid (Q2.out.keep0 gx12)
                    replace Q3 := Lib.hid (Q3.out.keep0 gx12)
                    replace Q4 := Lib.hid (Q4.out.keep0 gx12)
                    replace Q5 := Lib.hid (Q5.out.keep0 gx12)
                    replace Q6 := Lib.hid (Q6.out.keep0 gx12)
                    try replace K7 := Lib.hid (K7.out.keep0 gx12)
                    have Q7 := Lib.hid hv
                    clear hv gx12
                    refine hK.out _ _ (GQ.out) (fun hHeld => ?_)
                    clear hK K
                    try simp only [Act.put, List.setIfInBounds_toArray, List.set_cons_zero, List.set_cons_succ]
                    refine wpAnyH_take (i := 27) (v := ?_) (List.getElem?_toArray.trans rfl) (by kernel_rfl) (by kernel_rfl) (by kernel_rfl) (fun _ _ _ h => h) (Or.inl ⟨by rfl, ?_⟩) hHeld ?_
                    rotate_left
                    · intro w' hSw; go_simp; try with_reducible rfl
                    try simp only [Act.put, List.setIfInBounds_toArray, List.set_cons_zero, List.set_cons_succ]
                    refine wpAnyH_take (i := 28) (v := ?_) (List.getElem?_toArray.trans rfl) (by kernel_rfl) (by kernel_rfl) (by kernel_rfl) (fun _ _ _ h => h) (Or.inl ⟨by rfl, ?_⟩) hHeld ?_
                    rotate_left
                    · intro w' hSw; go_simp; try with_reducible rfl
                    try simp only [Act.put, List.setIfInBounds_toArray, List.set_cons_zero, List.set_cons_succ]
                    refine wpAnyH_ready (rs := [30]) (by kernel_rfl) (by simp) ?_
                    refine AllReadyH.cons (List.getElem?_toArray.trans rfl) (fun K hK => ?_) AllReadyH.nil
                    refine wp_store_mid 34 _ _ rfl b7 0 #[.bool q0f, .slice q0a q0b q0c, .slice q0d q0e q0g, .slice q0h q0i q0j, .bool q1f, .slice q1a q1b q1c, .slice q1d q1e q1g, .slice q1h q1i q1j, .bool q2f, .slice q2a q2b q2c, .slice q2d q2e q2g, .slice q2h q2i q2j, .bool q3f, .slice q3a q3b q3c, .slice q3d q3e q3g, .slice q3h q3i q3j, .bool q4f, .slice q4a q4b q4c, .slice q4d q4e q4g, .slice q4h q4i q4j, .bool q5f, .slice q5a q5b q5c, .slice q5d q5e q5g, .slice q5h q5i q5j, .bool q6f, .slice q6a q6b q6c, .slice q6d q6e q6g, .slice q6h q6i q6j, .bool q7f, .slice q7a q7b q7c, .slice q7d q7e q7g, .slice q7h q7i q7j] rfl rfl (K7.out.there (by rfl)) (by kernel_rfl) (by kernel_rfl) ?_
                    obtain ⟨kS, gx13⟩ := quad_set K7.out (l := [.bool q0f, .slice q0a q0b q0c, .slice q0d q0e q0g, .slice q0h q0i q0j, .bool q1f, .slice q1a q1b q1c, .slice q1d q1e q1g, .slice q1h q1i q1j, .bool q2f, .slice q2a q2b q2c, .slice q2d q2e q2g, .slice q2h q2i q2j, .bool q3f, .slice q3a q3b q3c, .slice q3d q3e q3g, .slice q3h q3i q3j, .bool q4f, .slice q4a q4b q4c, .slice q4d q4e q4g, .slice q4h q4i q4j, .bool q5f, .slice q5a q5b q5c, .slice q5d q5e q5g, .slice q5h q5i q5j, .bool q6f, .slice q6a q6b q6c, .slice q6d q6e q6g, .slice q6h q6i q6j, .bool q7f, .slice q7a q7b q7c, .slice q7d q7e q7g, .slice q7h q7i q7j]) (by rfl)
                    obtain ⟨x13, hD⟩ : ∃ z : World, z = x12.setCells b7 0 [.bool q0f, .slice q0a q0b q0c, .slice q0d q0e q0g, .slice q0h q0i q0j, .bool q1f, .slice q1a q1b q1c, .slice q1d q1e q1g, .slice q1h q1i q1j, .bool q2f, .slice q2a q2b q2c, .slice q2d q2e q2g, .slice q2h q2i q2j, .bool q3f, .slice q3a q3b q3c, .slice q3d q3e q3g, .slice q3h q3i q3j, .bool q4f, .slice q4a q4b q4c, .slice q4d q4e q4g, .slice q4h q4i q4j, .bool q5f, .slice q5a q5b q5c, .slice q5d q5e q5g, .slice q5h q5i q5j, .bool q6f, .slice q6a q6b q6c, .slice q6d q6e q6g, .slice q6h q6i q6j, .bool q7f, .slice q7a q7b q7c, .slice q7d q7e q7g, .slice q7h q7i q7j] := ⟨_, rfl⟩
                    dsimp only [Act.put]
                    rw [← hD]
                    rw [← hD] at kS gx13
                    clear hD
                    have NB := Lib.hid (Nbl.of K7.out (by decide))
                    replace GQ := Lib.hid (gb_step GQ.out gx13 hb7)
                    replace Q0 := Lib.hid (Q0.out.keepN NB.out gx13)
                    replace Q1 := Lib.hid (Q1.out.keepN NB.out gx13)
                    replace Q2 := Lib.hid (Q2.out.keepN NB.out gx13)
                    replace Q3 := Lib.hid (Q3.out.keepN NB.out gx13)
                    replace Q4 := Lib.hid (Q4.out.keepN NB.out gx13)
                    replace Q5 := Lib.hid (Q5.out.keepN NB.out gx13)
                    replace Q6 := Lib.hid (Q6.out.keepN NB.out gx13)
                    replace Q7 := Lib.hid (Q7.out.keepN NB.out gx13)
                    clear K7 NB gx13
                    have K7 := Lib.hid kS
                    clear kS
                    refine hK.out _ _ (GQ.out) (fun hHeld => ?_)
                    clear hK K
                    try simp only [Act.put, List.setIfInBounds_toArray, List.set_cons_zero, List.set_cons_succ]
                    refine wpAnyH_done (by kernel_rfl) ?_ _
                    refine NoPanic.normal ?_
                    go_wp2_with fail
                    go_meet
                    case rel => exact ⟨b7, rfl, pairs_of K7.out Q0.out Q1.out Q2.out Q3.out Q4.out Q5.out Q6.out Q7.out, gb_trans HG.out GQ.out⟩
                · go_simp
                  obtain ⟨x14, hC, kC, gx14, hzz⟩ := new1 x6 34 #[Value.bool false, .slice none 0 0, .slice none 0 0, .slice none 0 0, Value.bool false, .slice none 0 0, .slice none 0 0, .slice none 0 0, Value.bool false, .slice none 0 0, .slice none 0 0, .slice none 0 0, Value.bool false, .slice none 0 0, .slice none 0 0, .slice none 0 0, Value.bool false, .slice none 0 0, .slice none 0 0, .slice none 0 0, Value.bool false, .slice none 0 0, .slice none 0 0, .slice none 0 0, Value.bool false, .slice none 0 0, .slice none 0 0, .slice none 0 0, Value.bool false, .slice none 0 0, .slice none 0 0, .slice none 0 0]
                  rw [← hC]
                  clear hC hzz
                  have hb7 : w0.heap.size ≤ x6.heap.size := GQ.out.size
                  replace GQ := Lib.hid (gb_trans GQ.out gx14)
                  try replace Q0 := Lib.hid (Q0.out.keep0 gx14)
                  try replace Q1 := Lib.hid (Q1.out.keep0 gx14)
                  try replace Q2 := Lib.hid (Q2.out.keep0 gx14)
                  try replace Q3 := Lib.hid (Q3.out.keep0 gx14)
                  try replace Q4 := Lib.hid (Q4.out.keep0 gx14)
                  try replace Q5 := Lib.hid (Q5.out.keep0 gx14)
                  try replace Q6 := Lib.hid (Q6.out.keep0 gx14)
                  try replace Q7 := Lib.hid (Q7.out.keep0 gx14)
                  generalize x6.heap.size = b7 at kC hb7 ⊢
                  have K7 := Lib.hid kC
                  clear kC gx14
                  refine hK.out _ _ (GQ.out) (fun hHeld => ?_)
                  clear hK K
                  try simp only [Act.put, List.setIfInBounds_toArray, List.set_cons_zero, List.set_cons_succ]
                  refine wpAnyH_ready (rs := [23]) (by kernel_rfl) (by simp) ?_
                  refine AllReadyH.cons (List.getElem?_toArray.trans rfl) (fun K hK => ?_) AllReadyH.nil
                  go_simp
                  go_at_call 8
                  (with_reducible refine (HL1.out _ GQ.out).mono ?_)
                  rintro e x15 ⟨v, rfl, hv, gx15⟩
                  obtain ⟨q6f, q6a, q6b, q6c, q6d, q6e, q6g, q6h, q6i, q6j, rfl⟩ := nd_shape hv
                  replace GQ := Lib.hid (gb_trans GQ.out gx15)
                  replace Q0 := Lib.hid (Q0.out.keep0 gx15)
                  replace Q1 := Lib.hid (Q1.out.keep0 gx15)
                  replace Q2 := Lib.hid (Q2.out.keep0 gx15)
                  replace Q3 := Lib.hid (Q3.out.keep0 gx15)
                  replace Q4 := Lib.hid (Q4.out.keep0 gx15)
                  replace Q5 := Lib.hid (Q5.out.keep0 gx15)
                  try replace K7 := Lib.hid (K7.out.keep0 gx15)
                  have Q6 := Lib.hid hv
                  clear hv gx15
                  refine hK.out _ _ (GQ.out) (fun hHeld => ?_)
                  clear hK K
                  try simp only [Act.put, List.setIfInBounds_toArray, List.set_cons_zero, List.set_cons_succ]
                  refine wpAnyH_ready (rs := [26]) (by kernel_rfl) (by simp) ?_
                  refine AllReadyH.cons (List.getElem?_toArray.trans rfl) (fun K hK => ?_) AllReadyH.nil
                  go_simp
                  go_at_call 9
                  (with_reducible refine (HI2.out _ GQ.out).mono ?_)
                  rintro e x16 ⟨v, rfl, hv, gx16⟩
                  obtain ⟨q7f, q7a, q7b, q7c, q7d, q7e, q7g, q7h, q7i, q7j, rfl⟩ := nd_shape hv
                  replace GQ := Lib.hid (gb_trans GQ.out gx16)
                  replace Q0 := Lib.hid (Q0.out.keep0 gx16)
                  replace Q1 := Lib.hid (Q1.out.keep0 gx16)
                  replace Q2 := Lib.hid (Q2.out.keep0 gx16)
                  replace Q3 := Lib.hid (Q3.out.keep0 gx16)
                  replace Q4 := Lib.hid (Q4.out.keep0 gx16)
                  replace Q5 := Lib.hid (Q5.out.keep0 gx16)
                  replace Q6 := Lib.hid (Q6.out.keep0 gx16)
                  try replace K7 := Lib.hid (K7.out.keep0 gx16)
                  have Q7 := Lib.hid hv
                  clear hv gx16
                  refine hK.out _ _ (GQ.out) (fun hHeld => ?_)
                  clear hK K
                  try simp only [Act.put, List.setIfInBounds_toArray, List.set_cons_zero, List.set_cons_succ]
                  refine wpAnyH_take (i := 27) (v := ?_) (List.getElem?_toArray.trans rfl) (by kernel_rfl) (by kernel_rfl) (by kernel_rfl) (fun _ _ _ h => h) (Or.inl ⟨by rfl, ?_⟩) hHeld ?_
                  rotate_left
                  · intro w' hSw; go_simp; try with_reducible rfl
                  try simp only [Act.put, List.setIfInBounds_toArray, List.set_cons_zero, List.set_cons_succ]
                  refine wpAnyH_take (i := 28) (v := ?_) (List.getElem?_toArray.trans rfl) (by kernel_rfl) (by kernel_rfl) (by kernel_rfl) (fun _ _ _ h => h) (Or.inl ⟨by rfl, ?_⟩) hHeld ?_
                  rotate_left
                  · intro w' hSw; go_simp; try with_reducible rfl
                  try simp only [Act.put, List.setIfInBounds_toArray, List.set_cons_zero, List.set_cons_succ]
                  refine wpAnyH_ready (rs := [30]) (by kernel_rfl) (by simp) ?_
                  refine AllReadyH.cons (List.getElem?_toArray.trans rfl) (fun K hK => ?_) AllReadyH.nil
                  refine wp_store_mid 34 _ _ rfl b7 0 #[.bool q0f, .slice q0a q0b q0c, .slice q0d q0e q0g, .slice q0h q0i q0j, .bool q1f, .slice q1a q1b q1c, .slice q1d q1e q1g, .slice q1h q1i q1j, .bool q2f, .slice q2a q2b q2c, .slice q2d q2e q2g, .slice q2h q2i q2j, .bool q3f, .slice q3a q3b q3c, .slice q3d q3e q3g, .slice q3h q3i q3j, .bool q4f, .slice q4a q4b q4c, .slice q4d q4e q4g, .slice q4h q4i q4j, .bool q5f, .slice q5a q5b q5c, .slice q5d q5e q5g, .slice q5h q5i q5j, .bool q6f, .slice q6a q6b q6c, .slice q6d q6e q6g, .slice q6h q6i q6j, .bool q7f, .slice q7a q7b q7c, .slice q7d q7e q7g, .slice q7h q7i q7j] rfl rfl (K7.out.there (by rfl)) (by kernel_rfl) (by kernel_rfl) ?_
                  obtain ⟨kS, gx17⟩ := quad_set K7.out (l := [.bool q0f, .slice q0a q0b q0c, .slice q0d q0e q0g, .slice q0h q0i q0j, .bool q1f, .slice q1a q1b q1c, .slice q1d q1e q1g, .slice q1h q1i q1j, .bool q2f, .slice q2a q2b q2c, .slice q2d q2e q2g, .slice q2h q2i q2j, .bool q3f, .slice q3a q3b q3c, .slice q3d q3e q3g, .slice q3h q3i q3j, .bool q4f, .slice q4a q4b q4c, .slice q4d q4e q4g, .slice q4h q4i q4j, .bool q5f, .slice q5a q5b q5c, .slice q5d q5e q5g, .slice q5h q5i q5j, .bool q6f, .slice q6a q6b q6c, .slice q6d q6e q6g, .slice q6h q6i q6j, .bool q7f, .slice q7a q7b q7c, .slice q7d q7e q7g, .slice q7h q7i q7j]) (by rfl)
                  obtain ⟨x17, hD⟩ : ∃ z : World, z = x16.setCells b7 0 [.bool q0f, .slice q0a q0b q0c, .slice q0d q0e q0g, .slice q0h q0i q0j, .bool q1f, .slice q1a q1b q1c, .slice q1d q1e q1g, .slice q1h q1i q1j, .bool q2f, .slice q2a q2b q2c, .slice q2d q2e q2g, .slice q2h q2i q2j, .bool q3f, .slice q3a q3b q3c, .slice q3d q3e q3g, .slice q3h q3i q3j, .bool q4f, .slice q4a q4b q4c, .slice q4d q4e q4g, .slice q4h q4i q4j, .bool q5f, .slice q5a q5b q5c, .slice q5d q5e q5g, .slice q5h q5i q5j, .bool q6f, .slice q6a q6b q6c, .slice q6d q6e q6g, .slice q6h q6i q6j, .bool q7f, .slice q7a q7b q7c, .slice q7d q7e q7g, .slice q7h q7i q7j] := ⟨_, rfl⟩
                  dsimp only [Act.put]
                  rw [← hD]
                  rw [← hD] at kS gx17
                  clear hD
                  have NB := Lib.hid (Nbl.of K7.out (by decide))
                  replace GQ := Lib.hid (gb_step GQ.out gx17 hb7)
                  replace Q0 := Lib.hid (Q0.out.keepN NB.out gx17)
                  replace Q1 := Lib.hid (Q1.out.keepN NB.out gx17)
                  replace Q2 := Lib.hid (Q2.out.keepN NB.out gx17)
                  replace Q3 := Lib.hid (Q3.out.keepN NB.out gx17)
                  replace Q4 := Lib.hid (Q4.out.keepN NB.out gx17)
                  replace Q5 := Lib.hid (Q5.out.keepN NB.out gx17)
                  replace Q6 := Lib.hid (Q6.out.keepN NB.out gx17)
                  replace Q7 := Lib.hid (Q7.out.keepN NB.out gx17)
                  clear K7 NB gx17
                  have K7 := Lib.hid kS
                  clear kS
                  refine hK.out _ _ (GQ.out) (fun hHeld => ?_)
                  clear hK K
                  try simp only [Act.put, List.setIfInBounds_toArray, List.set_cons_zero, List.set_cons_succ]
                  refine wpAnyH_done (by kernel_rfl) ?_ _
                  refine NoPanic.normal ?_
                  go_wp2_with fail
                  go_meet
                  case rel => exact ⟨b7, rfl, pairs_of K7.out Q0.out Q1.out Q2.out Q3.out Q4.out Q5.out Q6.out Q7.out, gb_trans HG.out GQ.out⟩
              · go_simp
                obtain ⟨x18, hC, kC, gx18, hzz⟩ := new1 x5 34 #[Value.bool false, .slice none 0 0, .slice none 0 0, .slice none 0 0, Value.bool false, .slice none 0 0, .slice none 0 0, .slice none 0 0, Value.bool false, .slice none 0 0, .slice none 0 0, .slice none 0 0, Value.bool false, .slice none 0 0, .slice none 0 0, .slice none 0 0, Value.bool false, .slice none 0 0, .slice none 0 0, .slice none 0 0, Value.bool false, .slice none 0 0, .slice none 0 0, .slice none 0 0, Value.bool false, .slice none 0 0, .slice none 0 0, .slice none 0 0, Value.bool false, .slice none 0 0, .slice none 0 0, .slice none 0 0]
                rw [← hC]
                clear hC hzz
                have hb7 : w0.heap.size ≤ x5.heap.size := GQ.out.size
                replace GQ := Lib.hid (gb_trans GQ.out gx18)
                try replace Q0 := Lib.hid (Q0.out.keep0 gx18)
                try replace Q1 := Lib.hid (Q1.out.keep0 gx18)
                try replace Q2 := Lib.hid (Q2.out.keep0 gx18)
                try replace Q3 := Lib.hid (Q3.out.keep0 gx18)
                try replace Q4 := Lib.hid (Q4.out.keep0 gx18)
                try replace Q5 := Lib.hid (Q5.out.keep0 gx18)
                try replace Q6 := Lib.hid (Q6.out.keep0 gx18)
                try replace Q7 := Lib.hid (Q7.out.keep0 gx18)
                generalize x5.heap.size = b7 at kC hb7 ⊢
                have K7 := Lib.hid kC
                clear kC gx18
                refine hK.out _ _ (GQ.out) (fun hHeld => ?_)
                clear hK K
                try simp only [Act.put, List.setIfInBounds_toArray, List.set_cons_zero, List.set_cons_succ]
                refine wpAnyH_ready (rs := [19]) (by kernel_rfl) (by simp) ?_
                refine AllReadyH.cons (List.getElem?_toArray.trans rfl) (fun K hK => ?_) AllReadyH.nil
                go_simp
                go_at_call 9
                (with_reducible refine (HI2.out _ GQ.out).mono ?_)
                rintro e x19 ⟨v, rfl, hv, gx19⟩
                obtain ⟨q5f, q5a, q5b, q5c, q5d, q5e, q5g, q5h, q5i, q5j, rfl⟩ := nd_shape hv
                replace GQ := Lib.hid (gb_trans GQ.out gx19)
                replace Q0 := Lib.hid (Q0.out.keep0 gx19)
                replace Q1 := Lib.hid (Q1.out.keep0 gx19)
                replace Q2 := Lib.hid (Q2.out.keep0 gx19)
                replace Q3 := Lib.hid (Q3.out.keep0 gx19)
                replace Q4 := Lib.hid (Q4.out.keep0 gx19)
                try replace K7 := Lib.hid (K7.out.keep0 gx19)
                have Q5 := Lib.hid hv
                clear hv gx19
                refine hK.out _ _ (GQ.out) (fun hHeld => ?_)
                clear hK K
                try simp only [Act.put, List.setIfInBounds_toArray, List.set_cons_zero, List.set_cons_succ]
                refine wpAnyH_take (i := 20) (v := ?_) (List.getElem?_toArray.trans rfl) (by kernel_rfl) (by kernel_rfl) (by kernel_rfl) (fun _ _ _ h => h) (Or.inl ⟨by rfl, ?_⟩) hHeld ?_
                rotate_left
                · intro w' hSw; go_simp; try with_reducible rfl
                try simp only [Act.put, List.setIfInBounds_toArray, List.set_cons_zero, List.set_cons_succ]
                refine wpAnyH_ready (rs := [23]) (by kernel_rfl) (by simp) ?_
                refine AllReadyH.cons (List.getElem?_toArray.trans rfl) (fun K hK => ?_) AllReadyH.nil
                go_simp
                go_at_call 8
                (with_reducible refine (HL1.out _ GQ.out).mono ?_)
                rintro e x20 ⟨v, rfl, hv, gx20⟩
                obtain ⟨q6f, q6a, q6b, q6c, q6d, q6e, q6g, q6h, q6i, q6j, rfl⟩ := nd_shape hv
                replace GQ := Lib.hid (gb_trans GQ.out gx20)
                replace Q0 := Lib.hid (Q0.out.keep0 gx20)
                replace Q1 := Lib.hid (Q1.out.keep0 gx20)
                replace Q2 := Lib.hid (Q2.out.keep0 gx20)
                replace Q3 := Lib.hid (Q3.out.keep0 gx20)
                replace Q4 := Lib.hid (Q4.out.keep0 gx20)
                replace Q5 := Lib.hid (Q5.out.keep0 gx20)
                try replace K7 := Lib.hid (K7.out.keep0 gx20)
                have Q6 := Lib.hid hv
                clear hv gx20
                refine hK.out _ _ (GQ.out) (fun hHeld => ?_)
                clear hK K
                try simp only [Act.put, List.setIfInBounds_toArray, List.set_cons_zero, List.set_cons_succ]
                refine wpAnyH_ready (rs := [26]) (by kernel_rfl) (by simp) ?_
                refine AllReadyH.cons (List.getElem?_toArray.trans rfl) (fun K hK => ?_) AllReadyH.nil
                go_simp
                go_at_call 9
                (with_reducible refine (HI2.out _ GQ.out).mono ?_)
                rintro e x21 ⟨v, rfl, hv, gx21⟩
                obtain ⟨q7f, q7a, q7b, q7c, q7d, q7e, q7g, q7h, q7i, q7j, rfl⟩ := nd_shape hv
                replace GQ := Lib.hid (gb_trans GQ.out gx21)
                replace Q0 := Lib.hid (Q0.out.keep0 gx21)
                replace Q1 := Lib.hid (Q1.out.keep0 gx21)
                replace Q2 := Lib.hid (Q2.out.keep0 gx21)
                replace Q3 := Lib.hid (Q3.out.keep0 gx21)
                replace Q4 := Lib.hid (Q4.out.keep0 gx21)
                replace Q5 := Lib.hid (Q5.out.keep0 gx21)
                replace Q6 := Lib.hid (Q6.out.keep0 gx21)
                try replace K7 := Lib.hid (K7.out.keep0 gx21)
                have Q7 := Lib.hid hv
                clear hv gx21
                refine hK.out _ _ (GQ.out) (fun hHeld => ?_)
                clear hK K
                try simp only [Act.put, List.setIfInBounds_toArray, List.set_cons_zero, List.set_cons_succ]
                refine wpAnyH_take (i := 27) (v := ?_) (List.getElem?_toArray.trans rfl) (by kernel_rfl) (by kernel_rfl) (by kernel_rfl) (fun _ _ _ h => h) (Or.inl ⟨by rfl, ?_⟩) hHeld ?_
                rotate_left
                · intro w' hSw; go_simp; try with_reducible rfl
                try simp only [Act.put, List.setIfInBounds_toArray, List.set_cons_zero, List.set_cons_succ]
                refine wpAnyH_take (i := 28) (v := ?_) (List.getElem?_toArray.trans rfl) (by kernel_rfl) (by kernel_rfl) (by kernel_rfl) (fun _ _ _ h => h) (Or.inl ⟨by rfl, ?_⟩) hHeld ?_
                rotate_left
                · intro w' hSw; go_simp; try with_reducible rfl
                try simp only [Act.put, List.setIfInBounds_toArray, List.set_cons_zero, List.set_cons_succ]
                refine wpAnyH_ready (rs := [30]) (by kernel_rfl) (by simp) ?_
                refine AllReadyH.cons (List.getElem?_toArray.trans rfl) (fun K hK => ?_) AllReadyH.nil
                refine wp_store_mid 34 _ _ rfl b7 0 #[.bool q0f, .slice q0a q0b q0c, .slice q0d q0e q0g, .slice q0h q0i q0j, .bool q1f, .slice q1a q1b q1c, .slice q1d q1e q1g, .slice q1h q1i q1j, .bool q2f, .slice q2a q2b q2c, .slice q2d q2e q2g, .slice q2h q2i q2j, .bool q3f, .slice q3a q3b q3c, .slice q3d q3e q3g, .slice q3h q3i q3j, .bool q4f, .slice q4a q4b q4c, .slice q4d q4e q4g, .slice q4h q4i q4j, .bool q5f, .slice q5a q5b q5c, .slice q5d q5e q5g, .slice q5h q5i q5j, .bool q6f, .slice q6a q6b q6c, .slice q6d q6e q6g, .slice q6h q6i q6j, .bool q7f, .slice q7a q7b q7c, .slice q7d q7e q7g, .slice q7h q7i q7j] rfl rfl (K7.out.there (by rfl)) (by kernel_rfl) (by kernel_rfl) ?_
                obtain ⟨kS, gx22⟩ := quad_set K7.out (l := [.bool q0f, .slice q0a q0b q0c, .slice q0d q0e q0g, .slice q0h q0i q0j, .bool q1f, .slice q1a q1b q1c, .slice q1d q1e q1g, .slice q1h q1i q1j, .bool q2f, .slice q2a q2b q2c, .slice q2d q2e q2g, .slice q2h q2i q2j, .bool q3f, .slice q3a q3b q3c, .slice q3d q3e q3g, .slice q3h q3i q3j, .bool q4f, .slice q4a q4b q4c, .slice q4d q4e q4g, .slice q4h q4i q4j, .bool q5f, .slice q5a q5b q5c, .slice q5d q5e q5g, .slice q5h q5i q5j, .bool q6f, .slice q6a q6b q6c, .slice q6d q6e q6g, .slice q6h q6i q6j, .bool q7f, .slice q7a q7b q7c, .slice q7d q7e q7g, .slice q7h q7i q7j]) (by rfl)
                obtain ⟨x22, hD⟩ : ∃ z : World, z = x21.setCells b7 0 [.bool q0f, .slice q0a q0b q0c, .slice q0d q0e q0g, .slice q0h q0i q0j, .bool q1f, .slice q1a q1b q1c, .slice q1d q1e q1g, .slice q1h q1i q1j, .bool q2f, .slice q2a q2b q2c, .slice q2d q2e q2g, .slice q2h q2i q2j, .bool q3f, .slice q3a q3b q3c, .slice q3d q3e q3g, .slice q3h q3i q3j, .bool q4f, .slice q4a q4b q4c, .slice q4d q4e q4g, .slice q4h q4i q4j, .bool q5f, .slice q5a q5b q5c, .slice q5d q5e q5g, .slice q5h q5i q5j, .bool q6f, .slice q6a q6b q6c, .slice q6d q6e q6g, .slice q6h q6i q6j, .bool q7f, .slice q7a q7b q7c, .slice q7d q7e q7g, .slice q7h q7i q7j] := ⟨_, rfl⟩
                dsimp only [Act.put]
                rw [← hD]
                rw [← hD] at kS gx22
                clear hD
                have NB := Lib.hid (Nbl.of K7.out (by decide))
                replace GQ := Lib.hid (gb_step GQ.out gx22 hb7)
                replace Q0 := Lib.hid (Q0.out.keepN NB.out gx22)
                replace Q1 := Lib.hid (Q1.out.keepN NB.out gx22)
                replace Q2 := Lib.hid (Q2.out.keepN NB.out gx22)
                replace Q3 := Lib.hid (Q3.out.keepN NB.out gx22)
                replace Q4 := Lib.hid (Q4.out.keepN NB.out gx22)
                replace Q5 := Lib.hid (Q5.out.keepN NB.out gx22)
                replace Q6 := Lib.hid (Q6.out.keepN NB.out gx22)
                replace Q7 := Lib.hid (Q7.out.keepN NB.out gx22)
                clear K7 NB gx22
                have K7 := Lib.hid kS
                clear kS
                refine hK.out _ _ (GQ.out) (fun hHeld => ?_)
                clear hK K
                try simp only [Act.put, List.setIfInBounds_toArray, List.set_cons_zero, List.set_cons_succ]
                refine wpAnyH_done (by kernel_rfl) ?_ _
                refine NoPanic.normal ?_
                go_wp2_with fail
                go_meet
                case rel => exact ⟨b7, rfl, pairs_of K7.out Q0.out Q1.out Q2.out Q3.out Q4.out Q5.out Q6.out Q7.out, gb_trans HG.out GQ.out⟩
            · go_simp
              obtain ⟨x23, hC, kC, gx23, hzz⟩ := new1 x4 34 #[Value.bool false, .slice none 0 0, .slice none 0 0, .slice none 0 0, Value.bool false, .slice none 0 0, .slice none 0 0, .slice none 0 0, Value.bool false, .slice none 0 0, .slice none 0 0, .slice none 0 0, Value.bool false, .slice none 0 0, .slice none 0 0, .slice none 0 0, Value.bool false, .slice none 0 0, .slice none 0 0, .slice none 0 0, Value.bool false, .slice none 0 0, .slice none 0 0, .slice none 0 0, Value.bool false, .slice none 0 0, .slice none 0 0, .slice none 0 0, Value.bool false, .slice none 0 0, .slice none 0 0, .slice none 0 0]
              rw [← hC]
              clear hC hzz
              have hb7 : w0.heap.size ≤ x4.heap.size := GQ.out.size
              replace GQ := Lib.hid (gb_trans GQ.out gx23)
              try replace Q0 := Lib.hid (Q0.out.keep0 gx23)
              try replace Q1 := Lib.hid (Q1.out.keep0 gx23)
              try replace Q2 := Lib.hid (Q2.out.keep0 gx23)
              try replace Q3 := Lib.hid (Q3.out.keep0 gx23)
              try replace Q4 := Lib.hid (Q4.out.keep0 gx23)
              try replace Q5 := Lib.hid (Q5.out.keep0 gx23)
              try replace Q6 := Lib.hid (Q6.out.keep0 gx23)
              try replace Q7 := Lib.hid (Q7.out.keep0 gx23)
              generalize x4.heap.size = b7 at kC hb7 ⊢
              have K7 := Lib.hid kC
              clear kC gx23
              refine hK.out _ _ (GQ.out) (fun hHeld => ?_)
              clear hK K
              try simp only [Act.put, List.setIfInBounds_toArray, List.set_cons_zero, List.set_cons_succ]
              refine wpAnyH_ready (rs := [16]) (by kernel_rfl) (by simp) ?_
              refine AllReadyH.cons (List.getElem?_toArray.trans rfl) (fun K hK => ?_) AllReadyH.nil
              go_simp
              go_at_call 9
              (with_reducible refine (HI1.out _ GQ.out).mono ?_)
              rintro e x24 ⟨v, rfl, hv, gx24⟩
              obtain ⟨q4f, q4a, q4b, q4c, q4d, q4e, q4g, q4h, q4i, q4j, rfl⟩ := nd_shape hv
              replace GQ := Lib.hid (gb_trans GQ.out gx24)
              replace Q0 := Lib.hid (Q0.out.keep0 gx24)
              replace Q1 := Lib.hid (Q1.out.keep0 gx24)
              replace Q2 := Lib.hid (Q2.out.keep0 gx24)
              replace Q3 := Lib.hid (Q3.out.keep0 gx24)
              try replace K7 := Lib.hid (K7.out.keep0 gx24)
              have Q4 := Lib.hid hv
              clear hv gx24
              refine hK.out _ _ (GQ.out) (fun hHeld => ?_)
              clear hK K
              try simp only [Act.put, List.setIfInBounds_toArray, List.set_cons_zero, List.set_cons_succ]
              refine wpAnyH_ready (rs := [19]) (by kernel_rfl) (by simp) ?_
              refine AllReadyH.cons (List.getElem?_toArray.trans rfl) (fun K hK => ?_) AllReadyH.nil
              go_simp
              go_at_call 9
              (with_reducible refine (HI2.out _ GQ.out).mono ?_)
              rintro e x25 ⟨v, rfl, hv, gx25⟩
              obtain ⟨q5f, q5a, q5b, q5c, q5d, q5e, q5g, q5h, q5i, q5j, rfl⟩ := nd_shape hv
              replace GQ := Lib.hid (gb_trans GQ.out gx25)
              replace Q0 := Lib.hid (Q0.out.keep0 gx25)
              replace Q1 := Lib.hid (Q1.out.keep0 gx25)
              replace Q2 := Lib.hid (Q2.out.keep0 gx25)
              replace Q3 := Lib.hid (Q3.out.keep0 gx25)
              replace Q4 := Lib.hid (Q4.out.keep0 gx25)
              try replace K7 := Lib.hid (K7.out.keep0 gx25)
              have Q5 := Lib.hid hv
              clear hv gx25
              refine hK.out _ _ (GQ.out) (fun hHeld => ?_)
              clear hK K
              try simp only [Act.put, List.setIfInBounds_toArray, List.set_cons_zero, List.set_cons_succ]
              refine wpAnyH_take (i := 20) (v := ?_) (List.getElem?_toArray.trans rfl) (by kernel_rfl) (by kernel_rfl) (by kernel_rfl) (fun _ _ _ h => h) (Or.inl ⟨by rfl, ?_⟩) hHeld ?_
              rotate_left
              · intro w' hSw; go_simp; try with_reducible rfl
              try simp only [Act.put, List.setIfInBounds_toArray, List.set_cons_zero, List.set_cons_succ]
              refine wpAnyH_ready (rs := [23]) (by kernel_rfl) (by simp) ?_
              refine AllReadyH.cons (List.getElem?_toArray.trans rfl) (fun K hK => ?_) AllReadyH.nil
              go_simp
              go_at_call 8
              (with_reducible refine (HL1.out _ GQ.out).mono ?_)
              rintro e x26 ⟨v, rfl, hv, gx26⟩
              obtain ⟨q6f, q6a, q6b, q6c, q6d, q6e, q6g, q6h, q6i, q6j, rfl⟩ := nd_shape hv
              replace GQ := Lib.hid (gb_trans GQ.out gx26)
              replace Q0 := Lib.hid (Q0.out.keep0 gx26)
              replace Q1 := Lib.hid (Q1.out.keep0 gx26)
              replace Q2 := Lib.hid (Q2.out.keep0 gx26)
              replace Q3 := Lib.hid (Q3.out.keep0 gx26)
              replace Q4 := Lib.hid (Q4.out.keep0 gx26)
              replace Q5 := Lib.hid (Q5.out.keep0 gx26)
              try replace K7 := Lib.hid (K7.out.keep0 gx26)
              have Q6 := Lib.hid hv
              clear hv gx26
              refine hK.out _ _ (GQ.out) (fun hHeld => ?_)
              clear hK K
              try simp only [Act.put, List.setIfInBounds_toArray, List.set_cons_zero, List.set_cons_succ]
              refine wpAnyH_ready (rs := [26]) (by kernel_rfl) (by simp) ?_
              refine AllReadyH.cons (List.getElem?_toArray.trans rfl) (fun K hK => ?_) AllReadyH.nil
              go_simp
              go_at_call 9
              (with_reducible refine (HI2.out _ GQ.out).mono ?_)
              rintro e x27 ⟨v, rfl, hv, gx27⟩
              obtain ⟨q7f, q7a, q7b, q7c, q7d, q7e, q7g, q7h, q7i, q7j, rfl⟩ := nd_shape hv
              replace GQ := Lib.hid (gb_trans GQ.out gx27)
              replace Q0 := Lib.hid (Q0.out.keep0 gx27)
              replace Q1 := Lib.hid (Q1.out.keep0 gx27)
              replace Q2 := Lib.hid (Q2.out.keep0 gx27)
              replace Q3 := Lib.hid (Q3.out.keep0 gx27)
              replace Q4 := Lib.hid (Q4.out.keep0 gx27)
              replace Q5 := Lib.hid (Q5.out.keep0 gx27)
              replace Q6 := Lib.hid (Q6.out.keep0 gx27)
              try replace K7 := Lib.hid (K7.out.keep0 gx27)
              have Q7 := Lib.hid hv
              clear hv gx27
              refine hK.out _ _ (GQ.out) (fun hHeld => ?_)
              clear hK K
              try simp only [Act.put, List.setIfInBounds_toArray, List.set_cons_zero, List.set_cons_succ]
              refine wpAnyH_take (i := 27) (v := ?_) (List.getElem?_toArray.trans rfl) (by kernel_rfl) (by kernel_rfl) (by kernel_rfl) (fun _ _ _ h => h) (Or.inl ⟨by rfl, ?_⟩) hHeld ?_
              rotate_left
              · intro w' hSw; go_simp; try with_reducible rfl
              try simp only [Act.put, List.setIfInBounds_toArray, List.set_cons_zero, List.set_cons_succ]
              refine wpAnyH_take (i := 28) (v := ?_) (List.getElem?_toArray.trans rfl) (by kernel_rfl) (by kernel_rfl) (by kernel_rfl) (fun _ _ _ h => h) (Or.inl ⟨by rfl, ?_⟩) hHeld ?_
              rotate_left
              · intro w' hSw; go_simp; try with_reducible rfl
              try simp only [Act.put, List.setIfInBounds_toArray, List.set_cons_zero, List.set_cons_succ]
              refine wpAnyH_ready (rs := [30]) (by kernel_rfl) (by simp) ?_
              refine AllReadyH.cons (List.getElem?_toArray.trans rfl) (fun K hK => ?_) AllReadyH.nil
              refine wp_store_mid 34 _ _ rfl b7 0 #[.bool q0f, .slice q0a q0b q0c, .slice q0d q0e q0g, .slice q0h q0i q0j, .bool q1f, .slice q1a q1b q1c, .slice q1d q1e q1g, .slice q1h q1i q1j, .bool q2f, .slice q2a q2b q2c, .slice q2d q2e q2g, .slice q2h q2i q2j, .bool q3f, .slice q3a q3b q3c, .slice q3d q3e q3g, .slice q3h q3i q3j, .bool q4f, .slice q4a q4b q4c, .slice q4d q4e q4g, .slice q4h q4i q4j, .bool q5f, .slice q5a q5b q5c, .slice q5d q5e q5g, .slice q5h q5i q5j, .bool q6f, .slice q6a q6b q6c, .slice q6d q6e q6g, .slice q6h q6i q6j, .bool q7f, .slice q7a q7b q7c, .slice q7d q7e q7g, .slice q7h q7i q7j] rfl rfl (K7.out.there (by rfl)) (by kernel_rfl) (by kernel_rfl) ?_
              obtain ⟨kS, gx28⟩ := quad_set K7.out (l := [.bool q0f, .slice q0a q0b q0c, .slice q0d q0e q0g, .slice q0h q0i q0j, .bool q1f, .slice q1a q1b q1c, .slice q1d q1e q1g, .slice q1h q1i q1j, .bool q2f, .slice q2a q2b q2c, .slice q2d q2e q2g, .slice q2h q2i q2j, .bool q3f, .slice q3a q3b q3c, .slice q3d q3e q3g, .slice q3h q3i q3j, .bool q4f, .slice q4a q4b q4c, .slice q4d q4e q4g, .slice q4h q4i q4j, .bool q5f, .slice q5a q5b q5c, .slice q5d q5e q5g, .slice q5h q5i q5j, .bool q6f, .slice q6a q6b q6c, .slice q6d q6e q6g, .slice q6h q6i q6j, .bool q7f, .slice q7a q7b q7c, .slice q7d q7e q7g, .slice q7h q7i q7j]) (by rfl)
              obtain ⟨x28, hD⟩ : ∃ z : World, z = x27.setCells b7 0 [.bool q0f, .slice q0a q0b q0c, .slice q0d q0e q0g, .slice q0h q0i q0j, .bool q1f, .slice q1a q1b q1c, .slice q1d q1e q1g, .slice q1h q1i q1j, .bool q2f, .slice q2a q2b q2c, .slice q2d q2e q2g, .slice q2h q2i q2j, .bool q3f, .slice q3a q3b q3c, .slice q3d q3e q3g, .slice q3h q3i q3j, .bool q4f, .slice q4a q4b q4c, .slice q4d q4e q4g, .slice q4h q4i q4j, .bool q5f, .slice q5a q5b q5c, .slice q5d q5e q5g, .slice q5h q5i q5j, .bool q6f, .slice q6a q6b q6c, .slice q6d q6e q6g, .slice q6h q6i q6j, .bool q7f, .slice q7a q7b q7c, .slice q7d q7e q7g, .slice q7h q7i q7j] := ⟨_, rfl⟩
              dsimp only [Act.put]
              rw [← hD]
              rw [← hD] at kS gx28
              clear hD
              have NB := Lib.hid (Nbl.of K7.out (by decide))
              replace GQ := Lib.hid (gb_step GQ.out gx28 hb7)
              replace Q0 := Lib.hid (Q0.out.keepN NB.out gx28)
              replace Q1 := Lib.hid (Q1.out.keepN NB.out gx28)
              replace Q2 := Lib.hid (Q2.out.keepN NB.out gx28)
              replace Q3 := Lib.hid (Q3.out.keepN NB.out gx28)
              replace Q4 := Lib.hid (Q4.out.keepN NB.out gx28)
              replace Q5 := Lib.hid (Q5.out.keepN NB.out gx28)
              replace Q6 := Lib.hid (Q6.out.keepN NB.out gx28)
              replace Q7 := Lib.hid (Q7.out.keepN NB.out gx28)
              clear K7 NB gx28
              have K7 := Lib.hid kS
              clear kS
              refine hK.out _ _ (GQ.out) (fun hHeld => ?_)
              clear hK K
              try simp only [Act.put, List.setIfInBounds_toArray, List.set_cons_zero, List.set_cons_succ]
              refine wpAnyH_done (by kernel_rfl) ?_ _
              refine NoPanic.normal ?_
              go_wp2_with fail
              go_meet
              case rel => exact ⟨b7, rfl, pairs_of K7.out Q0.out Q1.out Q2.out Q3.out Q4.out Q5.out Q6.out Q7.out, gb_trans HG.out GQ.out⟩
          · go_simp
            obtain ⟨x29, hC, kC, gx29, hzz⟩ := new1 x3 34 #[Value.bool false, .slice none 0 0, .slice none 0 0, .slice none 0 0, Value.bool false, .slice none 0 0, .slice none 0 0, .slice none 0 0, Value.bool false, .slice none 0 0, .slice none 0 0, .slice none 0 0, Value.bool false, .slice none 0 0, .slice none 0 0, .slice none 0 0, Value.bool false, .slice none 0 0, .slice none 0 0, .slice none 0 0, Value.bool false, .slice none 0 0, .slice none 0 0, .slice none 0 0, Value.bool false, .slice none 0 0, .slice none 0 0, .slice none 0 0, Value.bool false, .slice none 0 0, .slice none 0 0, .slice none 0 0]
            rw [← hC]
            clear hC hzz
            have hb7 : w0.heap.size ≤ x3.heap.size := GQ.out.size
            replace GQ := Lib.hid (gb_trans GQ.out gx29)
            try replace Q0 := Lib.hid (Q0.out.keep0 gx29)
            try replace Q1 := Lib.hid (Q1.out.keep0 gx29)
            try replace Q2 := Lib.hid (Q2.out.keep0 gx29)
            try replace Q3 := Lib.hid (Q3.out.keep0 gx29)
            try replace Q4 := Lib.hid (Q4.out.keep0 gx29)
            try replace Q5 := Lib.hid (Q5.out.keep0 gx29)
            try replace Q6 := Lib.hid (Q6.out.keep0 gx29)
            try replace Q7 := Lib.hid (Q7.out.keep0 gx29)
            generalize x3.heap.size = b7 at kC hb7 ⊢
            have K7 := Lib.hid kC
            clear kC gx29
            refine hK.out _ _ (GQ.out) (fun hHeld => ?_)
            clear hK K
            try simp only [Act.put, List.setIfInBounds_toArray, List.set_cons_zero, List.set_cons_succ]
            refine wpAnyH_ready (rs := [12]) (by kernel_rfl) (by simp) ?_
            refine AllReadyH.cons (List.getElem?_toArray.trans rfl) (fun K hK => ?_) AllReadyH.nil
            go_simp
            go_at_call 8
            (with_reducible refine (HL2.out _ GQ.out).mono ?_)
            rintro e x30 ⟨v, rfl, hv, gx30⟩
            obtain ⟨q3f, q3a, q3b, q3c, q3d, q3e, q3g, q3h, q3i, q3j, rfl⟩ := nd_shape hv
            replace GQ := Lib.hid (gb_trans GQ.out gx30)
            replace Q0 := Lib.hid (Q0.out.keep0 gx30)
            replace Q1 := Lib.hid (Q1.out.keep0 gx30)
            replace Q2 := Lib.hid (Q2.out.keep0 gx30)
            try replace K7 := Lib.hid (K7.out.keep0 gx30)
            have Q3 := Lib.hid hv
            clear hv gx30
            refine hK.out _ _ (GQ.out) (fun hHeld => ?_)
            clear hK K
            try simp only [Act.put, List.setIfInBounds_toArray, List.set_cons_zero, List.set_cons_succ]
            refine wpAnyH_take (i := 13) (v := ?_) (List.getElem?_toArray.trans rfl) (by kernel_rfl) (by kernel_rfl) (by kernel_rfl) (fun _ _ _ h => h) (Or.inl ⟨by rfl, ?_⟩) hHeld ?_
            rotate_left
            · intro w' hSw; go_simp; try with_reducible rfl
            try simp only [Act.put, List.setIfInBounds_toArray, List.set_cons_zero, List.set_cons_succ]
            refine wpAnyH_ready (rs := [16]) (by kernel_rfl) (by simp) ?_
            refine AllReadyH.cons (List.getElem?_toArray.trans rfl) (fun K hK => ?_) AllReadyH.nil
            go_simp
            go_at_call 9
            (with_reducible refine (HI1.out _ GQ.out).mono ?_)
            rintro e x31 ⟨v, rfl, hv, gx31⟩
            obtain ⟨q4f, q4a, q4b, q4c, q4d, q4e, q4g, q4h, q4i, q4j, rfl⟩ := nd_shape hv
            replace GQ := Lib.hid (gb_trans GQ.out gx31)
            replace Q0 := Lib.hid (Q0.out.keep0 gx31)
            replace Q1 := Lib.hid (Q1.out.keep0 gx31)
            replace Q2 := Lib.hid (Q2.out.keep0 gx31)
            replace Q3 := Lib.hid (Q3.out.keep0 gx31)
            try replace K7 := Lib.hid (K7.out.keep0 gx31)
            have Q4 := Lib.hid hv
            clear hv gx31
            refine hK.out _ _ (GQ.out) (fun hHeld => ?_)
            clear hK K
            try simp only [Act.put, List.setIfInBounds_toArray, List.set_cons_zero, List.set_cons_succ]
            refine wpAnyH_ready (rs := [19]) (by kernel_rfl) (by simp) ?_
            refine AllReadyH.cons (List.getElem?_toArray.trans rfl) (fun K hK => ?_) AllReadyH.nil
            go_simp
            go_at_call 9
            (with_reducible refine (HI2.out _ GQ.out).mono ?_)
            rintro e x32 ⟨v, rfl, hv, gx32⟩
            obtain ⟨q5f, q5a, q5b, q5c, q5d, q5e, q5g, q5h, q5i, q5j, rfl⟩ := nd_shape hv
            replace GQ := Lib.hid (gb_trans GQ.out gx32)
            replace Q0 := Lib.hid (Q0.out.keep0 gx32)
            replace Q1 := Lib.hid (Q1.out.keep0 gx32)
            replace Q2 := Lib.hid (Q2.out.keep0 gx32)
            replace Q3 := Lib.hid (Q3.out.keep0 gx32)
            replace Q4 := Lib.hid (Q4.out.keep0 gx32)
            try replace K7 := Lib.hid (K7.out.keep0 gx32)
            have Q5 := Lib.hid hv
            clear hv gx32
            refine hK.out _ _ (GQ.out) (fun hHeld => ?_)
            clear hK K
            try simp only [Act.put, List.setIfInBounds_toArray, List.set_cons_zero, List.set_cons_succ]
            refine wpAnyH_take (i := 20) (v := ?_) (List.getElem?_toArray.trans rfl) (by kernel_rfl) (by kernel_rfl) (by kernel_rfl) (fun _ _ _ h => h) (Or.inl ⟨by rfl, ?_⟩) hHeld ?_
            rotate_left
            · intro w' hSw; go_simp; try with_reducible rfl
            try simp only [Act.put, List.setIfInBounds_toArray, List.set_cons_zero, List.set_cons_succ]
            refine wpAnyH_ready (rs := [23]) (by kernel_rfl) (by simp) ?_
            refine AllReadyH.cons (List.getElem?_toArray.trans rfl) (fun K hK => ?_) AllReadyH.nil
            go_simp
            go_at_call 8
            (with_reducible refine (HL1.out _ GQ.out).mono ?_)
            rintro e x33 ⟨v, rfl, hv, gx33⟩
            obtain ⟨q6f, q6a, q6b, q6c, q6d, q6e, q6g, q6h, q6i, q6j, rfl⟩ := nd_shape hv
            replace GQ := Lib.hid (gb_trans GQ.out gx33)
            replace Q0 := Lib.hid (Q0.out.keep0 gx33)
            replace Q1 := Lib.hid (Q1.out.keep0 gx33)
            replace Q2 := Lib.hid (Q2.out.keep0 gx33)
            replace Q3 := Lib.hid (Q3.out.keep0 gx33)
            replace Q4 := Lib.hid (Q4.out.keep0 gx33)
            replace Q5 := Lib.hid (Q5.out.keep0 gx33)
            try replace K7 := Lib.hid (K7.out.keep0 gx33)
            have Q6 := Lib.hid hv
            clear hv gx33
            refine hK.out _ _ (GQ.out) (fun hHeld => ?_)
            clear hK K
            try simp only [Act.put, List.setIfInBounds_toArray, List.set_cons_zero, List.set_cons_succ]
            refine wpAnyH_ready (rs := [26]) (by kernel_rfl) (by simp) ?_
            refine AllReadyH.cons (List.getElem?_toArray.trans rfl) (fun K hK => ?_) AllReadyH.nil
            go_simp
            go_at_call 9
            (with_reducible refine (HI2.out _ GQ.out).mono ?_)
            rintro e x34 ⟨v, rfl, hv, gx34⟩
            obtain ⟨q7f, q7a, q7b, q7c, q7d, q7e, q7g, q7h, q7i, q7j, rfl⟩ := nd_shape hv
            replace GQ := Lib.hid (gb_trans GQ.out gx34)
            replace Q0 := Lib.hid (Q0.out.keep0 gx34)
            replace Q1 := Lib.hid (Q1.out.keep0 gx34)
            replace Q2 := Lib.hid (Q2.out.keep0 gx34)
            replace Q3 := Lib.hid (Q3.out.keep0 gx34)
            replace Q4 := Lib.hid (Q4.out.keep0 gx34)
            replace Q5 := Lib.hid (Q5.out.keep0 gx34)
            replace Q6 := Lib.hid (Q6.out.keep0 gx34)
            try replace K7 := Lib.hid (K7.out.keep0 gx34)
            have Q7 := Lib.hid hv
            clear hv gx34
            refine hK.out _ _ (GQ.out) (fun hHeld => ?_)
            clear hK K
            try simp only [Act.put, List.setIfInBounds_toArray, List.set_cons_zero, List.set_cons_succ]
            refine wpAnyH_take (i := 27) (v := ?_) (List.getElem?_toArray.trans rfl) (by kernel_rfl) (by kernel_rfl) (by kernel_rfl) (fun _ _ _ h => h) (Or.inl ⟨by rfl, ?_⟩) hHeld ?_
            rotate_left
            · intro w' hSw; go_simp; try with_reducible rfl
            try simp only [Act.put, List.setIfInBounds_toArray, List.set_cons_zero, List.set_cons_succ]
            refine wpAnyH_take (i := 28) (v := ?_) (List.getElem?_toArray.trans rfl) (by kernel_rfl) (by kernel_rfl) (by kernel_rfl) (fun _ _ _ h => h) (Or.inl ⟨by rfl, ?_⟩) hHeld ?_
            rotate_left
            · intro w' hSw; go_simp; try with_reducible rfl
            try simp only [Act.put, List.setIfInBounds_toArray, List.set_cons_zero, List.set_cons_succ]
            refine wpAnyH_ready (rs := [30]) (by kernel_rfl) (by simp) ?_
            refine AllReadyH.cons (List.getElem?_toArray.trans rfl) (fun K hK => ?_) AllReadyH.nil
            refine wp_store_mid 34 _ _ rfl b7 0 #[.bool q0f, .slice q0a q0b q0c, .slice q0d q0e q0g, .slice q0h q0i q0j, .bool q1f, .slice q1a q1b q1c, .slice q1d q1e q1g, .slice q1h q1i q1j, .bool q2f, .slice q2a q2b q2c, .slice q2d q2e q2g, .slice q2h q2i q2j, .bool q3f, .slice q3a q3b q3c, .slice q3d q3e q3g, .slice q3h q3i q3j, .bool q4f, .slice q4a q4b q4c, .slice q4d q4e q4g, .slice q4h q4i q4j, .bool q5f, .slice q5a q5b q5c, .slice q5d q5e q5g, .slice q5h q5i q5j, .bool q6f, .slice q6a q6b q6c, .slice q6d q6e q6g, .slice q6h q6i q6j, .bool q7f, .slice q7a q7b q7c, .slice q7d q7e q7g, .slice q7h q7i q7j] rfl rfl (K7.out.there (by rfl)) (by kernel_rfl) (by kernel_rfl) ?_
            obtain ⟨kS, gx35⟩ := quad_set K7.out (l := [.bool q0f, .slice q0a q0b q0c, .slice q0d q0e q0g, .slice q0h q0i q0j, .bool q1f, .slice q1a q1b q1c, .slice q1d q1e q1g, .slice q1h q1i q1j, .bool q2f, .slice q2a q2b q2c, .slice q2d q2e q2g, .slice q2h q2i q2j, .bool q3f, .slice q3a q3b q3c, .slice q3d q3e q3g, .slice q3h q3i q3j, .bool q4f, .slice q4a q4b q4c, .slice q4d q4e q4g, .slice q4h q4i q4j, .bool q5f, .slice q5a q5b q5c, .slice q5d q5e q5g, .slice q5h q5i q5j, .bool q6f, .slice q6a q6b q6c, .slice q6d q6e q6g, .slice q6h q6i q6j, .bool q7f, .slice q7a q7b q7c, .slice q7d q7e q7g, .slice q7h q7i q7j]) (by rfl)
            obtain ⟨x35, hD⟩ : ∃ z : World, z = x34.setCells b7 0 [.bool q0f, .slice q0a q0b q0c, .slice q0d q0e q0g, .slice q0h q0i q0j, .bool q1f, .slice q1a q1b q1c, .slice q1d q1e q1g, .slice q1h q1i q1j, .bool q2f, .slice q2a q2b q2c, .slice q2d q2e q2g, .slice q2h q2i q2j, .bool q3f, .slice q3a q3b q3c, .slice q3d q3e q3g, .slice q3h q3i q3j, .bool q4f, .slice q4a q4b q4c, .slice q4d q4e q4g, .slice q4h q4i q4j, .bool q5f, .slice q5a q5b q5c, .slice q5d q5e q5g, .slice q5h q5i q5j, .bool q6f, .slice q6a q6b q6c, .slice q6d q6e q6g, .slice q6h q6i q6j, .bool q7f, .slice q7a q7b q7c, .slice q7d q7e q7g, .slice q7h q7i q7j] := ⟨_, rfl⟩
            dsimp only [Act.put]
            rw [← hD]
            rw [← hD] at kS gx35
            clear hD
            have NB := Lib.hid (Nbl.of K7.out (by decide))
            replace GQ := Lib.hid (gb_step GQ.out gx35 hb7)
            replace Q0 := Lib.hid (Q0.out.keepN NB.out gx35)
            replace Q1 := Lib.hid (Q1.out.keepN NB.out gx35)
            replace Q2 := Lib.hid (Q2.out.keepN NB.out gx35)
            replace Q3 := Lib.hid (Q3.out.keepN NB.out gx35)
            replace Q4 := Lib.hid (Q4.out.keepN NB.out gx35)
            replace Q5 := Lib.hid (Q5.out.keepN NB.out gx35)
            replace Q6 := Lib.hid (Q6.out.keepN NB.out gx35)
            replace Q7 := Lib.hid (Q7.out.keepN NB.out gx35)
            clear K7 NB gx35
            have K7 := Lib.hid kS
            clear kS
            refine hK.out _ _ (GQ.out) (fun hHeld => ?_)
            clear hK K
            try simp only [Act.put, List.setIfInBounds_toArray, List.set_cons_zero, List.set_cons_succ]
            refine wpAnyH_done (by kernel_rfl) ?_ _
            refine NoPanic.normal ?_
            go_wp2_with fail
            go_meet
            case rel => exact ⟨b7, rfl, pairs_of K7.out Q0.out Q1.out Q2.out Q3.out Q4.out Q5.out Q6.out Q7.out, gb_trans HG.out GQ.out⟩
        · go_simp
          obtain ⟨x36, hC, kC, gx36, hzz⟩ := new1 x2 34 #[Value.bool false, .slice none 0 0, .slice none 0 0, .slice none 0 0, Value.bool false, .slice none 0 0, .slice none 0 0, .slice none 0 0, Value.bool false, .slice none 0 0, .slice none 0 0, .slice none 0 0, Value.bool false, .slice none 0 0, .slice none 0 0, .slice none 0 0, Value.bool false, .slice none 0 0, .slice none 0 0, .slice none 0 0, Value.bool false, .slice none 0 0, .slice none 0 0, .slice none 0 0, Value.bool false, .slice none 0 0, .slice none 0 0, .slice none 0 0, Value.bool false, .slice none 0 0, .slice none 0 0, .slice none 0 0]
          rw [← hC]
          clear hC hzz
          have hb7 : w0.heap.size ≤ x2.heap.size := GQ.out.size
          replace GQ := Lib.hid (gb_trans GQ.out gx36)
          try replace Q0 := Lib.hid (Q0.out.keep0 gx36)
          try replace Q1 := Lib.hid (Q1.out.keep0 gx36)
          try replace Q2 := Lib.hid (Q2.out.keep0 gx36)
          try replace Q3 := Lib.hid (Q3.out.keep0 gx36)
          try replace Q4 := Lib.hid (Q4.out.keep0 gx36)
          try replace Q5 := Lib.hid (Q5.out.keep0 gx36)
          try replace Q6 := Lib.hid (Q6.out.keep0 gx36)
          try replace Q7 := Lib.hid (Q7.out.keep0 gx36)
          generalize x2.heap.size = b7 at kC hb7 ⊢
          have K7 := Lib.hid kC
          clear kC gx36
          refine hK.out _ _ (GQ.out) (fun hHeld => ?_)
          clear hK K
          try simp only [Act.put, List.setIfInBounds_toArray, List.set_cons_zero, List.set_cons_succ]
          refine wpAnyH_ready (rs := [9]) (by kernel_rfl) (by simp) ?_
          refine AllReadyH.cons (List.getElem?_toArray.trans rfl) (fun K hK => ?_) AllReadyH.nil
          go_simp
          go_at_call 8
          (with_reducible refine (HL1.out _ GQ.out).mono ?_)
          rintro e x37 ⟨v, rfl, hv, gx37⟩
          obtain ⟨q2f, q2a, q2b, q2c, q2d, q2e, q2g, q2h, q2i, q2j, rfl⟩ := nd_shape hv
          replace GQ := Lib.hid (gb_trans GQ.out gx37)
          replace Q0 := Lib.hid (Q0.out.keep0 gx37)
          replace Q1 := Lib.hid (Q1.out.keep0 gx37)
          try replace K7 := Lib.hid (K7.out.keep0 gx37)
          have Q2 := Lib.hid hv
          clear hv gx37
          refine hK.out _ _ (GQ.out) (fun hHeld => ?_)
          clear hK K
          try simp only [Act.put, List.setIfInBounds_toArray, List.set_cons_zero, List.set_cons_succ]
          refine wpAnyH_ready (rs := [12]) (by kernel_rfl) (by simp) ?_
          refine AllReadyH.cons (List.getElem?_toArray.trans rfl) (fun K hK => ?_) AllReadyH.nil
          go_simp
          go_at_call 8
          (with_reducible refine (HL2.out _ GQ.out).mono ?_)
          rintro e x38 ⟨v, rfl, hv, gx38⟩
          obtain ⟨q3f, q3a, q3b, q3c, q3d, q3e, q3g, q3h, q3i, q3j, rfl⟩ := nd_shape hv
          replace GQ := Lib.hid (gb_trans GQ.out gx38)
          replace Q0 := Lib.hid (Q0.out.keep0 gx38)
          replace Q1 := Lib.hid (Q1.out.keep0 gx38)
          replace Q2 := Lib.hid (Q2.out.keep0 gx38)
          try replace K7 := Lib.hid (K7.out.keep0 gx38)
          have Q3 := Lib.hid hv
          clear hv gx38
          refine hK.out _ _ (GQ.out) (fun hHeld => ?_)
          clear hK K
          try simp only [Act.put, List.setIfInBounds_toArray, List.set_cons_zero, List.set_cons_succ]
          refine wpAnyH_take (i := 13) (v := ?_) (List.getElem?_toArray.trans rfl) (by kernel_rfl) (by kernel_rfl) (by kernel_rfl) (fun _ _ _ h => h) (Or.inl ⟨by rfl, ?_⟩) hHeld ?_
          rotate_left
          · intro w' hSw; go_simp; try with_reducible rfl
          try simp only [Act.put, List.setIfInBounds_toArray, List.set_cons_zero, List.set_cons_succ]
          refine wpAnyH_ready (rs := [16]) (by kernel_rfl) (by simp) ?_
          refine AllReadyH.cons (List.getElem?_toArray.trans rfl) (fun K hK => ?_) AllReadyH.nil
          go_simp
          go_at_call 9
          (with_reducible refine (HI1.out _ GQ.out).mono ?_)
          rintro e x39 ⟨v, rfl, hv, gx39⟩
          obtain ⟨q4f, q4a, q4b, q4c, q4d, q4e, q4g, q4h, q4i, q4j, rfl⟩ := nd_shape hv
          replace GQ := Lib.hid (gb_trans GQ.out gx39)
          replace Q0 := Lib.hid (Q0.out.keep0 gx39)
          replace Q1 := Lib.hid (Q1.out.keep0 gx39)
          replace Q2 := Lib.hid (Q2.out.keep0 gx39)
          replace Q3 := Lib.hid (Q3.out.keep0 gx39)
          try replace K7 := Lib.hid (K7.out.keep0 gx39)
          have Q4 := Lib.hid hv
          clear hv gx39
          refine hK.out _ _ (GQ.out) (fun hHeld => ?_)
          clear hK K
          try simp only [Act.put, List.setIfInBounds_toArray, List.set_cons_zero, List.set_cons_succ]
          refine wpAnyH_ready (rs := [19]) (by kernel_rfl) (by simp) ?_
          refine AllReadyH.cons (List.getElem?_toArray.trans rfl) (fun K hK => ?_) AllReadyH.nil
          go_simp
          go_at_call 9
          (with_reducible refine (HI2.out _ GQ.out).mono ?_)
          rintro e x40 ⟨v, rfl, hv, gx40⟩
          obtain ⟨q5f, q5a, q5b, q5c, q5d, q5e, q5g, q5h, q5i, q5j, rfl⟩ := nd_shape hv
          replace GQ := Lib.hid (gb_trans GQ.out gx40)
          replace Q0 := Lib.hid (Q0.out.keep0 gx40)
          replace Q1 := Lib.hid (Q1.out.keep0 gx40)
          replace Q2 := Lib.hid (Q2.out.keep0 gx40)
          replace Q3 := Lib.hid (Q3.out.keep0 gx40)
          replace Q4 := Lib.hid (Q4.out.keep0 gx40)
          try replace K7 := Lib.hid (K7.out.keep0 gx40)
          have Q5 := Lib.hid hv
          clear hv gx40
          refine hK.out _ _ (GQ.out) (fun hHeld => ?_)
          clear hK K
          try simp only [Act.put, List.setIfInBounds_toArray, List.set_cons_zero, List.set_cons_succ]
          refine wpAnyH_take (i := 20) (v := ?_) (List.getElem?_toArray.trans rfl) (by kernel_rfl) (by kernel_rfl) (by kernel_rfl) (fun _ _ _ h => h) (Or.inl ⟨by rfl, ?_⟩) hHeld ?_
          rotate_left
          · intro w' hSw; go_simp; try with_reducible rfl
          try simp only [Act.put, List.setIfInBounds_toArray, List.set_cons_zero, List.set_cons_succ]
          refine wpAnyH_ready (rs := [23]) (by kernel_rfl) (by simp) ?_
          refine AllReadyH.cons (List.getElem?_toArray.trans rfl) (fun K hK => ?_) AllReadyH.nil
          go_simp
          go_at_call 8
          (with_reducible refine (HL1.out _ GQ.out).mono ?_)
          rintro e x41 ⟨v, rfl, hv, gx41⟩
          obtain ⟨q6f, q6a, q6b, q6c, q6d, q6e, q6g, q6h, q6i, q6j, rfl⟩ := nd_shape hv
          replace GQ := Lib.hid (gb_trans GQ.out gx41)
          replace Q0 := Lib.hid (Q0.out.keep0 gx41)
          replace Q1 := Lib.hid (Q1.out.keep0 gx41)
          replace Q2 := Lib.hid (Q2.out.keep0 gx41)
          replace Q3 := Lib.hid (Q3.out.keep0 gx41)
          replace Q4 := Lib.hid (Q4.out.keep0 gx41)
          replace Q5 := Lib.hid (Q5.out.keep0 gx41)
          try replace K7 := Lib.hid (K7.out.keep0 gx41)
          have Q6 := Lib.hid hv
          clear hv gx41
          refine hK.out _ _ (GQ.out) (fun hHeld => ?_)
          clear hK K
          try simp only [Act.put, List.setIfInBounds_toArray, List.set_cons_zero, List.set_cons_succ]
          refine wpAnyH_ready (rs := [26]) (by kernel_rfl) (by simp) ?_
          refine AllReadyH.cons (List.getElem?_toArray.trans rfl) (fun K hK => ?_) AllReadyH.nil
          go_simp
          go_at_call 9
          (with_reducible refine (HI2.out _ GQ.out).mono ?_)
          rintro e x42 ⟨v, rfl, hv, gx42⟩
          obtain ⟨q7f, q7a, q7b, q7c, q7d, q7e, q7g, q7h, q7i, q7j, rfl⟩ := nd_shape hv
          replace GQ := Lib.hid (gb_trans GQ.out gx42)
          replace Q0 := Lib.hid (Q0.out.keep0 gx42)
          replace Q1 := Lib.hid (Q1.out.keep0 gx42)
          replace Q2 := Lib.hid (Q2.out.keep0 gx42)
          replace Q3 := Lib.hid (Q3.out.keep0 gx42)
          replace Q4 := Lib.hid (Q4.out.keep0 gx42)
          replace Q5 := Lib.hid (Q5.out.keep0 gx42)
          replace Q6 := Lib.hid (Q6.out.keep0 gx42)
          try replace K7 := Lib.hid (K7.out.keep0 gx42)
          have Q7 := Lib.hid hv
          clear hv gx42
          refine hK.out _ _ (GQ.out) (fun hHeld => ?_)
          clear hK K
          try simp only [Act.put, List.setIfInBounds_toArray, List.set_cons_zero, List.set_cons_succ]
          refine wpAnyH_take (i := 27) (v := ?_) (List.getElem?_toArray.trans rfl) (by kernel_rfl) (by kernel_rfl) (by kernel_rfl) (fun _ _ _ h => h) (Or.inl ⟨by rfl, ?_⟩) hHeld ?_
          rotate_left
          · intro w' hSw; go_simp; try with_reducible rfl
          try simp only [Act.put, List.setIfInBounds_toArray, List.set_cons_zero, List.set_cons_succ]
          refine wpAnyH_take (i := 28) (v := ?_) (List.getElem?_toArray.trans rfl) (by kernel_rfl) (by kernel_rfl) (by kernel_rfl) (fun _ _ _ h => h) (Or.inl ⟨by rfl, ?_⟩) hHeld ?_
          rotate_left
          · intro w' hSw; go_simp; try with_reducible rfl
          try simp only [Act.put, List.setIfInBounds_toArray, List.set_cons_zero, List.set_cons_succ]
          refine wpAnyH_ready (rs := [30]) (by kernel_rfl) (by simp) ?_
          refine AllReadyH.cons (List.getElem?_toArray.trans rfl) (fun K hK => ?_) AllReadyH.nil
          refine wp_store_mid 34 _ _ rfl b7 0 #[.bool q0f, .slice q0a q0b q0c, .slice q0d q0e q0g, .slice q0h q0i q0j, .bool q1f, .slice q1a q1b q1c, .slice q1d q1e q1g, .slice q1h q1i q1j, .bool q2f, .slice q2a q2b q2c, .slice q2d q2e q2g, .slice q2h q2i q2j, .bool q3f, .slice q3a q3b q3c, .slice q3d q3e q3g, .slice q3h q3i q3j, .bool q4f, .slice q4a q4b q4c, .slice q4d q4e q4g, .slice q4h q4i q4j, .bool q5f, .slice q5a q5b q5c, .slice q5d q5e q5g, .slice q5h q5i q5j, .bool q6f, .slice q6a q6b q6c, .slice q6d q6e q6g, .slice q6h q6i q6j, .bool q7f, .slice q7a q7b q7c, .slice q7d q7e q7g, .slice q7h q7i q7j] rfl rfl (K7.out.there (by rfl)) (by kernel_rfl) (by kernel_rfl) ?_
          obtain ⟨kS, gx43⟩ := quad_set K7.out (l := [.bool q0f, .slice q0a q0b q0c, .slice q0d q0e q0g, .slice q0h q0i q0j, .bool q1f, .slice q1a q1b q1c, .slice q1d q1e q1g, .slice q1h q1i q1j, .bool q2f, .slice q2a q2b q2c, .slice q2d q2e q2g, .slice q2h q2i q2j, .bool q3f, .slice q3a q3b q3c, .slice q3d q3e q3g, .slice q3h q3i q3j, .bool q4f, .slice q4a q4b q4c, .slice q4d q4e q4g, .slice q4h q4i q4j, .bool q5f, .slice q5a q5b q5c, .slice q5d q5e q5g, .slice q5h q5i q5j, .bool q6f, .slice q6a q6b q6c, .slice q6d q6e q6g, .slice q6h q6i q6j, .bool q7f, .slice q7a q7b q7c, .slice q7d q7e q7g, .slice q7h q7i q7j]) (by rfl)
          obtain ⟨x43, hD⟩ : ∃ z : World, z = x42.setCells b7 0 [.bool q0f, .slice q0a q0b q0c, .slice q0d q0e q0g, .slice q0h q0i q0j, .bool q1f, .slice q1a q1b q1c, .slice q1d q1e q1g, .slice q1h q1i q1j, .bool q2f, .slice q2a q2b q2c, .slice q2d q2e q2g, .slice q2h q2i q2j, .bool q3f, .slice q3a q3b q3c, .slice q3d q3e q3g, .slice q3h q3i q3j, .bool q4f, .slice q4a q4b q4c, .slice q4d q4e q4g, .slice q4h q4i q4j, .bool q5f, .slice q5a q5b q5c, .slice q5d q5e q5g, .slice q5h q5i q5j, .bool q6f, .slice q6a q6b q6c, .slice q6d q6e q6g, .slice q6h q6i q6j, .bool q7f, .slice q7a q7b q7c, .slice q7d q7e q7g, .slice q7h q7i q7j] := ⟨_, rfl⟩
          dsimp only [Act.put]
          rw [← hD]
          rw [← hD] at kS gx43
          clear hD
          have NB := Lib.hid (Nbl.of K7.out (by decide))
          replace GQ := Lib.hid (gb_step GQ.out gx43 hb7)
          replace Q0 := Lib.hid (Q0.out.keepN NB.out gx43)
          replace Q1 := Lib.hid (Q1.out.keepN NB.out gx43)
          replace Q2 := Lib.hid (Q2.out.keepN NB.out gx43)
          replace Q3 := Lib.hid (Q3.out.keepN NB.out gx43)
          replace Q4 := Lib.hid (Q4.out.keepN NB.out gx43)
          replace Q5 := Lib.hid (Q5.out.keepN NB.out gx43)
          replace Q6 := Lib.hid (Q6.out.keepN NB.out gx43)
          replace Q7 := Lib.hid (Q7.out.keepN NB.out gx43)
          clear K7 NB gx43
          have K7 := Lib.hid kS
          clear kS
          refine hK.out _ _ (GQ.out) (fun hHeld => ?_)
          clear hK K
          try simp only [Act.put, List.setIfInBounds_toArray, List.set_cons_zero, List.set_cons_succ]
          refine wpAnyH_done (by kernel_rfl) ?_ _
          refine NoPanic.normal ?_
          go_wp2_with fail
          go_meet
          case rel => exact ⟨b7, rfl, pairs_of K7.out Q0.out Q1.out Q2.out Q3.out Q4.out Q5.out Q6.out Q7.out, gb_trans HG.out GQ.out⟩
      · go_simp
        obtain ⟨x44, hC, kC, gx44, hzz⟩ := new1 x1 34 #[Value.bool false, .slice none 0 0, .slice none 0 0, .slice none 0 0, Value.bool false, .slice none 0 0, .slice none 0 0, .slice none 0 0, Value.bool false, .slice none 0 0, .slice none 0 0, .slice none 0 0, Value.bool false, .slice none 0 0, .slice none 0 0, .slice none 0 0, Value.bool false, .slice none 0 0, .slice none 0 0, .slice none 0 0, Value.bool false, .slice none 0 0, .slice none 0 0, .slice none 0 0, Value.bool false, .slice none 0 0, .slice none 0 0, .slice none 0 0, Value.bool false, .slice none 0 0, .slice none 0 0, .slice none 0 0]
        rw [← hC]
        clear hC hzz
        have hb7 : w0.heap.size ≤ x1.heap.size := GQ.out.size
        replace GQ := Lib.hid (gb_trans GQ.out gx44)
        try replace Q0 := Lib.hid (Q0.out.keep0 gx44)
        try replace Q1 := Lib.hid (Q1.out.keep0 gx44)
        try replace Q2 := Lib.hid (Q2.out.keep0 gx44)
        try replace Q3 := Lib.hid (Q3.out.keep0 gx44)
        try replace Q4 := Lib.hid (Q4.out.keep0 gx44)
        try replace Q5 := Lib.hid (Q5.out.keep0 gx44)
        try replace Q6 := Lib.hid (Q6.out.keep0 gx44)
        try replace Q7 := Lib.hid (Q7.out.keep0 gx44)
        generalize x1.heap.size = b7 at kC hb7 ⊢
        have K7 := Lib.hid kC
        clear kC gx44
        refine hK.out _ _ (GQ.out) (fun hHeld => ?_)
        clear hK K
        try simp only [Act.put, List.setIfInBounds_toArray, List.set_cons_zero, List.set_cons_succ]
        refine wpAnyH_ready (rs := [5]) (by kernel_rfl) (by simp) ?_
        refine AllReadyH.cons (List.getElem?_toArray.trans rfl) (fun K hK => ?_) AllReadyH.nil
        go_simp
        go_at_call 7
        (with_reducible refine (HF2.out _ GQ.out).mono ?_)
        rintro e x45 ⟨v, rfl, hv, gx45⟩
        obtain ⟨q1f, q1a, q1b, q1c, q1d, q1e, q1g, q1h, q1i, q1j, rfl⟩ := nd_shape hv
        replace GQ := Lib.hid (gb_trans GQ.out gx45)
        replace Q0 := Lib.hid (Q0.out.keep0 gx45)
        try replace K7 := Lib.hid (K7.out.keep0 gx45)
        have Q1 := Lib.hid hv
        clear hv gx45
        refine hK.out _ _ (GQ.out) (fun hHeld => ?_)
        clear hK K
        try simp only [Act.put, List.setIfInBounds_toArray, List.set_cons_zero, List.set_cons_succ]
        refine wpAnyH_take (i := 6) (v := ?_) (List.getElem?_toArray.trans rfl) (by kernel_rfl) (by kernel_rfl) (by kernel_rfl) (fun _ _ _ h => h) (Or.inl ⟨by rfl, ?_⟩) hHeld ?_
        rotate_left
        · intro w' hSw; go_simp; try with_reducible rfl
        try simp only [Act.put, List.setIfInBounds_toArray, List.set_cons_zero, List.set_cons_succ]
        refine wpAnyH_ready (rs := [9]) (by kernel_rfl) (by simp) ?_
        refine AllReadyH.cons (List.getElem?_toArray.trans rfl) (fun K hK => ?_) AllReadyH.nil
        go_simp
        go_at_call 8
        (with_reducible refine (HL1.out _ GQ.out).mono ?_)
        rintro e x46 ⟨v, rfl, hv, gx46⟩
        obtain ⟨q2f, q2a, q2b, q2c, q2d, q2e, q2g, q2h, q2i, q2j, rfl⟩ := nd_shape hv
        replace GQ := Lib.hid (gb_trans GQ.out gx46)
        replace Q0 := Lib.hid (Q0.out.keep0 gx46)
        replace Q1 := Lib.hid (Q1.out.keep0 gx46)
        try replace K7 := Lib.hid (K7.out.keep0 gx46)
        have Q2 := Lib.hid hv
        clear hv gx46
        refine hK.out _ _ (GQ.out) (fun hHeld => ?_)
        clear hK K
        try simp only [Act.put, List.setIfInBounds_toArray, List.set_cons_zero, List.set_cons_succ]
        refine wpAnyH_ready (rs := [12]) (by kernel_rfl) (by simp) ?_
        refine AllReadyH.cons (List.getElem?_toArray.trans rfl) (fun K hK => ?_) AllReadyH.nil
        go_simp
        go_at_call 8
        (with_reducible refine (HL2.out _ GQ.out).mono ?_)
        rintro e x47 ⟨v, rfl, hv, gx47⟩
        obtain ⟨q3f, q3a, q3b, q3c, q3d, q3e, q3g, q3h, q3i, q3j, rfl⟩ := nd_shape hv
        replace GQ := Lib.hid (gb_trans GQ.out gx47)
        replace Q0 := Lib.hid (Q0.out.keep0 gx47)
        replace Q1 := Lib.hid (Q1.out.keep0 gx47)
        replace Q2 := Lib.hid (Q2.out.keep0 gx47)
        try replace K7 := Lib.hid (K7.out.keep0 gx47)
        have Q3 := Lib.hid hv
        clear hv gx47
        refine hK.out _ _ (GQ.out) (fun hHeld => ?_)
        clear hK K
        try simp only [Act.put, List.setIfInBounds_toArray, List.set_cons_zero, List.set_cons_succ]
        refine wpAnyH_take (i := 13) (v := ?_) (List.getElem?_toArray.trans rfl) (by kernel_rfl) (by kernel_rfl) (by kernel_rfl) (fun _ _ _ h => h) (Or.inl ⟨by rfl, ?_⟩) hHeld ?_
        rotate_left
        · intro w' hSw; go_simp; try with_reducible rfl
        try simp only [Act.put, List.setIfInBounds_toArray, List.set_cons_zero, List.set_cons_succ]
        refine wpAnyH_ready (rs := [16]) (by kernel_rfl) (by simp) ?_
        refine AllReadyH.cons (List.getElem?_toArray.trans rfl) (fun K hK => ?_) AllReadyH.nil
        go_simp
        go_at_call 9
        (with_reducible refine (HI1.out _ GQ.out).mono ?_)
        rintro e x48 ⟨v, rfl, hv, gx48⟩
        obtain ⟨q4f, q4a, q4b, q4c, q4d, q4e, q4g, q4h, q4i, q4j, rfl⟩ := nd_shape hv
        replace GQ := Lib.hid (gb_trans GQ.out gx48)
        replace Q0 := Lib.hid (Q0.out.keep0 gx48)
        replace Q1 := Lib.hid (Q1.out.keep0 gx48)
        replace Q2 := Lib.hid (Q2.out.keep0 gx48)
        replace Q3 := Lib.hid (Q3.out.keep0 gx48)
        try replace K7 := Lib.hid (K7.out.keep0 gx48)
        have Q4 := Lib.hid hv
        clear hv gx48
        refine hK.out _ _ (GQ.out) (fun hHeld => ?_)
        clear hK K
        try simp only [Act.put, List.setIfInBounds_toArray, List.set_cons_zero, List.set_cons_succ]
        refine wpAnyH_ready (rs := [19]) (by kernel_rfl) (by simp) ?_
        refine AllReadyH.cons (List.getElem?_toArray.trans rfl) (fun K hK => ?_) AllReadyH.nil
        go_simp
        go_at_call 9
        (with_reducible refine (HI2.out _ GQ.out).mono ?_)
        rintro e x49 ⟨v, rfl, hv, gx49⟩
        obtain ⟨q5f, q5a, q5b, q5c, q5d, q5e, q5g, q5h, q5i, q5j, rfl⟩ := nd_shape hv
        replace GQ := Lib.hid (gb_trans GQ.out gx49)
        replace Q0 := Lib.hid (Q0.out.keep0 gx49)
        replace Q1 := Lib.hid (Q1.out.keep0 gx49)
        replace Q2 := Lib.hid (Q2.out.keep0 gx49)
        replace Q3 := Lib.hid (Q3.out.keep0 gx49)
        replace Q4 := Lib.hid (Q4.out.keep0 gx49)
        try replace K7 := Lib.hid (K7.out.keep0 gx49)
        have Q5 := Lib.hid hv
        clear hv gx49
        refine hK.out _ _ (GQ.out) (fun hHeld => ?_)
        clear hK K
        try simp only [Act.put, List.setIfInBounds_toArray, List.set_cons_zero, List.set_cons_succ]
        refine wpAnyH_take (i := 20) (v := ?_) (List.getElem?_toArray.trans rfl) (by kernel_rfl) (by kernel_rfl) (by kernel_rfl) (fun _ _ _ h => h) (Or.inl ⟨by rfl, ?_⟩) hHeld ?_
        rotate_left
        · intro w' hSw; go_simp; try with_reducible rfl
        try simp only [Act.put, List.setIfInBounds_toArray, List.set_cons_zero, List.set_cons_succ]
        refine wpAnyH_ready (rs := [23]) (by kernel_rfl) (by simp) ?_
        refine AllReadyH.cons (List.getElem?_toArray.trans rfl) (fun K hK => ?_) AllReadyH.nil
        go_simp
        go_at_call 8
        (with_reducible refine (HL1.out _ GQ.out).mono ?_)
        rintro e x50 ⟨v, rfl, hv, gx50⟩
        obtain ⟨q6f, q6a, q6b, q6c, q6d, q6e, q6g, q6h, q6i, q6j, rfl⟩ := nd_shape hv
        replace GQ := Lib.hid (gb_trans GQ.out gx50)
        replace Q0 := Lib.hid (Q0.out.keep0 gx50)
        replace Q1 := Lib.hid (Q1.out.keep0 gx50)
        replace Q2 := Lib.hid (Q2.out.keep0 gx50)
        replace Q3 := Lib.hid (Q3.out.keep0 gx50)
        replace Q4 := Lib.hid (Q4.out.keep0 gx50)
        replace Q5 := Lib.hid (Q5.out.keep0 gx50)
        try replace K7 := Lib.hid (K7.out.keep0 gx50)
        have Q6 := Lib.hid hv
        clear hv gx50
        refine hK.out _ _ (GQ.out) (fun hHeld => ?_)
        clear hK K
        try simp only [Act.put, List.setIfInBounds_toArray, List.set_cons_zero, List.set_cons_succ]
        refine wpAnyH_ready (rs := [26]) (by kernel_rfl) (by simp) ?_
        refine AllReadyH.cons (List.getElem?_toArray.trans rfl) (fun K hK => ?_) AllReadyH.nil
        go_simp
        go_at_call 9
        (with_reducible refine (HI2.out _ GQ.out).mono ?_)
        rintro e x51 ⟨v, rfl, hv, gx51⟩
        obtain ⟨q7f, q7a, q7b, q7c, q7d, q7e, q7g, q7h, q7i, q7j, rfl⟩ := nd_shape hv
        replace GQ := Lib.hid (gb_trans GQ.out gx51)
        replace Q0 := Lib.hid (Q0.out.keep0 gx51)
        replace Q1 := Lib.hid (Q1.out.keep0 gx51)
        replace Q2 := Lib.hid (Q2.out.keep0 gx51)
        replace Q3 := Lib.hid (Q3.out.keep0 gx51)
        replace Q4 := Lib.hid (Q4.out.keep0 gx51)
        replace Q5 := Lib.hid (Q5.out.keep0 gx51)
        replace Q6 := Lib.hid (Q6.out.keep0 gx51)
        try replace K7 := Lib.hid (K7.out.keep0 gx51)
        have Q7 := Lib.hid hv
        clear hv gx51
        refine hK.out _ _ (GQ.out) (fun hHeld => ?_)
        clear hK K
        try simp only [Act.put, List.setIfInBounds_toArray, List.set_cons_zero, List.set_cons_succ]
        refine wpAnyH_take (i := 27) (v := ?_) (List.getElem?_toArray.trans rfl) (by kernel_rfl) (by kernel_rfl) (by kernel_rfl) (fun _ _ _ h => h) (Or.inl ⟨by rfl, ?_⟩) hHeld ?_
        rotate_left
        · intro w' hSw; go_simp; try with_reducible rfl
        try simp only [Act.put, List.setIfInBounds_toArray, List.set_cons_zero, List.set_cons_succ]
        refine wpAnyH_take (i := 28) (v := ?_) (List.getElem?_toArray.trans rfl) (by kernel_rfl) (by kernel_rfl) (by kernel_rfl) (fun _ _ _ h => h) (Or.inl ⟨by rfl, ?_⟩) hHeld ?_
        rotate_left
        · intro w' hSw; go_simp; try with_reducible rfl
        try simp only [Act.put, List.setIfInBounds_toArray, List.set_cons_zero, List.set_cons_succ]
        refine wpAnyH_ready (rs := [30]) (by kernel_rfl) (by simp) ?_
        refine AllReadyH.cons (List.getElem?_toArray.trans rfl) (fun K hK => ?_) AllReadyH.nil
        refine wp_store_mid 34 _ _ rfl b7 0 #[.bool q0f, .slice q0a q0b q0c, .slice q0d q0e q0g, .slice q0h q0i q0j, .bool q1f, .slice q1a q1b q1c, .slice q1d q1e q1g, .slice q1h q1i q1j, .bool q2f, .slice q2a q2b q2c, .slice q2d q2e q2g, .slice q2h q2i q2j, .bool q3f, .slice q3a q3b q3c, .slice q3d q3e q3g, .slice q3h q3i q3j, .bool q4f, .slice q4a q4b q4c, .slice q4d q4e q4g, .slice q4h q4i q4j, .bool q5f, .slice q5a q5b q5c, .slice q5d q5e q5g, .slice q5h q5i q5j, .bool q6f, .slice q6a q6b q6c, .slice q6d q6e q6g, .slice q6h q6i q6j, .bool q7f, .slice q7a q7b q7c, .slice q7d q7e q7g, .slice q7h q7i q7j] rfl rfl (K7.out.there (by rfl)) (by kernel_rfl) (by kernel_rfl) ?_
        obtain ⟨kS, gx52⟩ := quad_set K7.out (l := [.bool q0f, .slice q0a q0b q0c, .slice q0d q0e q0g, .slice q0h q0i q0j, .bool q1f, .slice q1a q1b q1c, .slice q1d q1e q1g, .slice q1h q1i q1j, .bool q2f, .slice q2a q2b q2c, .slice q2d q2e q2g, .slice q2h q2i q2j, .bool q3f, .slice q3a q3b q3c, .slice q3d q3e q3g, .slice q3h q3i q3j, .bool q4f, .slice q4a q4b q4c, .slice q4d q4e q4g, .slice q4h q4i q4j, .bool q5f, .slice q5a q5b q5c, .slice q5d q5e q5g, .slice q5h q5i q5j, .bool q6f, .slice q6a q6b q6c, .slice q6d q6e q6g, .slice q6h q6i q6j, .bool q7f, .slice q7a q7b q7c, .slice q7d q7e q7g, .slice q7h q7i q7j]) (by rfl)
        obtain ⟨x52, hD⟩ : ∃ z : World, z = x51.setCells b7 0 [.bool q0f, .slice q0a q0b q0c, .slice q0d q0e q0g, .slice q0h q0i q0j, .bool q1f, .slice q1a q1b q1c, .slice q1d q1e q1g, .slice q1h q1i q1j, .bool q2f, .slice q2a q2b q2c, .slice q2d q2e q2g, .slice q2h q2i q2j, .bool q3f, .slice q3a q3b q3c, .slice q3d q3e q3g, .slice q3h q3i q3j, .bool q4f, .slice q4a q4b q4c, .slice q4d q4e q4g, .slice q4h q4i q4j, .bool q5f, .slice q5a q5b q5c, .slice q5d q5e q5g, .slice q5h q5i q5j, .bool q6f, .slice q6a q6b q6c, .slice q6d q6e q6g, .slice q6h q6i q6j, .bool q7f, .slice q7a q7b q7c, .slice q7d q7e q7g, .slice q7h q7i q7j] := ⟨_, rfl⟩
        dsimp only [Act.put]
        rw [← hD]
        rw [← hD] at kS gx52
        clear hD
        have NB := Lib.hid (Nbl.of K7.out (by decide))
        replace GQ := Lib.hid (gb_step GQ.out gx52 hb7)
        replace Q0 := Lib.hid (Q0.out.keepN NB.out gx52)
        replace Q1 := Lib.hid (Q1.out.keepN NB.out gx52)
        replace Q2 := Lib.hid (Q2.out.keepN NB.out gx52)
        replace Q3 := Lib.hid (Q3.out.keepN NB.out gx52)
        replace Q4 := Lib.hid (Q4.out.keepN NB.out gx52)
        replace Q5 := Lib.hid (Q5.out.keepN NB.out gx52)
        replace Q6 := Lib.hid (Q6.out.keepN NB.out gx52)
        replace Q7 := Lib.hid (Q7.out.keepN NB.out gx52)
        clear K7 NB gx52
        have K7 := Lib.hid kS
        clear kS
        refine hK.out _ _ (GQ.out) (fun hHeld => ?_)
        clear hK K
        try simp only [Act.put, List.setIfInBounds_toArray, List.set_cons_zero, List.set_cons_succ]
        refine wpAnyH_done (by kernel_rfl) ?_ _
        refine NoPanic.normal ?_
        go_wp2_with fail
        go_meet
        case rel => exact ⟨b7, rfl, pairs_of K7.out Q0.out Q1.out Q2.out Q3.out Q4.out Q5.out Q6.out Q7.out, gb_trans HG.out GQ.out⟩
    · go_simp
      obtain ⟨x53, hC, kC, gx53, hzz⟩ := new1 wd 34 #[Value.bool false, .slice none 0 0, .slice none 0 0, .slice none 0 0, Value.bool false, .slice none 0 0, .slice none 0 0, .slice none 0 0, Value.bool false, .slice none 0 0, .slice none 0 0, .slice none 0 0, Value.bool false, .slice none 0 0, .slice none 0 0, .slice none 0 0, Value.bool false, .slice none 0 0, .slice none 0 0, .slice none 0 0, Value.bool false, .slice none 0 0, .slice none 0 0, .slice none 0 0, Value.bool false, .slice none 0 0, .slice none 0 0, .slice none 0 0, Value.bool false, .slice none 0 0, .slice none 0 0, .slice none 0 0]
      rw [← hC]
      clear hC hzz
      have hb7 : w0.heap.size ≤ wd.heap.size := GQ.out.size
      replace GQ := Lib.hid (gb_trans GQ.out gx53)
      try replace Q0 := Lib.hid (Q0.out.keep0 gx53)
      try replace Q1 := Lib.hid (Q1.out.keep0 gx53)
      try replace Q2 := Lib.hid (Q2.out.keep0 gx53)
      try replace Q3 := Lib.hid (Q3.out.keep0 gx53)
      try replace Q4 := Lib.hid (Q4.out.keep0 gx53)
      try replace Q5 := Lib.hid (Q5.out.keep0 gx53)
      try replace Q6 := Lib.hid (Q6.out.keep0 gx53)
      try replace Q7 := Lib.hid (Q7.out.keep0 gx53)
      generalize wd.heap.size = b7 at kC hb7 ⊢
      have K7 := Lib.hid kC
      clear kC gx53
      refine hK.out _ _ (GQ.out) (fun hHeld => ?_)
      clear hK K
      try simp only [Act.put, List.setIfInBounds_toArray, List.set_cons_zero, List.set_cons_succ]
      refine wpAnyH_ready (rs := [2]) (by kernel_rfl) (by simp) ?_
      refine AllReadyH.cons (List.getElem?_toArray.trans rfl) (fun K hK => ?_) AllReadyH.nil
      go_simp
      go_at_call 7
      (with_reducible refine (HF1.out _ GQ.out).mono ?_)
      rintro e x54 ⟨v, rfl, hv, gx54⟩
      obtain ⟨q0f, q0a, q0b, q0c, q0d, q0e, q0g, q0h, q0i, q0j, rfl⟩ := nd_shape hv
      replace GQ := Lib.hid (gb_trans GQ.out gx54)
      try replace K7 := Lib.hid (K7.out.keep0 gx54)
      have Q0 := Lib.hid hv
      clear hv gx54
      refine hK.out _ _ (GQ.out) (fun hHeld => ?_)
      clear hK K
      try simp only [Act.put, List.setIfInBounds_toArray, List.set_cons_zero, List.set_cons_succ]
      refine wpAnyH_ready (rs := [5]) (by kernel_rfl) (by simp) ?_
      refine AllReadyH.cons (List.getElem?_toArray.trans rfl) (fun K hK => ?_) AllReadyH.nil
      go_simp
      go_at_call 7
      (with_reducible refine (HF2.out _ GQ.out).mono ?_)
      rintro e x55 ⟨v, rfl, hv, gx55⟩
      obtain ⟨q1f, q1a, q1b, q1c, q1d, q1e, q1g, q1h, q1i, q1j, rfl⟩ := nd_shape hv
      replace GQ := Lib.hid (gb_trans GQ.out gx55)
      replace Q0 := Lib.hid (Q0.out.keep0 gx55)
      try replace K7 := Lib.hid (K7.out.keep0 gx55)
      have Q1 := Lib.hid hv
      clear hv gx55
      refine hK.out _ _ (GQ.out) (fun hHeld => ?_)
      clear hK K
      try simp only [Act.put, List.setIfInBounds_toArray, List.set_cons_zero, List.set_cons_succ]
      refine wpAnyH_take (i := 6) (v := ?_) (List.getElem?_toArray.trans rfl) (by kernel_rfl) (by kernel_rfl) (by kernel_rfl) (fun _ _ _ h => h) (Or.inl ⟨by rfl, ?_⟩) hHeld ?_
      rotate_left
      · intro w' hSw; go_simp; try with_reducible rfl
      try simp only [Act.put, List.setIfInBounds_toArray, List.set_cons_zero, List.set_cons_succ]
      refine wpAnyH_ready (rs := [9]) (by kernel_rfl) (by simp) ?_
      refine AllReadyH.cons (List.getElem?_toArray.trans rfl) (fun K hK => ?_) AllReadyH.nil
      go_simp
      go_at_call 8
      (with_reducible refine (HL1.out _ GQ.out).mono ?_)
      rintro e x56 ⟨v, rfl, hv, gx56⟩
      obtain ⟨q2f, q2a, q2b, q2c, q2d, q2e, q2g, q2h, q2i, q2j, rfl⟩ := nd_shape hv
      replace GQ := Lib.hid (gb_trans GQ.out gx56)
      replace Q0 := Lib.hid (Q0.out.keep0 gx56)
      replace Q1 := Lib.hid (Q1.out.keep0 gx56)
      try replace K7 := Lib.hid (K7.out.keep0 gx56)
      have Q2 := Lib.hid hv
      clear hv gx56
      refine hK.out _ _ (GQ.out) (fun hHeld => ?_)
      clear hK K
      try simp only [Act.put, List.setIfInBounds_toArray, List.set_cons_zero, List.set_cons_succ]
      refine wpAnyH_ready (rs := [12]) (by kernel_rfl) (by simp) ?_
      refine AllReadyH.cons (List.getElem?_toArray.trans rfl) (fun K hK => ?_) AllReadyH.nil
      go_simp
      go_at_call 8
      (with_reducible refine (HL2.out _ GQ.out).mono ?_)
      rintro e x57 ⟨v, rfl, hv, gx57⟩
      obtain ⟨q3f, q3a, q3b, q3c, q3d, q3e, q3g, q3h, q3i, q3j, rfl⟩ := nd_shape hv
      replace GQ := Lib.hid (gb_trans GQ.out gx57)
      replace Q0 := Lib.hid (Q0.out.keep0 gx57)
      replace Q1 := Lib.hid (Q1.out.keep0 gx57)
      replace Q2 := Lib.hid (Q2.out.keep0 gx57)
      try replace K7 := Lib.hid (K7.out.keep0 gx57)
      have Q3 := Lib.hid hv
      clear hv gx57
      refine hK.out _ _ (GQ.out) (fun hHeld => ?_)
      clear hK K
      try simp only [Act.put, List.setIfInBounds_toArray, List.set_cons_zero, List.set_cons_succ]
      refine wpAnyH_take (i := 13) (v := ?_) (List.getElem?_toArray.trans rfl) (by kernel_rfl) (by kernel_rfl) (by kernel_rfl) (fun _ _ _ h => h) (Or.inl ⟨by rfl, ?_⟩) hHeld ?_
      rotate_left
      · intro w' hSw; go_simp; try with_reducible rfl
      try simp only [Act.put, List.setIfInBounds_toArray, List.set_cons_zero, List.set_cons_succ]
      refine wpAnyH_ready (rs := [16]) (by kernel_rfl) (by simp) ?_
      refine AllReadyH.cons (List.getElem?_toArray.trans rfl) (fun K hK => ?_) AllReadyH.nil
      go_simp
      go_at_call 9
      (with_reducible refine (HI1.out _ GQ.out).mono ?_)
      rintro e x58 ⟨v, rfl, hv, gx58⟩
      obtain ⟨q4f, q4a, q4b, q4c, q4d, q4e, q4g, q4h, q4i, q4j, rfl⟩ := nd_shape hv
      replace GQ := Lib.hid (gb_trans GQ.out gx58)
      replace Q0 := Lib.hid (Q0.out.keep0 gx58)
      replace Q1 := Lib.hid (Q1.out.keep0 gx58)
      replace Q2 := Lib.hid (Q2.out.keep0 gx58)
      replace Q3 := Lib.hid (Q3.out.keep0 gx58)
      try replace K7 := Lib.hid (K7.out.keep0 gx58)
      have Q4 := Lib.hid hv
      clear hv gx58
      refine hK.out _ _ (GQ.out) (fun hHeld => ?_)
      clear hK K
      try simp only [Act.put, List.setIfInBounds_toArray, List.set_cons_zero, List.set_cons_succ]
      refine wpAnyH_ready (rs := [19]) (by kernel_rfl) (by simp) ?_
      refine AllReadyH.cons (List.getElem?_toArray.trans rfl) (fun K hK => ?_) AllReadyH.nil
      go_simp
      go_at_call 9
      (with_reducible refine (HI2.out _ GQ.out).mono ?_)
      rintro e x59 ⟨v, rfl, hv, gx59⟩
      obtain ⟨q5f, q5a, q5b, q5c, q5d, q5e, q5g, q5h, q5i, q5j, rfl⟩ := nd_shape hv
      replace GQ := Lib.hid (gb_trans GQ.out gx59)
      replace Q0 := Lib.hid (Q0.out.keep0 gx59)
      replace Q1 := Lib.hid (Q1.out.keep0 gx59)
      replace Q2 := Lib.hid (Q2.out.keep0 gx59)
      replace Q3 := Lib.hid (Q3.out.keep0 gx59)
      replace Q4 := Lib.hid (Q4.out.keep0 gx59)
      try replace K7 := Lib.hid (K7.out.keep0 gx59)
      have Q5 := Lib.hid hv
      clear hv gx59
      refine hK.out _ _ (GQ.out) (fun hHeld => ?_)
      clear hK K
      try simp only [Act.put, List.setIfInBounds_toArray, List.set_cons_zero, List.set_cons_succ]
      refine wpAnyH_take (i := 20) (v := ?_) (List.getElem?_toArray.trans rfl) (by kernel_rfl) (by kernel_rfl) (by kernel_rfl) (fun _ _ _ h => h) (Or.inl ⟨by rfl, ?_⟩) hHeld ?_
      rotate_left
      · intro w' hSw; go_simp; try with_reducible rfl
      try simp only [Act.put, List.setIfInBounds_toArray, List.set_cons_zero, List.set_cons_succ]
      refine wpAnyH_ready (rs := [23]) (by kernel_rfl) (by simp) ?_
      refine AllReadyH.cons (List.getElem?_toArray.trans rfl) (fun K hK => ?_) AllReadyH.nil
      go_simp
      go_at_call 8
      (with_reducible refine (HL1.out _ GQ.out).mono ?_)
      rintro e x60 ⟨v, rfl, hv, gx60⟩
      obtain ⟨q6f, q6a, q6b, q6c, q6d, q6e, q6g, q6h, q6i, q6j, rfl⟩ := nd_shape hv
      replace GQ := Lib.hid (gb_trans GQ.out gx60)
      replace Q0 := Lib.hid (Q0.out.keep0 gx60)
      replace Q1 := Lib.hid (Q1.out.keep0 gx60)
      replace Q2 := Lib.hid (Q2.out.keep0 gx60)
      replace Q3 := Lib.hid (Q3.out.keep0 gx60)
      replace Q4 := Lib.hid (Q4.out.keep0 gx60)
      replace Q5 := Lib.hid (Q5.out.keep0 gx60)
      try replace K7 := Lib.hid (K7.out.keep0 gx60)
      have Q6 := Lib.hid hv
      clear hv gx60
      refine hK.out _ _ (GQ.out) (fun hHeld => ?_)
      clear hK K
      try simp only [Act.put, List.setIfInBounds_toArray, List.set_cons_zero, List.set_cons_succ]
      refine wpAnyH_ready (rs := [26]) (by kernel_rfl) (by simp) ?_
      refine AllReadyH.cons (List.getElem?_toArray.trans rfl) (fun K hK => ?_) AllReadyH.nil
      go_simp
      go_at_call 9
      (with_reducible refine (HI2.out _ GQ.out).mono ?_)
      rintro e x61 ⟨v, rfl, hv, gx61⟩
      obtain ⟨q7f, q7a, q7b, q7c, q7d, q7e, q7g, q7h, q7i, q7j, rfl⟩ := nd_shape hv
      replace GQ := Lib.hid (gb_trans GQ.out gx61)
      replace Q0 := Lib.hid (Q0.out.keep0 gx61)
      replace Q1 := Lib.hid (Q1.out.keep0 gx61)
      replace Q2 := Lib.hid (Q2.out.keep0 gx61)
      replace Q3 := Lib.hid (Q3.out.keep0 gx61)
      replace Q4 := Lib.hid (Q4.out.keep0 gx61)
      replace Q5 := Lib.hid (Q5.out.keep0 gx61)
      replace Q6 := Lib.hid (Q6.out.keep0 gx61)
      try replace K7 := Lib.hid (K7.out.keep0 gx61)
      have Q7 := Lib.hid hv
      clear hv gx61
      refine hK.out _ _ (GQ.out) (fun hHeld => ?_)
      clear hK K
      try simp only [Act.put, List.setIfInBounds_toArray, List.set_cons_zero, List.set_cons_succ]
      refine wpAnyH_take (i := 27) (v := ?_) (List.getElem?_toArray.trans rfl) (by kernel_rfl) (by kernel_rfl) (by kernel_rfl) (fun _ _ _ h => h) (Or.inl ⟨by rfl, ?_⟩) hHeld ?_
      rotate_left
      · intro w' hSw; go_simp; try with_reducible rfl
      try simp only [Act.put, List.setIfInBounds_toArray, List.set_cons_zero, List.set_cons_succ]
      refine wpAnyH_take (i := 28) (v := ?_) (List.getElem?_toArray.trans rfl) (by kernel_rfl) (by kernel_rfl) (by kernel_rfl) (fun _ _ _ h => h) (Or.inl ⟨by rfl, ?_⟩) hHeld ?_
      rotate_left
      · intro w' hSw; go_simp; try with_reducible rfl
      try simp only [Act.put, List.setIfInBounds_toArray, List.set_cons_zero, List.set_cons_succ]
      refine wpAnyH_ready (rs := [30]) (by kernel_rfl) (by simp) ?_
      refine AllReadyH.cons (List.getElem?_toArray.trans rfl) (fun K hK => ?_) AllReadyH.nil
      refine wp_store_mid 34 _ _ rfl b7 0 #[.bool q0f, .slice q0a q0b q0c, .slice q0d q0e q0g, .slice q0h q0i q0j, .bool q1f, .slice q1a q1b q1c, .slice q1d q1e q1g, .slice q1h q1i q1j, .bool q2f, .slice q2a q2b q2c, .slice q2d q2e q2g, .slice q2h q2i q2j, .bool q3f, .slice q3a q3b q3c, .slice q3d q3e q3g, .slice q3h q3i q3j, .bool q4f, .slice q4a q4b q4c, .slice q4d q4e q4g, .slice q4h q4i q4j, .bool q5f, .slice q5a q5b q5c, .slice q5d q5e q5g, .slice q5h q5i q5j, .bool q6f, .slice q6a q6b q6c, .slice q6d q6e q6g, .slice q6h q6i q6j, .bool q7f, .slice q7a q7b q7c, .slice q7d q7e q7g, .slice q7h q7i q7j] rfl rfl (K7.out.there (by rfl)) (by kernel_rfl) (by kernel_rfl) ?_
      obtain ⟨kS, gx62⟩ := quad_set K7.out (l := [.bool q0f, .slice q0a q0b q0c, .slice q0d q0e q0g, .slice q0h q0i q0j, .bool q1f, .slice q1a q1b q1c, .slice q1d q1e q1g, .slice q1h q1i q1j, .bool q2f, .slice q2a q2b q2c, .slice q2d q2e q2g, .slice q2h q2i q2j, .bool q3f, .slice q3a q3b q3c, .slice q3d q3e q3g, .slice q3h q3i q3j, .bool q4f, .slice q4a q4b q4c, .slice q4d q4e q4g, .slice q4h q4i q4j, .bool q5f, .slice q5a q5b q5c, .slice q5d q5e q5g, .slice q5h q5i q5j, .bool q6f, .slice q6a q6b q6c, .slice q6d q6e q6g, .slice q6h q6i q6j, .bool q7f, .slice q7a q7b q7c, .slice q7d q7e q7g, .slice q7h q7i q7j]) (by rfl)
      obtain ⟨x62, hD⟩ : ∃ z : World, z = x61.setCells b7 0 [.bool q0f, .slice q0a q0b q0c, .slice q0d q0e q0g, .slice q0h q0i q0j, .bool q1f, .slice q1a q1b q1c, .slice q1d q1e q1g, .slice q1h q1i q1j, .bool q2f, .slice q2a q2b q2c, .slice q2d q2e q2g, .slice q2h q2i q2j, .bool q3f, .slice q3a q3b q3c, .slice q3d q3e q3g, .slice q3h q3i q3j, .bool q4f, .slice q4a q4b q4c, .slice q4d q4e q4g, .slice q4h q4i q4j, .bool q5f, .slice q5a q5b q5c, .slice q5d q5e q5g, .slice q5h q5i q5j, .bool q6f, .slice q6a q6b q6c, .slice q6d q6e q6g, .slice q6h q6i q6j, .bool q7f, .slice q7a q7b q7c, .slice q7d q7e q7g, .slice q7h q7i q7j] := ⟨_, rfl⟩
      dsimp only [Act.put]
      rw [← hD]
      rw [← hD] at kS gx62
      clear hD
      have NB := Lib.hid (Nbl.of K7.out (by decide))
      replace GQ := Lib.hid (gb_step GQ.out gx62 hb7)
      replace Q0 := Lib.hid (Q0.out.keepN NB.out gx62)
      replace Q1 := Lib.hid (Q1.out.keepN NB.out gx62)
      replace Q2 := Lib.hid (Q2.out.keepN NB.out gx62)
      replace Q3 := Lib.hid (Q3.out.keepN NB.out gx62)
      replace Q4 := Lib.hid (Q4.out.keepN NB.out gx62)
      replace Q5 := Lib.hid (Q5.out.keepN NB.out gx62)
      replace Q6 := Lib.hid (Q6.out.keepN NB.out gx62)
      replace Q7 := Lib.hid (Q7.out.keepN NB.out gx62)
      clear K7 NB gx62
      have K7 := Lib.hid kS
      clear kS
      refine hK.out _ _ (GQ.out) (fun hHeld => ?_)
      clear hK K
      try simp only [Act.put, List.setIfInBounds_toArray, List.set_cons_zero, List.set_cons_succ]
      refine wpAnyH_done (by kernel_rfl) ?_ _
      refine NoPanic.normal ?_
      go_wp2_with fail
      go_meet
      case rel => exact ⟨b7, rfl, pairs_of K7.out Q0.out Q1.out Q2.out Q3.out Q4.out Q5.out Q6.out Q7.out, gb_trans HG.out GQ.out⟩
  case rest =>
    clear HF1 HF2 HL1 HL2 HI1 HI2 HG HW l0 l1 l2 l3 l4 l5 l6 l7 m0 m1 m2 m3
    obtain ⟨b7, rfl, hP, hg⟩ := hcut
    go_wp2
    go_loopw [8] (fun z wr => ∃ i : Nat, i ≤ 4 ∧ z = .int .i64 (i : Nat) ∧ Hid (PairsAt wr b7 [(fewN A1, fewN A2), (leafM h1 L1, leafM h2 L2), (innerM h1 L1, innerM h2 L2), (leafM h1 L1, innerM h2 L2)]) ∧ w.grownBy wr none) (fun z _ => 4 - (intOf z).toNat)
    case atStart => exact ⟨0, by omega, rfl, Lib.hid hP, hg⟩
    case round =>
      clear hP hg
      obtain ⟨i, hi4, rfl, HPA, hg⟩ := hrel
      by_cases hi : i < 4
      · obtain ⟨x, hx⟩ : ∃ x, [(fewN A1, fewN A2), (leafM h1 L1, leafM h2 L2), (innerM h1 L1, innerM h2 L2), (leafM h1 L1, innerM h2 L2)][i]? = some x := ⟨_, List.getElem?_eq_getElem (by simpa using hi)⟩
        have HH := Lib.hid (pairs_half A1 A2 h1 h2 L1 L2 i x hx)
        have HX := Lib.hid hx
        have HJ := Lib.hid (fun W v u (hv : NdV W v x.1) (hu : NdV W u x.2) => (join_any v u x.1 x.2 key W hv hu HH.out.1 HH.out.2).mono fun e w' q => join_open q)
        have HK := Lib.hid (fun W v u (hv : NdV W v x.1) (hu : NdV W u x.2) => (refJoin_any v u x.1 x.2 key W hv hu HH.out.1 HH.out.2).mono fun e w' q => join_open q)
        have HLIM := Lib.hid (joinO_lim key HH.out.1 HH.out.2)
        clear hx hi4
        unfold JoinOpen at HJ HK
        have hiz : (i : Int) < 4 := by omega
        have hi0 : (0 : Int) ≤ i := by omega
        go_upto_region 5 with fail
        go_cut [9, 10] (fun s1 s2 wx => ∃ b9 : Nat, s1 = .pointer (some ⟨b9, 0, none⟩) ∧ s2 = .bool (joinB x.1 x.2 key) ∧ NAx wx b9 (joinO x.1 x.2 key) ∧ wr.grownBy wx none)
        case first =>
          obtain ⟨q0f, q0a, q0b, q0c, q0d, q0e, q0g, q0h, q0i, q0j, q1f, q1a, q1b, q1c, q1d, q1e, q1g, q1h, q1i, q1j, h0, hA, hB⟩ := HPA.out i x HX.out
          have VA := Lib.hid hA
          have VB := Lib.hid hB
          have GQ := Lib.hid (gb_drew wr none)
          have e0 : wr.cell? ⟨b7, i * 8, none⟩ = some (.bool q0f) := h0 0 _ rfl
          have e1 : wr.cell? ⟨b7, i * 8 + 1, none⟩ = some (.slice q0a q0b q0c) := h0 1 _ rfl
          have e2 : wr.cell? ⟨b7, i * 8 + 2, none⟩ = some (.slice q0d q0e q0g) := h0 2 _ rfl
          have e3 : wr.cell? ⟨b7, i * 8 + 3, none⟩ = some (.slice q0h q0i q0j) := h0 3 _ rfl
          have e4 : wr.cell? ⟨b7, i * 8 + 4, none⟩ = some (.bool q1f) := h0 4 _ rfl
          have e5 : wr.cell? ⟨b7, i * 8 + 4 + 1, none⟩ = some (.slice q1a q1b q1c) := h0 5 _ rfl
          have e6 : wr.cell? ⟨b7, i * 8 + 4 + 2, none⟩ = some (.slice q1d q1e q1g) := h0 6 _ rfl
          have e7 : wr.cell? ⟨b7, i * 8 + 4 + 3, none⟩ = some (.slice q1h q1i q1j) := h0 7 _ rfl
          clear h0 hA hB
          refine wp_region_noPanic ?_
          refine wp_region_held_drew (S := fun w' => wr.grownBy w' none) (by kernel_rfl) (gb_drew _ _) (fun hHeld => ?_)
          generalize wr.drew = wd at GQ hHeld ⊢
          refine wpAnyH_take (i := 0) (v := ?_) (List.getElem?_toArray.trans rfl) (by kernel_rfl) (by kernel_rfl) (by kernel_rfl) (fun _ _ _ h => h) (Or.inl ⟨by rfl, ?_⟩) hHeld ?_
          rotate_left
          · intro w' hSw; have y0 := hSw.cell e0 (by simp); have y1 := hSw.cell e1 (by simp); have y2 := hSw.cell e2 (by simp); have y3 := hSw.cell e3 (by simp); have y4 := hSw.cell e4 (by simp); have y5 := hSw.cell e5 (by simp); have y6 := hSw.cell e6 (by simp); have y7 := hSw.cell e7 (by simp); go_simp; try with_reducible rfl
          try simp only [Act.put, List.setIfInBounds_toArray, List.set_cons_zero, List.set_cons_succ]
          refine wpAnyH_take (i := 1) (v := ?_) (List.getElem?_toArray.trans rfl) (by kernel_rfl) (by kernel_rfl) (by kernel_rfl) (fun _ _ _ h => h) (Or.inl ⟨by rfl, ?_⟩) hHeld ?_
          rotate_left
          · intro w' hSw; have y0 := hSw.cell e0 (by simp); have y1 := hSw.cell e1 (by simp); have y2 := hSw.cell e2 (by simp); have y3 := hSw.cell e3 (by simp); have y4 := hSw.cell e4 (by simp); have y5 := hSw.cell e5 (by simp); have y6 := hSw.cell e6 (by simp); have y7 := hSw.cell e7 (by simp); go_simp; try with_reducible rfl
          try simp only [Act.put, List.setIfInBounds_toArray, List.set_cons_zero, List.set_cons_succ]
          refine wpAnyH_take (i := 2) (v := ?_) (List.getElem?_toArray.trans rfl) (by kernel_rfl) (by kernel_rfl) (by kernel_rfl) (fun _ _ _ h => h) (Or.inl ⟨by rfl, ?_⟩) hHeld ?_
          rotate_left
          · intro w' hSw; have y0 := hSw.cell e0 (by simp); have y1 := hSw.cell e1 (by simp); have y2 := hSw.cell e2 (by simp); have y3 := hSw.cell e3 (by simp); have y4 := hSw.cell e4 (by simp); have y5 := hSw.cell e5 (by simp); have y6 := hSw.cell e6 (by simp); have y7 := hSw.cell e7 (by simp); go_simp; try with_reducible rfl
          try simp only [Act.put, List.setIfInBounds_toArray, List.set_cons_zero, List.set_cons_succ]
          refine wpAnyH_take (i := 3) (v := ?_) (List.getElem?_toArray.trans rfl) (by kernel_rfl) (by kernel_rfl) (by kernel_rfl) (fun _ _ _ h => h) (Or.inl ⟨by rfl, ?_⟩) hHeld ?_
          rotate_left
          · intro w' hSw; have y0 := hSw.cell e0 (by simp); have y1 := hSw.cell e1 (by simp); have y2 := hSw.cell e2 (by simp); have y3 := hSw.cell e3 (by simp); have y4 := hSw.cell e4 (by simp); have y5 := hSw.cell e5 (by simp); have y6 := hSw.cell e6 (by simp); have y7 := hSw.cell e7 (by simp); go_simp; try with_reducible rfl
          try simp only [Act.put, List.setIfInBounds_toArray, List.set_cons_zero, List.set_cons_succ]
          refine wpAnyH_take (i := 4) (v := ?_) (List.getElem?_toArray.trans rfl) (by kernel_rfl) (by kernel_rfl) (by kernel_rfl) (fun _ _ _ h => h) (Or.inl ⟨by rfl, ?_⟩) hHeld ?_
          rotate_left
          · intro w' hSw; have y0 := hSw.cell e0 (by simp); have y1 := hSw.cell e1 (by simp); have y2 := hSw.cell e2 (by simp); have y3 := hSw.cell e3 (by simp); have y4 := hSw.cell e4 (by simp); have y5 := hSw.cell e5 (by simp); have y6 := hSw.cell e6 (by simp); have y7 := hSw.cell e7 (by simp); go_simp; try with_reducible rfl
          try simp only [Act.put, List.setIfInBounds_toArray, List.set_cons_zero, List.set_cons_succ]
          refine wpAnyH_take (i := 5) (v := ?_) (List.getElem?_toArray.trans rfl) (by kernel_rfl) (by kernel_rfl) (by kernel_rfl) (fun _ _ _ h => h) (Or.inl ⟨by rfl, ?_⟩) hHeld ?_
          rotate_left
          · intro w' hSw; have y0 := hSw.cell e0 (by simp); have y1 := hSw.cell e1 (by simp); have y2 := hSw.cell e2 (by simp); have y3 := hSw.cell e3 (by simp); have y4 := hSw.cell e4 (by simp); have y5 := hSw.cell e5 (by simp); have y6 := hSw.cell e6 (by simp); have y7 := hSw.cell e7 (by simp); go_simp; try with_reducible rfl
          try simp only [Act.put, List.setIfInBounds_toArray, List.set_cons_zero, List.set_cons_succ]
          refine wpAnyH_take (i := 6) (v := ?_) (List.getElem?_toArray.trans rfl) (by kernel_rfl) (by kernel_rfl) (by kernel_rfl) (fun _ _ _ h => h) (Or.inl ⟨by rfl, ?_⟩) hHeld ?_
          rotate_left
          · intro w' hSw; have y0 := hSw.cell e0 (by simp); have y1 := hSw.cell e1 (by simp); have y2 := hSw.cell e2 (by simp); have y3 := hSw.cell e3 (by simp); have y4 := hSw.cell e4 (by simp); have y5 := hSw.cell e5 (by simp); have y6 := hSw.cell e6 (by simp); have y7 := hSw.cell e7 (by simp); go_simp; try with_reducible rfl
          try simp only [Act.put, List.setIfInBounds_toArray, List.set_cons_zero, List.set_cons_succ]
          refine wpAnyH_take (i := 7) (v := ?_) (List.getElem?_toArray.trans rfl) (by kernel_rfl) (by kernel_rfl) (by kernel_rfl) (fun _ _ _ h => h) (Or.inl ⟨by rfl, ?_⟩) hHeld ?_
          rotate_left
          · intro w' hSw; have y0 := hSw.cell e0 (by simp); have y1 := hSw.cell e1 (by simp); have y2 := hSw.cell e2 (by simp); have y3 := hSw.cell e3 (by simp); have y4 := hSw.cell e4 (by simp); have y5 := hSw.cell e5 (by simp); have y6 := hSw.cell e6 (by simp); have y7 := hSw.cell e7 (by simp); go_simp; try with_reducible rfl
          try simp only [Act.put, List.setIfInBounds_toArray, List.set_cons_zero, List.set_cons_succ]
          refine wpAnyH_take (i := 8) (v := ?_) (List.getElem?_toArray.trans rfl) (by kernel_rfl) (by kernel_rfl) (by kernel_rfl) (fun _ _ _ h => h) (Or.inl ⟨by rfl, ?_⟩) hHeld ?_
          rotate_left
          · intro w' hSw; have y0 := hSw.cell e0 (by simp); have y1 := hSw.cell e1 (by simp); have y2 := hSw.cell e2 (by simp); have y3 := hSw.cell e3 (by simp); have y4 := hSw.cell e4 (by simp); have y5 := hSw.cell e5 (by simp); have y6 := hSw.cell e6 (by simp); have y7 := hSw.cell e7 (by simp); go_simp; try with_reducible rfl
          try simp only [Act.put, List.setIfInBounds_toArray, List.set_cons_zero, List.set_cons_succ]
          refine wpAnyH_ready (rs := [9, 13]) (by kernel_rfl) (by simp) ?_
          refine AllReadyH.cons (List.getElem?_toArray.trans rfl) (fun K hK => ?_) (AllReadyH.cons (List.getElem?_toArray.trans rfl) (fun K hK => ?_) AllReadyH.nil)
          · go_simp
            go_at_call 10
            (with_reducible refine (HJ.out _ _ _ (VA.out.keep0 GQ.out) (VB.out.keep0 GQ.out)).mono ?_)
            rintro e x1 ⟨r0f, r0a, r0b, r0c, r0d, r0e, r0g, r0h, r0i, r0j, rfl, hv, gx1⟩
            replace GQ := Lib.hid (gb_trans GQ.out gx1)
            try replace K9 := Lib.hid (K9.out.keep0 gx1)
            have VJ := Lib.hid hv
            clear hv gx1
            refine hK.out _ _ (GQ.out) (fun hHeld => ?_)
            clear hK K
            try simp only [Act.put, List.setIfInBounds_toArray, List.set_cons_zero, List.set_cons_succ]
            refine wpAnyH_take (i := 10) (v := ?_) (List.getElem?_toArray.trans rfl) (by kernel_rfl) (by kernel_rfl) (by kernel_rfl) (fun _ _ _ h => h) (Or.inl ⟨by rfl, ?_⟩) hHeld ?_
            rotate_left
            · intro w' hSw; go_simp; try with_reducible rfl
            try simp only [Act.put, List.setIfInBounds_toArray, List.set_cons_zero, List.set_cons_succ]
            refine wpAnyH_take (i := 11) (v := ?_) (List.getElem?_toArray.trans rfl) (by kernel_rfl) (by kernel_rfl) (by kernel_rfl) (fun _ _ _ h => h) (Or.inl ⟨by rfl, ?_⟩) hHeld ?_
            rotate_left
            · intro w' hSw; go_simp; try with_reducible rfl
            try simp only [Act.put, List.setIfInBounds_toArray, List.set_cons_zero, List.set_cons_succ]
            refine wpAnyH_take (i := 12) (v := ?_) (List.getElem?_toArray.trans rfl) (by kernel_rfl) (by kernel_rfl) (by kernel_rfl) (fun _ _ _ h => h) (Or.inl ⟨by rfl, ?_⟩) hHeld ?_
            rotate_left
            · intro w' hSw; go_simp; try with_reducible rfl
            try simp only [Act.put, List.setIfInBounds_toArray, List.set_cons_zero, List.set_cons_succ]
            refine wpAnyH_ready (rs := [13]) (by kernel_rfl) (by simp) ?_
            refine AllReadyH.cons (List.getElem?_toArray.trans rfl) (fun K hK => ?_) AllReadyH.nil
            go_simp
            obtain ⟨x2, hC, kC, gx2, hzz⟩ := new1 x1 26 #[.bool false, .slice none 0 0, .slice none 0 0, .slice none 0 0]
            rw [← hC]
            clear hC hzz
            have hb9 : wr.heap.size ≤ x1.heap.size := GQ.out.size
            replace GQ := Lib.hid (gb_trans GQ.out gx2)
            try replace VJ := Lib.hid (VJ.out.keep0 gx2)
            generalize x1.heap.size = b9 at kC hb9 ⊢
            have K9 := Lib.hid kC
            clear kC gx2
            refine hK.out _ _ (GQ.out) (fun hHeld => ?_)
            clear hK K
            try simp only [Act.put, List.setIfInBounds_toArray, List.set_cons_zero, List.set_cons_succ]
            refine wpAnyH_ready (rs := [14]) (by kernel_rfl) (by simp) ?_
            refine AllReadyH.cons (List.getElem?_toArray.trans rfl) (fun K hK => ?_) AllReadyH.nil
            refine wp_store_mid 26 _ _ rfl b9 0 #[.bool r0f, .slice r0a r0b r0c, .slice r0d r0e r0g, .slice r0h r0i r0j] rfl rfl (K9.out.there (by rfl)) (by kernel_rfl) (by kernel_rfl) ?_
            obtain ⟨kS, gx3⟩ := quad_set K9.out (l := [.bool r0f, .slice r0a r0b r0c, .slice r0d r0e r0g, .slice r0h r0i r0j]) (by rfl)
            obtain ⟨x3, hD⟩ : ∃ z : World, z = x2.setCells b9 0 [.bool r0f, .slice r0a r0b r0c, .slice r0d r0e r0g, .slice r0h r0i r0j] := ⟨_, rfl⟩
            dsimp only [Act.put]
            rw [← hD]
            rw [← hD] at kS gx3
            clear hD
            replace VJ := Lib.hid (VJ.out.keepN (Nbl.node K9.out) gx3)
            replace GQ := Lib.hid (gb_step GQ.out gx3 hb9)
            clear K9 gx3
            have K9 := Lib.hid kS
            clear kS
            refine hK.out _ _ (GQ.out) (fun hHeld => ?_)
            clear hK K
            try simp only [Act.put, List.setIfInBounds_toArray, List.set_cons_zero, List.set_cons_succ]
            refine wpAnyH_take (i := 15) (v := ?_) (List.getElem?_toArray.trans rfl) (by kernel_rfl) (by kernel_rfl) (by kernel_rfl) (fun _ _ _ h => h) (Or.inl ⟨by rfl, ?_⟩) hHeld ?_
            rotate_left
            · intro w' hSw; go_simp; try with_reducible rfl
            try simp only [Act.put, List.setIfInBounds_toArray, List.set_cons_zero, List.set_cons_succ]
            refine wpAnyH_done (by kernel_rfl) ?_ _
            refine NoPanic.normal ?_
            go_wp2_with fail
            go_meet
            case rel => exact ⟨b9, rfl, rfl, ⟨_, _, _, _, _, _, _, _, _, _, K9.out, VJ.out⟩, GQ.out⟩
          · go_simp
            obtain ⟨x4, hC, kC, gx4, hzz⟩ := new1 wd 26 #[.bool false, .slice none 0 0, .slice none 0 0, .slice none 0 0]
            rw [← hC]
            clear hC hzz
            have hb9 : wr.heap.size ≤ wd.heap.size := GQ.out.size
            replace GQ := Lib.hid (gb_trans GQ.out gx4)
            try replace VJ := Lib.hid (VJ.out.keep0 gx4)
            generalize wd.heap.size = b9 at kC hb9 ⊢
            have K9 := Lib.hid kC
            clear kC gx4
            refine hK.out _ _ (GQ.out) (fun hHeld => ?_)
            clear hK K
            try simp only [Act.put, List.setIfInBounds_toArray, List.set_cons_zero, List.set_cons_succ]
            refine wpAnyH_ready (rs := [9]) (by kernel_rfl) (by simp) ?_
            refine AllReadyH.cons (List.getElem?_toArray.trans rfl) (fun K hK => ?_) AllReadyH.nil
            go_simp
            go_at_call 10
            (with_reducible refine (HJ.out _ _ _ (VA.out.keep0 GQ.out) (VB.out.keep0 GQ.out)).mono ?_)
            rintro e x5 ⟨r0f, r0a, r0b, r0c, r0d, r0e, r0g, r0h, r0i, r0j, rfl, hv, gx5⟩
            replace GQ := Lib.hid (gb_trans GQ.out gx5)
            try replace K9 := Lib.hid (K9.out.keep0 gx5)
            have VJ := Lib.hid hv
            clear hv gx5
            refine hK.out _ _ (GQ.out) (fun hHeld => ?_)
            clear hK K
            try simp only [Act.put, List.setIfInBounds_toArray, List.set_cons_zero, List.set_cons_succ]
            refine wpAnyH_take (i := 10) (v := ?_) (List.getElem?_toArray.trans rfl) (by kernel_rfl) (by kernel_rfl) (by kernel_rfl) (fun _ _ _ h => h) (Or.inl ⟨by rfl, ?_⟩) hHeld ?_
            rotate_left
            · intro w' hSw; go_simp; try with_reducible rfl
            try simp only [Act.put, List.setIfInBounds_toArray, List.set_cons_zero, List.set_cons_succ]
            refine wpAnyH_take (i := 11) (v := ?_) (List.getElem?_toArray.trans rfl) (by kernel_rfl) (by kernel_rfl) (by kernel_rfl) (fun _ _ _ h => h) (Or.inl ⟨by rfl, ?_⟩) hHeld ?_
            rotate_left
            · intro w' hSw; go_simp; try with_reducible rfl
            try simp only [Act.put, List.setIfInBounds_toArray, List.set_cons_zero, List.set_cons_succ]
            refine wpAnyH_take (i := 12) (v := ?_) (List.getElem?_toArray.trans rfl) (by kernel_rfl) (by kernel_rfl) (by kernel_rfl) (fun _ _ _ h => h) (Or.inl ⟨by rfl, ?_⟩) hHeld ?_
            rotate_left
            · intro w' hSw; go_simp; try with_reducible rfl
            try simp only [Act.put, List.setIfInBounds_toArray, List.set_cons_zero, List.set_cons_succ]
            refine wpAnyH_ready (rs := [14]) (by kernel_rfl) (by simp) ?_
            refine AllReadyH.cons (List.getElem?_toArray.trans rfl) (fun K hK => ?_) AllReadyH.nil
            refine wp_store_mid 26 _ _ rfl b9 0 #[.bool r0f, .slice r0a r0b r0c, .slice r0d r0e r0g, .slice r0h r0i r0j] rfl rfl (K9.out.there (by rfl)) (by kernel_rfl) (by kernel_rfl) ?_
            obtain ⟨kS, gx6⟩ := quad_set K9.out (l := [.bool r0f, .slice r0a r0b r0c, .slice r0d r0e r0g, .slice r0h r0i r0j]) (by rfl)
            obtain ⟨x6, hD⟩ : ∃ z : World, z = x5.setCells b9 0 [.bool r0f, .slice r0a r0b r0c, .slice r0d r0e r0g, .slice r0h r0i r0j] := ⟨_, rfl⟩
            dsimp only [Act.put]
            rw [← hD]
            rw [← hD] at kS gx6
            clear hD
            replace VJ := Lib.hid (VJ.out.keepN (Nbl.node K9.out) gx6)
            replace GQ := Lib.hid (gb_step GQ.out gx6 hb9)
            clear K9 gx6
            have K9 := Lib.hid kS
            clear kS
            refine hK.out _ _ (GQ.out) (fun hHeld => ?_)
            clear hK K
            try simp only [Act.put, List.setIfInBounds_toArray, List.set_cons_zero, List.set_cons_succ]
            refine wpAnyH_take (i := 15) (v := ?_) (List.getElem?_toArray.trans rfl) (by kernel_rfl) (by kernel_rfl) (by kernel_rfl) (fun _ _ _ h => h) (Or.inl ⟨by rfl, ?_⟩) hHeld ?_
            rotate_left
            · intro w' hSw; go_simp; try with_reducible rfl
            try simp only [Act.put, List.setIfInBounds_toArray, List.set_cons_zero, List.set_cons_succ]
            refine wpAnyH_done (by kernel_rfl) ?_ _
            refine NoPanic.normal ?_
            go_wp2_with fail
            go_meet
            case rel => exact ⟨b9, rfl, rfl, ⟨_, _, _, _, _, _, _, _, _, _, K9.out, VJ.out⟩, GQ.out⟩
        case rest =>
          obtain ⟨b9, rfl, rfl, hN, gx⟩ := hcut
          replace HPA := Lib.hid (PairsAt.keep0 HPA.out gx)
          have HN := Lib.hid hN
          replace hg := gb_trans hg gx
          clear hN gx
          go_upto_region 6 with fail
          go_cut [11, 12] (fun s1 s2 wx => ∃ b9 : Nat, s1 = .pointer (some ⟨b9, 0, none⟩) ∧ s2 = .bool (joinB x.1 x.2 key) ∧ NAx wx b9 (joinO x.1 x.2 key) ∧ wc.grownBy wx none)
          case first =>
            obtain ⟨q0f, q0a, q0b, q0c, q0d, q0e, q0g, q0h, q0i, q0j, q1f, q1a, q1b, q1c, q1d, q1e, q1g, q1h, q1i, q1j, h0, hA, hB⟩ := HPA.out i x HX.out
            have VA := Lib.hid hA
            have VB := Lib.hid hB
            have GQ := Lib.hid (gb_drew wc none)
            have e0 : wc.cell? ⟨b7, i * 8, none⟩ = some (.bool q0f) := h0 0 _ rfl
            have e1 : wc.cell? ⟨b7, i * 8 + 1, none⟩ = some (.slice q0a q0b q0c) := h0 1 _ rfl
            have e2 : wc.cell? ⟨b7, i * 8 + 2, none⟩ = some (.slice q0d q0e q0g) := h0 2 _ rfl
            have e3 : wc.cell? ⟨b7, i * 8 + 3, none⟩ = some (.slice q0h q0i q0j) := h0 3 _ rfl
            have e4 : wc.cell? ⟨b7, i * 8 + 4, none⟩ = some (.bool q1f) := h0 4 _ rfl
            have e5 : wc.cell? ⟨b7, i * 8 + 4 + 1, none⟩ = some (.slice q1a q1b q1c) := h0 5 _ rfl
            have e6 : wc.cell? ⟨b7, i * 8 + 4 + 2, none⟩ = some (.slice q1d q1e q1g) := h0 6 _ rfl
            have e7 : wc.cell? ⟨b7, i * 8 + 4 + 3, none⟩ = some (.slice q1h q1i q1j) := h0 7 _ rfl
            clear h0 hA hB
            refine wp_region_noPanic ?_
            refine wp_region_held_drew (S := fun w' => wc.grownBy w' none) (by kernel_rfl) (gb_drew _ _) (fun hHeld => ?_)
            generalize wc.drew = wd at GQ hHeld ⊢
            refine wpAnyH_take (i := 0) (v := ?_) (List.getElem?_toArray.trans rfl) (by kernel_rfl) (by kernel_rfl) (by kernel_rfl) (fun _ _ _ h => h) (Or.inl ⟨by rfl, ?_⟩) hHeld ?_
            rotate_left
            · intro w' hSw; have y0 := hSw.cell e0 (by simp); have y1 := hSw.cell e1 (by simp); have y2 := hSw.cell e2 (by simp); have y3 := hSw.cell e3 (by simp); have y4 := hSw.cell e4 (by simp); have y5 := hSw.cell e5 (by simp); have y6 := hSw.cell e6 (by simp); have y7 := hSw.cell e7 (by simp); go_simp; try with_reducible rfl
            try simp only [Act.put, List.setIfInBounds_toArray, List.set_cons_zero, List.set_cons_succ]
            refine wpAnyH_take (i := 1) (v := ?_) (List.getElem?_toArray.trans rfl) (by kernel_rfl) (by kernel_rfl) (by kernel_rfl) (fun _ _ _ h => h) (Or.inl ⟨by rfl, ?_⟩) hHeld ?_
            rotate_left
            · intro w' hSw; have y0 := hSw.cell e0 (by simp); have y1 := hSw.cell e1 (by simp); have y2 := hSw.cell e2 (by simp); have y3 := hSw.cell e3 (by simp); have y4 := hSw.cell e4 (by simp); have y5 := hSw.cell e5 (by simp); have y6 := hSw.cell e6 (by simp); have y7 := hSw.cell e7 (by simp); go_simp; try with_reducible rfl
            try simp only [Act.put, List.setIfInBounds_toArray, List.set_cons_zero, List.set_cons_succ]
            refine wpAnyH_take (i := 2) (v := ?_) (List.getElem?_toArray.trans rfl) (by kernel_rfl) (by kernel_rfl) (by kernel_rfl) (fun _ _ _ h => h) (Or.inl ⟨by rfl, ?_⟩) hHeld ?_
            rotate_left
            · intro w' hSw; have y0 := hSw.cell e0 (by simp); have y1 := hSw.cell e1 (by simp); have y2 := hSw.cell e2 (by simp); have y3 := hSw.cell e3 (by simp); have y4 := hSw.cell e4 (by simp); have y5 := hSw.cell e5 (by simp); have y6 := hSw.cell e6 (by simp); have y7 := hSw.cell e7 (by simp); go_simp; try with_reducible rfl
            try simp only [Act.put, List.setIfInBounds_toArray, List.set_cons_zero, List.set_cons_succ]
            refine wpAnyH_take (i := 3) (v := ?_) (List.getElem?_toArray.trans rfl) (by kernel_rfl) (by kernel_rfl) (by kernel_rfl) (fun _ _ _ h => h) (Or.inl ⟨by rfl, ?_⟩) hHeld ?_
            rotate_left
            · intro w' hSw; have y0 := hSw.cell e0 (by simp); have y1 := hSw.cell e1 (by simp); have y2 := hSw.cell e2 (by simp); have y3 := hSw.cell e3 (by simp); have y4 := hSw.cell e4 (by simp); have y5 := hSw.cell e5 (by simp); have y6 := hSw.cell e6 (by simp); have y7 := hSw.cell e7 (by simp); go_simp; try with_reducible rfl
            try simp only [Act.put, List.setIfInBounds_toArray, List.set_cons_zero, List.set_cons_succ]
            refine wpAnyH_take (i := 4) (v := ?_) (List.getElem?_toArray.trans rfl) (by kernel_rfl) (by kernel_rfl) (by kernel_rfl) (fun _ _ _ h => h) (Or.inl ⟨by rfl, ?_⟩) hHeld ?_
            rotate_left
            · intro w' hSw; have y0 := hSw.cell e0 (by simp); have y1 := hSw.cell e1 (by simp); have y2 := hSw.cell e2 (by simp); have y3 := hSw.cell e3 (by simp); have y4 := hSw.cell e4 (by simp); have y5 := hSw.cell e5 (by simp); have y6 := hSw.cell e6 (by simp); have y7 := hSw.cell e7 (by simp); go_simp; try with_reducible rfl
            try simp only [Act.put, List.setIfInBounds_toArray, List.set_cons_zero, List.set_cons_succ]
            refine wpAnyH_take (i := 5) (v := ?_) (List.getElem?_toArray.trans rfl) (by kernel_rfl) (by kernel_rfl) (by kernel_rfl) (fun _ _ _ h => h) (Or.inl ⟨by rfl, ?_⟩) hHeld ?_
            rotate_left
            · intro w' hSw; have y0 := hSw.cell e0 (by simp); have y1 := hSw.cell e1 (by simp); have y2 := hSw.cell e2 (by simp); have y3 := hSw.cell e3 (by simp); have y4 := hSw.cell e4 (by simp); have y5 := hSw.cell e5 (by simp); have y6 := hSw.cell e6 (by simp); have y7 := hSw.cell e7 (by simp); go_simp; try with_reducible rfl
            try simp only [Act.put, List.setIfInBounds_toArray, List.set_cons_zero, List.set_cons_succ]
            refine wpAnyH_take (i := 6) (v := ?_) (List.getElem?_toArray.trans rfl) (by kernel_rfl) (by kernel_rfl) (by kernel_rfl) (fun _ _ _ h => h) (Or.inl ⟨by rfl, ?_⟩) hHeld ?_
            rotate_left
            · intro w' hSw; have y0 := hSw.cell e0 (by simp); have y1 := hSw.cell e1 (by simp); have y2 := hSw.cell e2 (by simp); have y3 := hSw.cell e3 (by simp); have y4 := hSw.cell e4 (by simp); have y5 := hSw.cell e5 (by simp); have y6 := hSw.cell e6 (by simp); have y7 := hSw.cell e7 (by simp); go_simp; try with_reducible rfl
            try simp only [Act.put, List.setIfInBounds_toArray, List.set_cons_zero, List.set_cons_succ]
            refine wpAnyH_take (i := 7) (v := ?_) (List.getElem?_toArray.trans rfl) (by kernel_rfl) (by kernel_rfl) (by kernel_rfl) (fun _ _ _ h => h) (Or.inl ⟨by rfl, ?_⟩) hHeld ?_
            rotate_left
            · intro w' hSw; have y0 := hSw.cell e0 (by simp); have y1 := hSw.cell e1 (by simp); have y2 := hSw.cell e2 (by simp); have y3 := hSw.cell e3 (by simp); have y4 := hSw.cell e4 (by simp); have y5 := hSw.cell e5 (by simp); have y6 := hSw.cell e6 (by simp); have y7 := hSw.cell e7 (by simp); go_simp; try with_reducible rfl
            try simp only [Act.put, List.setIfInBounds_toArray, List.set_cons_zero, List.set_cons_succ]
            refine wpAnyH_take (i := 8) (v := ?_) (List.getElem?_toArray.trans rfl) (by kernel_rfl) (by kernel_rfl) (by kernel_rfl) (fun _ _ _ h => h) (Or.inl ⟨by rfl, ?_⟩) hHeld ?_
            rotate_left
            · intro w' hSw; have y0 := hSw.cell e0 (by simp); have y1 := hSw.cell e1 (by simp); have y2 := hSw.cell e2 (by simp); have y3 := hSw.cell e3 (by simp); have y4 := hSw.cell e4 (by simp); have y5 := hSw.cell e5 (by simp); have y6 := hSw.cell e6 (by simp); have y7 := hSw.cell e7 (by simp); go_simp; try with_reducible rfl
            try simp only [Act.put, List.setIfInBounds_toArray, List.set_cons_zero, List.set_cons_succ]
            refine wpAnyH_ready (rs := [9, 13]) (by kernel_rfl) (by simp) ?_
            refine AllReadyH.cons (List.getElem?_toArray.trans rfl) (fun K hK => ?_) (AllReadyH.cons (List.getElem?_toArray.trans rfl) (fun K hK => ?_) AllReadyH.nil)
            · go_simp
              go_at_call 11
              (with_reducible refine (HK.out _ _ _ (VA.out.keep0 GQ.out) (VB.out.keep0 GQ.out)).mono ?_)
              rintro e x1 ⟨r0f, r0a, r0b, r0c, r0d, r0e, r0g, r0h, r0i, r0j, rfl, hv, gx1⟩
              replace GQ := Lib.hid (gb_trans GQ.out gx1)
              try replace K9 := Lib.hid (K9.out.keep0 gx1)
              have VJ := Lib.hid hv
              clear hv gx1
              refine hK.out _ _ (GQ.out) (fun hHeld => ?_)
              clear hK K
              try simp only [Act.put, List.setIfInBounds_toArray, List.set_cons_zero, List.set_cons_succ]
              refine wpAnyH_take (i := 10) (v := ?_) (List.getElem?_toArray.trans rfl) (by kernel_rfl) (by kernel_rfl) (by kernel_rfl) (fun _ _ _ h => h) (Or.inl ⟨by rfl, ?_⟩) hHeld ?_
              rotate_left
              · intro w' hSw; go_simp; try with_reducible rfl
              try simp only [Act.put, List.setIfInBounds_toArray, List.set_cons_zero, List.set_cons_succ]
              refine wpAnyH_take (i := 11) (v := ?_) (List.getElem?_toArray.trans rfl) (by kernel_rfl) (by kernel_rfl) (by kernel_rfl) (fun _ _ _ h => h) (Or.inl ⟨by rfl, ?_⟩) hHeld ?_
              rotate_left
              · intro w' hSw; go_simp; try with_reducible rfl
              try simp only [Act.put, List.setIfInBounds_toArray, List.set_cons_zero, List.set_cons_succ]
              refine wpAnyH_take (i := 12) (v := ?_) (List.getElem?_toArray.trans rfl) (by kernel_rfl) (by kernel_rfl) (by kernel_rfl) (fun _ _ _ h => h) (Or.inl ⟨by rfl, ?_⟩) hHeld ?_
              rotate_left
              · intro w' hSw; go_simp; try with_reducible rfl
              try simp only [Act.put, List.setIfInBounds_toArray, List.set_cons_zero, List.set_cons_succ]
              refine wpAnyH_ready (rs := [13]) (by kernel_rfl) (by simp) ?_
              refine AllReadyH.cons (List.getElem?_toArray.trans rfl) (fun K hK => ?_) AllReadyH.nil
              go_simp
              obtain ⟨x2, hC, kC, gx2, hzz⟩ := new1 x1 26 #[.bool false, .slice none 0 0, .slice none 0 0, .slice none 0 0]
              rw [← hC]
              clear hC hzz
              have hb9 : wc.heap.size ≤ x1.heap.size := GQ.out.size
              replace GQ := Lib.hid (gb_trans GQ.out gx2)
              try replace VJ := Lib.hid (VJ.out.keep0 gx2)
              generalize x1.heap.size = b9 at kC hb9 ⊢
              have K9 := Lib.hid kC
              clear kC gx2
              refine hK.out _ _ (GQ.out) (fun hHeld => ?_)
              clear hK K
              try simp only [Act.put, List.setIfInBounds_toArray, List.set_cons_zero, List.set_cons_succ]
              refine wpAnyH_ready (rs := [14]) (by kernel_rfl) (by simp) ?_
              refine AllReadyH.cons (List.getElem?_toArray.trans rfl) (fun K hK => ?_) AllReadyH.nil
              refine wp_store_mid 26 _ _ rfl b9 0 #[.bool r0f, .slice r0a r0b r0c, .slice r0d r0e r0g, .slice r0h r0i r0j] rfl rfl (K9.out.there (by rfl)) (by kernel_rfl) (by kernel_rfl) ?_
              obtain ⟨kS, gx3⟩ := quad_set K9.out (l := [.bool r0f, .slice r0a r0b r0c, .slice r0d r0e r0g, .slice r0h r0i r0j]) (by rfl)
              obtain ⟨x3, hD⟩ : ∃ z : World, z = x2.setCells b9 0 [.bool r0f, .slice r0a r0b r0c, .slice r0d r0e r0g, .slice r0h r0i r0j] := ⟨_, rfl⟩
              dsimp only [Act.put]
              rw [← hD]
              rw [← hD] at kS gx3
              clear hD
              replace VJ := Lib.hid (VJ.out.keepN (Nbl.node K9.out) gx3)
              replace GQ := Lib.hid (gb_step GQ.out gx3 hb9)
              clear K9 gx3
              have K9 := Lib.hid kS
              clear kS
              refine hK.out _ _ (GQ.out) (fun hHeld => ?_)
              clear hK K
              try simp only [Act.put, List.setIfInBounds_toArray, List.set_cons_zero, List.set_cons_succ]
              refine wpAnyH_take (i := 15) (v := ?_) (List.getElem?_toArray.trans rfl) (by kernel_rfl) (by kernel_rfl) (by kernel_rfl) (fun _ _ _ h => h) (Or.inl ⟨by rfl, ?_⟩) hHeld ?_
              rotate_left
              · intro w' hSw; go_simp; try with_reducible rfl
              try simp only [Act.put, List.setIfInBounds_toArray, List.set_cons_zero, List.set_cons_succ]
              refine wpAnyH_done (by kernel_rfl) ?_ _
              refine NoPanic.normal ?_
              go_wp2_with fail
              go_meet
              case rel => exact ⟨b9, rfl, rfl, ⟨_, _, _, _, _, _, _, _, _, _, K9.out, VJ.out⟩, GQ.out⟩
            · go_simp
              obtain ⟨x4, hC, kC, gx4, hzz⟩ := new1 wd 26 #[.bool false, .slice none 0 0, .slice none 0 0, .slice none 0 0]
              rw [← hC]
              clear hC hzz
              have hb9 : wc.heap.size ≤ wd.heap.size := GQ.out.size
              replace GQ := Lib.hid (gb_trans GQ.out gx4)
              try replace VJ := Lib.hid (VJ.out.keep0 gx4)
              generalize wd.heap.size = b9 at kC hb9 ⊢
              have K9 := Lib.hid kC
              clear kC gx4
              refine hK.out _ _ (GQ.out) (fun hHeld => ?_)
              clear hK K
              try simp only [Act.put, List.setIfInBounds_toArray, List.set_cons_zero, List.set_cons_succ]
              refine wpAnyH_ready (rs := [9]) (by kernel_rfl) (by simp) ?_
              refine AllReadyH.cons (List.getElem?_toArray.trans rfl) (fun K hK => ?_) AllReadyH.nil
              go_simp
              go_at_call 11
              (with_reducible refine (HK.out _ _ _ (VA.out.keep0 GQ.out) (VB.out.keep0 GQ.out)).mono ?_)
              rintro e x5 ⟨r0f, r0a, r0b, r0c, r0d, r0e, r0g, r0h, r0i, r0j, rfl, hv, gx5⟩
              replace GQ := Lib.hid (gb_trans GQ.out gx5)
              try replace K9 := Lib.hid (K9.out.keep0 gx5)
              have VJ := Lib.hid hv
              clear hv gx5
              refine hK.out _ _ (GQ.out) (fun hHeld => ?_)
              clear hK K
              try simp only [Act.put, List.setIfInBounds_toArray, List.set_cons_zero, List.set_cons_succ]
              refine wpAnyH_take (i := 10) (v := ?_) (List.getElem?_toArray.trans rfl) (by kernel_rfl) (by kernel_rfl) (by kernel_rfl) (fun _ _ _ h => h) (Or.inl ⟨by rfl, ?_⟩) hHeld ?_
              rotate_left
              · intro w' hSw; go_simp; try with_reducible rfl
              try simp only [Act.put, List.setIfInBounds_toArray, List.set_cons_zero, List.set_cons_succ]
              refine wpAnyH_take (i := 11) (v := ?_) (List.getElem?_toArray.trans rfl) (by kernel_rfl) (by kernel_rfl) (by kernel_rfl) (fun _ _ _ h => h) (Or.inl ⟨by rfl, ?_⟩) hHeld ?_
              rotate_left
              · intro w' hSw; go_simp; try with_reducible rfl
              try simp only [Act.put, List.setIfInBounds_toArray, List.set_cons_zero, List.set_cons_succ]
              refine wpAnyH_take (i := 12) (v := ?_) (List.getElem?_toArray.trans rfl) (by kernel_rfl) (by kernel_rfl) (by kernel_rfl) (fun _ _ _ h => h) (Or.inl ⟨by rfl, ?_⟩) hHeld ?_
              rotate_left
              · intro w' hSw; go_simp; try with_reducible rfl
              try simp only [Act.put, List.setIfInBounds_toArray, List.set_cons_zero, List.set_cons_succ]
              refine wpAnyH_ready (rs := [14]) (by kernel_rfl) (by simp) ?_
              refine AllReadyH.cons (List.getElem?_toArray.trans rfl) (fun K hK => ?_) AllReadyH.nil
              refine wp_store_mid 26 _ _ rfl b9 0 #[.bool r0f, .slice r0a r0b r0c, .slice r0d r0e r0g, .slice r0h r0i r0j] rfl rfl (K9.out.there (by rfl)) (by kernel_rfl) (by kernel_rfl) ?_
              obtain ⟨kS, gx6⟩ := quad_set K9.out (l := [.bool r0f, .slice r0a r0b r0c, .slice r0d r0e r0g, .slice r0h r0i r0j]) (by rfl)
              obtain ⟨x6, hD⟩ : ∃ z : World, z = x5.setCells b9 0 [.bool r0f, .slice r0a r0b r0c, .slice r0d r0e r0g, .slice r0h r0i r0j] := ⟨_, rfl⟩
              dsimp only [Act.put]
              rw [← hD]
              rw [← hD] at kS gx6
              clear hD
              replace VJ := Lib.hid (VJ.out.keepN (Nbl.node K9.out) gx6)
              replace GQ := Lib.hid (gb_step GQ.out gx6 hb9)
              clear K9 gx6
              have K9 := Lib.hid kS
              clear kS
              refine hK.out _ _ (GQ.out) (fun hHeld => ?_)
              clear hK K
              try simp only [Act.put, List.setIfInBounds_toArray, List.set_cons_zero, List.set_cons_succ]
              refine wpAnyH_take (i := 15) (v := ?_) (List.getElem?_toArray.trans rfl) (by kernel_rfl) (by kernel_rfl) (by kernel_rfl) (fun _ _ _ h => h) (Or.inl ⟨by rfl, ?_⟩) hHeld ?_
              rotate_left
              · intro w' hSw; go_simp; try with_reducible rfl
              try simp only [Act.put, List.setIfInBounds_toArray, List.set_cons_zero, List.set_cons_succ]
              refine wpAnyH_done (by kernel_rfl) ?_ _
              refine NoPanic.normal ?_
              go_wp2_with fail
              go_meet
              case rel => exact ⟨b9, rfl, rfl, ⟨_, _, _, _, _, _, _, _, _, _, K9.out, VJ.out⟩, GQ.out⟩
          case rest =>
            skip
            obtain ⟨b11, rfl, rfl, hM, gx⟩ := hcut
            replace HPA := Lib.hid (PairsAt.keep0 HPA.out gx)
            replace hg := gb_trans hg gx
            obtain ⟨q0f, q0a, q0b, q0c, q0d, q0e, q0g, q0h, q0i, q0j, kN, vN⟩ := NAx.keep0 HN.out gx
            obtain ⟨q1f, q1a, q1b, q1c, q1d, q1e, q1g, q1h, q1i, q1j, kM, vM⟩ := hM
            have e0 := kN.cell 0 rfl
            have e1 := kN.cell 1 rfl
            have e2 := kN.cell 2 rfl
            have e3 := kN.cell 3 rfl
            have y0 := kM.cell 0 rfl
            have y1 := kM.cell 1 rfl
            have y2 := kM.cell 2 rfl
            have y3 := kM.cell 3 rfl
            have VN := Lib.hid vN
            have VM := Lib.hid vM
            clear kN kM vN vM gx HN
            generalize joinB x.1 x.2 key = jb
            go_wp2_with (go_at_call 12; (with_reducible refine (Same_eq _ _ _ _ VN.out VM.out (by have := HLIM.out.cells; omega) (by have := HLIM.out.keys; omega) (by have := HLIM.out.kids; omega)).mono ?_); rintro e w6 ⟨rfl, g6⟩)
            go_roundw
            case rel => exact ⟨i + 1, by omega, by go_num, Lib.hid (PairsAt.keep0 HPA.out g6), gb_trans hg g6⟩
            case measure => simp [intOf]; omega
      · obtain rfl : i = 4 := by omega
        go_wp2_with (go_at_call 13; (with_reducible refine (works_any _).mono ?_); rintro e w1 ⟨rfl, g1⟩)
        go_ret
        exact ⟨rfl, gb_below (gb_trans hg g1)⟩
end Go.Proofs.YthhimhjegodklaaGreat.N11

