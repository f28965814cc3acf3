/-
  What Join and Find answer of nodes, over this seat's translation; conditions: the nodes lie as they are told, and have at most 150,000 of each.
-/
import Derived.Test.YthhimhjegodklaaGreatNm
namespace Go.Proofs.YthhimhjegodklaaGreat.N11
set_option linter.unusedSimpArgs false
set_option linter.unusedVariables false
open Go.RowKit
def joinN (a b : Nd) (k : ByteArray) : Nd := if a.leaf then ⟨true, a.cells ++ b.cells, [], []⟩ else ⟨false, [], a.keys ++ k :: b.keys, a.kids ++ b.kids⟩
def joinB (a b : Nd) (k : ByteArray) : Bool := (a.leaf == b.leaf) && a.may && b.may && (joinN a b k).fits
def JG (jb : Bool) (J : Nd) (w : World) (e : Ending) (w' : World) : Prop :=
  ∃ v, e = .returned (.tuple #[v, .bool jb]) ∧ NdV w' v (if jb then J else Nd.zero) ∧ w.grownBy w' none
def JoinGot (a b : Nd) (k : ByteArray) (w : World) (e : Ending) (w' : World) : Prop := JG (joinB a b k) (joinN a b k) w e w'
structure Nd.Half (n : Nd) : Prop where
  cells : n.cells.length ≤ 100000
  keys : n.keys.length ≤ 100000
  kids : n.kids.length ≤ 100000
theorem Nd.Half.lim {n : Nd} (h : n.Half) : n.Lim := ⟨by have := h.cells; omega, by have := h.keys; omega, by have := h.kids; omega⟩
theorem Lim.join {a b : Nd} (ha : a.Half) (hb : b.Half) (k : ByteArray) : (joinN a b k).Lim := by
  have := ha.cells; have := ha.keys; have := ha.kids; have := hb.cells; have := hb.keys; have := hb.kids
  unfold joinN
  split
  · exact ⟨by simp; omega, by simp, by simp⟩
  · exact ⟨by simp, by simp; omega, by simp; omega⟩
set_option maxRecDepth 100000 in
set_option maxHeartbeats 1000000 in
theorem join_LI (a b c p q r : Value) (k : ByteArray) (w : World) : Calls Tryz.prog 10 #[.agg #[.bool true, a, b, c], .agg #[.bool false, p, q, r], .string k] w fun e w' => e = .returned (.tuple #[.agg #[.bool false, .slice none 0 0, .slice none 0 0, .slice none 0 0], .bool false]) ∧ w.grownBy w' none := by
  obtain ⟨w0, hw0, ka, kb, k2, g0, hz⟩ := new3 w 26 #[.bool true, a, b, c] 26 #[.bool false, p, q, r] 26 #[.bool false, .slice none 0 0, .slice none 0 0, .slice none 0 0]
  have HW := Lib.hid hw0
  clear hw0 hz
  go_enter Tryz.func10, Tryz.ntmps10
  go_wp2_with (first
    | (go_at_call 21; (with_reducible refine (bodyOf_L _ _ _ _).mono ?_); rw [← HW.out]; rintro e w1 ⟨rfl, g1⟩; replace ka := ka.keep0 g1; replace kb := kb.keep0 g1; replace k2 := k2.keep0 g1; replace g1 := gb_trans g0 g1; have p0 := kb.cell 0 rfl; have p1 := kb.cell 1 rfl; have p2 := kb.cell 2 rfl; have p3 := kb.cell 3 rfl; have d0 := ka.cell 0 rfl)
    | ((with_reducible refine st_node rfl (w.heap.size + 1 + 1) 26 ?_ ?_ ?_ ?_ ?_ ?_ ?_ ?_ ?_ ?_ ?_ ?_ _ _ _ _ k2 ?_); rotate_left 10; (· rfl); (· rfl); intro w2 n2 g2))
  refine bodyPost_ret (results_cs rfl _ _ _ _ _ _ _ rfl n2) rfl ⟨rfl, gb_step g1 g2 (by omega)⟩
set_option maxRecDepth 100000 in
set_option maxHeartbeats 1000000 in
theorem join_IL (a b c p q r : Value) (k : ByteArray) (w : World) : Calls Tryz.prog 10 #[.agg #[.bool false, a, b, c], .agg #[.bool true, p, q, r], .string k] w fun e w' => e = .returned (.tuple #[.agg #[.bool false, .slice none 0 0, .slice none 0 0, .slice none 0 0], .bool false]) ∧ w.grownBy w' none := by
  obtain ⟨w0, hw0, ka, kb, k2, g0, hz⟩ := new3 w 26 #[.bool false, a, b, c] 26 #[.bool true, p, q, r] 26 #[.bool false, .slice none 0 0, .slice none 0 0, .slice none 0 0]
  have HW := Lib.hid hw0
  clear hw0 hz
  go_enter Tryz.func10, Tryz.ntmps10
  go_wp2_with (first
    | (go_at_call 21; (with_reducible refine (bodyOf_I _ _ _ _).mono ?_); rw [← HW.out]; rintro e w1 ⟨rfl, g1⟩; replace ka := ka.keep0 g1; replace kb := kb.keep0 g1; replace k2 := k2.keep0 g1; replace g1 := gb_trans g0 g1; have p0 := kb.cell 0 rfl; have p1 := kb.cell 1 rfl; have p2 := kb.cell 2 rfl; have p3 := kb.cell 3 rfl; have d0 := ka.cell 0 rfl)
    | ((with_reducible refine st_node rfl (w.heap.size + 1 + 1) 26 ?_ ?_ ?_ ?_ ?_ ?_ ?_ ?_ ?_ ?_ ?_ ?_ _ _ _ _ k2 ?_); rotate_left 10; (· rfl); (· rfl); intro w2 n2 g2))
  refine bodyPost_ret (results_cs rfl _ _ _ _ _ _ _ rfl n2) rfl ⟨rfl, gb_step g1 g2 (by omega)⟩
set_option maxRecDepth 100000 in
set_option maxHeartbeats 1000000 in
theorem join_LL (a b c p q r : Value) (n m : Nd) (k : ByteArray) (w : World) (hl : n.leaf = true) (hl2 : m.leaf = true) (ha : Ces w a n.cells) (hb : Sts w b n.keys) (hc : Ins w c n.kids) (hp : Ces w p m.cells) (hq : Sts w q m.keys) (hr : Ins w r m.kids) (ho : n.Half) (ho2 : m.Half) :
    Calls Tryz.prog 10 #[.agg #[.bool true, a, b, c], .agg #[.bool true, p, q, r], .string k] w (JoinGot n m k w) := by
  have HMa := Lib.hid (cL_may hl ha hb hc ho.lim)
  have HMb := Lib.hid (cL_may hl2 hp hq hr ho2.lim)
  have HB := Lib.hid (show joinB n m k = ((n.leaf == m.leaf) && n.may && m.may && (joinN n m k).fits) from rfl)
  have HN : Hid (joinN n m k = ⟨true, n.cells ++ m.cells, [], []⟩) := Lib.hid (by unfold joinN; rw [if_pos hl])
  have HF : Hid (∀ v W, NdV W v (joinN n m k) → Calls Tryz.prog 15 #[v] W fun e w' => e = .returned (.bool (joinN n m k).fits) ∧ W.grownBy w' none) := Lib.hid (fun v W h => fits_any v _ W h (Lim.join ho ho2 k))
  have HJN : Hid (∀ W, w.grownBy W none → Calls Tryz.prog 92 #[.agg #[.bool true, a, b, c], .agg #[.bool true, p, q, r], .string k] W (NodeGot (joinN n m k) W)) := Lib.hid (fun W g => by
    have := ho.cells; have := ho.keys; have := ho.kids; have := ho2.cells; have := ho2.keys; have := ho2.kids
    rw [HN.out]
    exact joinL_any _ _ _ _ _ _ _ _ _ _ _ W (ha.keep0 g) (hp.keep0 g) (by omega) (by omega))
  have m1 := Tryz.mL_mayBe (.bool true) a b c
  have m2 := Tryz.mL_mayBe (.bool true) p q r
  have m3 := Tryz.mL_join (.bool true) a b c
  obtain ⟨w0, hw0, ka, kb, k2, g0, hz⟩ := new3 w 26 #[.bool true, a, b, c] 26 #[.bool true, p, q, r] 26 #[.bool false, .slice none 0 0, .slice none 0 0, .slice none 0 0]
  have HW := Lib.hid hw0
  have HEQ : Hid ((n.leaf == m.leaf) = true) := Lib.hid (by rw [hl, hl2]; rfl)
  clear hw0 hz ha hb hc hp hq hr ho ho2 hl hl2
  generalize hja : n.may = ma at HMa HB
  generalize hjb : m.may = mb at HMb HB
  generalize hjf : (joinN n m k).fits = jf at HF HB
  clear hja hjb hjf
  show Calls _ _ _ _ (JG (joinB n m k) (joinN n m k) w)
  generalize joinB n m k = jb at HB ⊢
  generalize joinN n m k = J at HJN HF HN ⊢
  cases ma
  · have HJ : Hid (jb = false) := Lib.hid (by rw [HB.out]; simp)
    clear HB
    go_enter Tryz.func10, Tryz.ntmps10
    go_wp2_with (first
      | (go_at_call 21; (with_reducible refine (bodyOf_L _ _ _ _).mono ?_); first | (rw [← HW.out]; rintro e w1 ⟨rfl, g1⟩; replace ka := ka.keep0 g1; replace kb := kb.keep0 g1; replace k2 := k2.keep0 g1; replace g1 := gb_trans g0 g1; have p0 := kb.cell 0 rfl; have p1 := kb.cell 1 rfl; have p2 := kb.cell 2 rfl; have p3 := kb.cell 3 rfl; have d0 := ka.cell 0 rfl) | (rintro e w3 ⟨rfl, g3⟩; replace ka := ka.keep0 g3; replace kb := kb.keep0 g3; replace k2 := k2.keep0 g3; replace g3 := gb_trans g2 g3; clear p0 p1 p2 p3 d0; have p0 := kb.cell 0 rfl; have p1 := kb.cell 1 rfl; have p2 := kb.cell 2 rfl; have p3 := kb.cell 3 rfl; have d0 := ka.cell 0 rfl))
      | (go_at_call 94; (with_reducible refine (HMa.out _ g1).mono ?_); rintro e w2 ⟨rfl, g2⟩; replace ka := ka.keep0 g2; replace kb := kb.keep0 g2; replace k2 := k2.keep0 g2; replace g2 := gb_trans g1 g2; clear p0 p1 p2 p3 d0; have p0 := kb.cell 0 rfl; have p1 := kb.cell 1 rfl; have p2 := kb.cell 2 rfl; have p3 := kb.cell 3 rfl; have d0 := ka.cell 0 rfl)
      | ((with_reducible refine st_node rfl (w.heap.size + 1 + 1) 26 ?_ ?_ ?_ ?_ ?_ ?_ ?_ ?_ ?_ ?_ ?_ ?_ _ _ _ _ k2 ?_); rotate_left 10; (· rfl); (· rfl); intro wz nz gz; replace gz := gb_step g2 gz (by omega)))
    refine bodyPost_ret (results_cs rfl _ _ _ _ _ _ _ rfl nz) rfl ?_
    unfold JG; rw [HJ.out]
    exact ⟨_, rfl, NdV.zero _, gz⟩
  cases mb
  · have HJ : Hid (jb = false) := Lib.hid (by rw [HB.out]; simp)
    clear HB
    go_enter Tryz.func10, Tryz.ntmps10
    go_wp2_with (first
      | (go_at_call 21; (with_reducible refine (bodyOf_L _ _ _ _).mono ?_); first | (rw [← HW.out]; rintro e w1 ⟨rfl, g1⟩; replace ka := ka.keep0 g1; replace kb := kb.keep0 g1; replace k2 := k2.keep0 g1; replace g1 := gb_trans g0 g1; have p0 := kb.cell 0 rfl; have p1 := kb.cell 1 rfl; have p2 := kb.cell 2 rfl; have p3 := kb.cell 3 rfl; have d0 := ka.cell 0 rfl) | (rintro e w3 ⟨rfl, g3⟩; replace ka := ka.keep0 g3; replace kb := kb.keep0 g3; replace k2 := k2.keep0 g3; replace g3 := gb_trans g2 g3; clear p0 p1 p2 p3 d0; have p0 := kb.cell 0 rfl; have p1 := kb.cell 1 rfl; have p2 := kb.cell 2 rfl; have p3 := kb.cell 3 rfl; have d0 := ka.cell 0 rfl))
      | (go_at_call 94; (with_reducible refine (HMa.out _ g1).mono ?_); rintro e w2 ⟨rfl, g2⟩; replace ka := ka.keep0 g2; replace kb := kb.keep0 g2; replace k2 := k2.keep0 g2; replace g2 := gb_trans g1 g2; clear p0 p1 p2 p3 d0; have p0 := kb.cell 0 rfl; have p1 := kb.cell 1 rfl; have p2 := kb.cell 2 rfl; have p3 := kb.cell 3 rfl; have d0 := ka.cell 0 rfl)
      | (go_at_call 94; (with_reducible refine (HMb.out _ g3).mono ?_); rintro e w4 ⟨rfl, g4⟩; replace ka := ka.keep0 g4; replace kb := kb.keep0 g4; replace k2 := k2.keep0 g4; replace g4 := gb_trans g3 g4; clear p0 p1 p2 p3 d0; have p0 := kb.cell 0 rfl; have p1 := kb.cell 1 rfl; have p2 := kb.cell 2 rfl; have p3 := kb.cell 3 rfl; have d0 := ka.cell 0 rfl)
      | ((with_reducible refine st_node rfl (w.heap.size + 1 + 1) 26 ?_ ?_ ?_ ?_ ?_ ?_ ?_ ?_ ?_ ?_ ?_ ?_ _ _ _ _ k2 ?_); rotate_left 10; (· rfl); (· rfl); intro wz nz gz; replace gz := gb_step g4 gz (by omega)))
    refine bodyPost_ret (results_cs rfl _ _ _ _ _ _ _ rfl nz) rfl ?_
    unfold JG; rw [HJ.out]
    exact ⟨_, rfl, NdV.zero _, gz⟩
  cases jf
  · have HJ : Hid (jb = false) := Lib.hid (by rw [HB.out]; simp)
    clear HB
    go_enter Tryz.func10, Tryz.ntmps10
    go_wp2_with (first
      | (go_at_call 21; (with_reducible refine (bodyOf_L _ _ _ _).mono ?_); first | (rw [← HW.out]; rintro e w1 ⟨rfl, g1⟩; replace ka := ka.keep0 g1; replace kb := kb.keep0 g1; replace k2 := k2.keep0 g1; replace g1 := gb_trans g0 g1; have p0 := kb.cell 0 rfl; have p1 := kb.cell 1 rfl; have p2 := kb.cell 2 rfl; have p3 := kb.cell 3 rfl; have d0 := ka.cell 0 rfl) | (rintro e w3 ⟨rfl, g3⟩; replace ka := ka.keep0 g3; replace kb := kb.keep0 g3; replace k2 := k2.keep0 g3; replace g3 := gb_trans g2 g3; clear p0 p1 p2 p3 d0; have p0 := kb.cell 0 rfl; have p1 := kb.cell 1 rfl; have p2 := kb.cell 2 rfl; have p3 := kb.cell 3 rfl; have d0 := ka.cell 0 rfl))
      | (go_at_call 94; (with_reducible refine (HMa.out _ g1).mono ?_); rintro e w2 ⟨rfl, g2⟩; replace ka := ka.keep0 g2; replace kb := kb.keep0 g2; replace k2 := k2.keep0 g2; replace g2 := gb_trans g1 g2; clear p0 p1 p2 p3 d0; have p0 := kb.cell 0 rfl; have p1 := kb.cell 1 rfl; have p2 := kb.cell 2 rfl; have p3 := kb.cell 3 rfl; have d0 := ka.cell 0 rfl)
      | (go_at_call 94; (with_reducible refine (HMb.out _ g3).mono ?_); rintro e w4 ⟨rfl, g4⟩; replace ka := ka.keep0 g4; replace kb := kb.keep0 g4; replace k2 := k2.keep0 g4; replace g4 := gb_trans g3 g4; clear p0 p1 p2 p3 d0; have p0 := kb.cell 0 rfl; have p1 := kb.cell 1 rfl; have p2 := kb.cell 2 rfl; have p3 := kb.cell 3 rfl; have d0 := ka.cell 0 rfl)
      | (go_at_call 92; (with_reducible refine (HJN.out _ g4).mono ?_); rintro e w5 ⟨v5, rfl, h5, g5⟩; obtain ⟨x1, y1, z1, rfl, ax, ay, az⟩ := h5; obtain ⟨o1, q1, e1, rfl⟩ := shape' ax; obtain ⟨o2, q2, e2, rfl⟩ := shape' ay; obtain ⟨o3, q3, e3, rfl⟩ := shape' az; have H5 : Hid (NdV w5 (.agg #[.bool J.leaf, .slice o1 q1 e1, .slice o2 q2 e2, .slice o3 q3 e3]) J) := Lib.hid ⟨_, _, _, rfl, ax, ay, az⟩; clear ax ay az; replace ka := ka.keep0 g5; replace kb := kb.keep0 g5; replace k2 := k2.keep0 g5; replace g5 := gb_trans g4 g5; clear p0 p1 p2 p3 d0)
      | (go_at_call 15; (with_reducible refine (HF.out _ _ (H5.out.keep0 (gb_alloc _ _ _))).mono ?_); rintro e w6 ⟨rfl, g6⟩; have kn := (Blk.mk w5 26 #[.bool J.leaf, .slice o1 q1 e1, .slice o2 q2 e2, .slice o3 q3 e3]).keep0 g6; replace g6 := gb_trans (gb_alloc _ _ _) g6; replace k2 := k2.keep0 g6; replace H5 := Lib.hid (H5.out.keep0 g6); replace g6 := gb_trans g5 g6; have r0 := kn.cell 0 rfl; have r1 := kn.cell 1 rfl; have r2 := kn.cell 2 rfl; have r3 := kn.cell 3 rfl; clear kn)
      | ((with_reducible refine st_node rfl (w.heap.size + 1 + 1) 26 ?_ ?_ ?_ ?_ ?_ ?_ ?_ ?_ ?_ ?_ ?_ ?_ _ _ _ _ k2 ?_); rotate_left 10; (· rfl); (· rfl); intro wz nz gz; replace gz := gb_step g6 gz (by omega)))
    refine bodyPost_ret (results_cs rfl _ _ _ _ _ _ _ rfl nz) rfl ?_
    unfold JG; rw [HJ.out]
    exact ⟨_, rfl, NdV.zero _, gz⟩
  · have HJ : Hid (jb = true) := Lib.hid (by rw [HB.out, HEQ.out]; simp)
    clear HB
    go_enter Tryz.func10, Tryz.ntmps10
    go_wp2_with (first
      | (go_at_call 21; (with_reducible refine (bodyOf_L _ _ _ _).mono ?_); first | (rw [← HW.out]; rintro e w1 ⟨rfl, g1⟩; replace ka := ka.keep0 g1; replace kb := kb.keep0 g1; replace k2 := k2.keep0 g1; replace g1 := gb_trans g0 g1; have p0 := kb.cell 0 rfl; have p1 := kb.cell 1 rfl; have p2 := kb.cell 2 rfl; have p3 := kb.cell 3 rfl; have d0 := ka.cell 0 rfl) | (rintro e w3 ⟨rfl, g3⟩; replace ka := ka.keep0 g3; replace kb := kb.keep0 g3; replace k2 := k2.keep0 g3; replace g3 := gb_trans g2 g3; clear p0 p1 p2 p3 d0; have p0 := kb.cell 0 rfl; have p1 := kb.cell 1 rfl; have p2 := kb.cell 2 rfl; have p3 := kb.cell 3 rfl; have d0 := ka.cell 0 rfl))
      | (go_at_call 94; (with_reducible refine (HMa.out _ g1).mono ?_); rintro e w2 ⟨rfl, g2⟩; replace ka := ka.keep0 g2; replace kb := kb.keep0 g2; replace k2 := k2.keep0 g2; replace g2 := gb_trans g1 g2; clear p0 p1 p2 p3 d0; have p0 := kb.cell 0 rfl; have p1 := kb.cell 1 rfl; have p2 := kb.cell 2 rfl; have p3 := kb.cell 3 rfl; have d0 := ka.cell 0 rfl)
      | (go_at_call 94; (with_reducible refine (HMb.out _ g3).mono ?_); rintro e w4 ⟨rfl, g4⟩; replace ka := ka.keep0 g4; replace kb := kb.keep0 g4; replace k2 := k2.keep0 g4; replace g4 := gb_trans g3 g4; clear p0 p1 p2 p3 d0; have p0 := kb.cell 0 rfl; have p1 := kb.cell 1 rfl; have p2 := kb.cell 2 rfl; have p3 := kb.cell 3 rfl; have d0 := ka.cell 0 rfl)
      | (go_at_call 92; (with_reducible refine (HJN.out _ g4).mono ?_); rintro e w5 ⟨v5, rfl, h5, g5⟩; obtain ⟨x1, y1, z1, rfl, ax, ay, az⟩ := h5; obtain ⟨o1, q1, e1, rfl⟩ := shape' ax; obtain ⟨o2, q2, e2, rfl⟩ := shape' ay; obtain ⟨o3, q3, e3, rfl⟩ := shape' az; have H5 : Hid (NdV w5 (.agg #[.bool J.leaf, .slice o1 q1 e1, .slice o2 q2 e2, .slice o3 q3 e3]) J) := Lib.hid ⟨_, _, _, rfl, ax, ay, az⟩; clear ax ay az; replace ka := ka.keep0 g5; replace kb := kb.keep0 g5; replace k2 := k2.keep0 g5; replace g5 := gb_trans g4 g5; clear p0 p1 p2 p3 d0)
      | (go_at_call 15; (with_reducible refine (HF.out _ _ (H5.out.keep0 (gb_alloc _ _ _))).mono ?_); rintro e w6 ⟨rfl, g6⟩; have kn := (Blk.mk w5 26 #[.bool J.leaf, .slice o1 q1 e1, .slice o2 q2 e2, .slice o3 q3 e3]).keep0 g6; replace g6 := gb_trans (gb_alloc _ _ _) g6; replace k2 := k2.keep0 g6; replace H5 := Lib.hid (H5.out.keep0 g6); replace g6 := gb_trans g5 g6; have r0 := kn.cell 0 rfl; have r1 := kn.cell 1 rfl; have r2 := kn.cell 2 rfl; have r3 := kn.cell 3 rfl; clear kn)
      | ((with_reducible refine st_node rfl (w.heap.size + 1 + 1) 26 ?_ ?_ ?_ ?_ ?_ ?_ ?_ ?_ ?_ ?_ ?_ ?_ _ _ _ _ k2 ?_); rotate_left 10; (· rfl); (· rfl); intro wz nz gz; replace H5 := Lib.hid (H5.out.keepN (Nbl.node k2) gz); replace gz := gb_step g6 gz (by omega)))
    refine bodyPost_ret (results_cs rfl _ _ _ _ _ _ _ rfl nz) rfl ?_
    unfold JG; rw [HJ.out]
    exact ⟨_, rfl, H5.out, gz⟩
set_option maxRecDepth 100000 in
set_option maxHeartbeats 1000000 in
theorem join_II (a b c p q r : Value) (n m : Nd) (k : ByteArray) (w : World) (hl : n.leaf = false) (hl2 : m.leaf = false) (ha : Ces w a n.cells) (hb : Sts w b n.keys) (hc : Ins w c n.kids) (hp : Ces w p m.cells) (hq : Sts w q m.keys) (hr : Ins w r m.kids) (ho : n.Half) (ho2 : m.Half) :
    Calls Tryz.prog 10 #[.agg #[.bool false, a, b, c], .agg #[.bool false, p, q, r], .string k] w (JoinGot n m k w) := by
  have HMa := Lib.hid (cI_may hl ha hb hc ho.lim)
  have HMb := Lib.hid (cI_may hl2 hp hq hr ho2.lim)
  have HB := Lib.hid (show joinB n m k = ((n.leaf == m.leaf) && n.may && m.may && (joinN n m k).fits) from rfl)
  have HN : Hid (joinN n m k = ⟨false, [], n.keys ++ k :: m.keys, n.kids ++ m.kids⟩) := Lib.hid (by unfold joinN; rw [if_neg (by rw [hl]; simp)])
  have HF : Hid (∀ v W, NdV W v (joinN n m k) → Calls Tryz.prog 15 #[v] W fun e w' => e = .returned (.bool (joinN n m k).fits) ∧ W.grownBy w' none) := Lib.hid (fun v W h => fits_any v _ W h (Lim.join ho ho2 k))
  have HJN : Hid (∀ W, w.grownBy W none → Calls Tryz.prog 115 #[.agg #[.bool false, a, b, c], .agg #[.bool false, p, q, r], .string k] W (NodeGot (joinN n m k) W)) := Lib.hid (fun W g => by
    have := ho.cells; have := ho.keys; have := ho.kids; have := ho2.cells; have := ho2.keys; have := ho2.kids
    rw [HN.out]
    exact joinI_any _ _ _ _ _ _ _ _ _ _ _ _ _ W (stsKeep0 hb g) (stsKeep0 hq g) (hc.keep0 g) (hr.keep0 g) (by omega) (by omega) (by omega) (by omega))
  have m1 := Tryz.mI_mayBe (.bool false) a b c
  have m2 := Tryz.mI_mayBe (.bool false) p q r
  have m3 := Tryz.mI_join (.bool false) a b c
  obtain ⟨w0, hw0, ka, kb, k2, g0, hz⟩ := new3 w 26 #[.bool false, a, b, c] 26 #[.bool false, p, q, r] 26 #[.bool false, .slice none 0 0, .slice none 0 0, .slice none 0 0]
  have HW := Lib.hid hw0
  have HEQ : Hid ((n.leaf == m.leaf) = true) := Lib.hid (by rw [hl, hl2]; rfl)
  clear hw0 hz ha hb hc hp hq hr ho ho2 hl hl2
  generalize hja : n.may = ma at HMa HB
  generalize hjb : m.may = mb at HMb HB
  generalize hjf : (joinN n m k).fits = jf at HF HB
  clear hja hjb hjf
  show Calls _ _ _ _ (JG (joinB n m k) (joinN n m k) w)
  generalize joinB n m k = jb at HB ⊢
  generalize joinN n m k = J at HJN HF HN ⊢
  cases ma
  · have HJ : Hid (jb = false) := Lib.hid (by rw [HB.out]; simp)
    clear HB
    go_enter Tryz.func10, Tryz.ntmps10
    go_wp2_with (first
      | (go_at_call 21; (with_reducible refine (bodyOf_I _ _ _ _).mono ?_); first | (rw [← HW.out]; rintro e w1 ⟨rfl, g1⟩; replace ka := ka.keep0 g1; replace kb := kb.keep0 g1; replace k2 := k2.keep0 g1; replace g1 := gb_trans g0 g1; have p0 := kb.cell 0 rfl; have p1 := kb.cell 1 rfl; have p2 := kb.cell 2 rfl; have p3 := kb.cell 3 rfl; have d0 := ka.cell 0 rfl) | (rintro e w3 ⟨rfl, g3⟩; replace ka := ka.keep0 g3; replace kb := kb.keep0 g3; replace k2 := k2.keep0 g3; replace g3 := gb_trans g2 g3; clear p0 p1 p2 p3 d0; have p0 := kb.cell 0 rfl; have p1 := kb.cell 1 rfl; have p2 := kb.cell 2 rfl; have p3 := kb.cell 3 rfl; have d0 := ka.cell 0 rfl))
      | (go_at_call 117; (with_reducible refine (HMa.out _ g1).mono ?_); rintro e w2 ⟨rfl, g2⟩; replace ka := ka.keep0 g2; replace kb := kb.keep0 g2; replace k2 := k2.keep0 g2; replace g2 := gb_trans g1 g2; clear p0 p1 p2 p3 d0; have p0 := kb.cell 0 rfl; have p1 := kb.cell 1 rfl; have p2 := kb.cell 2 rfl; have p3 := kb.cell 3 rfl; have d0 := ka.cell 0 rfl)
      | ((with_reducible refine st_node rfl (w.heap.size + 1 + 1) 26 ?_ ?_ ?_ ?_ ?_ ?_ ?_ ?_ ?_ ?_ ?_ ?_ _ _ _ _ k2 ?_); rotate_left 10; (· rfl); (· rfl); intro wz nz gz; replace gz := gb_step g2 gz (by omega)))
    refine bodyPost_ret (results_cs rfl _ _ _ _ _ _ _ rfl nz) rfl ?_
    unfold JG; rw [HJ.out]
    exact ⟨_, rfl, NdV.zero _, gz⟩
  cases mb
  · have HJ : Hid (jb = false) := Lib.hid (by rw [HB.out]; simp)
    clear HB
    go_enter Tryz.func10, Tryz.ntmps10
    go_wp2_with (first
      | (go_at_call 21; (with_reducible refine (bodyOf_I _ _ _ _).mono ?_); first | (rw [← HW.out]; rintro e w1 ⟨rfl, g1⟩; replace ka := ka.keep0 g1; replace kb := kb.keep0 g1; replace k2 := k2.keep0 g1; replace g1 := gb_trans g0 g1; have p0 := kb.cell 0 rfl; have p1 := kb.cell 1 rfl; have p2 := kb.cell 2 rfl; have p3 := kb.cell 3 rfl; have d0 := ka.cell 0 rfl) | (rintro e w3 ⟨rfl, g3⟩; replace ka := ka.keep0 g3; replace kb := kb.keep0 g3; replace k2 := k2.keep0 g3; replace g3 := gb_trans g2 g3; clear p0 p1 p2 p3 d0; have p0 := kb.cell 0 rfl; have p1 := kb.cell 1 rfl; have p2 := kb.cell 2 rfl; have p3 := kb.cell 3 rfl; have d0 := ka.cell 0 rfl))
      | (go_at_call 117; (with_reducible refine (HMa.out _ g1).mono ?_); rintro e w2 ⟨rfl, g2⟩; replace ka := ka.keep0 g2; replace kb := kb.keep0 g2; replace k2 := k2.keep0 g2; replace g2 := gb_trans g1 g2; clear p0 p1 p2 p3 d0; have p0 := kb.cell 0 rfl; have p1 := kb.cell 1 rfl; have p2 := kb.cell 2 rfl; have p3 := kb.cell 3 rfl; have d0 := ka.cell 0 rfl)
      | (go_at_call 117; (with_reducible refine (HMb.out _ g3).mono ?_); rintro e w4 ⟨rfl, g4⟩; replace ka := ka.keep0 g4; replace kb := kb.keep0 g4; replace k2 := k2.keep0 g4; replace g4 := gb_trans g3 g4; clear p0 p1 p2 p3 d0; have p0 := kb.cell 0 rfl; have p1 := kb.cell 1 rfl; have p2 := kb.cell 2 rfl; have p3 := kb.cell 3 rfl; have d0 := ka.cell 0 rfl)
      | ((with_reducible refine st_node rfl (w.heap.size + 1 + 1) 26 ?_ ?_ ?_ ?_ ?_ ?_ ?_ ?_ ?_ ?_ ?_ ?_ _ _ _ _ k2 ?_); rotate_left 10; (· rfl); (· rfl); intro wz nz gz; replace gz := gb_step g4 gz (by omega)))
    refine bodyPost_ret (results_cs rfl _ _ _ _ _ _ _ rfl nz) rfl ?_
    unfold JG; rw [HJ.out]
    exact ⟨_, rfl, NdV.zero _, gz⟩
  cases jf
  · have HJ : Hid (jb = false) := Lib.hid (by rw [HB.out]; simp)
    clear HB
    go_enter Tryz.func10, Tryz.ntmps10
    go_wp2_with (first
      | (go_at_call 21; (with_reducible refine (bodyOf_I _ _ _ _).mono ?_); first | (rw [← HW.out]; rintro e w1 ⟨rfl, g1⟩; replace ka := ka.keep0 g1; replace kb := kb.keep0 g1; replace k2 := k2.keep0 g1; replace g1 := gb_trans g0 g1; have p0 := kb.cell 0 rfl; have p1 := kb.cell 1 rfl; have p2 := kb.cell 2 rfl; have p3 := kb.cell 3 rfl; have d0 := ka.cell 0 rfl) | (rintro e w3 ⟨rfl, g3⟩; replace ka := ka.keep0 g3; replace kb := kb.keep0 g3; replace k2 := k2.keep0 g3; replace g3 := gb_trans g2 g3; clear p0 p1 p2 p3 d0; have p0 := kb.cell 0 rfl; have p1 := kb.cell 1 rfl; have p2 := kb.cell 2 rfl; have p3 := kb.cell 3 rfl; have d0 := ka.cell 0 rfl))
      | (go_at_call 117; (with_reducible refine (HMa.out _ g1).mono ?_); rintro e w2 ⟨rfl, g2⟩; replace ka := ka.keep0 g2; replace kb := kb.keep0 g2; replace k2 := k2.keep0 g2; replace g2 := gb_trans g1 g2; clear p0 p1 p2 p3 d0; have p0 := kb.cell 0 rfl; have p1 := kb.cell 1 rfl; have p2 := kb.cell 2 rfl; have p3 := kb.cell 3 rfl; have d0 := ka.cell 0 rfl)
      | (go_at_call 117; (with_reducible refine (HMb.out _ g3).mono ?_); rintro e w4 ⟨rfl, g4⟩; replace ka := ka.keep0 g4; replace kb := kb.keep0 g4; replace k2 := k2.keep0 g4; replace g4 := gb_trans g3 g4; clear p0 p1 p2 p3 d0; have p0 := kb.cell 0 rfl; have p1 := kb.cell 1 rfl; have p2 := kb.cell 2 rfl; have p3 := kb.cell 3 rfl; have d0 := ka.cell 0 rfl)
      | (go_at_call 115; (with_reducible refine (HJN.out _ g4).mono ?_); rintro e w5 ⟨v5, rfl, h5, g5⟩; obtain ⟨x1, y1, z1, rfl, ax, ay, az⟩ := h5; obtain ⟨o1, q1, e1, rfl⟩ := shape' ax; obtain ⟨o2, q2, e2, rfl⟩ := shape' ay; obtain ⟨o3, q3, e3, rfl⟩ := shape' az; have H5 : Hid (NdV w5 (.agg #[.bool J.leaf, .slice o1 q1 e1, .slice o2 q2 e2, .slice o3 q3 e3]) J) := Lib.hid ⟨_, _, _, rfl, ax, ay, az⟩; clear ax ay az; replace ka := ka.keep0 g5; replace kb := kb.keep0 g5; replace k2 := k2.keep0 g5; replace g5 := gb_trans g4 g5; clear p0 p1 p2 p3 d0)
      | (go_at_call 15; (with_reducible refine (HF.out _ _ (H5.out.keep0 (gb_alloc _ _ _))).mono ?_); rintro e w6 ⟨rfl, g6⟩; have kn := (Blk.mk w5 26 #[.bool J.leaf, .slice o1 q1 e1, .slice o2 q2 e2, .slice o3 q3 e3]).keep0 g6; replace g6 := gb_trans (gb_alloc _ _ _) g6; replace k2 := k2.keep0 g6; replace H5 := Lib.hid (H5.out.keep0 g6); replace g6 := gb_trans g5 g6; have r0 := kn.cell 0 rfl; have r1 := kn.cell 1 rfl; have r2 := kn.cell 2 rfl; have r3 := kn.cell 3 rfl; clear kn)
      | ((with_reducible refine st_node rfl (w.heap.size + 1 + 1) 26 ?_ ?_ ?_ ?_ ?_ ?_ ?_ ?_ ?_ ?_ ?_ ?_ _ _ _ _ k2 ?_); rotate_left 10; (· rfl); (· rfl); intro wz nz gz; replace gz := gb_step g6 gz (by omega)))
    refine bodyPost_ret (results_cs rfl _ _ _ _ _ _ _ rfl nz) rfl ?_
    unfold JG; rw [HJ.out]
    exact ⟨_, rfl, NdV.zero _, gz⟩
  · have HJ : Hid (jb = true) := Lib.hid (by rw [HB.out, HEQ.out]; simp)
    clear HB
    go_enter Tryz.func10, Tryz.ntmps10
    go_wp2_with (first
      | (go_at_call 21; (with_reducible refine (bodyOf_I _ _ _ _).mono ?_); first | (rw [← HW.out]; rintro e w1 ⟨rfl, g1⟩; replace ka := ka.keep0 g1; replace kb := kb.keep0 g1; replace k2 := k2.keep0 g1; replace g1 := gb_trans g0 g1; have p0 := kb.cell 0 rfl; have p1 := kb.cell 1 rfl; have p2 := kb.cell 2 rfl; have p3 := kb.cell 3 rfl; have d0 := ka.cell 0 rfl) | (rintro e w3 ⟨rfl, g3⟩; replace ka := ka.keep0 g3; replace kb := kb.keep0 g3; replace k2 := k2.keep0 g3; replace g3 := gb_trans g2 g3; clear p0 p1 p2 p3 d0; have p0 := kb.cell 0 rfl; have p1 := kb.cell 1 rfl; have p2 := kb.cell 2 rfl; have p3 := kb.cell 3 rfl; have d0 := ka.cell 0 rfl))
      | (go_at_call 117; (with_reducible refine (HMa.out _ g1).mono ?_); rintro e w2 ⟨rfl, g2⟩; replace ka := ka.keep0 g2; replace kb := kb.keep0 g2; replace k2 := k2.keep0 g2; replace g2 := gb_trans g1 g2; clear p0 p1 p2 p3 d0; have p0 := kb.cell 0 rfl; have p1 := kb.cell 1 rfl; have p2 := kb.cell 2 rfl; have p3 := kb.cell 3 rfl; have d0 := ka.cell 0 rfl)
      | (go_at_call 117; (with_reducible refine (HMb.out _ g3).mono ?_); rintro e w4 ⟨rfl, g4⟩; replace ka := ka.keep0 g4; replace kb := kb.keep0 g4; replace k2 := k2.keep0 g4; replace g4 := gb_trans g3 g4; clear p0 p1 p2 p3 d0; have p0 := kb.cell 0 rfl; have p1 := kb.cell 1 rfl; have p2 := kb.cell 2 rfl; have p3 := kb.cell 3 rfl; have d0 := ka.cell 0 rfl)
      | (go_at_call 115; (with_reducible refine (HJN.out _ g4).mono ?_); rintro e w5 ⟨v5, rfl, h5, g5⟩; obtain ⟨x1, y1, z1, rfl, ax, ay, az⟩ := h5; obtain ⟨o1, q1, e1, rfl⟩ := shape' ax; obtain ⟨o2, q2, e2, rfl⟩ := shape' ay; obtain ⟨o3, q3, e3, rfl⟩ := shape' az; have H5 : Hid (NdV w5 (.agg #[.bool J.leaf, .slice o1 q1 e1, .slice o2 q2 e2, .slice o3 q3 e3]) J) := Lib.hid ⟨_, _, _, rfl, ax, ay, az⟩; clear ax ay az; replace ka := ka.keep0 g5; replace kb := kb.keep0 g5; replace k2 := k2.keep0 g5; replace g5 := gb_trans g4 g5; clear p0 p1 p2 p3 d0)
      | (go_at_call 15; (with_reducible refine (HF.out _ _ (H5.out.keep0 (gb_alloc _ _ _))).mono ?_); rintro e w6 ⟨rfl, g6⟩; have kn := (Blk.mk w5 26 #[.bool J.leaf, .slice o1 q1 e1, .slice o2 q2 e2, .slice o3 q3 e3]).keep0 g6; replace g6 := gb_trans (gb_alloc _ _ _) g6; replace k2 := k2.keep0 g6; replace H5 := Lib.hid (H5.out.keep0 g6); replace g6 := gb_trans g5 g6; have r0 := kn.cell 0 rfl; have r1 := kn.cell 1 rfl; have r2 := kn.cell 2 rfl; have r3 := kn.cell 3 rfl; clear kn)
      | ((with_reducible refine st_node rfl (w.heap.size + 1 + 1) 26 ?_ ?_ ?_ ?_ ?_ ?_ ?_ ?_ ?_ ?_ ?_ ?_ _ _ _ _ k2 ?_); rotate_left 10; (· rfl); (· rfl); intro wz nz gz; replace H5 := Lib.hid (H5.out.keepN (Nbl.node k2) gz); replace gz := gb_step g6 gz (by omega)))
    refine bodyPost_ret (results_cs rfl _ _ _ _ _ _ _ rfl nz) rfl ?_
    unfold JG; rw [HJ.out]
    exact ⟨_, rfl, H5.out, gz⟩
theorem join_any (v u : Value) (n m : Nd) (k : ByteArray) (w : World) (hv : NdV w v n) (hu : NdV w u m) (ho : n.Half) (ho2 : m.Half) : Calls Tryz.prog 10 #[v, u, .string k] w (JoinGot n m k w) := by
  obtain ⟨a, b, c, rfl, ha, hb, hc⟩ := hv
  obtain ⟨p, q, r, rfl, hp, hq, hr⟩ := hu
  have hne : ∀ x y : Bool, n.leaf = x → m.leaf = y → x ≠ y → joinB n m k = false := by
    intro x y h1 h2 h3; unfold joinB; rw [h1, h2]; cases x <;> cases y <;> simp_all
  rcases hl : n.leaf with _ | _ <;> rcases hl2 : m.leaf with _ | _
  · exact join_II a b c p q r n m k w hl hl2 ha hb hc hp hq hr ho ho2
  · refine (join_IL a b c p q r k w).mono ?_
    rintro e w' ⟨rfl, g⟩
    unfold JoinGot JG
    rw [hne _ _ hl hl2 (by simp)]
    exact ⟨_, rfl, NdV.zero _, g⟩
  · refine (join_LI a b c p q r k w).mono ?_
    rintro e w' ⟨rfl, g⟩
    unfold JoinGot JG
    rw [hne _ _ hl hl2 (by simp)]
    exact ⟨_, rfl, NdV.zero _, g⟩
  · exact join_LL a b c p q r n m k w hl hl2 ha hb hc hp hq hr ho ho2
end Go.Proofs.YthhimhjegodklaaGreat.N11

