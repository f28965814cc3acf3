/-
  What the leaf of a made node is (Made.leaf of foyerlaw11), over this seat's translation; conditions: its numbers lie.
-/
import Derived.Test.YthhimhjegodklaaGreatNz
namespace Go.Proofs.YthhimhjegodklaaGreat.N11
set_option linter.unusedSimpArgs false
set_option linter.unusedVariables false
open Go.RowKit
/-- The cells of a made leaf. -/
def cellM (h : ByteArray) (L : List UInt8) (i : Nat) : Ce :=
  if 40 < numAt L i % 50 then ⟨keyF h L i, noS, 1 + (numAt L i : Int), (numAt L i : Int) % 50 + 7 * (numAt L i : Int)⟩ else ⟨keyF h L i, ⟨(zer (numAt L i % 50)).toArray⟩, 0, 0⟩
def cellsM (h : ByteArray) (L : List UInt8) (k : Nat) : List Ce := (List.range k).map (cellM h L)
def leafM (h : ByteArray) (L : List UInt8) : Nd := ⟨true, cellsM h L (min L.length 30), [], []⟩
theorem cellsM_succ (h : ByteArray) (L : List UInt8) (k : Nat) : cellsM h L (k + 1) = cellsM h L k ++ [cellM h L k] := by
  unfold cellsM; rw [List.range_succ, List.map_append]; rfl
def MadeGot (n : Nd) (w : World) (e : Ending) (w' : World) : Prop := ∃ v, e = .returned v ∧ NdV w' v n ∧ w.grownBy w' none
set_option maxRecDepth 100000 in
set_option maxHeartbeats 2000000 in
theorem leaf_any (h : ByteArray) (v : Value) (L : List UInt8) (w : World) (hv : Bs w v L) : Calls Tryz.prog 8 #[.agg #[.string h, v]] w (MadeGot (leafM h L) w) := by
  obtain ⟨ao, cap, rfl, hcap, hnil, hcell⟩ := hv
  obtain ⟨w0, hw0, kM, kR, kN, g0, hz0⟩ := new3 w 30 #[.string h, .slice ao L.length cap] 26 #[.bool false, .slice none 0 0, .slice none 0 0, .slice none 0 0] 26 #[.bool true, .slice none 0 0, .slice none 0 0, .slice none 0 0]
  have HW := Lib.hid hw0
  have HV := Lib.hid (show Bs w (.slice ao L.length cap) L from ⟨ao, cap, rfl, hcap, hnil, hcell⟩)
  have HI : ∃ cv, Blk w0 w.heap.size 30 #[.string h, .slice ao L.length cap] ∧ Blk w0 (w.heap.size + 2) 26 #[.bool true, cv, .slice none 0 0, .slice none 0 0] ∧ RowC w0 (w.heap.size + 3) cv (cellsM h L 0) ∧ w.grownBy w0 none ∧ Blk w0 (w.heap.size + 1) 26 #[.bool false, .slice none 0 0, .slice none 0 0, .slice none 0 0] := ⟨_, kM, kN, RowC.nil _ _, g0, kR⟩
  clear hw0 kM kR kN g0 hz0 hcell hcap hnil
  go_enter Tryz.func8, Tryz.ntmps8
  go_wp2
  rw [← HW.out]
  go_loopw [4] (fun i wr => ∃ (k : Nat) (cv : Value), k ≤ min L.length 30 ∧ i = .int .i64 k ∧ Blk wr w.heap.size 30 #[.string h, .slice ao L.length cap] ∧ Blk wr (w.heap.size + 2) 26 #[.bool true, cv, .slice none 0 0, .slice none 0 0] ∧ RowC wr (w.heap.size + 3) cv (cellsM h L k) ∧ w.grownBy wr none ∧ Blk wr (w.heap.size + 1) 26 #[.bool false, .slice none 0 0, .slice none 0 0, .slice none 0 0]) (fun i _ => min L.length 30 - (intOf i).toNat)
  case atStart => obtain ⟨cv, h1⟩ := HI; exact ⟨0, cv, Nat.zero_le _, rfl, h1⟩
  case round =>
    clear HI
    obtain ⟨k, cv, hk, rfl, kM, kN, hrow, hg, kR⟩ := hrel
    obtain ⟨vo, vn, vc, rfl⟩ := shape' hrow.sl
    have c0 := kM.cell 0 rfl
    have c1 := kM.cell 1 rfl
    by_cases hlt : k < min L.length 30
    · have h1 : k < L.length := by omega
      have h30 : k < 30 := by omega
      have hwl : w.heap.size + 3 ≤ wr.heap.size := by have := kN.lt; omega
      have HBS := Lib.hid (HV.out.keep0 hg)
      have HKEY := Lib.hid (key_any h _ L k wr HBS.out h1 h30)
      obtain ⟨x, hx⟩ : ∃ x, numAt L k = x := ⟨_, rfl⟩
      have hxb : x < 256 := by rw [← hx]; exact UInt8.toNat_lt _
      obtain ⟨ab, af, ax, hap, hcx, hab⟩ : ∃ ab af ax, (∀ a, ao = some a → a.add k = ⟨ab, af, ax⟩) ∧ wr.cell? ⟨ab, af, ax⟩ = some (.int .u8 (x : Nat)) ∧ ab < wr.heap.size := by
        obtain ⟨ao', cap', he, hcap, hnil, hcell⟩ := HBS.out
        cases he
        cases ao with
        | none => have := (hnil rfl).1; omega
        | some a =>
          have hc := hcell a rfl k (.int .u8 (x : Nat)) (by rw [← hx]; unfold bcells numAt; rw [List.getElem?_map, List.getD_eq_getElem?_getD, List.getElem?_eq_getElem h1]; rfl)
          exact ⟨_, _, _, fun b e => by cases e; rfl, hc, World.block_lt_of_cell? wr _ hc⟩
      cases ao with
      | none =>
        obtain ⟨ao', cap', he, hcap, hnil, hcell⟩ := HV.out
        cases he
        have := (hnil rfl).1
        omega
      | some a =>
      have ha := hap a rfl
      clear hap
      have hW : wrap64 (x : Int) = x := by unfold wrap64; omega
      have hT : (x : Int).tmod 50 = (x : Int) % 50 := Int.tmod_eq_emod_of_nonneg (by omega)
      have HROW := Lib.hid hrow
      have HG := Lib.hid hg
      have hpl : (cellsM h L k).length ≤ 1000000 := by unfold cellsM; rw [List.length_map, List.length_range]; omega
      clear hrow hg
      by_cases hbig : 40 < x % 50
      · have hq : decide (40 < (x : Int) % 50) = true := by simp; omega
        have hce : cellM h L k = ⟨keyF h L k, ⟨#[]⟩, 1 + (x : Int), (x : Int) % 50 + 7 * (x : Int)⟩ := by unfold cellM; rw [hx]; exact if_pos hbig
        have HCE := Lib.hid hce
        clear hce
        go_wp2_with (first
          | (go_at_call 20; (with_reducible refine HKEY.out.mono ?_); rintro e w2 ⟨rfl, g2⟩; have kM2 := kM.keep0 g2; have kN2 := kN.keep0 g2; have kR2 := kR.keep0 g2; have HROW2 := Lib.hid (RowC.keep0 (show RowC wr _ _ (cellsM h L k) from HROW.out) g2); have G2 := Lib.hid (gb_trans HG.out g2); have hw2 : w.heap.size + 3 ≤ w2.heap.size := Nat.le_trans hwl g2.size; have hab2 : ab < w2.heap.size := Nat.lt_of_lt_of_le hab g2.size; have cx : w2.cell? ⟨ab, af, ax⟩ = some (.int .u8 (x : Nat)) := g2.cell hcx (by simp); have m0 := kM2.cell 0 rfl; have m1 := kM2.cell 1 rfl; have n1 := kN2.cell 1 rfl; have hN1 : w.heap.size + 2 ≠ w2.heap.size := (by omega); have hN2 : w2.heap.size ≠ w.heap.size + 2 := (by omega); have hM1 : w.heap.size < w2.heap.size := (by omega); have hN3 : w.heap.size + 2 < w2.heap.size := (by omega); have hM2 : w2.heap.size ≠ w.heap.size := (by omega); have hb2 : w2.heap.size ≠ ab := (by omega); clear g2 kM kN kR c0 c1)
          | (at_builtin; go_must (obtain ⟨uA, hA, kc, gA, hzA⟩ := new1 w2 55 #[.string (keyF h L k), .string ⟨#[]⟩, .int .i64 (1 + (x : Int)), .int .i64 ((x : Int) % 50 + 7 * (x : Int))]; obtain ⟨uB, hB, kB, gB, hzz⟩ := new1 uA 55 #[.string (keyF h L k), .string ⟨#[]⟩, .int .i64 (1 + (x : Int)), .int .i64 ((x : Int) % 50 + 7 * (x : Int))]; rw [← hA, ← hB]; rw [hzA] at kB; have HRA := Lib.hid (RowC.keep0 (RowC.keep0 (show RowC w2 _ _ (cellsM h L k) from HROW2.out) gA) gB); obtain ⟨v', w', hr, hs', hg'⟩ := row_app_C HRA.out (ces_one kB) hpl (by simp) (Nat.le_trans hw2 (Nat.le_trans gA.size gB.size)) 22; obtain ⟨xo, xn, xc, rfl⟩ := shape' (RowC.sl hs'); have hfN := row_ne HRA.out (j := w.heap.size + 2) (.inl (by omega)); have hfR := row_ne HRA.out (j := w.heap.size + 1) (.inl (by omega)); have hfM := row_ne HRA.out (j := w.heap.size) (.inl (by omega)); clear m0 m1 n1 ; replace kN2 := ((kN2.keep0 gA).keep0 gB).keep hg' hfN; replace kR2 := ((kR2.keep0 gA).keep0 gB).keep hg' hfR; replace kM2 := ((kM2.keep0 gA).keep0 gB).keep hg' hfM; have HRV := Lib.hid hs'; have GV := Lib.hid (gb_own2 (gb_trans (gb_trans G2.out gA) gB) HRA.out (by omega) hg'); have HR := Lib.hid hr; clear hr hs' hg' hfN hfR hfM gA gB kB hA hB hzA hzz; have n1 := kN2.cell 1 rfl; have f1 := kN2.free 1; refine Lib.wpList_append_run _ rfl _ _ _ _ rfl _ _ rfl rfl _ _ HR.out ?_)))
        go_roundw
        case rel =>
          refine ⟨k + 1, _, by omega, by go_num, ?_, kN2.set 1 _, ?_, ?_, ?_⟩
          · exact kM2.keep (gb_set _ _ _ _ _) (ne_some (by omega))
          · rw [cellsM_succ, HCE.out]
            exact World.ownsRow.kept HRV.out (gb_set _ _ _ _ _) (.inr (row_ne HRV.out (.inl (by omega))).symm)
          · exact gb_step GV.out (gb_set _ _ _ _ _) (by omega)
          · exact kR2.keep (gb_set _ _ _ _ _) (ne_some (by omega))
        case measure => simp [intOf]; omega
      · have hq : decide (40 < (x : Int) % 50) = false := by simp; omega
        have hmk := fun W => make_zer (x % 50) ((x : Int) % 50) W (by omega) (by omega)
        have hc2 : ∀ (w2 : World) (C : Obj), (convert 28 9 (.slice (some ⟨w2.heap.size + 1, 0, none⟩) (x % 50) (x % 50))).run Tryz.prog ((w2.alloc C).alloc (.cells (bcells (zer (x % 50))).toArray 5)) = .ok (.string ⟨(zer (x % 50)).toArray⟩) ((w2.alloc C).alloc (.cells (bcells (zer (x % 50))).toArray 5)) := by
          intro w2 C
          have h := new_txt (w2.alloc C) (zer (x % 50)) (x % 50) (by simp [zer])
          simpa using h
        have hce : cellM h L k = ⟨keyF h L k, ⟨(zer (x % 50)).toArray⟩, 0, 0⟩ := by unfold cellM; rw [hx]; exact if_neg hbig
        have HCE := Lib.hid hce
        clear hce
        go_wp2_with (first
          | (go_at_call 20; (with_reducible refine HKEY.out.mono ?_); rintro e w2 ⟨rfl, g2⟩; have kM2 := kM.keep0 g2; have kN2 := kN.keep0 g2; have kR2 := kR.keep0 g2; have HROW2 := Lib.hid (RowC.keep0 (show RowC wr _ _ (cellsM h L k) from HROW.out) g2); have G2 := Lib.hid (gb_trans HG.out g2); have hw2 : w.heap.size + 3 ≤ w2.heap.size := Nat.le_trans hwl g2.size; have hab2 : ab < w2.heap.size := Nat.lt_of_lt_of_le hab g2.size; have cx : w2.cell? ⟨ab, af, ax⟩ = some (.int .u8 (x : Nat)) := g2.cell hcx (by simp); have m0 := kM2.cell 0 rfl; have m1 := kM2.cell 1 rfl; have n1 := kN2.cell 1 rfl; have n1b : ∀ C D : Obj, ((w2.alloc C).alloc D).cell? ⟨w.heap.size + 1 + 1, 1, none⟩ = some (.slice vo vn vc) := (fun C D => (gb_trans (gb_alloc w2 C none) (gb_alloc (w2.alloc C) D none)).cell n1 (by simp)); have hN1 : w.heap.size + 2 ≠ w2.heap.size := (by omega); have hN2 : w2.heap.size ≠ w.heap.size + 2 := (by omega); have hM1 : w.heap.size < w2.heap.size := (by omega); have hN3 : w.heap.size + 2 < w2.heap.size := (by omega); have hM2 : w2.heap.size ≠ w.heap.size := (by omega); have hb2 : w2.heap.size ≠ ab := (by omega); clear g2 kM kN kR c0 c1)
          | (at_builtin; go_must (obtain ⟨uA, hA, kc, kz, gA, hzA⟩ := new2 w2 55 #[.string (keyF h L k), .string ⟨(zer (x % 50)).toArray⟩, .int .i64 0, .int .i64 0] 5 (bcells (zer (x % 50))).toArray; obtain ⟨uB, hB, kB, gB, hzz⟩ := new1 uA 55 #[.string (keyF h L k), .string ⟨(zer (x % 50)).toArray⟩, .int .i64 0, .int .i64 0]; rw [← hA, ← hB]; rw [hzA] at kB; have HRA := Lib.hid (RowC.keep0 (RowC.keep0 (show RowC w2 _ _ (cellsM h L k) from HROW2.out) gA) gB); obtain ⟨v', w', hr, hs', hg'⟩ := row_app_C HRA.out (ces_one kB) hpl (by simp) (Nat.le_trans hw2 (Nat.le_trans gA.size gB.size)) 22; obtain ⟨xo, xn, xc, rfl⟩ := shape' (RowC.sl hs'); have hfN := row_ne HRA.out (j := w.heap.size + 2) (.inl (by omega)); have hfR := row_ne HRA.out (j := w.heap.size + 1) (.inl (by omega)); have hfM := row_ne HRA.out (j := w.heap.size) (.inl (by omega)); clear m0 m1 n1 n1b; replace kN2 := ((kN2.keep0 gA).keep0 gB).keep hg' hfN; replace kR2 := ((kR2.keep0 gA).keep0 gB).keep hg' hfR; replace kM2 := ((kM2.keep0 gA).keep0 gB).keep hg' hfM; have HRV := Lib.hid hs'; have GV := Lib.hid (gb_own2 (gb_trans (gb_trans G2.out gA) gB) HRA.out (by omega) hg'); have HR := Lib.hid hr; clear hr hs' hg' hfN hfR hfM gA gB kB hA hB hzA hzz; have n1 := kN2.cell 1 rfl; have f1 := kN2.free 1; refine Lib.wpList_append_run _ rfl _ _ _ _ rfl _ _ rfl rfl _ _ HR.out ?_)))
        go_roundw
        case rel =>
          refine ⟨k + 1, _, by omega, by go_num, ?_, kN2.set 1 _, ?_, ?_, ?_⟩
          · exact kM2.keep (gb_set _ _ _ _ _) (ne_some (by omega))
          · rw [cellsM_succ, HCE.out]
            exact World.ownsRow.kept HRV.out (gb_set _ _ _ _ _) (.inr (row_ne HRV.out (.inl (by omega))).symm)
          · exact gb_step GV.out (gb_set _ _ _ _ _) (by omega)
          · exact kR2.keep (gb_set _ _ _ _ _) (ne_some (by omega))
        case measure => simp [intOf]; omega
    · have hk2 : k = min L.length 30 := by omega
      subst hk2
      have n0 := kN.cell 0 rfl
      have n1 := kN.cell 1 rfl
      have n2 := kN.cell 2 rfl
      have n3 := kN.cell 3 rfl
      have HC := Lib.hid hrow.sl
      have HG := Lib.hid hg
      clear hrow hg
      rcases Nat.lt_or_ge 30 L.length with hll | hll
      · have hm : min L.length 30 = 30 := by omega
        rw [hm] at HC ⊢
        go_wp2_with ((with_reducible refine st_node rfl (w.heap.size + 1) 26 ?_ ?_ ?_ ?_ ?_ ?_ ?_ ?_ ?_ ?_ ?_ ?_ _ _ _ _ kR ?_); rotate_left 10; (· rfl); (· rfl); intro w9 n9 g9)
        refine bodyPost_ret (results_c rfl _ _ _ _ _ _ _ rfl n9) rfl ?_
        unfold leafM
        rw [hm]
        exact ⟨_, rfl, ⟨_, _, _, rfl, HC.out.keepN (Nbl.node kR) g9, Sl.nil _ _, Sl.nil _ _⟩, gb_step HG.out g9 (by omega)⟩
      · have hm : min L.length 30 = L.length := by omega
        rw [hm] at HC ⊢
        go_wp2_with ((with_reducible refine st_node rfl (w.heap.size + 1) 26 ?_ ?_ ?_ ?_ ?_ ?_ ?_ ?_ ?_ ?_ ?_ ?_ _ _ _ _ kR ?_); rotate_left 10; (· rfl); (· rfl); intro w9 n9 g9)
        refine bodyPost_ret (results_c rfl _ _ _ _ _ _ _ rfl n9) rfl ?_
        unfold leafM
        rw [hm]
        exact ⟨_, rfl, ⟨_, _, _, rfl, HC.out.keepN (Nbl.node kR) g9, Sl.nil _ _, Sl.nil _ _⟩, gb_step HG.out g9 (by omega)⟩
end Go.Proofs.YthhimhjegodklaaGreat.N11

