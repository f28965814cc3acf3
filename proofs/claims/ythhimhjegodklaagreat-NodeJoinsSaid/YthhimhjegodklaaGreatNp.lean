/-
  That the document's Same, and the statements' own, answer true of nodes that are alike, over this seat's translation; conditions: both lie as they are told, and have as many of each as a machine's numbers tell.
-/
import Derived.Test.YthhimhjegodklaaGreatNo
import Derived.Laws.StructEq
namespace Go.Proofs.YthhimhjegodklaaGreat.N11
set_option linter.unusedSimpArgs false
set_option linter.unusedVariables false
open Go.RowKit
theorem neqCell (k v : ByteArray) (f o : Int) (w : World) : (binOp .neq 55 (.agg #[.string k, .string v, .int .i64 f, .int .i64 o]) (.agg #[.string k, .string v, .int .i64 f, .int .i64 o])).run Tryz.prog w = .ok (.bool false) w := by
  have u3 := Tryz.underlying3
  have a3 := Tryz.isAgg3
  have z3 := Tryz.sizeOf3
  have u4 := Tryz.underlying9
  have a4 := Tryz.isAgg9
  have z4 := Tryz.sizeOf9
  rw [run_neq_struct, show (10000 : Nat) = 9999 + 1 from rfl, run_equalIn_agg w 9999 55 _ _ (by kernel_rfl) (by kernel_rfl)]
  simp only [Program.fieldsOf, Tryz.underlying55]
  go_simp
set_option maxRecDepth 100000 in
set_option maxHeartbeats 1000000 in
theorem Same_eq (v u : Value) (n : Nd) (w : World) (hv : NdV w v n) (hu : NdV w u n) (h1 : n.cells.length ≤ 1000000000000000000) (h2 : n.keys.length ≤ 1000000000000000000) (h3 : n.kids.length ≤ 1000000000000000000) :
    Calls Tryz.prog 12 #[v, u] w fun e w' => e = .returned (.bool true) ∧ w.grownBy w' none := by
  obtain ⟨lf, cs, ks, is⟩ := n
  obtain ⟨a1, a2, a3, rfl, ha1, ha2, ha3⟩ := hv
  obtain ⟨b1, b2, b3, rfl, hb1, hb2, hb3⟩ := hu
  have HA1 := Lib.hid ha1
  have HA2 := Lib.hid ha2
  have HA3 := Lib.hid ha3
  have HB1 := Lib.hid hb1
  have HB2 := Lib.hid hb2
  have HB3 := Lib.hid hb3
  obtain ⟨ao, ca, rfl⟩ := Sl.shape ha1
  obtain ⟨bo, cb, rfl⟩ := Sl.shape ha2
  obtain ⟨co, cc, rfl⟩ := Sl.shape ha3
  obtain ⟨ko, cd, rfl⟩ := Sl.shape hb1
  obtain ⟨eo, ce, rfl⟩ := Sl.shape hb2
  obtain ⟨fo, cf, rfl⟩ := Sl.shape hb3
  clear ha1 ha2 ha3 hb1 hb2 hb3
  dsimp only at h1 h2 h3 HA1 HA2 HA3 HB1 HB2 HB3 ⊢
  obtain ⟨n1, hn1⟩ : ∃ n, cs.length = n := ⟨_, rfl⟩
  obtain ⟨n2, hn2⟩ : ∃ n, ks.length = n := ⟨_, rfl⟩
  obtain ⟨n3, hn3⟩ : ∃ n, is.length = n := ⟨_, rfl⟩
  rw [hn1] at h1 HA1 HB1 ⊢
  rw [hn2] at h2 HA2 HB2 ⊢
  rw [hn3] at h3 HA3 HB3 ⊢
  have N1 := Lib.hid hn1
  have N2 := Lib.hid hn2
  have N3 := Lib.hid hn3
  clear hn1 hn2 hn3
  obtain ⟨w0, hw0, ka, kb, g0, hz⟩ := new2 w 26 #[.bool lf, .slice ao n1 ca, .slice bo n2 cb, .slice co n3 cc] 26 #[.bool lf, .slice ko n1 cd, .slice eo n2 ce, .slice fo n3 cf]
  have HW := Lib.hid hw0
  clear hw0 hz
  go_enter Tryz.func12, Tryz.ntmps12
  go_wp2
  rw [← HW.out]
  go_loopw [5] (fun i wr => ∃ k : Nat, k ≤ n1 ∧ i = .int .i64 k ∧ w0.grownBy wr none) (fun i _ => n1 - (intOf i).toNat)
  case atStart => exact ⟨0, Nat.zero_le _, rfl, gb_refl _ _⟩
  case round =>
    obtain ⟨k, hk, rfl, gr⟩ := hrel
    have p1 := (ka.keep0 gr).cell 1 rfl
    by_cases hlt : k < n1
    · obtain ⟨x, hx⟩ : ∃ x, cs[k]? = some x := ⟨_, List.getElem?_eq_getElem (by rw [N1.out]; exact hlt)⟩
      obtain ⟨y, ey, c0, c1, c2, c3⟩ : ∃ y, ao = some y ∧ CAt wr y k x := by
        obtain ⟨ao', cap, e, h4, h5, h6, h7⟩ := HA1.out.keep0 (gb_trans g0 gr)
        injection e with e1 e2 e3
        subst e1
        cases ao with
        | none => have := (h6 rfl).1; rw [N1.out] at this; omega
        | some y => exact ⟨y, rfl, cat_of (h7 y rfl) hx⟩
      obtain ⟨z, ez, d0, d1, d2, d3⟩ : ∃ y, ko = some y ∧ CAt wr y k x := by
        obtain ⟨ao', cap, e, h4, h5, h6, h7⟩ := HB1.out.keep0 (gb_trans g0 gr)
        injection e with e1 e2 e3
        subst e1
        cases ko with
        | none => have := (h6 rfl).1; rw [N1.out] at this; omega
        | some y => exact ⟨y, rfl, cat_of (h7 y rfl) hx⟩
      subst ey ez
      clear hx
      have nc := neqCell x.key x.val x.fi x.lo
      have NC := Lib.hid nc
      clear nc
      go_wp2
      refine wp_region_noPanic ?_
      refine wp_region_held_drew (S := fun w' => wr.grownBy w' none) (by kernel_rfl) (gb_drew _ _) (fun hHeld => ?_)
      refine wpAnyH_take (i := 0) (v := ?_) (List.getElem?_toArray.trans rfl) (by kernel_rfl) (by kernel_rfl) (by kernel_rfl) (fun _ _ _ h => h) (Or.inl ⟨by rfl, ?_⟩) hHeld ?_
      rotate_left
      · intro w' hSw; have gs := gb_trans gr hSw; have p1 := (ka.keep0 gs).cell 1 rfl; have q1 := (kb.keep0 gs).cell 1 rfl; have c0 := hSw.cell c0 (by simp); have c1 := hSw.cell c1 (by simp); have c2 := hSw.cell c2 (by simp); have c3 := hSw.cell c3 (by simp); have d0 := hSw.cell d0 (by simp); have d1 := hSw.cell d1 (by simp); have d2 := hSw.cell d2 (by simp); have d3 := hSw.cell d3 (by simp); go_simp; try with_reducible rfl
      try simp only [Act.put, List.setIfInBounds_toArray, List.set_cons_zero, List.set_cons_succ]
      refine wpAnyH_take (i := 1) (v := ?_) (List.getElem?_toArray.trans rfl) (by kernel_rfl) (by kernel_rfl) (by kernel_rfl) (fun _ _ _ h => h) (Or.inl ⟨by rfl, ?_⟩) hHeld ?_
      rotate_left
      · intro w' hSw; have gs := gb_trans gr hSw; have p1 := (ka.keep0 gs).cell 1 rfl; have q1 := (kb.keep0 gs).cell 1 rfl; have c0 := hSw.cell c0 (by simp); have c1 := hSw.cell c1 (by simp); have c2 := hSw.cell c2 (by simp); have c3 := hSw.cell c3 (by simp); have d0 := hSw.cell d0 (by simp); have d1 := hSw.cell d1 (by simp); have d2 := hSw.cell d2 (by simp); have d3 := hSw.cell d3 (by simp); go_simp; try with_reducible rfl
      try simp only [Act.put, List.setIfInBounds_toArray, List.set_cons_zero, List.set_cons_succ]
      refine wpAnyH_take (i := 2) (v := ?_) (List.getElem?_toArray.trans rfl) (by kernel_rfl) (by kernel_rfl) (by kernel_rfl) (fun _ _ _ h => h) (Or.inl ⟨by rfl, ?_⟩) hHeld ?_
      rotate_left
      · intro w' hSw; have gs := gb_trans gr hSw; have p1 := (ka.keep0 gs).cell 1 rfl; have q1 := (kb.keep0 gs).cell 1 rfl; have c0 := hSw.cell c0 (by simp); have c1 := hSw.cell c1 (by simp); have c2 := hSw.cell c2 (by simp); have c3 := hSw.cell c3 (by simp); have d0 := hSw.cell d0 (by simp); have d1 := hSw.cell d1 (by simp); have d2 := hSw.cell d2 (by simp); have d3 := hSw.cell d3 (by simp); go_simp; try with_reducible rfl
      try simp only [Act.put, List.setIfInBounds_toArray, List.set_cons_zero, List.set_cons_succ]
      refine wpAnyH_take (i := 3) (v := ?_) (List.getElem?_toArray.trans rfl) (by kernel_rfl) (by kernel_rfl) (by kernel_rfl) (fun _ _ _ h => h) (Or.inl ⟨by rfl, ?_⟩) hHeld ?_
      rotate_left
      · intro w' hSw; have gs := gb_trans gr hSw; have p1 := (ka.keep0 gs).cell 1 rfl; have q1 := (kb.keep0 gs).cell 1 rfl; have c0 := hSw.cell c0 (by simp); have c1 := hSw.cell c1 (by simp); have c2 := hSw.cell c2 (by simp); have c3 := hSw.cell c3 (by simp); have d0 := hSw.cell d0 (by simp); have d1 := hSw.cell d1 (by simp); have d2 := hSw.cell d2 (by simp); have d3 := hSw.cell d3 (by simp); go_simp; try with_reducible rfl
      try simp only [Act.put, List.setIfInBounds_toArray, List.set_cons_zero, List.set_cons_succ]
      refine wpAnyH_take (i := 4) (v := ?_) (List.getElem?_toArray.trans rfl) (by kernel_rfl) (by kernel_rfl) (by kernel_rfl) (fun _ _ _ h => h) (Or.inl ⟨by rfl, ?_⟩) hHeld ?_
      rotate_left
      · intro w' hSw; have gs := gb_trans gr hSw; have p1 := (ka.keep0 gs).cell 1 rfl; have q1 := (kb.keep0 gs).cell 1 rfl; have c0 := hSw.cell c0 (by simp); have c1 := hSw.cell c1 (by simp); have c2 := hSw.cell c2 (by simp); have c3 := hSw.cell c3 (by simp); have d0 := hSw.cell d0 (by simp); have d1 := hSw.cell d1 (by simp); have d2 := hSw.cell d2 (by simp); have d3 := hSw.cell d3 (by simp); go_simp; try with_reducible rfl
      try simp only [Act.put, List.setIfInBounds_toArray, List.set_cons_zero, List.set_cons_succ]
      refine wpAnyH_take (i := 5) (v := ?_) (List.getElem?_toArray.trans rfl) (by kernel_rfl) (by kernel_rfl) (by kernel_rfl) (fun _ _ _ h => h) (Or.inl ⟨by rfl, ?_⟩) hHeld ?_
      rotate_left
      · intro w' hSw; have gs := gb_trans gr hSw; have p1 := (ka.keep0 gs).cell 1 rfl; have q1 := (kb.keep0 gs).cell 1 rfl; have c0 := hSw.cell c0 (by simp); have c1 := hSw.cell c1 (by simp); have c2 := hSw.cell c2 (by simp); have c3 := hSw.cell c3 (by simp); have d0 := hSw.cell d0 (by simp); have d1 := hSw.cell d1 (by simp); have d2 := hSw.cell d2 (by simp); have d3 := hSw.cell d3 (by simp); go_simp; try with_reducible rfl
      try simp only [Act.put, List.setIfInBounds_toArray, List.set_cons_zero, List.set_cons_succ]
      refine wpAnyH_take (i := 6) (v := ?_) (List.getElem?_toArray.trans rfl) (by kernel_rfl) (by kernel_rfl) (by kernel_rfl) (fun _ _ _ h => h) (Or.inl ⟨by rfl, ?_⟩) hHeld ?_
      rotate_left
      · intro w' hSw; have gs := gb_trans gr hSw; have p1 := (ka.keep0 gs).cell 1 rfl; have q1 := (kb.keep0 gs).cell 1 rfl; have c0 := hSw.cell c0 (by simp); have c1 := hSw.cell c1 (by simp); have c2 := hSw.cell c2 (by simp); have c3 := hSw.cell c3 (by simp); have d0 := hSw.cell d0 (by simp); have d1 := hSw.cell d1 (by simp); have d2 := hSw.cell d2 (by simp); have d3 := hSw.cell d3 (by simp); go_simp; try with_reducible rfl
      try simp only [Act.put, List.setIfInBounds_toArray, List.set_cons_zero, List.set_cons_succ]
      refine wpAnyH_take (i := 7) (v := ?_) (List.getElem?_toArray.trans rfl) (by kernel_rfl) (by kernel_rfl) (by kernel_rfl) (fun _ _ _ h => h) (Or.inl ⟨by rfl, ?_⟩) hHeld ?_
      rotate_left
      · intro w' hSw; have gs := gb_trans gr hSw; have p1 := (ka.keep0 gs).cell 1 rfl; have q1 := (kb.keep0 gs).cell 1 rfl; have c0 := hSw.cell c0 (by simp); have c1 := hSw.cell c1 (by simp); have c2 := hSw.cell c2 (by simp); have c3 := hSw.cell c3 (by simp); have d0 := hSw.cell d0 (by simp); have d1 := hSw.cell d1 (by simp); have d2 := hSw.cell d2 (by simp); have d3 := hSw.cell d3 (by simp); go_simp; try with_reducible rfl
      try simp only [Act.put, List.setIfInBounds_toArray, List.set_cons_zero, List.set_cons_succ]
      refine wpAnyH_take (i := 8) (v := ?_) (List.getElem?_toArray.trans rfl) (by kernel_rfl) (by kernel_rfl) (by kernel_rfl) (fun _ _ _ h => h) (Or.inl ⟨by rfl, ?_⟩) hHeld ?_
      rotate_left
      · intro w' hSw; have gs := gb_trans gr hSw; have p1 := (ka.keep0 gs).cell 1 rfl; have q1 := (kb.keep0 gs).cell 1 rfl; have c0 := hSw.cell c0 (by simp); have c1 := hSw.cell c1 (by simp); have c2 := hSw.cell c2 (by simp); have c3 := hSw.cell c3 (by simp); have d0 := hSw.cell d0 (by simp); have d1 := hSw.cell d1 (by simp); have d2 := hSw.cell d2 (by simp); have d3 := hSw.cell d3 (by simp); go_simp; try with_reducible rfl
      try simp only [Act.put, List.setIfInBounds_toArray, List.set_cons_zero, List.set_cons_succ]
      refine wpAnyH_take (i := 9) (v := ?_) (List.getElem?_toArray.trans rfl) (by kernel_rfl) (by kernel_rfl) (by kernel_rfl) (fun _ _ _ h => h) (Or.inl ⟨by rfl, ?_⟩) hHeld ?_
      rotate_left
      · intro w' hSw; have gs := gb_trans gr hSw; have p1 := (ka.keep0 gs).cell 1 rfl; have q1 := (kb.keep0 gs).cell 1 rfl; have c0 := hSw.cell c0 (by simp); have c1 := hSw.cell c1 (by simp); have c2 := hSw.cell c2 (by simp); have c3 := hSw.cell c3 (by simp); have d0 := hSw.cell d0 (by simp); have d1 := hSw.cell d1 (by simp); have d2 := hSw.cell d2 (by simp); have d3 := hSw.cell d3 (by simp); go_simp; try with_reducible rfl
      try simp only [Act.put, List.setIfInBounds_toArray, List.set_cons_zero, List.set_cons_succ]
      refine wpAnyH_take (i := 10) (v := ?_) (List.getElem?_toArray.trans rfl) (by kernel_rfl) (by kernel_rfl) (by kernel_rfl) (fun _ _ _ h => h) (Or.inl ⟨by rfl, ?_⟩) hHeld ?_
      rotate_left
      · intro w' hSw; have gs := gb_trans gr hSw; have p1 := (ka.keep0 gs).cell 1 rfl; have q1 := (kb.keep0 gs).cell 1 rfl; have c0 := hSw.cell c0 (by simp); have c1 := hSw.cell c1 (by simp); have c2 := hSw.cell c2 (by simp); have c3 := hSw.cell c3 (by simp); have d0 := hSw.cell d0 (by simp); have d1 := hSw.cell d1 (by simp); have d2 := hSw.cell d2 (by simp); have d3 := hSw.cell d3 (by simp); have nc := NC.out; go_simp; try with_reducible rfl
      try simp only [Act.put, List.setIfInBounds_toArray, List.set_cons_zero, List.set_cons_succ]
      refine wpAnyH_done (by kernel_rfl) ?_ _
      refine NoPanic.normal ?_
      go_wp2
      go_roundw
      case rel => exact ⟨k + 1, by omega, by go_num, gb_trans gr hHeld⟩
      case measure => simp [intOf]; omega
    · go_wp2
      clear p1
      go_loopw [6] (fun i wr => ∃ k : Nat, k ≤ n2 ∧ i = .int .i64 k ∧ w0.grownBy wr none) (fun i _ => n2 - (intOf i).toNat)
      case atStart => exact ⟨0, Nat.zero_le _, rfl, gr⟩
      case round =>
        clear gr
        obtain ⟨k, hk, rfl, gr⟩ := hrel
        have p1 := (ka.keep0 gr).cell 2 rfl
        by_cases hlt : k < n2
        · obtain ⟨x, hx⟩ : ∃ x, ks[k]? = some x := ⟨_, List.getElem?_eq_getElem (by rw [N2.out]; exact hlt)⟩
          obtain ⟨y, ey, c0⟩ : ∃ y, bo = some y ∧ wr.cell? (y.add k) = some (.string x) := by
            obtain ⟨ao', cap, e, h4, h5, h6, h7⟩ := HA2.out.keep0 (gb_trans g0 gr)
            injection e with e1 e2 e3
            subst e1
            cases bo with
            | none => have := (h6 rfl).1; rw [N2.out] at this; omega
            | some y => exact ⟨y, rfl, h7 y rfl k _ (by simp [strsC, hx])⟩
          obtain ⟨z, ez, d0⟩ : ∃ y, eo = some y ∧ wr.cell? (y.add k) = some (.string x) := by
            obtain ⟨ao', cap, e, h4, h5, h6, h7⟩ := HB2.out.keep0 (gb_trans g0 gr)
            injection e with e1 e2 e3
            subst e1
            cases eo with
            | none => have := (h6 rfl).1; rw [N2.out] at this; omega
            | some y => exact ⟨y, rfl, h7 y rfl k _ (by simp [strsC, hx])⟩
          subst ey ez
          clear hx
          go_wp2
          refine wp_region_noPanic ?_
          refine wp_region_held_drew (S := fun w' => wr.grownBy w' none) (by kernel_rfl) (gb_drew _ _) (fun hHeld => ?_)
          refine wpAnyH_take (i := 0) (v := ?_) (List.getElem?_toArray.trans rfl) (by kernel_rfl) (by kernel_rfl) (by kernel_rfl) (fun _ _ _ h => h) (Or.inl ⟨by rfl, ?_⟩) hHeld ?_
          rotate_left
          · intro w' hSw; have gs := gb_trans gr hSw; have p1 := (ka.keep0 gs).cell 2 rfl; have q1 := (kb.keep0 gs).cell 2 rfl; have c0 := hSw.cell c0 (by simp); have d0 := hSw.cell d0 (by simp); go_simp; try with_reducible rfl
          try simp only [Act.put, List.setIfInBounds_toArray, List.set_cons_zero, List.set_cons_succ]
          refine wpAnyH_take (i := 1) (v := ?_) (List.getElem?_toArray.trans rfl) (by kernel_rfl) (by kernel_rfl) (by kernel_rfl) (fun _ _ _ h => h) (Or.inl ⟨by rfl, ?_⟩) hHeld ?_
          rotate_left
          · intro w' hSw; have gs := gb_trans gr hSw; have p1 := (ka.keep0 gs).cell 2 rfl; have q1 := (kb.keep0 gs).cell 2 rfl; have c0 := hSw.cell c0 (by simp); have d0 := hSw.cell d0 (by simp); go_simp; try with_reducible rfl
          try simp only [Act.put, List.setIfInBounds_toArray, List.set_cons_zero, List.set_cons_succ]
          refine wpAnyH_take (i := 2) (v := ?_) (List.getElem?_toArray.trans rfl) (by kernel_rfl) (by kernel_rfl) (by kernel_rfl) (fun _ _ _ h => h) (Or.inl ⟨by rfl, ?_⟩) hHeld ?_
          rotate_left
          · intro w' hSw; have gs := gb_trans gr hSw; have p1 := (ka.keep0 gs).cell 2 rfl; have q1 := (kb.keep0 gs).cell 2 rfl; have c0 := hSw.cell c0 (by simp); have d0 := hSw.cell d0 (by simp); go_simp; try with_reducible rfl
          try simp only [Act.put, List.setIfInBounds_toArray, List.set_cons_zero, List.set_cons_succ]
          refine wpAnyH_take (i := 3) (v := ?_) (List.getElem?_toArray.trans rfl) (by kernel_rfl) (by kernel_rfl) (by kernel_rfl) (fun _ _ _ h => h) (Or.inl ⟨by rfl, ?_⟩) hHeld ?_
          rotate_left
          · intro w' hSw; have gs := gb_trans gr hSw; have p1 := (ka.keep0 gs).cell 2 rfl; have q1 := (kb.keep0 gs).cell 2 rfl; have c0 := hSw.cell c0 (by simp); have d0 := hSw.cell d0 (by simp); go_simp; try with_reducible rfl
          try simp only [Act.put, List.setIfInBounds_toArray, List.set_cons_zero, List.set_cons_succ]
          refine wpAnyH_take (i := 4) (v := ?_) (List.getElem?_toArray.trans rfl) (by kernel_rfl) (by kernel_rfl) (by kernel_rfl) (fun _ _ _ h => h) (Or.inl ⟨by rfl, ?_⟩) hHeld ?_
          rotate_left
          · intro w' hSw; have gs := gb_trans gr hSw; have p1 := (ka.keep0 gs).cell 2 rfl; have q1 := (kb.keep0 gs).cell 2 rfl; have c0 := hSw.cell c0 (by simp); have d0 := hSw.cell d0 (by simp); go_simp; try with_reducible rfl
          try simp only [Act.put, List.setIfInBounds_toArray, List.set_cons_zero, List.set_cons_succ]
          refine wpAnyH_take (i := 5) (v := ?_) (List.getElem?_toArray.trans rfl) (by kernel_rfl) (by kernel_rfl) (by kernel_rfl) (fun _ _ _ h => h) (Or.inl ⟨by rfl, ?_⟩) hHeld ?_
          rotate_left
          · intro w' hSw; have gs := gb_trans gr hSw; have p1 := (ka.keep0 gs).cell 2 rfl; have q1 := (kb.keep0 gs).cell 2 rfl; have c0 := hSw.cell c0 (by simp); have d0 := hSw.cell d0 (by simp); go_simp; try with_reducible rfl
          try simp only [Act.put, List.setIfInBounds_toArray, List.set_cons_zero, List.set_cons_succ]
          refine wpAnyH_take (i := 6) (v := ?_) (List.getElem?_toArray.trans rfl) (by kernel_rfl) (by kernel_rfl) (by kernel_rfl) (fun _ _ _ h => h) (Or.inl ⟨by rfl, ?_⟩) hHeld ?_
          rotate_left
          · intro w' hSw; have gs := gb_trans gr hSw; have p1 := (ka.keep0 gs).cell 2 rfl; have q1 := (kb.keep0 gs).cell 2 rfl; have c0 := hSw.cell c0 (by simp); have d0 := hSw.cell d0 (by simp); go_simp; try with_reducible rfl
          try simp only [Act.put, List.setIfInBounds_toArray, List.set_cons_zero, List.set_cons_succ]
          refine wpAnyH_take (i := 7) (v := ?_) (List.getElem?_toArray.trans rfl) (by kernel_rfl) (by kernel_rfl) (by kernel_rfl) (fun _ _ _ h => h) (Or.inl ⟨by rfl, ?_⟩) hHeld ?_
          rotate_left
          · intro w' hSw; have gs := gb_trans gr hSw; have p1 := (ka.keep0 gs).cell 2 rfl; have q1 := (kb.keep0 gs).cell 2 rfl; have c0 := hSw.cell c0 (by simp); have d0 := hSw.cell d0 (by simp); go_simp; try with_reducible rfl
          try simp only [Act.put, List.setIfInBounds_toArray, List.set_cons_zero, List.set_cons_succ]
          refine wpAnyH_take (i := 8) (v := ?_) (List.getElem?_toArray.trans rfl) (by kernel_rfl) (by kernel_rfl) (by kernel_rfl) (fun _ _ _ h => h) (Or.inl ⟨by rfl, ?_⟩) hHeld ?_
          rotate_left
          · intro w' hSw; have gs := gb_trans gr hSw; have p1 := (ka.keep0 gs).cell 2 rfl; have q1 := (kb.keep0 gs).cell 2 rfl; have c0 := hSw.cell c0 (by simp); have d0 := hSw.cell d0 (by simp); go_simp; try with_reducible rfl
          try simp only [Act.put, List.setIfInBounds_toArray, List.set_cons_zero, List.set_cons_succ]
          refine wpAnyH_take (i := 9) (v := ?_) (List.getElem?_toArray.trans rfl) (by kernel_rfl) (by kernel_rfl) (by kernel_rfl) (fun _ _ _ h => h) (Or.inl ⟨by rfl, ?_⟩) hHeld ?_
          rotate_left
          · intro w' hSw; have gs := gb_trans gr hSw; have p1 := (ka.keep0 gs).cell 2 rfl; have q1 := (kb.keep0 gs).cell 2 rfl; have c0 := hSw.cell c0 (by simp); have d0 := hSw.cell d0 (by simp); go_simp; try with_reducible rfl
          try simp only [Act.put, List.setIfInBounds_toArray, List.set_cons_zero, List.set_cons_succ]
          refine wpAnyH_take (i := 10) (v := ?_) (List.getElem?_toArray.trans rfl) (by kernel_rfl) (by kernel_rfl) (by kernel_rfl) (fun _ _ _ h => h) (Or.inl ⟨by rfl, ?_⟩) hHeld ?_
          rotate_left
          · intro w' hSw; have gs := gb_trans gr hSw; have p1 := (ka.keep0 gs).cell 2 rfl; have q1 := (kb.keep0 gs).cell 2 rfl; have c0 := hSw.cell c0 (by simp); have d0 := hSw.cell d0 (by simp); go_simp; try with_reducible rfl
          try simp only [Act.put, List.setIfInBounds_toArray, List.set_cons_zero, List.set_cons_succ]
          refine wpAnyH_done (by kernel_rfl) ?_ _
          refine NoPanic.normal ?_
          go_wp2
          go_roundw
          case rel => exact ⟨k + 1, by omega, by go_num, gb_trans gr hHeld⟩
          case measure => simp [intOf]; omega
        · go_wp2
          clear p1
          go_loopw [7] (fun i wr => ∃ k : Nat, k ≤ n3 ∧ i = .int .i64 k ∧ w0.grownBy wr none) (fun i _ => n3 - (intOf i).toNat)
          case atStart => exact ⟨0, Nat.zero_le _, rfl, gr⟩
          case round =>
            clear gr
            obtain ⟨k, hk, rfl, gr⟩ := hrel
            have p1 := (ka.keep0 gr).cell 3 rfl
            by_cases hlt : k < n3
            · obtain ⟨x, hx⟩ : ∃ x, is[k]? = some x := ⟨_, List.getElem?_eq_getElem (by rw [N3.out]; exact hlt)⟩
              obtain ⟨y, ey, c0⟩ : ∃ y, co = some y ∧ wr.cell? (y.add k) = some (.int .i64 x) := by
                obtain ⟨ao', cap, e, h4, h5, h6, h7⟩ := HA3.out.keep0 (gb_trans g0 gr)
                injection e with e1 e2 e3
                subst e1
                cases co with
                | none => have := (h6 rfl).1; rw [N3.out] at this; omega
                | some y => exact ⟨y, rfl, h7 y rfl k _ (by simp [inC, hx])⟩
              obtain ⟨z, ez, d0⟩ : ∃ y, fo = some y ∧ wr.cell? (y.add k) = some (.int .i64 x) := by
                obtain ⟨ao', cap, e, h4, h5, h6, h7⟩ := HB3.out.keep0 (gb_trans g0 gr)
                injection e with e1 e2 e3
                subst e1
                cases fo with
                | none => have := (h6 rfl).1; rw [N3.out] at this; omega
                | some y => exact ⟨y, rfl, h7 y rfl k _ (by simp [inC, hx])⟩
              subst ey ez
              clear hx
              go_wp2
              refine wp_region_noPanic ?_
              refine wp_region_held_drew (S := fun w' => wr.grownBy w' none) (by kernel_rfl) (gb_drew _ _) (fun hHeld => ?_)
              refine wpAnyH_take (i := 0) (v := ?_) (List.getElem?_toArray.trans rfl) (by kernel_rfl) (by kernel_rfl) (by kernel_rfl) (fun _ _ _ h => h) (Or.inl ⟨by rfl, ?_⟩) hHeld ?_
              rotate_left
              · intro w' hSw; have gs := gb_trans gr hSw; have p1 := (ka.keep0 gs).cell 3 rfl; have q1 := (kb.keep0 gs).cell 3 rfl; have c0 := hSw.cell c0 (by simp); have d0 := hSw.cell d0 (by simp); go_simp; try with_reducible rfl
              try simp only [Act.put, List.setIfInBounds_toArray, List.set_cons_zero, List.set_cons_succ]
              refine wpAnyH_take (i := 1) (v := ?_) (List.getElem?_toArray.trans rfl) (by kernel_rfl) (by kernel_rfl) (by kernel_rfl) (fun _ _ _ h => h) (Or.inl ⟨by rfl, ?_⟩) hHeld ?_
              rotate_left
              · intro w' hSw; have gs := gb_trans gr hSw; have p1 := (ka.keep0 gs).cell 3 rfl; have q1 := (kb.keep0 gs).cell 3 rfl; have c0 := hSw.cell c0 (by simp); have d0 := hSw.cell d0 (by simp); go_simp; try with_reducible rfl
              try simp only [Act.put, List.setIfInBounds_toArray, List.set_cons_zero, List.set_cons_succ]
              refine wpAnyH_take (i := 2) (v := ?_) (List.getElem?_toArray.trans rfl) (by kernel_rfl) (by kernel_rfl) (by kernel_rfl) (fun _ _ _ h => h) (Or.inl ⟨by rfl, ?_⟩) hHeld ?_
              rotate_left
              · intro w' hSw; have gs := gb_trans gr hSw; have p1 := (ka.keep0 gs).cell 3 rfl; have q1 := (kb.keep0 gs).cell 3 rfl; have c0 := hSw.cell c0 (by simp); have d0 := hSw.cell d0 (by simp); go_simp; try with_reducible rfl
              try simp only [Act.put, List.setIfInBounds_toArray, List.set_cons_zero, List.set_cons_succ]
              refine wpAnyH_take (i := 3) (v := ?_) (List.getElem?_toArray.trans rfl) (by kernel_rfl) (by kernel_rfl) (by kernel_rfl) (fun _ _ _ h => h) (Or.inl ⟨by rfl, ?_⟩) hHeld ?_
              rotate_left
              · intro w' hSw; have gs := gb_trans gr hSw; have p1 := (ka.keep0 gs).cell 3 rfl; have q1 := (kb.keep0 gs).cell 3 rfl; have c0 := hSw.cell c0 (by simp); have d0 := hSw.cell d0 (by simp); go_simp; try with_reducible rfl
              try simp only [Act.put, List.setIfInBounds_toArray, List.set_cons_zero, List.set_cons_succ]
              refine wpAnyH_take (i := 4) (v := ?_) (List.getElem?_toArray.trans rfl) (by kernel_rfl) (by kernel_rfl) (by kernel_rfl) (fun _ _ _ h => h) (Or.inl ⟨by rfl, ?_⟩) hHeld ?_
              rotate_left
              · intro w' hSw; have gs := gb_trans gr hSw; have p1 := (ka.keep0 gs).cell 3 rfl; have q1 := (kb.keep0 gs).cell 3 rfl; have c0 := hSw.cell c0 (by simp); have d0 := hSw.cell d0 (by simp); go_simp; try with_reducible rfl
              try simp only [Act.put, List.setIfInBounds_toArray, List.set_cons_zero, List.set_cons_succ]
              refine wpAnyH_take (i := 5) (v := ?_) (List.getElem?_toArray.trans rfl) (by kernel_rfl) (by kernel_rfl) (by kernel_rfl) (fun _ _ _ h => h) (Or.inl ⟨by rfl, ?_⟩) hHeld ?_
              rotate_left
              · intro w' hSw; have gs := gb_trans gr hSw; have p1 := (ka.keep0 gs).cell 3 rfl; have q1 := (kb.keep0 gs).cell 3 rfl; have c0 := hSw.cell c0 (by simp); have d0 := hSw.cell d0 (by simp); go_simp; try with_reducible rfl
              try simp only [Act.put, List.setIfInBounds_toArray, List.set_cons_zero, List.set_cons_succ]
              refine wpAnyH_take (i := 6) (v := ?_) (List.getElem?_toArray.trans rfl) (by kernel_rfl) (by kernel_rfl) (by kernel_rfl) (fun _ _ _ h => h) (Or.inl ⟨by rfl, ?_⟩) hHeld ?_
              rotate_left
              · intro w' hSw; have gs := gb_trans gr hSw; have p1 := (ka.keep0 gs).cell 3 rfl; have q1 := (kb.keep0 gs).cell 3 rfl; have c0 := hSw.cell c0 (by simp); have d0 := hSw.cell d0 (by simp); go_simp; try with_reducible rfl
              try simp only [Act.put, List.setIfInBounds_toArray, List.set_cons_zero, List.set_cons_succ]
              refine wpAnyH_take (i := 7) (v := ?_) (List.getElem?_toArray.trans rfl) (by kernel_rfl) (by kernel_rfl) (by kernel_rfl) (fun _ _ _ h => h) (Or.inl ⟨by rfl, ?_⟩) hHeld ?_
              rotate_left
              · intro w' hSw; have gs := gb_trans gr hSw; have p1 := (ka.keep0 gs).cell 3 rfl; have q1 := (kb.keep0 gs).cell 3 rfl; have c0 := hSw.cell c0 (by simp); have d0 := hSw.cell d0 (by simp); go_simp; try with_reducible rfl
              try simp only [Act.put, List.setIfInBounds_toArray, List.set_cons_zero, List.set_cons_succ]
              refine wpAnyH_take (i := 8) (v := ?_) (List.getElem?_toArray.trans rfl) (by kernel_rfl) (by kernel_rfl) (by kernel_rfl) (fun _ _ _ h => h) (Or.inl ⟨by rfl, ?_⟩) hHeld ?_
              rotate_left
              · intro w' hSw; have gs := gb_trans gr hSw; have p1 := (ka.keep0 gs).cell 3 rfl; have q1 := (kb.keep0 gs).cell 3 rfl; have c0 := hSw.cell c0 (by simp); have d0 := hSw.cell d0 (by simp); go_simp; try with_reducible rfl
              try simp only [Act.put, List.setIfInBounds_toArray, List.set_cons_zero, List.set_cons_succ]
              refine wpAnyH_take (i := 9) (v := ?_) (List.getElem?_toArray.trans rfl) (by kernel_rfl) (by kernel_rfl) (by kernel_rfl) (fun _ _ _ h => h) (Or.inl ⟨by rfl, ?_⟩) hHeld ?_
              rotate_left
              · intro w' hSw; have gs := gb_trans gr hSw; have p1 := (ka.keep0 gs).cell 3 rfl; have q1 := (kb.keep0 gs).cell 3 rfl; have c0 := hSw.cell c0 (by simp); have d0 := hSw.cell d0 (by simp); go_simp; try with_reducible rfl
              try simp only [Act.put, List.setIfInBounds_toArray, List.set_cons_zero, List.set_cons_succ]
              refine wpAnyH_take (i := 10) (v := ?_) (List.getElem?_toArray.trans rfl) (by kernel_rfl) (by kernel_rfl) (by kernel_rfl) (fun _ _ _ h => h) (Or.inl ⟨by rfl, ?_⟩) hHeld ?_
              rotate_left
              · intro w' hSw; have gs := gb_trans gr hSw; have p1 := (ka.keep0 gs).cell 3 rfl; have q1 := (kb.keep0 gs).cell 3 rfl; have c0 := hSw.cell c0 (by simp); have d0 := hSw.cell d0 (by simp); go_simp; try with_reducible rfl
              try simp only [Act.put, List.setIfInBounds_toArray, List.set_cons_zero, List.set_cons_succ]
              refine wpAnyH_done (by kernel_rfl) ?_ _
              refine NoPanic.normal ?_
              go_wp2
              go_roundw
              case rel => exact ⟨k + 1, by omega, by go_num, gb_trans gr hHeld⟩
              case measure => simp [intOf]; omega
            · go_wp2
              go_ret
              exact ⟨rfl, gb_trans g0 gr⟩
set_option maxRecDepth 100000 in
set_option maxHeartbeats 1000000 in
theorem same_eq (v u : Value) (n : Nd) (w : World) (hv : NdV w v n) (hu : NdV w u n) (h1 : n.cells.length ≤ 1000000000000000000) (h2 : n.keys.length ≤ 1000000000000000000) (h3 : n.kids.length ≤ 1000000000000000000) :
    Calls Tryz.prog 17 #[v, u] w fun e w' => e = .returned (.bool true) ∧ w.grownBy w' none := by
  obtain ⟨lf, cs, ks, is⟩ := n
  obtain ⟨a1, a2, a3, rfl, ha1, ha2, ha3⟩ := hv
  obtain ⟨b1, b2, b3, rfl, hb1, hb2, hb3⟩ := hu
  have HA1 := Lib.hid ha1
  have HA2 := Lib.hid ha2
  have HA3 := Lib.hid ha3
  have HB1 := Lib.hid hb1
  have HB2 := Lib.hid hb2
  have HB3 := Lib.hid hb3
  obtain ⟨ao, ca, rfl⟩ := Sl.shape ha1
  obtain ⟨bo, cb, rfl⟩ := Sl.shape ha2
  obtain ⟨co, cc, rfl⟩ := Sl.shape ha3
  obtain ⟨ko, cd, rfl⟩ := Sl.shape hb1
  obtain ⟨eo, ce, rfl⟩ := Sl.shape hb2
  obtain ⟨fo, cf, rfl⟩ := Sl.shape hb3
  clear ha1 ha2 ha3 hb1 hb2 hb3
  dsimp only at h1 h2 h3 HA1 HA2 HA3 HB1 HB2 HB3 ⊢
  obtain ⟨n1, hn1⟩ : ∃ n, cs.length = n := ⟨_, rfl⟩
  obtain ⟨n2, hn2⟩ : ∃ n, ks.length = n := ⟨_, rfl⟩
  obtain ⟨n3, hn3⟩ : ∃ n, is.length = n := ⟨_, rfl⟩
  rw [hn1] at h1 HA1 HB1 ⊢
  rw [hn2] at h2 HA2 HB2 ⊢
  rw [hn3] at h3 HA3 HB3 ⊢
  have N1 := Lib.hid hn1
  have N2 := Lib.hid hn2
  have N3 := Lib.hid hn3
  clear hn1 hn2 hn3
  obtain ⟨w0, hw0, ka, kb, g0, hz⟩ := new2 w 26 #[.bool lf, .slice ao n1 ca, .slice bo n2 cb, .slice co n3 cc] 26 #[.bool lf, .slice ko n1 cd, .slice eo n2 ce, .slice fo n3 cf]
  have HW := Lib.hid hw0
  clear hw0 hz
  go_enter Tryz.func17, Tryz.ntmps17
  go_wp2
  rw [← HW.out]
  go_loopw [5] (fun i wr => ∃ k : Nat, k ≤ n1 ∧ i = .int .i64 k ∧ w0.grownBy wr none) (fun i _ => n1 - (intOf i).toNat)
  case atStart => exact ⟨0, Nat.zero_le _, rfl, gb_refl _ _⟩
  case round =>
    obtain ⟨k, hk, rfl, gr⟩ := hrel
    have p1 := (ka.keep0 gr).cell 1 rfl
    by_cases hlt : k < n1
    · obtain ⟨x, hx⟩ : ∃ x, cs[k]? = some x := ⟨_, List.getElem?_eq_getElem (by rw [N1.out]; exact hlt)⟩
      obtain ⟨y, ey, c0, c1, c2, c3⟩ : ∃ y, ao = some y ∧ CAt wr y k x := by
        obtain ⟨ao', cap, e, h4, h5, h6, h7⟩ := HA1.out.keep0 (gb_trans g0 gr)
        injection e with e1 e2 e3
        subst e1
        cases ao with
        | none => have := (h6 rfl).1; rw [N1.out] at this; omega
        | some y => exact ⟨y, rfl, cat_of (h7 y rfl) hx⟩
      obtain ⟨z, ez, d0, d1, d2, d3⟩ : ∃ y, ko = some y ∧ CAt wr y k x := by
        obtain ⟨ao', cap, e, h4, h5, h6, h7⟩ := HB1.out.keep0 (gb_trans g0 gr)
        injection e with e1 e2 e3
        subst e1
        cases ko with
        | none => have := (h6 rfl).1; rw [N1.out] at this; omega
        | some y => exact ⟨y, rfl, cat_of (h7 y rfl) hx⟩
      subst ey ez
      clear hx
      have nc := neqCell x.key x.val x.fi x.lo
      have NC := Lib.hid nc
      clear nc
      go_wp2
      refine wp_region_noPanic ?_
      refine wp_region_held_drew (S := fun w' => wr.grownBy w' none) (by kernel_rfl) (gb_drew _ _) (fun hHeld => ?_)
      refine wpAnyH_take (i := 0) (v := ?_) (List.getElem?_toArray.trans rfl) (by kernel_rfl) (by kernel_rfl) (by kernel_rfl) (fun _ _ _ h => h) (Or.inl ⟨by rfl, ?_⟩) hHeld ?_
      rotate_left
      · intro w' hSw; have gs := gb_trans gr hSw; have p1 := (ka.keep0 gs).cell 1 rfl; have q1 := (kb.keep0 gs).cell 1 rfl; have c0 := hSw.cell c0 (by simp); have c1 := hSw.cell c1 (by simp); have c2 := hSw.cell c2 (by simp); have c3 := hSw.cell c3 (by simp); have d0 := hSw.cell d0 (by simp); have d1 := hSw.cell d1 (by simp); have d2 := hSw.cell d2 (by simp); have d3 := hSw.cell d3 (by simp); go_simp; try with_reducible rfl
      try simp only [Act.put, List.setIfInBounds_toArray, List.set_cons_zero, List.set_cons_succ]
      refine wpAnyH_take (i := 1) (v := ?_) (List.getElem?_toArray.trans rfl) (by kernel_rfl) (by kernel_rfl) (by kernel_rfl) (fun _ _ _ h => h) (Or.inl ⟨by rfl, ?_⟩) hHeld ?_
      rotate_left
      · intro w' hSw; have gs := gb_trans gr hSw; have p1 := (ka.keep0 gs).cell 1 rfl; have q1 := (kb.keep0 gs).cell 1 rfl; have c0 := hSw.cell c0 (by simp); have c1 := hSw.cell c1 (by simp); have c2 := hSw.cell c2 (by simp); have c3 := hSw.cell c3 (by simp); have d0 := hSw.cell d0 (by simp); have d1 := hSw.cell d1 (by simp); have d2 := hSw.cell d2 (by simp); have d3 := hSw.cell d3 (by simp); go_simp; try with_reducible rfl
      try simp only [Act.put, List.setIfInBounds_toArray, List.set_cons_zero, List.set_cons_succ]
      refine wpAnyH_take (i := 2) (v := ?_) (List.getElem?_toArray.trans rfl) (by kernel_rfl) (by kernel_rfl) (by kernel_rfl) (fun _ _ _ h => h) (Or.inl ⟨by rfl, ?_⟩) hHeld ?_
      rotate_left
      · intro w' hSw; have gs := gb_trans gr hSw; have p1 := (ka.keep0 gs).cell 1 rfl; have q1 := (kb.keep0 gs).cell 1 rfl; have c0 := hSw.cell c0 (by simp); have c1 := hSw.cell c1 (by simp); have c2 := hSw.cell c2 (by simp); have c3 := hSw.cell c3 (by simp); have d0 := hSw.cell d0 (by simp); have d1 := hSw.cell d1 (by simp); have d2 := hSw.cell d2 (by simp); have d3 := hSw.cell d3 (by simp); go_simp; try with_reducible rfl
      try simp only [Act.put, List.setIfInBounds_toArray, List.set_cons_zero, List.set_cons_succ]
      refine wpAnyH_take (i := 3) (v := ?_) (List.getElem?_toArray.trans rfl) (by kernel_rfl) (by kernel_rfl) (by kernel_rfl) (fun _ _ _ h => h) (Or.inl ⟨by rfl, ?_⟩) hHeld ?_
      rotate_left
      · intro w' hSw; have gs := gb_trans gr hSw; have p1 := (ka.keep0 gs).cell 1 rfl; have q1 := (kb.keep0 gs).cell 1 rfl; have c0 := hSw.cell c0 (by simp); have c1 := hSw.cell c1 (by simp); have c2 := hSw.cell c2 (by simp); have c3 := hSw.cell c3 (by simp); have d0 := hSw.cell d0 (by simp); have d1 := hSw.cell d1 (by simp); have d2 := hSw.cell d2 (by simp); have d3 := hSw.cell d3 (by simp); go_simp; try with_reducible rfl
      try simp only [Act.put, List.setIfInBounds_toArray, List.set_cons_zero, List.set_cons_succ]
      refine wpAnyH_take (i := 4) (v := ?_) (List.getElem?_toArray.trans rfl) (by kernel_rfl) (by kernel_rfl) (by kernel_rfl) (fun _ _ _ h => h) (Or.inl ⟨by rfl, ?_⟩) hHeld ?_
      rotate_left
      · intro w' hSw; have gs := gb_trans gr hSw; have p1 := (ka.keep0 gs).cell 1 rfl; have q1 := (kb.keep0 gs).cell 1 rfl; have c0 := hSw.cell c0 (by simp); have c1 := hSw.cell c1 (by simp); have c2 := hSw.cell c2 (by simp); have c3 := hSw.cell c3 (by simp); have d0 := hSw.cell d0 (by simp); have d1 := hSw.cell d1 (by simp); have d2 := hSw.cell d2 (by simp); have d3 := hSw.cell d3 (by simp); go_simp; try with_reducible rfl
      try simp only [Act.put, List.setIfInBounds_toArray, List.set_cons_zero, List.set_cons_succ]
      refine wpAnyH_take (i := 5) (v := ?_) (List.getElem?_toArray.trans rfl) (by kernel_rfl) (by kernel_rfl) (by kernel_rfl) (fun _ _ _ h => h) (Or.inl ⟨by rfl, ?_⟩) hHeld ?_
      rotate_left
      · intro w' hSw; have gs := gb_trans gr hSw; have p1 := (ka.keep0 gs).cell 1 rfl; have q1 := (kb.keep0 gs).cell 1 rfl; have c0 := hSw.cell c0 (by simp); have c1 := hSw.cell c1 (by simp); have c2 := hSw.cell c2 (by simp); have c3 := hSw.cell c3 (by simp); have d0 := hSw.cell d0 (by simp); have d1 := hSw.cell d1 (by simp); have d2 := hSw.cell d2 (by simp); have d3 := hSw.cell d3 (by simp); go_simp; try with_reducible rfl
      try simp only [Act.put, List.setIfInBounds_toArray, List.set_cons_zero, List.set_cons_succ]
      refine wpAnyH_take (i := 6) (v := ?_) (List.getElem?_toArray.trans rfl) (by kernel_rfl) (by kernel_rfl) (by kernel_rfl) (fun _ _ _ h => h) (Or.inl ⟨by rfl, ?_⟩) hHeld ?_
      rotate_left
      · intro w' hSw; have gs := gb_trans gr hSw; have p1 := (ka.keep0 gs).cell 1 rfl; have q1 := (kb.keep0 gs).cell 1 rfl; have c0 := hSw.cell c0 (by simp); have c1 := hSw.cell c1 (by simp); have c2 := hSw.cell c2 (by simp); have c3 := hSw.cell c3 (by simp); have d0 := hSw.cell d0 (by simp); have d1 := hSw.cell d1 (by simp); have d2 := hSw.cell d2 (by simp); have d3 := hSw.cell d3 (by simp); go_simp; try with_reducible rfl
      try simp only [Act.put, List.setIfInBounds_toArray, List.set_cons_zero, List.set_cons_succ]
      refine wpAnyH_take (i := 7) (v := ?_) (List.getElem?_toArray.trans rfl) (by kernel_rfl) (by kernel_rfl) (by kernel_rfl) (fun _ _ _ h => h) (Or.inl ⟨by rfl, ?_⟩) hHeld ?_
      rotate_left
      · intro w' hSw; have gs := gb_trans gr hSw; have p1 := (ka.keep0 gs).cell 1 rfl; have q1 := (kb.keep0 gs).cell 1 rfl; have c0 := hSw.cell c0 (by simp); have c1 := hSw.cell c1 (by simp); have c2 := hSw.cell c2 (by simp); have c3 := hSw.cell c3 (by simp); have d0 := hSw.cell d0 (by simp); have d1 := hSw.cell d1 (by simp); have d2 := hSw.cell d2 (by simp); have d3 := hSw.cell d3 (by simp); go_simp; try with_reducible rfl
      try simp only [Act.put, List.setIfInBounds_toArray, List.set_cons_zero, List.set_cons_succ]
      refine wpAnyH_take (i := 8) (v := ?_) (List.getElem?_toArray.trans rfl) (by kernel_rfl) (by kernel_rfl) (by kernel_rfl) (fun _ _ _ h => h) (Or.inl ⟨by rfl, ?_⟩) hHeld ?_
      rotate_left
      · intro w' hSw; have gs := gb_trans gr hSw; have p1 := (ka.keep0 gs).cell 1 rfl; have q1 := (kb.keep0 gs).cell 1 rfl; have c0 := hSw.cell c0 (by simp); have c1 := hSw.cell c1 (by simp); have c2 := hSw.cell c2 (by simp); have c3 := hSw.cell c3 (by simp); have d0 := hSw.cell d0 (by simp); have d1 := hSw.cell d1 (by simp); have d2 := hSw.cell d2 (by simp); have d3 := hSw.cell d3 (by simp); go_simp; try with_reducible rfl
      try simp only [Act.put, List.setIfInBounds_toArray, List.set_cons_zero, List.set_cons_succ]
      refine wpAnyH_take (i := 9) (v := ?_) (List.getElem?_toArray.trans rfl) (by kernel_rfl) (by kernel_rfl) (by kernel_rfl) (fun _ _ _ h => h) (Or.inl ⟨by rfl, ?_⟩) hHeld ?_
      rotate_left
      · intro w' hSw; have gs := gb_trans gr hSw; have p1 := (ka.keep0 gs).cell 1 rfl; have q1 := (kb.keep0 gs).cell 1 rfl; have c0 := hSw.cell c0 (by simp); have c1 := hSw.cell c1 (by simp); have c2 := hSw.cell c2 (by simp); have c3 := hSw.cell c3 (by simp); have d0 := hSw.cell d0 (by simp); have d1 := hSw.cell d1 (by simp); have d2 := hSw.cell d2 (by simp); have d3 := hSw.cell d3 (by simp); go_simp; try with_reducible rfl
      try simp only [Act.put, List.setIfInBounds_toArray, List.set_cons_zero, List.set_cons_succ]
      refine wpAnyH_take (i := 10) (v := ?_) (List.getElem?_toArray.trans rfl) (by kernel_rfl) (by kernel_rfl) (by kernel_rfl) (fun _ _ _ h => h) (Or.inl ⟨by rfl, ?_⟩) hHeld ?_
      rotate_left
      · intro w' hSw; have gs := gb_trans gr hSw; have p1 := (ka.keep0 gs).cell 1 rfl; have q1 := (kb.keep0 gs).cell 1 rfl; have c0 := hSw.cell c0 (by simp); have c1 := hSw.cell c1 (by simp); have c2 := hSw.cell c2 (by simp); have c3 := hSw.cell c3 (by simp); have d0 := hSw.cell d0 (by simp); have d1 := hSw.cell d1 (by simp); have d2 := hSw.cell d2 (by simp); have d3 := hSw.cell d3 (by simp); have nc := NC.out; go_simp; try with_reducible rfl
      try simp only [Act.put, List.setIfInBounds_toArray, List.set_cons_zero, List.set_cons_succ]
      refine wpAnyH_done (by kernel_rfl) ?_ _
      refine NoPanic.normal ?_
      go_wp2
      go_roundw
      case rel => exact ⟨k + 1, by omega, by go_num, gb_trans gr hHeld⟩
      case measure => simp [intOf]; omega
    · go_wp2
      clear p1
      go_loopw [6] (fun i wr => ∃ k : Nat, k ≤ n2 ∧ i = .int .i64 k ∧ w0.grownBy wr none) (fun i _ => n2 - (intOf i).toNat)
      case atStart => exact ⟨0, Nat.zero_le _, rfl, gr⟩
      case round =>
        clear gr
        obtain ⟨k, hk, rfl, gr⟩ := hrel
        have p1 := (ka.keep0 gr).cell 2 rfl
        by_cases hlt : k < n2
        · obtain ⟨x, hx⟩ : ∃ x, ks[k]? = some x := ⟨_, List.getElem?_eq_getElem (by rw [N2.out]; exact hlt)⟩
          obtain ⟨y, ey, c0⟩ : ∃ y, bo = some y ∧ wr.cell? (y.add k) = some (.string x) := by
            obtain ⟨ao', cap, e, h4, h5, h6, h7⟩ := HA2.out.keep0 (gb_trans g0 gr)
            injection e with e1 e2 e3
            subst e1
            cases bo with
            | none => have := (h6 rfl).1; rw [N2.out] at this; omega
            | some y => exact ⟨y, rfl, h7 y rfl k _ (by simp [strsC, hx])⟩
          obtain ⟨z, ez, d0⟩ : ∃ y, eo = some y ∧ wr.cell? (y.add k) = some (.string x) := by
            obtain ⟨ao', cap, e, h4, h5, h6, h7⟩ := HB2.out.keep0 (gb_trans g0 gr)
            injection e with e1 e2 e3
            subst e1
            cases eo with
            | none => have := (h6 rfl).1; rw [N2.out] at this; omega
            | some y => exact ⟨y, rfl, h7 y rfl k _ (by simp [strsC, hx])⟩
          subst ey ez
          clear hx
          go_wp2
          refine wp_region_noPanic ?_
          refine wp_region_held_drew (S := fun w' => wr.grownBy w' none) (by kernel_rfl) (gb_drew _ _) (fun hHeld => ?_)
          refine wpAnyH_take (i := 0) (v := ?_) (List.getElem?_toArray.trans rfl) (by kernel_rfl) (by kernel_rfl) (by kernel_rfl) (fun _ _ _ h => h) (Or.inl ⟨by rfl, ?_⟩) hHeld ?_
          rotate_left
          · intro w' hSw; have gs := gb_trans gr hSw; have p1 := (ka.keep0 gs).cell 2 rfl; have q1 := (kb.keep0 gs).cell 2 rfl; have c0 := hSw.cell c0 (by simp); have d0 := hSw.cell d0 (by simp); go_simp; try with_reducible rfl
          try simp only [Act.put, List.setIfInBounds_toArray, List.set_cons_zero, List.set_cons_succ]
          refine wpAnyH_take (i := 1) (v := ?_) (List.getElem?_toArray.trans rfl) (by kernel_rfl) (by kernel_rfl) (by kernel_rfl) (fun _ _ _ h => h) (Or.inl ⟨by rfl, ?_⟩) hHeld ?_
          rotate_left
          · intro w' hSw; have gs := gb_trans gr hSw; have p1 := (ka.keep0 gs).cell 2 rfl; have q1 := (kb.keep0 gs).cell 2 rfl; have c0 := hSw.cell c0 (by simp); have d0 := hSw.cell d0 (by simp); go_simp; try with_reducible rfl
          try simp only [Act.put, List.setIfInBounds_toArray, List.set_cons_zero, List.set_cons_succ]
          refine wpAnyH_take (i := 2) (v := ?_) (List.getElem?_toArray.trans rfl) (by kernel_rfl) (by kernel_rfl) (by kernel_rfl) (fun _ _ _ h => h) (Or.inl ⟨by rfl, ?_⟩) hHeld ?_
          rotate_left
          · intro w' hSw; have gs := gb_trans gr hSw; have p1 := (ka.keep0 gs).cell 2 rfl; have q1 := (kb.keep0 gs).cell 2 rfl; have c0 := hSw.cell c0 (by simp); have d0 := hSw.cell d0 (by simp); go_simp; try with_reducible rfl
          try simp only [Act.put, List.setIfInBounds_toArray, List.set_cons_zero, List.set_cons_succ]
          refine wpAnyH_take (i := 3) (v := ?_) (List.getElem?_toArray.trans rfl) (by kernel_rfl) (by kernel_rfl) (by kernel_rfl) (fun _ _ _ h => h) (Or.inl ⟨by rfl, ?_⟩) hHeld ?_
          rotate_left
          · intro w' hSw; have gs := gb_trans gr hSw; have p1 := (ka.keep0 gs).cell 2 rfl; have q1 := (kb.keep0 gs).cell 2 rfl; have c0 := hSw.cell c0 (by simp); have d0 := hSw.cell d0 (by simp); go_simp; try with_reducible rfl
          try simp only [Act.put, List.setIfInBounds_toArray, List.set_cons_zero, List.set_cons_succ]
          refine wpAnyH_take (i := 4) (v := ?_) (List.getElem?_toArray.trans rfl) (by kernel_rfl) (by kernel_rfl) (by kernel_rfl) (fun _ _ _ h => h) (Or.inl ⟨by rfl, ?_⟩) hHeld ?_
          rotate_left
          · intro w' hSw; have gs := gb_trans gr hSw; have p1 := (ka.keep0 gs).cell 2 rfl; have q1 := (kb.keep0 gs).cell 2 rfl; have c0 := hSw.cell c0 (by simp); have d0 := hSw.cell d0 (by simp); go_simp; try with_reducible rfl
          try simp only [Act.put, List.setIfInBounds_toArray, List.set_cons_zero, List.set_cons_succ]
          refine wpAnyH_take (i := 5) (v := ?_) (List.getElem?_toArray.trans rfl) (by kernel_rfl) (by kernel_rfl) (by kernel_rfl) (fun _ _ _ h => h) (Or.inl ⟨by rfl, ?_⟩) hHeld ?_
          rotate_left
          · intro w' hSw; have gs := gb_trans gr hSw; have p1 := (ka.keep0 gs).cell 2 rfl; have q1 := (kb.keep0 gs).cell 2 rfl; have c0 := hSw.cell c0 (by simp); have d0 := hSw.cell d0 (by simp); go_simp; try with_reducible rfl
          try simp only [Act.put, List.setIfInBounds_toArray, List.set_cons_zero, List.set_cons_succ]
          refine wpAnyH_take (i := 6) (v := ?_) (List.getElem?_toArray.trans rfl) (by kernel_rfl) (by kernel_rfl) (by kernel_rfl) (fun _ _ _ h => h) (Or.inl ⟨by rfl, ?_⟩) hHeld ?_
          rotate_left
          · intro w' hSw; have gs := gb_trans gr hSw; have p1 := (ka.keep0 gs).cell 2 rfl; have q1 := (kb.keep0 gs).cell 2 rfl; have c0 := hSw.cell c0 (by simp); have d0 := hSw.cell d0 (by simp); go_simp; try with_reducible rfl
          try simp only [Act.put, List.setIfInBounds_toArray, List.set_cons_zero, List.set_cons_succ]
          refine wpAnyH_take (i := 7) (v := ?_) (List.getElem?_toArray.trans rfl) (by kernel_rfl) (by kernel_rfl) (by kernel_rfl) (fun _ _ _ h => h) (Or.inl ⟨by rfl, ?_⟩) hHeld ?_
          rotate_left
          · intro w' hSw; have gs := gb_trans gr hSw; have p1 := (ka.keep0 gs).cell 2 rfl; have q1 := (kb.keep0 gs).cell 2 rfl; have c0 := hSw.cell c0 (by simp); have d0 := hSw.cell d0 (by simp); go_simp; try with_reducible rfl
          try simp only [Act.put, List.setIfInBounds_toArray, List.set_cons_zero, List.set_cons_succ]
          refine wpAnyH_take (i := 8) (v := ?_) (List.getElem?_toArray.trans rfl) (by kernel_rfl) (by kernel_rfl) (by kernel_rfl) (fun _ _ _ h => h) (Or.inl ⟨by rfl, ?_⟩) hHeld ?_
          rotate_left
          · intro w' hSw; have gs := gb_trans gr hSw; have p1 := (ka.keep0 gs).cell 2 rfl; have q1 := (kb.keep0 gs).cell 2 rfl; have c0 := hSw.cell c0 (by simp); have d0 := hSw.cell d0 (by simp); go_simp; try with_reducible rfl
          try simp only [Act.put, List.setIfInBounds_toArray, List.set_cons_zero, List.set_cons_succ]
          refine wpAnyH_take (i := 9) (v := ?_) (List.getElem?_toArray.trans rfl) (by kernel_rfl) (by kernel_rfl) (by kernel_rfl) (fun _ _ _ h => h) (Or.inl ⟨by rfl, ?_⟩) hHeld ?_
          rotate_left
          · intro w' hSw; have gs := gb_trans gr hSw; have p1 := (ka.keep0 gs).cell 2 rfl; have q1 := (kb.keep0 gs).cell 2 rfl; have c0 := hSw.cell c0 (by simp); have d0 := hSw.cell d0 (by simp); go_simp; try with_reducible rfl
          try simp only [Act.put, List.setIfInBounds_toArray, List.set_cons_zero, List.set_cons_succ]
          refine wpAnyH_take (i := 10) (v := ?_) (List.getElem?_toArray.trans rfl) (by kernel_rfl) (by kernel_rfl) (by kernel_rfl) (fun _ _ _ h => h) (Or.inl ⟨by rfl, ?_⟩) hHeld ?_
          rotate_left
          · intro w' hSw; have gs := gb_trans gr hSw; have p1 := (ka.keep0 gs).cell 2 rfl; have q1 := (kb.keep0 gs).cell 2 rfl; have c0 := hSw.cell c0 (by simp); have d0 := hSw.cell d0 (by simp); go_simp; try with_reducible rfl
          try simp only [Act.put, List.setIfInBounds_toArray, List.set_cons_zero, List.set_cons_succ]
          refine wpAnyH_done (by kernel_rfl) ?_ _
          refine NoPanic.normal ?_
          go_wp2
          go_roundw
          case rel => exact ⟨k + 1, by omega, by go_num, gb_trans gr hHeld⟩
          case measure => simp [intOf]; omega
        · go_wp2
          clear p1
          go_loopw [7] (fun i wr => ∃ k : Nat, k ≤ n3 ∧ i = .int .i64 k ∧ w0.grownBy wr none) (fun i _ => n3 - (intOf i).toNat)
          case atStart => exact ⟨0, Nat.zero_le _, rfl, gr⟩
          case round =>
            clear gr
            obtain ⟨k, hk, rfl, gr⟩ := hrel
            have p1 := (ka.keep0 gr).cell 3 rfl
            by_cases hlt : k < n3
            · obtain ⟨x, hx⟩ : ∃ x, is[k]? = some x := ⟨_, List.getElem?_eq_getElem (by rw [N3.out]; exact hlt)⟩
              obtain ⟨y, ey, c0⟩ : ∃ y, co = some y ∧ wr.cell? (y.add k) = some (.int .i64 x) := by
                obtain ⟨ao', cap, e, h4, h5, h6, h7⟩ := HA3.out.keep0 (gb_trans g0 gr)
                injection e with e1 e2 e3
                subst e1
                cases co with
                | none => have := (h6 rfl).1; rw [N3.out] at this; omega
                | some y => exact ⟨y, rfl, h7 y rfl k _ (by simp [inC, hx])⟩
              obtain ⟨z, ez, d0⟩ : ∃ y, fo = some y ∧ wr.cell? (y.add k) = some (.int .i64 x) := by
                obtain ⟨ao', cap, e, h4, h5, h6, h7⟩ := HB3.out.keep0 (gb_trans g0 gr)
                injection e with e1 e2 e3
                subst e1
                cases fo with
                | none => have := (h6 rfl).1; rw [N3.out] at this; omega
                | some y => exact ⟨y, rfl, h7 y rfl k _ (by simp [inC, hx])⟩
              subst ey ez
              clear hx
              go_wp2
              refine wp_region_noPanic ?_
              refine wp_region_held_drew (S := fun w' => wr.grownBy w' none) (by kernel_rfl) (gb_drew _ _) (fun hHeld => ?_)
              refine wpAnyH_take (i := 0) (v := ?_) (List.getElem?_toArray.trans rfl) (by kernel_rfl) (by kernel_rfl) (by kernel_rfl) (fun _ _ _ h => h) (Or.inl ⟨by rfl, ?_⟩) hHeld ?_
              rotate_left
              · intro w' hSw; have gs := gb_trans gr hSw; have p1 := (ka.keep0 gs).cell 3 rfl; have q1 := (kb.keep0 gs).cell 3 rfl; have c0 := hSw.cell c0 (by simp); have d0 := hSw.cell d0 (by simp); go_simp; try with_reducible rfl
              try simp only [Act.put, List.setIfInBounds_toArray, List.set_cons_zero, List.set_cons_succ]
              refine wpAnyH_take (i := 1) (v := ?_) (List.getElem?_toArray.trans rfl) (by kernel_rfl) (by kernel_rfl) (by kernel_rfl) (fun _ _ _ h => h) (Or.inl ⟨by rfl, ?_⟩) hHeld ?_
              rotate_left
              · intro w' hSw; have gs := gb_trans gr hSw; have p1 := (ka.keep0 gs).cell 3 rfl; have q1 := (kb.keep0 gs).cell 3 rfl; have c0 := hSw.cell c0 (by simp); have d0 := hSw.cell d0 (by simp); go_simp; try with_reducible rfl
              try simp only [Act.put, List.setIfInBounds_toArray, List.set_cons_zero, List.set_cons_succ]
              refine wpAnyH_take (i := 2) (v := ?_) (List.getElem?_toArray.trans rfl) (by kernel_rfl) (by kernel_rfl) (by kernel_rfl) (fun _ _ _ h => h) (Or.inl ⟨by rfl, ?_⟩) hHeld ?_
              rotate_left
              · intro w' hSw; have gs := gb_trans gr hSw; have p1 := (ka.keep0 gs).cell 3 rfl; have q1 := (kb.keep0 gs).cell 3 rfl; have c0 := hSw.cell c0 (by simp); have d0 := hSw.cell d0 (by simp); go_simp; try with_reducible rfl
              try simp only [Act.put, List.setIfInBounds_toArray, List.set_cons_zero, List.set_cons_succ]
              refine wpAnyH_take (i := 3) (v := ?_) (List.getElem?_toArray.trans rfl) (by kernel_rfl) (by kernel_rfl) (by kernel_rfl) (fun _ _ _ h => h) (Or.inl ⟨by rfl, ?_⟩) hHeld ?_
              rotate_left
              · intro w' hSw; have gs := gb_trans gr hSw; have p1 := (ka.keep0 gs).cell 3 rfl; have q1 := (kb.keep0 gs).cell 3 rfl; have c0 := hSw.cell c0 (by simp); have d0 := hSw.cell d0 (by simp); go_simp; try with_reducible rfl
              try simp only [Act.put, List.setIfInBounds_toArray, List.set_cons_zero, List.set_cons_succ]
              refine wpAnyH_take (i := 4) (v := ?_) (List.getElem?_toArray.trans rfl) (by kernel_rfl) (by kernel_rfl) (by kernel_rfl) (fun _ _ _ h => h) (Or.inl ⟨by rfl, ?_⟩) hHeld ?_
              rotate_left
              · intro w' hSw; have gs := gb_trans gr hSw; have p1 := (ka.keep0 gs).cell 3 rfl; have q1 := (kb.keep0 gs).cell 3 rfl; have c0 := hSw.cell c0 (by simp); have d0 := hSw.cell d0 (by simp); go_simp; try with_reducible rfl
              try simp only [Act.put, List.setIfInBounds_toArray, List.set_cons_zero, List.set_cons_succ]
              refine wpAnyH_take (i := 5) (v := ?_) (List.getElem?_toArray.trans rfl) (by kernel_rfl) (by kernel_rfl) (by kernel_rfl) (fun _ _ _ h => h) (Or.inl ⟨by rfl, ?_⟩) hHeld ?_
              rotate_left
              · intro w' hSw; have gs := gb_trans gr hSw; have p1 := (ka.keep0 gs).cell 3 rfl; have q1 := (kb.keep0 gs).cell 3 rfl; have c0 := hSw.cell c0 (by simp); have d0 := hSw.cell d0 (by simp); go_simp; try with_reducible rfl
              try simp only [Act.put, List.setIfInBounds_toArray, List.set_cons_zero, List.set_cons_succ]
              refine wpAnyH_take (i := 6) (v := ?_) (List.getElem?_toArray.trans rfl) (by kernel_rfl) (by kernel_rfl) (by kernel_rfl) (fun _ _ _ h => h) (Or.inl ⟨by rfl, ?_⟩) hHeld ?_
              rotate_left
              · intro w' hSw; have gs := gb_trans gr hSw; have p1 := (ka.keep0 gs).cell 3 rfl; have q1 := (kb.keep0 gs).cell 3 rfl; have c0 := hSw.cell c0 (by simp); have d0 := hSw.cell d0 (by simp); go_simp; try with_reducible rfl
              try simp only [Act.put, List.setIfInBounds_toArray, List.set_cons_zero, List.set_cons_succ]
              refine wpAnyH_take (i := 7) (v := ?_) (List.getElem?_toArray.trans rfl) (by kernel_rfl) (by kernel_rfl) (by kernel_rfl) (fun _ _ _ h => h) (Or.inl ⟨by rfl, ?_⟩) hHeld ?_
              rotate_left
              · intro w' hSw; have gs := gb_trans gr hSw; have p1 := (ka.keep0 gs).cell 3 rfl; have q1 := (kb.keep0 gs).cell 3 rfl; have c0 := hSw.cell c0 (by simp); have d0 := hSw.cell d0 (by simp); go_simp; try with_reducible rfl
              try simp only [Act.put, List.setIfInBounds_toArray, List.set_cons_zero, List.set_cons_succ]
              refine wpAnyH_take (i := 8) (v := ?_) (List.getElem?_toArray.trans rfl) (by kernel_rfl) (by kernel_rfl) (by kernel_rfl) (fun _ _ _ h => h) (Or.inl ⟨by rfl, ?_⟩) hHeld ?_
              rotate_left
              · intro w' hSw; have gs := gb_trans gr hSw; have p1 := (ka.keep0 gs).cell 3 rfl; have q1 := (kb.keep0 gs).cell 3 rfl; have c0 := hSw.cell c0 (by simp); have d0 := hSw.cell d0 (by simp); go_simp; try with_reducible rfl
              try simp only [Act.put, List.setIfInBounds_toArray, List.set_cons_zero, List.set_cons_succ]
              refine wpAnyH_take (i := 9) (v := ?_) (List.getElem?_toArray.trans rfl) (by kernel_rfl) (by kernel_rfl) (by kernel_rfl) (fun _ _ _ h => h) (Or.inl ⟨by rfl, ?_⟩) hHeld ?_
              rotate_left
              · intro w' hSw; have gs := gb_trans gr hSw; have p1 := (ka.keep0 gs).cell 3 rfl; have q1 := (kb.keep0 gs).cell 3 rfl; have c0 := hSw.cell c0 (by simp); have d0 := hSw.cell d0 (by simp); go_simp; try with_reducible rfl
              try simp only [Act.put, List.setIfInBounds_toArray, List.set_cons_zero, List.set_cons_succ]
              refine wpAnyH_take (i := 10) (v := ?_) (List.getElem?_toArray.trans rfl) (by kernel_rfl) (by kernel_rfl) (by kernel_rfl) (fun _ _ _ h => h) (Or.inl ⟨by rfl, ?_⟩) hHeld ?_
              rotate_left
              · intro w' hSw; have gs := gb_trans gr hSw; have p1 := (ka.keep0 gs).cell 3 rfl; have q1 := (kb.keep0 gs).cell 3 rfl; have c0 := hSw.cell c0 (by simp); have d0 := hSw.cell d0 (by simp); go_simp; try with_reducible rfl
              try simp only [Act.put, List.setIfInBounds_toArray, List.set_cons_zero, List.set_cons_succ]
              refine wpAnyH_done (by kernel_rfl) ?_ _
              refine NoPanic.normal ?_
              go_wp2
              go_roundw
              case rel => exact ⟨k + 1, by omega, by go_num, gb_trans gr hHeld⟩
              case measure => simp [intOf]; omega
            · go_wp2
              go_ret
              exact ⟨rfl, gb_trans g0 gr⟩
end Go.Proofs.YthhimhjegodklaaGreat.N11

