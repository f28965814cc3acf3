/-
  The disk's calls (Read, Arm, Off, Ops, Pending, Sectors, forget), over this seat's translation; conditions: the disk lies as Dk0 tells, its counts are small.
-/
import Derived.Test.YtcoegaipojnndaaDoorDk1
import Derived.MapKept
namespace Go.Proofs.YtcoegaipojnndaaDoor
open Go.RowKit Go.Maps Go.ChangeMaps

theorem pdv_turn {w w' : World} {base p : Nat} {vs vp : Value} {bm : Nat} {D : DataW Unit} {s s' : St} (h : PDv w base p vs vp bm D s) (h1 : s'.secs = s.secs) (h2 : s'.pend = s.pend) (hb : Blk w' p 80 (dkC vs vp bm s')) (g : w.grownBy w' (some p)) : PDv w' base p vs vp bm D s' := by
  obtain ⟨a1, a2, a3, a4, a5, a6, a7⟩ := h
  refine ⟨hb, ?_, ?_, ?_, by rw [h2]; exact a5, a6, a7⟩
  · rw [h1]; exact a2.kept g (Or.inr (blk_row a1 a2 (by decide)))
  · rw [h2]; exact a3.kept g (Or.inr (blk_row a1 a3 (by decide)))
  · rw [h2]; exact a4.kept g (ne_some (map_blk a4 a1).symm)
theorem pdv_vs {w : World} {base p : Nat} {vs vp : Value} {bm : Nat} {D : DataW Unit} {s : St} (h : PDv w base p vs vp bm D s) : ∃ ao cap, vs = .slice ao s.secs.length cap := by
  obtain ⟨ao, cap, h1, _⟩ := Sl.of_owns h.2.1; exact ⟨ao, cap, h1⟩
theorem pdv_vp {w : World} {base p : Nat} {vs vp : Value} {bm : Nat} {D : DataW Unit} {s : St} (h : PDv w base p vs vp bm D s) : ∃ ao cap, vp = .slice ao s.pend.length cap := by
  obtain ⟨ao, cap, h1, _⟩ := Sl.of_owns h.2.2.1; exact ⟨ao, cap, h1⟩
theorem lawI : Keyed Tryd.prog 3 := int_keyed Tryd.underlying3
theorem zeroI (w : World) : (zeroValue 3).run Tryd.prog w = .ok (.int .i64 0) w := by kernel_rfl
theorem i64_wf' {z : Int} (h : -9223372036854775808 ≤ z ∧ z ≤ 9223372036854775807) : (Lit.int .i64 z).wf = true := by
  show (decide (-9223372036854775808 ≤ z) && decide (z ≤ 9223372036854775807)) = true
  simpa using h
/-- What the look-up of a sector's last pending write answers. -/
theorem look_no {w : World} {bm n : Nat} {D : DataW Unit} (h : w.ownsMap Tryd.prog 3 (plainElem Tryd.prog 3) bm n D) (i : Int) (hi : -9223372036854775808 ≤ i ∧ i ≤ 9223372036854775807) (hn : Maps.has D (.int .i64 i) = false) :
    ∃ v : Int, (Instr.lookup 78 (.map (some bm)) (.int .i64 i) true).run Tryd.prog w = .ok (.tuple #[.int .i64 v, .bool false]) w := by
  obtain ⟨v, ps, hrun, hv⟩ := h.look_ok lawI Tryd.underlying78 (zeroI w) (plainElem_int Tryd.underlying3 (by decide)) (keyOf_int_mk Tryd.underlying3 (i64_wf' hi))
  obtain ⟨c, rfl, hc, _⟩ := plainElem_int_inv Tryd.underlying3 hv
  rw [hn] at hrun
  exact ⟨c, hrun⟩
theorem look_yes {w : World} {bm n : Nat} {D : DataW Unit} (h : w.ownsMap Tryd.prog 3 (plainElem Tryd.prog 3) bm n D) (i : Int) (hi : -9223372036854775808 ≤ i ∧ i ≤ 9223372036854775807) (hn : Maps.has D (.int .i64 i) = true) (c : Nat) (hc : D.atKey (.int .i64 i) (.lit (.int .i64 0)) = .lit (.int .i64 (c : Nat))) :
    (Instr.lookup 78 (.map (some bm)) (.int .i64 i) true).run Tryd.prog w = .ok (.tuple #[.int .i64 (c : Nat), .bool true]) w := by
  obtain ⟨v, ps, hrun, hv⟩ := h.look_ok lawI Tryd.underlying78 (zeroI w) (plainElem_int Tryd.underlying3 (by decide)) (keyOf_int_mk Tryd.underlying3 (i64_wf' hi))
  obtain ⟨c', rfl, hc', _⟩ := plainElem_int_inv Tryd.underlying3 hv
  rw [hn] at hrun
  rw [hc] at hc'
  have : c' = (c : Nat) := by have := congrArg Prod.fst hc'; cases this; rfl
  subst this
  exact hrun
set_option maxRecDepth 100000 in
set_option maxHeartbeats 1000000 in
theorem dread_any (w : World) (base : Nat) (F : Nat → Prop) (p : Nat) (s : St) (i : Int) (N : Nat) (hP : PD w base F p s) (hok : s.Ok N) (hN : N ≤ 5000) (hi : -9223372036854775808 ≤ i ∧ i ≤ 9223372036854775807) :
    Calls Tryd.prog 16 #[.pointer (some ⟨p, 0, none⟩), .int .i64 i] w fun e w' => e = .returned (.tuple #[.string (readS s i), .int .i64 (opE s (hasF s i))]) ∧ PD w' base F p (opS s (hasF s i)) ∧ Kp F w w' := by
  obtain ⟨vs, vp, bm, D, hv, hf⟩ := hP
  obtain ⟨ao, cap, rfl⟩ := pdv_vs hv
  obtain ⟨po, pcap, rfl⟩ := pdv_vp hv
  have hl2 : s.armed = true → s.left ≤ 9223372036854775807 := fun e => (hok.arm e).2
  have ho3 : 0 ≤ s.ops ∧ s.ops ≤ 1000000 := ⟨hok.ops0, by have := hok.opsN; omega⟩
  have HV := Lib.hid hv
  have HF := Lib.hid hf
  obtain ⟨E, hE⟩ : ∃ E, opE s (hasF s i) = E := ⟨_, rfl⟩
  have HE := Lib.hid hE
  rw [hE]
  obtain ⟨hs1, hs2⟩ := opS_secs s (hasF s i)
  have HS := Lib.hid (And.intro hs1 hs2)
  clear hf hs1 hs2
  by_cases h0 : E = 0
  · subst h0
    obtain ⟨m, rfl, hm⟩ := hasF_parts (opE_may hE)
    have hr : readS s (m : Int) = standF s.pend (s.secs.getD m noS) m := by unfold readS; rw [if_pos hE]; rfl
    rw [hr]
    have hz : ∀ W, PDv W base p (.slice ao s.secs.length cap) (.slice po s.pend.length pcap) bm D (opS s (hasF s (m : Int))) → ∃ g, ao = some ⟨g, 0, none⟩ ∧ W.cell? ⟨g, m, none⟩ = some (.string (s.secs.getD m noS)) := by
      intro W hW
      obtain ⟨_, hrow, _⟩ := hW
      rw [HS.out.1] at hrow
      obtain ⟨g, rfl⟩ : ∃ g, ao = some ⟨g, 0, none⟩ := by
        rcases hrow.2 with ⟨_, h0⟩ | ⟨g, _, _, he, _⟩
        · omega
        · injection he with h3 _ _; exact ⟨g, h3⟩
      exact ⟨g, rfl, by rw [hrow.cellAt m (by omega)]; exact strs_at (by omega)⟩
    obtain ⟨S0, hS0⟩ : ∃ S0, s.secs.getD m noS = S0 := ⟨_, rfl⟩
    rw [hS0] at hz ⊢
    have HZ := Lib.hid hz
    clear hS0
    have hmap := hv.2.2.2.2.1 (m : Int)
    clear hE hz hr hv
    have opn : ∀ w1, w.grownBy w1 none → Blk w1 (w.heap.size + 1) 3 #[.int .i64 (m : Int)] → Blk w1 w.heap.size 41 #[.pointer (some ⟨p, 0, none⟩)] → Calls Tryd.prog 42 #[.pointer (some ⟨p, 0, none⟩), .slice (some ⟨w1.heap.size, 0, none⟩) 1 1] (w1.alloc (.cells #[hasV (w.heap.size + 1) w.heap.size] 83)) (fun e w2 => e = .returned (.int .i64 0) ∧ w.grownBy w2 (some p) ∧ PDv w2 base p (.slice ao s.secs.length cap) (.slice po s.pend.length pcap) bm D (opS s (hasF s (m : Int)))) := by
      intro w1 g1 hb1 hb2
      have ga := gb_alloc w1 (.cells #[hasV (w.heap.size + 1) w.heap.size] 83) none
      have hq := (Blk.mk w1 83 #[hasV (w.heap.size + 1) w.heap.size]).cell 0 rfl
      have hP1 := HV.out.keep0 (gb_trans g1 ga)
      refine (operate_one _ p w1.heap.size (w.heap.size + 1) w.heap.size (m : Int) ao cap _ bm s hP1.1 hl2 ho3 (hb1.keep0 ga) (hb2.keep0 ga) hq).mono ?_
      rintro e w2 ⟨rfl, hb, g2⟩
      exact ⟨by rw [HE.out], gb_trans (gb_weak (gb_trans g1 ga) _) g2, pdv_turn hP1 HS.out.1 HS.out.2 hb g2⟩
    have HO := Lib.hid opn
    clear opn
    rcases hmap with ⟨hA, hB⟩ | ⟨hA, c, d, hC, hD, hB⟩
    · have hsd := standF_none s.pend S0 m hB
      rw [hsd]
      clear hsd hB
      go_enter Tryd.func16, Tryd.ntmps16
      go_wp2_with (first
        | (go_at_call 43; (with_reducible refine (hasSector_any _ _ _).mono ?_); rintro e w1 ⟨rfl, hb1, hb2, g1⟩)
        | (go_at_call 42; (refine (HO.out w1 g1 hb1 hb2).mono ?_); rintro e w2 ⟨rfl, g2, hP2⟩; obtain ⟨c0, c1, c2, _, _, _, _⟩ := dk_cells hP2.1; obtain ⟨g, rfl, z⟩ := HZ.out _ hP2; obtain ⟨v, hrun⟩ := look_no hP2.2.2.2.1 (m : Int) hi hA; clear hb1 hb2; have HP2 := Lib.hid hP2; clear hP2))
      go_ret2
      exact ⟨rfl, ⟨_, _, _, _, HP2.out, HF.out⟩, Kp.of g2 (fun k e => by cases e; exact HF.out _ (.inl rfl))⟩
    · rw [hB]
      clear hB
      have hy : ∀ W, PDv W base p (.slice ao s.secs.length cap) (.slice po s.pend.length pcap) bm D (opS s (hasF s (m : Int))) → ∃ g, po = some ⟨g, 0, none⟩ ∧ W.cell? ⟨g, c * 2 + 1, none⟩ = some (.string d) := by
        intro W hW
        obtain ⟨_, _, hrow, _⟩ := hW
        rw [HS.out.2] at hrow
        have hc := (List.getElem?_eq_some_iff.1 hD).1
        obtain ⟨g, rfl⟩ : ∃ g, po = some ⟨g, 0, none⟩ := by
          rcases hrow.2 with ⟨_, h0⟩ | ⟨g, _, _, he, _⟩
          · omega
          · injection he with h3 _ _; exact ⟨g, h3⟩
        exact ⟨g, rfl, by rw [hrow.cellAt (c * 2 + 1) (by omega)]; exact (wrC_at s.pend c _ hD).2⟩
      have HY := Lib.hid hy
      have hc := (List.getElem?_eq_some_iff.1 hD).1
      clear hy hD
      go_enter Tryd.func16, Tryd.ntmps16
      go_wp2_with (first
        | (go_at_call 43; (with_reducible refine (hasSector_any _ _ _).mono ?_); rintro e w1 ⟨rfl, hb1, hb2, g1⟩)
        | (go_at_call 42; (refine (HO.out w1 g1 hb1 hb2).mono ?_); rintro e w2 ⟨rfl, g2, hP2⟩; obtain ⟨c0, c1, c2, _, _, _, _⟩ := dk_cells hP2.1; obtain ⟨g, rfl, z⟩ := HY.out _ hP2; have hrun := look_yes hP2.2.2.2.1 (m : Int) hi hA c hC; clear hb1 hb2; have HP2 := Lib.hid hP2; clear hP2))
      go_ret2
      exact ⟨rfl, ⟨_, _, _, _, HP2.out, HF.out⟩, Kp.of g2 (fun k e => by cases e; exact HF.out _ (.inl rfl))⟩
  · have hr : readS s i = noS := by unfold readS; rw [if_neg (by rw [hE]; exact h0)]
    have hne : (E != 0) = true := by simp [h0]
    rw [hr]
    clear hr hE h0
    have opn : ∀ w1, w.grownBy w1 none → Blk w1 (w.heap.size + 1) 3 #[.int .i64 i] → Blk w1 w.heap.size 41 #[.pointer (some ⟨p, 0, none⟩)] → Calls Tryd.prog 42 #[.pointer (some ⟨p, 0, none⟩), .slice (some ⟨w1.heap.size, 0, none⟩) 1 1] (w1.alloc (.cells #[hasV (w.heap.size + 1) w.heap.size] 83)) (fun e w2 => e = .returned (.int .i64 E) ∧ w.grownBy w2 (some p) ∧ PDv w2 base p (.slice ao s.secs.length cap) (.slice po s.pend.length pcap) bm D (opS s (hasF s i))) := by
      intro w1 g1 hb1 hb2
      have ga := gb_alloc w1 (.cells #[hasV (w.heap.size + 1) w.heap.size] 83) none
      have hq := (Blk.mk w1 83 #[hasV (w.heap.size + 1) w.heap.size]).cell 0 rfl
      have hP1 := HV.out.keep0 (gb_trans g1 ga)
      refine (operate_one _ p w1.heap.size (w.heap.size + 1) w.heap.size i ao cap _ bm s hP1.1 hl2 ho3 (hb1.keep0 ga) (hb2.keep0 ga) hq).mono ?_
      rintro e w2 ⟨rfl, hb, g2⟩
      exact ⟨by rw [HE.out], gb_trans (gb_weak (gb_trans g1 ga) _) g2, pdv_turn hP1 HS.out.1 HS.out.2 hb g2⟩
    have HO := Lib.hid opn
    clear opn hv
    go_enter Tryd.func16, Tryd.ntmps16
    go_wp2_with (first
      | (go_at_call 43; (with_reducible refine (hasSector_any _ _ _).mono ?_); rintro e w1 ⟨rfl, hb1, hb2, g1⟩)
      | (go_at_call 42; (refine (HO.out w1 g1 hb1 hb2).mono ?_); rintro e w2 ⟨rfl, g2, hP2⟩; clear hb1 hb2; have HP2 := Lib.hid hP2; clear hP2))
    go_ret2
    exact ⟨rfl, ⟨_, _, _, _, HP2.out, HF.out⟩, Kp.of g2 (fun k e => by cases e; exact HF.out _ (.inl rfl))⟩
/-- What a call leaves that answers one thing and changes nothing. -/
theorem clear_run {w : World} {bm n : Nat} {D : DataW Unit} (h : w.ownsMap Tryd.prog 3 (plainElem Tryd.prog 3) bm n D) (ty : TypeId) :
    ∃ w', (Builtin.clear_ #[78] ty #[.map (some bm)]).run Tryd.prog w = .ok (.tuple #[]) w' ∧ w'.ownsMap Tryd.prog 3 (plainElem (H := Unit) Tryd.prog 3) bm 0 (.map []) ∧ w.grownBy w' (some bm) := by
  obtain ⟨es, clock, hb, F, hs, _⟩ := h
  refine ⟨setBlock w bm (.map #[] clock), ?_, ⟨#[], clock, heap_setBlock_same hb _, ⟨by simp, MapKept.stamped_empty clock, by simp⟩, Nat.le_refl _, rfl⟩, ⟨rfl, rfl, rfl, by simp [setBlock], fun i _ hi => heap_setBlock_other hb _ (fun e => hi (by rw [e]))⟩⟩
  simp [Builtin.clear_, run_underlying Tryd.underlying78, MapKept.run_getObj_map hb, MapKept.run_setObj_map _ hb, Result.andThen, setBlock]
set_option maxRecDepth 100000 in
theorem dforget_any (w : World) (base p : Nat) (vs vp : Value) (bm : Nat) (D : DataW Unit) (s : St) (h : PDv w base p vs vp bm D s) :
    Calls Tryd.prog 46 #[.pointer (some ⟨p, 0, none⟩)] w fun e w' => e = .returned (.tuple #[]) ∧ PDv w' base p vs (.slice none 0 0) bm (.map []) { s with pend := [] } ∧ Kp (fun k => k = p ∨ k = bm) w w' := by
  obtain ⟨a1, a2, a3, a4, a5, a6, a7⟩ := h
  have f1 := a1.free 1
  have n1 : Blk (w.setCell ⟨p, 1, none⟩ (.slice none 0 0)) p 80 (dkC vs (.slice none 0 0) bm { s with pend := [] }) := a1.set 1 _
  have g1 := gb_set w p 1 none (.slice none 0 0)
  have n2 := a2.kept g1 (Or.inr (blk_row a1 a2 (by decide)))
  have n4 := a4.kept g1 (ne_some (map_blk a4 a1).symm)
  have hpb := map_blk a4 a1
  obtain ⟨w2, hcl, m4, g2⟩ := clear_run n4 0
  obtain ⟨_, e1, e2, _, _, _, _⟩ := dk_cells a1
  obtain ⟨_, _, c2, _, _, _, _⟩ := dk_cells n1
  have hfin : PDv w2 base p vs (.slice none 0 0) bm (.map []) { s with pend := [] } := ⟨n1.keep g2 (ne_some hpb), n2.kept g2 (Or.inr (map_row n4 n2)), World.ownsRow_nil _ _ _ _, m4, mapIs_nil, a6, a7⟩
  have hk : Kp (fun k => k = p ∨ k = bm) w w2 := (Kp.of g1 (fun k e => by cases e; exact .inl rfl)).step g2 (fun k e => by cases e; exact .inl (.inr rfl))
  have HF := Lib.hid (And.intro hfin hk)
  clear hfin hk n2 n4 m4 a1 a2 a3 a4 a5
  go_enter Tryd.func46, Tryd.ntmps46
  go_wp2
  go_end0
  exact ⟨rfl, HF.out.1, HF.out.2⟩
theorem arm_lo {s : St} {n : Int} (h : n < 0) : armS s n = { s with armed := false, left := 0 } := by
  unfold armS; rw [decide_eq_false (by omega), show max n 0 = 0 by omega]
theorem arm_hi {s : St} {n : Int} (h : 0 ≤ n) : armS s n = { s with armed := true, left := n } := by
  unfold armS; rw [decide_eq_true h, show max n 0 = n by omega]
set_option maxRecDepth 100000 in
theorem darm_any (w : World) (base : Nat) (F : Nat → Prop) (p : Nat) (s : St) (n : Int) (hP : PD w base F p s) :
    Calls Tryd.prog 23 #[.pointer (some ⟨p, 0, none⟩), .int .i64 n] w fun e w' => e = .returned (.tuple #[]) ∧ PD w' base F p (armS s n) ∧ Kp F w w' := by
  obtain ⟨vs, vp, bm, D, hv, hf⟩ := hP
  have f5 := hv.1.free 5
  have f6 := hv.1.free 6
  obtain ⟨_, _, _, _, _, c5, c6⟩ := dk_cells hv.1
  rcases Int.lt_or_le n 0 with h | h
  · have hg : decide (0 ≤ n) = false := decide_eq_false (by omega)
    have hS := arm_lo (s := s) h
    rw [hS]
    go_enter Tryd.func23, Tryd.ntmps23
    go_wp2
    go_end0
    exact ⟨rfl, ⟨_, _, _, _, pdv_turn hv rfl rfl ((hv.1.set 5 _).set 6 _) (gb_trans (gb_set _ _ _ _ _) (gb_set _ _ _ _ _)), hf⟩, Kp.of (gb_trans (gb_set _ _ _ _ _) (gb_set _ _ _ _ _)) (fun k e => by cases e; exact hf _ (.inl rfl))⟩
  · have hg : decide (0 ≤ n) = true := decide_eq_true h
    have hS := arm_hi (s := s) h
    rw [hS]
    go_enter Tryd.func23, Tryd.ntmps23
    go_wp2
    go_end0
    exact ⟨rfl, ⟨_, _, _, _, pdv_turn hv rfl rfl ((hv.1.set 5 _).set 6 _) (gb_trans (gb_set _ _ _ _ _) (gb_set _ _ _ _ _)), hf⟩, Kp.of (gb_trans (gb_set _ _ _ _ _) (gb_set _ _ _ _ _)) (fun k e => by cases e; exact hf _ (.inl rfl))⟩
set_option maxRecDepth 100000 in
theorem doff_any (w : World) (base : Nat) (F : Nat → Prop) (p : Nat) (s : St) (hP : PD w base F p s) :
    Calls Tryd.prog 27 #[.pointer (some ⟨p, 0, none⟩)] w fun e w' => e = .returned (.bool s.off) ∧ w = w' := by
  obtain ⟨vs, vp, bm, D, hv, hf⟩ := hP
  obtain ⟨_, _, _, _, c4, _, _⟩ := dk_cells hv.1
  go_enter Tryd.func27, Tryd.ntmps27
  go_wp2
  go_ret
  exact ⟨rfl, rfl⟩
set_option maxRecDepth 100000 in
theorem dops_any (w : World) (base : Nat) (F : Nat → Prop) (p : Nat) (s : St) (hP : PD w base F p s) :
    Calls Tryd.prog 28 #[.pointer (some ⟨p, 0, none⟩)] w fun e w' => e = .returned (.int .i64 s.ops) ∧ w = w' := by
  obtain ⟨vs, vp, bm, D, hv, hf⟩ := hP
  obtain ⟨_, _, _, c3, c4, _, _⟩ := dk_cells hv.1
  go_enter Tryd.func28, Tryd.ntmps28
  go_wp2
  go_ret
  exact ⟨rfl, rfl⟩
set_option maxRecDepth 100000 in
theorem dpending_any (w : World) (base : Nat) (F : Nat → Prop) (p : Nat) (s : St) (hP : PD w base F p s) :
    Calls Tryd.prog 29 #[.pointer (some ⟨p, 0, none⟩)] w fun e w' => e = .returned (.int .i64 (s.pend.length : Nat)) ∧ w = w' := by
  obtain ⟨vs, vp, bm, D, hv, hf⟩ := hP
  obtain ⟨po, pcap, rfl⟩ := pdv_vp hv
  obtain ⟨_, c1, _, c3, c4, _, _⟩ := dk_cells hv.1
  go_enter Tryd.func29, Tryd.ntmps29
  go_wp2
  go_ret
  exact ⟨rfl, rfl⟩
set_option maxRecDepth 100000 in
theorem dsectors_any (w : World) (base : Nat) (F : Nat → Prop) (p : Nat) (s : St) (hP : PD w base F p s) :
    Calls Tryd.prog 30 #[.pointer (some ⟨p, 0, none⟩)] w fun e w' => e = .returned (.int .i64 (s.secs.length : Nat)) ∧ w = w' := by
  obtain ⟨vs, vp, bm, D, hv, hf⟩ := hP
  obtain ⟨po, pcap, rfl⟩ := pdv_vs hv
  obtain ⟨c0, c1, _, c3, c4, _, _⟩ := dk_cells hv.1
  go_enter Tryd.func30, Tryd.ntmps30
  go_wp2
  go_ret
  exact ⟨rfl, rfl⟩
end Go.Proofs.YtcoegaipojnndaaDoor
