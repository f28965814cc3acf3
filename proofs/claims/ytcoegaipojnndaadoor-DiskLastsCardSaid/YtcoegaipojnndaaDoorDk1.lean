/-
  The disk's small methods (disarm, powerGoes, operate, hasSector, fillsSector, forget), over this seat's translation; conditions: the disk lies as Dk0 tells.
-/
import Derived.Test.YtcoegaipojnndaaDoorDk0
namespace Go.Proofs.YtcoegaipojnndaaDoor
open Go.RowKit Go.Maps

/-- The cells of the disk's struct. -/
def dkC (vs vp : Value) (bm : Nat) (s : St) : Array Value := #[vs, vp, .map (some bm), .int .i64 s.ops, .bool s.off, .bool s.armed, .int .i64 s.left]
theorem dk_cells {w : World} {p : Nat} {vs vp : Value} {bm : Nat} {s : St} (h : Blk w p 80 (dkC vs vp bm s)) :
    w.cell? ⟨p, 0, none⟩ = some vs ∧ w.cell? ⟨p, 1, none⟩ = some vp ∧ w.cell? ⟨p, 2, none⟩ = some (.map (some bm)) ∧ w.cell? ⟨p, 3, none⟩ = some (.int .i64 s.ops) ∧ w.cell? ⟨p, 4, none⟩ = some (.bool s.off) ∧ w.cell? ⟨p, 5, none⟩ = some (.bool s.armed) ∧ w.cell? ⟨p, 6, none⟩ = some (.int .i64 s.left) :=
  ⟨h.cell 0 rfl, h.cell 1 rfl, h.cell 2 rfl, h.cell 3 rfl, h.cell 4 rfl, h.cell 5 rfl, h.cell 6 rfl⟩
def pp (p : Nat) : Value := .pointer (some ⟨p, 0, none⟩)
set_option maxRecDepth 100000 in
theorem disarm_any (w : World) (p : Nat) (vs vp : Value) (bm : Nat) (s : St) (h : Blk w p 80 (dkC vs vp bm s)) :
    Calls Tryd.prog 47 #[.pointer (some ⟨p, 0, none⟩)] w fun e w' => e = .returned (.tuple #[]) ∧ Blk w' p 80 (dkC vs vp bm { s with armed := false, left := 0 }) ∧ w.grownBy w' (some p) := by
  have f5 := h.free 5
  have f6 := h.free 6
  obtain ⟨_, _, _, _, _, c5, c6⟩ := dk_cells h
  go_enter Tryd.func47, Tryd.ntmps47
  go_wp2
  go_end0
  exact ⟨rfl, (h.set 5 _).set 6 _, gb_trans (gb_set _ _ _ _ _) (gb_set _ _ _ _ _)⟩
def goesS (s : St) : St := if s.armed then (if 0 < s.left then { s with left := s.left - 1 } else { s with off := true, armed := false, left := 0 }) else s
def goesB (s : St) : Bool := s.armed && !decide (0 < s.left)
set_option maxRecDepth 100000 in
theorem powerGoes_any (w : World) (p : Nat) (vs vp : Value) (bm : Nat) (s : St) (h : Blk w p 80 (dkC vs vp bm s)) (h2 : s.armed = true → s.left ≤ 9223372036854775807) :
    Calls Tryd.prog 58 #[.pointer (some ⟨p, 0, none⟩)] w fun e w' => e = .returned (.bool (goesB s)) ∧ Blk w' p 80 (dkC vs vp bm (goesS s)) ∧ w.grownBy w' (some p) := by
  obtain ⟨ss, pd, o, a, l, n⟩ := s
  have f4 := h.free 4
  have f6 := h.free 6
  obtain ⟨_, _, _, _, c4, c5, c6⟩ := dk_cells h
  simp only at c4 c5 c6 h2
  cases a with
  | false =>
    go_enter Tryd.func58, Tryd.ntmps58
    go_wp2
    go_ret
    exact ⟨rfl, h, gb_refl _ _⟩
  | true =>
    have h3 := h2 rfl
    clear h2
    by_cases hl : 0 < l
    · have hw : IntKind.i64.wrap (l - 1) = l - 1 := IntWalk.i64_in _ (by omega)
      have hE : goesB ⟨ss, pd, o, true, l, n⟩ = false := by unfold goesB; simp [hl]
      have hS : goesS ⟨ss, pd, o, true, l, n⟩ = ⟨ss, pd, o, true, l - 1, n⟩ := by unfold goesS; simp [hl]
      rw [hE, hS]
      clear hE hS
      go_enter Tryd.func58, Tryd.ntmps58
      go_wp2
      go_ret
      exact ⟨rfl, h.set 6 _, gb_set _ _ _ _ _⟩
    · have hE : goesB ⟨ss, pd, o, true, l, n⟩ = true := by unfold goesB; simp [hl]
      have hS : goesS ⟨ss, pd, o, true, l, n⟩ = ⟨ss, pd, true, false, 0, n⟩ := by unfold goesS; simp [hl]
      have hd : decide (0 < l) = false := decide_eq_false hl
      rw [hE, hS]
      clear hE hS
      have hn : Blk (w.setCell ⟨p, 4, none⟩ (.bool true)) p 80 (dkC vs vp bm ⟨ss, pd, true, true, l, n⟩) := h.set 4 _
      go_enter Tryd.func58, Tryd.ntmps58
      go_wp2_with (go_at_call 47; (with_reducible refine (disarm_any _ _ _ _ _ _ hn).mono ?_); rintro e w1 ⟨rfl, hb, g⟩)
      go_ret
      exact ⟨rfl, hb, gb_trans (gb_set _ _ _ _ _) g⟩
set_option maxRecDepth 100000 in
/-- What hasSector asks. -/
theorem hasSector1_any (w : World) (p bi bd : Nat) (i : Int) (ao : Option Addr) (cap : Nat) (vp : Value) (bm : Nat) (s : St) (h : Blk w p 80 (dkC (.slice ao s.secs.length cap) vp bm s)) (hi : Blk w bi 3 #[.int .i64 i]) (hd : Blk w bd 41 #[.pointer (some ⟨p, 0, none⟩)]) :
    Calls Tryd.prog 59 #[.pointer (some ⟨bi, 0, none⟩), .pointer (some ⟨bd, 0, none⟩)] w fun e w' => e = .returned (.bool (hasF s i)) ∧ w.grownBy w' none := by
  obtain ⟨c0, _, _, _, _, _, _⟩ := dk_cells h
  have ci := hi.cell 0 rfl
  have cd := hd.cell 0 rfl
  unfold hasF
  rcases Int.lt_or_le i 0 with h0 | h0
  · have hg : decide (0 ≤ i) = false := decide_eq_false (by omega)
    go_enter Tryd.func59, Tryd.ntmps59
    go_wp2
    go_region
    all_goals go_wp2
    all_goals go_ret
    all_goals exact ⟨by rw [hg]; rfl, gb_drew _ _⟩
  · have hg : decide (0 ≤ i) = true := decide_eq_true h0
    go_enter Tryd.func59, Tryd.ntmps59
    go_wp2
    go_region
    all_goals go_wp2
    all_goals go_ret
    all_goals exact ⟨by rw [hg]; rfl, gb_drew _ _⟩
set_option maxRecDepth 100000 in
theorem fillsSector1_any (w : World) (bd : Nat) (d : ByteArray) (hd : Blk w bd 9 #[.string d]) :
    Calls Tryd.prog 60 #[.pointer (some ⟨bd, 0, none⟩)] w fun e w' => e = .returned (.bool (decide (d.size = 256))) ∧ w.grownBy w' none := by
  have cd := hd.cell 0 rfl
  go_enter Tryd.func60, Tryd.ntmps60
  go_wp2
  go_ret
  refine ⟨?_, gb_refl _ _⟩
  by_cases hs : d.size = 256
  · simp [hs]
  · have : ((d.size : Int) == 256) = false := by simp; omega
    simp [hs, this]
/-- The closures as values. -/
def hasV (bi bd : Nat) : Value := .func (.func 59) #[] #[.pointer (some ⟨bi, 0, none⟩), .pointer (some ⟨bd, 0, none⟩)]
def fillsV (bd : Nat) : Value := .func (.func 60) #[] #[.pointer (some ⟨bd, 0, none⟩)]
set_option maxRecDepth 100000 in
theorem hasSector_any (w : World) (q : Option Addr) (i : Int) :
    Calls Tryd.prog 43 #[.pointer q, .int .i64 i] w fun e w' => e = .returned (.func (.func 59) #[] #[.pointer (some ⟨w.heap.size + 1, 0, none⟩), .pointer (some ⟨w.heap.size, 0, none⟩)]) ∧ Blk w' (w.heap.size + 1) 3 #[.int .i64 i] ∧ Blk w' w.heap.size 41 #[.pointer q] ∧ w.grownBy w' none := by
  go_enter Tryd.func43, Tryd.ntmps43
  go_wp2
  go_ret
  refine ⟨rfl, ?_, (Blk.mk w 41 #[.pointer q]).keep0 (gb_alloc _ _ _), gb_trans (gb_alloc _ _ _) (gb_alloc _ _ _)⟩
  have := Blk.mk (w.alloc (.cells #[.pointer q] 41)) 3 #[.int .i64 i]
  rw [World.size_alloc] at this
  exact this
set_option maxRecDepth 100000 in
theorem fillsSector_any (w : World) (d : ByteArray) :
    Calls Tryd.prog 45 #[.string d] w fun e w' => e = .returned (.func (.func 60) #[] #[.pointer (some ⟨w.heap.size, 0, none⟩)]) ∧ Blk w' w.heap.size 9 #[.string d] ∧ w.grownBy w' none := by
  go_enter Tryd.func45, Tryd.ntmps45
  go_wp2
  go_ret
  exact ⟨rfl, Blk.mk w 9 #[.string d], gb_alloc _ _ _⟩
/-- An operation is begun. -/
def OpGot (w : World) (p : Nat) (vs vp : Value) (bm : Nat) (s : St) (m : Bool) (e : Ending) (w' : World) : Prop :=
  e = .returned (.int .i64 (opE s m)) ∧ Blk w' p 80 (dkC vs vp bm (opS s m)) ∧ w.grownBy w' (some p)
theorem op_off {s : St} (h : s.off = true) (m : Bool) : opE s m = 10 ∧ opS s m = s := by unfold opE opS; simp [h]
theorem op_no {s : St} (h : s.off = false) : opE s false = 2 ∧ opS s false = s := by unfold opE opS; simp [h]
theorem op_gone {s : St} (h : s.off = false) (hg : goesB s = true) : opE s true = 10 ∧ opS s true = goesS s := by
  unfold goesB at hg
  simp only [Bool.and_eq_true, Bool.not_eq_true', decide_eq_false_iff_not] at hg
  unfold opE opS goesS; simp [h, hg.1, hg.2]
theorem op_done {s : St} (h : s.off = false) (hg : goesB s = false) : opE s true = 0 ∧ opS s true = { goesS s with ops := s.ops + 1 } ∧ (goesS s).ops = s.ops := by
  unfold goesB at hg
  unfold opE opS goesS
  cases ha : s.armed with
  | false => simp [h, ha]
  | true =>
    rw [ha] at hg
    have h1 : 0 < s.left := by simpa using hg
    simp [h, h1]
theorem op_nil (w : World) (v : Value) (n : Nat) (a : Option Addr) (c : Nat) (hv : v = .slice a n c) : Calls Tryd.prog 42 #[.pointer none, v] w fun e w' => e = .returned (.int .i64 1) ∧ w = w' := by
  subst hv
  go_enter Tryd.func42, Tryd.ntmps42
  go_wp2
  go_ret
  exact ⟨rfl, rfl⟩
set_option maxRecDepth 100000 in
theorem operate_none (w : World) (p : Nat) (vs vp : Value) (bm : Nat) (s : St) (h : Blk w p 80 (dkC vs vp bm s)) (h2 : s.armed = true → s.left ≤ 9223372036854775807) (h3 : 0 ≤ s.ops ∧ s.ops ≤ 1000000) :
    Calls Tryd.prog 42 #[.pointer (some ⟨p, 0, none⟩), .slice none 0 0] w (OpGot w p vs vp bm s true) := by
  obtain ⟨_, _, _, _, c4, _, _⟩ := dk_cells h
  cases ho : s.off with
  | true =>
    obtain ⟨hE, hS⟩ := op_off ho true
    have HS := Lib.hid (And.intro hE hS)
    rw [ho] at c4
    clear hE hS
    go_enter Tryd.func42, Tryd.ntmps42
    go_wp2
    go_ret
    exact ⟨congrArg (fun z => Ending.returned (Value.int .i64 z)) HS.out.1.symm, by rw [HS.out.2]; exact h, gb_refl _ _⟩
  | false =>
    rw [ho] at c4
    cases hg : goesB s with
    | true =>
      obtain ⟨hE, hS⟩ := op_gone ho hg
      have HS := Lib.hid (And.intro hE hS)
      have HG := Lib.hid hg
      clear hE hS hg
      go_enter Tryd.func42, Tryd.ntmps42
      go_wp2
      refine wp_loop_rounds 1 ?_
      rw [rounds_succ]
      go_wp2_with (go_at_call 58; (with_reducible refine (powerGoes_any _ _ _ _ _ _ h h2).mono ?_); rintro e w1 ⟨rfl, hb, g⟩; rw [HG.out])
      go_ret
      exact ⟨congrArg (fun z => Ending.returned (Value.int .i64 z)) HS.out.1.symm, by rw [HS.out.2]; exact hb, g⟩
    | false =>
      obtain ⟨hE, hS, hO⟩ := op_done ho hg
      have HS := Lib.hid (And.intro hE hS)
      have HG := Lib.hid hg
      have hw : IntKind.i64.wrap (s.ops + 1) = s.ops + 1 := IntWalk.i64_in _ (by omega)
      have HO := Lib.hid hO
      clear hE hS hg hO
      go_enter Tryd.func42, Tryd.ntmps42
      go_wp2
      refine wp_loop_rounds 1 ?_
      rw [rounds_succ]
      go_wp2_with (go_at_call 58; (with_reducible refine (powerGoes_any _ _ _ _ _ _ h h2).mono ?_); rintro e w1 ⟨rfl, hb, g⟩; rw [HG.out]; obtain ⟨_, _, _, d3, _, _, _⟩ := dk_cells hb; rw [HO.out] at d3; have e3 := hb.free 3)
      go_ret
      exact ⟨congrArg (fun z => Ending.returned (Value.int .i64 z)) HS.out.1.symm, by rw [HS.out.2]; exact hb.set 3 _, gb_trans g (gb_set _ _ _ _ _)⟩
-- operate of one, of two
set_option maxRecDepth 100000 in
set_option maxHeartbeats 1000000 in
theorem operate_one (w : World) (p q bi bd : Nat) (i : Int) (ao : Option Addr) (cap : Nat) (vp : Value) (bm : Nat) (s : St) (h : Blk w p 80 (dkC (.slice ao s.secs.length cap) vp bm s)) (h2 : s.armed = true → s.left ≤ 9223372036854775807) (h3 : 0 ≤ s.ops ∧ s.ops ≤ 1000000) (hi : Blk w bi 3 #[.int .i64 i]) (hd : Blk w bd 41 #[.pointer (some ⟨p, 0, none⟩)]) (hq : w.cell? ⟨q, 0, none⟩ = some (hasV bi bd)) :
    Calls Tryd.prog 42 #[.pointer (some ⟨p, 0, none⟩), .slice (some ⟨q, 0, none⟩) 1 1] w (OpGot w p (.slice ao s.secs.length cap) vp bm s (hasF s i)) := by
  obtain ⟨_, _, _, _, c4, _, _⟩ := dk_cells h
  unfold hasV at hq
  cases ho : s.off with
  | true =>
    obtain ⟨hE, hS⟩ := op_off ho (hasF s i)
    have HS := Lib.hid (And.intro hE hS)
    rw [ho] at c4
    clear hE hS
    go_enter Tryd.func42, Tryd.ntmps42
    go_wp2
    go_ret
    exact ⟨congrArg (fun z => Ending.returned (Value.int .i64 z)) HS.out.1.symm, by rw [HS.out.2]; exact h, gb_refl _ _⟩
  | false =>
    rw [ho] at c4
    cases hm : hasF s i with
    | false =>
      obtain ⟨hE, hS⟩ := op_no ho
      have HS := Lib.hid (And.intro hE hS)
      have HM := Lib.hid hm
      clear hE hS hm
      go_enter Tryd.func42, Tryd.ntmps42
      go_wp2
      refine wp_loop_rounds 1 ?_
      rw [rounds_succ]
      go_wp2_with (go_at_call 59; (with_reducible refine (hasSector1_any _ p bi bd i ao cap vp bm s h hi hd).mono ?_); rintro e w1 ⟨rfl, g1⟩; rw [HM.out]; replace h := h.keep0 g1)
      go_ret
      exact ⟨congrArg (fun z => Ending.returned (Value.int .i64 z)) HS.out.1.symm, by rw [HS.out.2]; exact h, gb_weak g1 _⟩
    | true =>
      have HM := Lib.hid hm
      clear hm
      cases hg : goesB s with
      | true =>
        obtain ⟨hE, hS⟩ := op_gone ho hg
        have HS := Lib.hid (And.intro hE hS)
        have HG := Lib.hid hg
        clear hE hS hg
        go_enter Tryd.func42, Tryd.ntmps42
        go_wp2
        refine wp_loop_rounds 2 ?_
        rw [rounds_succ]
        go_wp2_with (go_at_call 59; (with_reducible refine (hasSector1_any _ p bi bd i ao cap vp bm s h hi hd).mono ?_); rintro e w1 ⟨rfl, g1⟩; rw [HM.out]; replace h := h.keep0 g1)
        rw [rounds_succ]
        go_wp2_with (go_at_call 58; (with_reducible refine (powerGoes_any _ _ _ _ _ _ h h2).mono ?_); rintro e w3 ⟨rfl, hb, g⟩; rw [HG.out])
        go_ret
        exact ⟨congrArg (fun z => Ending.returned (Value.int .i64 z)) HS.out.1.symm, by rw [HS.out.2]; exact hb, gb_trans (gb_weak g1 _) g⟩
      | false =>
        obtain ⟨hE, hS, hO⟩ := op_done ho hg
        have HS := Lib.hid (And.intro hE hS)
        have HG := Lib.hid hg
        have hw : IntKind.i64.wrap (s.ops + 1) = s.ops + 1 := IntWalk.i64_in _ (by omega)
        have HO := Lib.hid hO
        clear hE hS hg hO
        go_enter Tryd.func42, Tryd.ntmps42
        go_wp2
        refine wp_loop_rounds 2 ?_
        rw [rounds_succ]
        go_wp2_with (go_at_call 59; (with_reducible refine (hasSector1_any _ p bi bd i ao cap vp bm s h hi hd).mono ?_); rintro e w1 ⟨rfl, g1⟩; rw [HM.out]; replace h := h.keep0 g1)
        rw [rounds_succ]
        go_wp2_with (go_at_call 58; (with_reducible refine (powerGoes_any _ _ _ _ _ _ h h2).mono ?_); rintro e w3 ⟨rfl, hb, g⟩; rw [HG.out]; obtain ⟨_, _, _, d3, _, _, _⟩ := dk_cells hb; rw [HO.out] at d3; have e3 := hb.free 3)
        go_ret
        exact ⟨congrArg (fun z => Ending.returned (Value.int .i64 z)) HS.out.1.symm, by rw [HS.out.2]; exact hb.set 3 _, gb_trans (gb_trans (gb_weak g1 _) g) (gb_set _ _ _ _ _)⟩
set_option maxRecDepth 100000 in
set_option maxHeartbeats 1000000 in
theorem operate_two (w : World) (p q bi bd : Nat) (i : Int) (ao : Option Addr) (cap : Nat) (vp : Value) (bm : Nat) (s : St) (h : Blk w p 80 (dkC (.slice ao s.secs.length cap) vp bm s)) (h2 : s.armed = true → s.left ≤ 9223372036854775807) (h3 : 0 ≤ s.ops ∧ s.ops ≤ 1000000) (hi : Blk w bi 3 #[.int .i64 i]) (hd : Blk w bd 41 #[.pointer (some ⟨p, 0, none⟩)]) (hq : w.cell? ⟨q, 0, none⟩ = some (hasV bi bd)) (bs : Nat) (d : ByteArray) (hs : Blk w bs 9 #[.string d]) (hq2 : w.cell? ⟨q, 1, none⟩ = some (fillsV bs)) :
    Calls Tryd.prog 42 #[.pointer (some ⟨p, 0, none⟩), .slice (some ⟨q, 0, none⟩) 2 2] w (OpGot w p (.slice ao s.secs.length cap) vp bm s (mayW s i d)) := by
  obtain ⟨_, _, _, _, c4, _, _⟩ := dk_cells h
  unfold hasV at hq
  unfold fillsV at hq2
  cases ho : s.off with
  | true =>
    obtain ⟨hE, hS⟩ := op_off ho (mayW s i d)
    have HS := Lib.hid (And.intro hE hS)
    rw [ho] at c4
    clear hE hS
    go_enter Tryd.func42, Tryd.ntmps42
    go_wp2
    go_ret
    exact ⟨congrArg (fun z => Ending.returned (Value.int .i64 z)) HS.out.1.symm, by rw [HS.out.2]; exact h, gb_refl _ _⟩
  | false =>
    rw [ho] at c4
    cases hm : hasF s i with
    | false =>
      have hmw : mayW s i d = false := by unfold mayW; rw [hm]; rfl
      rw [hmw]
      obtain ⟨hE, hS⟩ := op_no ho
      have HS := Lib.hid (And.intro hE hS)
      have HM := Lib.hid hm
      clear hE hS hm
      go_enter Tryd.func42, Tryd.ntmps42
      go_wp2
      refine wp_loop_rounds 1 ?_
      rw [rounds_succ]
      go_wp2_with (go_at_call 59; (with_reducible refine (hasSector1_any _ p bi bd i ao cap vp bm s h hi hd).mono ?_); rintro e w1 ⟨rfl, g1⟩; rw [HM.out]; replace h := h.keep0 g1; replace hs := hs.keep0 g1; replace hq2 := g1.cell hq2 (by simp))
      go_ret
      exact ⟨congrArg (fun z => Ending.returned (Value.int .i64 z)) HS.out.1.symm, by rw [HS.out.2]; exact h, gb_weak g1 _⟩
    | true =>
      cases hds : decide (d.size = 256) with
      | false =>
        have hmw : mayW s i d = false := by unfold mayW; rw [hm, hds]; rfl
        rw [hmw]
        obtain ⟨hE, hS⟩ := op_no ho
        have HS := Lib.hid (And.intro hE hS)
        have HM := Lib.hid hm
        have HD := Lib.hid hds
        clear hE hS hm hds
        go_enter Tryd.func42, Tryd.ntmps42
        go_wp2
        refine wp_loop_rounds 2 ?_
        rw [rounds_succ]
        go_wp2_with (go_at_call 59; (with_reducible refine (hasSector1_any _ p bi bd i ao cap vp bm s h hi hd).mono ?_); rintro e w1 ⟨rfl, g1⟩; rw [HM.out]; replace h := h.keep0 g1; replace hs := hs.keep0 g1; replace hq2 := g1.cell hq2 (by simp))
        rw [rounds_succ]
        go_wp2_with (go_at_call 60; (with_reducible refine (fillsSector1_any _ bs d hs).mono ?_); rintro e w2 ⟨rfl, g2⟩; rw [HD.out]; replace h := h.keep0 g2; replace g1 := gb_trans g1 g2)
        go_ret
        exact ⟨congrArg (fun z => Ending.returned (Value.int .i64 z)) HS.out.1.symm, by rw [HS.out.2]; exact h, gb_weak g1 _⟩
      | true =>
        have hmw : mayW s i d = true := by unfold mayW; rw [hm, hds]; rfl
        rw [hmw]
        have HD := Lib.hid hds
        clear hds
        have HM := Lib.hid hm
        clear hm
        cases hg : goesB s with
        | true =>
          obtain ⟨hE, hS⟩ := op_gone ho hg
          have HS := Lib.hid (And.intro hE hS)
          have HG := Lib.hid hg
          clear hE hS hg
          go_enter Tryd.func42, Tryd.ntmps42
          go_wp2
          refine wp_loop_rounds 3 ?_
          rw [rounds_succ]
          go_wp2_with (go_at_call 59; (with_reducible refine (hasSector1_any _ p bi bd i ao cap vp bm s h hi hd).mono ?_); rintro e w1 ⟨rfl, g1⟩; rw [HM.out]; replace h := h.keep0 g1; replace hs := hs.keep0 g1; replace hq2 := g1.cell hq2 (by simp))
          rw [rounds_succ]
          go_wp2_with (go_at_call 60; (with_reducible refine (fillsSector1_any _ bs d hs).mono ?_); rintro e w2 ⟨rfl, g2⟩; rw [HD.out]; replace h := h.keep0 g2; replace g1 := gb_trans g1 g2)
          rw [rounds_succ]
          go_wp2_with (go_at_call 58; (with_reducible refine (powerGoes_any _ _ _ _ _ _ h h2).mono ?_); rintro e w3 ⟨rfl, hb, g⟩; rw [HG.out])
          go_ret
          exact ⟨congrArg (fun z => Ending.returned (Value.int .i64 z)) HS.out.1.symm, by rw [HS.out.2]; exact hb, gb_trans (gb_weak g1 _) g⟩
        | false =>
          obtain ⟨hE, hS, hO⟩ := op_done ho hg
          have HS := Lib.hid (And.intro hE hS)
          have HG := Lib.hid hg
          have hw : IntKind.i64.wrap (s.ops + 1) = s.ops + 1 := IntWalk.i64_in _ (by omega)
          have HO := Lib.hid hO
          clear hE hS hg hO
          go_enter Tryd.func42, Tryd.ntmps42
          go_wp2
          refine wp_loop_rounds 3 ?_
          rw [rounds_succ]
          go_wp2_with (go_at_call 59; (with_reducible refine (hasSector1_any _ p bi bd i ao cap vp bm s h hi hd).mono ?_); rintro e w1 ⟨rfl, g1⟩; rw [HM.out]; replace h := h.keep0 g1; replace hs := hs.keep0 g1; replace hq2 := g1.cell hq2 (by simp))
          rw [rounds_succ]
          go_wp2_with (go_at_call 60; (with_reducible refine (fillsSector1_any _ bs d hs).mono ?_); rintro e w2 ⟨rfl, g2⟩; rw [HD.out]; replace h := h.keep0 g2; replace g1 := gb_trans g1 g2)
          rw [rounds_succ]
          go_wp2_with (go_at_call 58; (with_reducible refine (powerGoes_any _ _ _ _ _ _ h h2).mono ?_); rintro e w3 ⟨rfl, hb, g⟩; rw [HG.out]; obtain ⟨_, _, _, d3, _, _, _⟩ := dk_cells hb; rw [HO.out] at d3; have e3 := hb.free 3)
          go_ret
          exact ⟨congrArg (fun z => Ending.returned (Value.int .i64 z)) HS.out.1.symm, by rw [HS.out.2]; exact hb.set 3 _, gb_trans (gb_trans (gb_weak g1 _) g) (gb_set _ _ _ _ _)⟩
end Go.Proofs.YtcoegaipojnndaaDoor
