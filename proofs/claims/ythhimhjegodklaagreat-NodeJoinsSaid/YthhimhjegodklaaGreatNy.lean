/-
  What the reading of a whole text answers and leaves (Get), over this seat's translation: what plain mathematics reads, or a fault; conditions: the text is no longer than a machine's numbers tell.
-/
import Derived.Test.YthhimhjegodklaaGreatNw
import Derived.Defers
import Derived.Recover
namespace Go.Proofs.YthhimhjegodklaaGreat.N11
set_option linter.unusedSimpArgs false
set_option linter.unusedVariables false
open Go.RowKit
theorem got_idle (e0 r0 : Nat) (w : World) :
    CallsD Tryz.prog 34 #[.pointer (some ⟨e0, 0, none⟩), .pointer (some ⟨r0, 0, none⟩)] .returning w fun e u' w' => e = .returned (.tuple #[]) ∧ u' = .returning ∧ w' = w := by
  refine callsD_of_wpS Tryz.func34 rfl fun c₀ cs hu => ?_
  apply wpS_seq
  apply wpS_region
  simp [wpOpsS, go_sem, recoverD, hu, Tryz.ntmps34, Exit.thenS]
  rw [show (#[.pointer (some ⟨e0, 0, none⟩), .pointer (some ⟨r0, 0, none⟩)] ++ (Array.replicate 23 undef).setIfInBounds 4 (.nilIface) : Array Value) = #[.pointer (some ⟨e0, 0, none⟩), .pointer (some ⟨r0, 0, none⟩), undef, undef, undef, undef, .nilIface, undef, undef, undef, undef, undef, undef, undef, undef, undef, undef, undef, undef, undef, undef, undef, undef, undef, undef] from by kernel_rfl]
  refine wpS_of_wp ?_
  go_wp2
  cases c₀
  simp_all [bodyPostS, results, Tryz.results34]
theorem as_same (t xT : TypeId) (v : Value) (w : World) (h : t = 78 ∨ t = 40) : (Instr.typeAssert (.iface t v) xT t true).run Tryz.prog w = .ok (.tuple #[v, .bool true]) w := by
  rcases h with rfl | rfl
  · simp [Instr.typeAssert, run_underlying Tryz.underlying78, go_sem, Result.andThen]
  · simp [Instr.typeAssert, run_underlying Tryz.underlying40, go_sem, Result.andThen]
theorem as_not (xT : TypeId) (v : Value) (w : World) : (Instr.typeAssert (.iface 40 v) xT 78 true).run Tryz.prog w = .ok (.tuple #[.pointer none, .bool false]) w := by
  simp [Instr.typeAssert, run_underlying Tryz.underlying78, Tryz.zeroValue78, go_sem, Result.andThen]
/-- What the end of a reading that was given up leaves: a fault at its place. -/
def FaultAt (e0 : Nat) (w w' : World) : Prop := ∃ a : Nat, (w.setCell ⟨e0, 0, none⟩ (.iface 78 (.pointer (some ⟨a, 0, none⟩)))).grownBy w' none
set_option maxRecDepth 100000 in
set_option maxHeartbeats 2000000 in
theorem got_fault (e0 r0 a : Nat) (z : Value) (w : World) (ce : w.cell? ⟨e0, 0, none⟩ = some z) (fe : w.frozen? ⟨e0, 0, none⟩ = false) :
    CallsD Tryz.prog 34 #[.pointer (some ⟨e0, 0, none⟩), .pointer (some ⟨r0, 0, none⟩)] (.panicking [pan (.iface 78 (.pointer (some ⟨a, 0, none⟩))) false]) w fun e u' w' => e = .returned (.tuple #[]) ∧ u' = .panicking [pan (.iface 78 (.pointer (some ⟨a, 0, none⟩))) true] ∧ FaultAt e0 w w' := by
  refine callsD_of_wpS Tryz.func34 rfl fun c₀ cs hu => ?_
  unfold pan at hu
  apply wpS_seq
  apply wpS_region
  simp [wpOpsS, go_sem, recoverD, hu, Tryz.ntmps34, Exit.thenS]
  rw [show (#[.pointer (some ⟨e0, 0, none⟩), .pointer (some ⟨r0, 0, none⟩)] ++ (Array.replicate 23 undef).setIfInBounds 4 (.iface 78 (.pointer (some ⟨a, 0, none⟩))) : Array Value) = #[.pointer (some ⟨e0, 0, none⟩), .pointer (some ⟨r0, 0, none⟩), undef, undef, undef, undef, .iface 78 (.pointer (some ⟨a, 0, none⟩)), undef, undef, undef, undef, undef, undef, undef, undef, undef, undef, undef, undef, undef, undef, undef, undef, undef, undef] from by kernel_rfl]
  refine wpS_of_wp ?_
  generalize hQ : (fun (e : Exit) (a' : Act) (w' : World) => _) = Q
  have has := fun (xT : TypeId) W => as_same 78 xT (.pointer (some ⟨a, 0, none⟩)) W (.inl rfl)
  go_wp2
  subst hQ
  exact ⟨rfl, _, rfl, .tuple #[], results_none rfl _ _ _, rfl, rfl, a, gb_refl _ _⟩
set_option maxRecDepth 100000 in
set_option maxHeartbeats 2000000 in
theorem got_errno (e0 r0 q : Nat) (c bg : Int) (z : Value) (w : World) (ce : w.cell? ⟨e0, 0, none⟩ = some z) (fe : w.frozen? ⟨e0, 0, none⟩ = false) (cr : w.cell? ⟨r0, 0, none⟩ = some (.pointer (some ⟨q, 0, none⟩))) (cb : w.cell? ⟨q, 2, none⟩ = some (.int .i64 bg)) :
    CallsD Tryz.prog 34 #[.pointer (some ⟨e0, 0, none⟩), .pointer (some ⟨r0, 0, none⟩)] (.panicking [pan (.iface 40 (.int .i64 c)) false]) w fun e u' w' => e = .returned (.tuple #[]) ∧ u' = .panicking [pan (.iface 40 (.int .i64 c)) true] ∧ FaultAt e0 w w' := by
  refine callsD_of_wpS Tryz.func34 rfl fun c₀ cs hu => ?_
  unfold pan at hu
  apply wpS_seq
  apply wpS_region
  simp [wpOpsS, go_sem, recoverD, hu, Tryz.ntmps34, Exit.thenS]
  rw [show (#[.pointer (some ⟨e0, 0, none⟩), .pointer (some ⟨r0, 0, none⟩)] ++ (Array.replicate 23 undef).setIfInBounds 4 (.iface 40 (.int .i64 c)) : Array Value) = #[.pointer (some ⟨e0, 0, none⟩), .pointer (some ⟨r0, 0, none⟩), undef, undef, undef, undef, .iface 40 (.int .i64 c), undef, undef, undef, undef, undef, undef, undef, undef, undef, undef, undef, undef, undef, undef, undef, undef, undef, undef] from by kernel_rfl]
  refine wpS_of_wp ?_
  generalize hQ : (fun (e : Exit) (a' : Act) (w' : World) => _) = Q
  have has := fun (xT : TypeId) W => as_same 40 xT (.int .i64 c) W (.inr rfl)
  have has2 := fun (xT : TypeId) W => as_not xT (.int .i64 c) W
  have hle := World.block_lt_of_cell? w _ ce
  simp only at hle
  have hN : w.heap.size ≠ e0 := by omega
  go_wp2
  subst hQ
  exact ⟨rfl, _, rfl, .tuple #[], results_none rfl _ _ _, rfl, rfl, w.heap.size, gb_alloc _ _ _⟩
theorem results_ce {fn : Func} {p q : Tmp} (h : fn.results = #[.cell p 26, .cell q 45]) (tmps : Array Value) (w : World) (b c : Nat) (o0 o1 o2 o3 v : Value) (hp : tmps.getD p undef = .pointer (some ⟨b, 0, none⟩)) (hb : Blk w b 26 #[o0, o1, o2, o3])
    (hq : tmps.getD q undef = .pointer (some ⟨c, 0, none⟩)) (hc : Blk w c 45 #[v]) : (results fn tmps).run Tryz.prog w = .ok (.tuple #[.agg #[o0, o1, o2, o3], v]) w := by
  have hp' : tmps[p]?.getD undef = .pointer (some ⟨b, 0, none⟩) := by simpa using hp
  have hq' : tmps[q]?.getD undef = .pointer (some ⟨c, 0, none⟩) := by simpa using hq
  have hl : (loadVar 45 ⟨c, 0, none⟩).run Tryz.prog w = .ok v w := by have hc3 := hc.cell 0 rfl; go_simp
  simp [results, h, hp', hq', asAddr, loadN hb, hl]
def nodeZ : Value := .agg #[.bool false, .slice none 0 0, .slice none 0 0, .slice none 0 0]
/-- What the reading of a whole text answers. -/
def GetG (w : World) : Option Nd → Ending → World → Prop
  | some n => fun e w' => ∃ v, e = .returned (.tuple #[v, .nilIface]) ∧ NdV w' v n ∧ w.grownBy w' none
  | none => fun e w' => ∃ a : Nat, e = .returned (.tuple #[nodeZ, .iface 78 (.pointer (some ⟨a, 0, none⟩))]) ∧ w.grownBy w' none
def readD (w : World) : Deferred := { target := .fn (.func 34) #[.pointer (some ⟨w.heap.size + 1, 0, none⟩), .pointer (some ⟨w.heap.size + 4, 0, none⟩)], args := #[] }
theorem read_gave {w wz : World} {tmps : Array Value} {s : ByteArray} {l : List UInt8} {v : Value} (hg : w.grownBy wz none) (hv : Wrong v) (h : RG wz (w.heap.size + 2) (w.heap.size + 3) s l) (bn : Blk wz w.heap.size 26 #[.bool false, .slice none 0 0, .slice none 0 0, .slice none 0 0]) (be : Blk wz (w.heap.size + 1) 45 #[.nilIface]) (br : Blk wz (w.heap.size + 4) 73 #[.pointer (some ⟨w.heap.size + 3, 0, none⟩)])
    (h2 : tmps.getD 2 undef = .pointer (some ⟨w.heap.size, 0, none⟩)) (h3 : tmps.getD 3 undef = .pointer (some ⟨w.heap.size + 1, 0, none⟩)) :
    Leaves Tryz.prog Tryz.f24 tmps (GetG w none) [readD w] (.panicking [pan v false]) wz := by
  refine leaves_cons (f := 34) (args := #[.pointer (some ⟨w.heap.size + 1, 0, none⟩), .pointer (some ⟨w.heap.size + 4, 0, none⟩)]) (by simp) (by simp [go_sem]) ?_
  have fin : ∀ w'', FaultAt (w.heap.size + 1) wz w'' → ∃ v, (results Tryz.f24 tmps).run Tryz.prog w'' = .ok v w'' ∧ GetG w none (.returned v) w'' := by
    rintro w'' ⟨a, g1⟩
    have gs := gb_set wz (w.heap.size + 1) 0 none (.iface 78 (.pointer (some ⟨a, 0, none⟩)))
    have be2 := (be.set 0 (.iface 78 (.pointer (some ⟨a, 0, none⟩)))).keep0 g1
    have bn2 := (bn.keep gs (ne_some (by omega))).keep0 g1
    exact ⟨_, results_ce rfl _ _ _ _ _ _ _ _ _ h2 bn2 h3 be2, a, rfl, gb_trans (gb_step hg gs (by omega)) g1⟩
  obtain ⟨bg, cb, _⟩ := h.c2
  rcases hv with ⟨a, rfl⟩ | ⟨c, rfl⟩
  · refine (got_fault _ _ a _ wz (be.cell 0 rfl) (be.free 0)).mono ?_
    rintro e u' w'' ⟨rfl, rfl, hf⟩
    exact fin _ hf
  · refine (got_errno _ _ (w.heap.size + 3) c bg _ wz (be.cell 0 rfl) (be.free 0) (br.cell 0 rfl) cb).mono ?_
    rintro e u' w'' ⟨rfl, rfl, hf⟩
    exact fin _ hf
theorem read_done {w wz : World} {tmps : Array Value} {n : Nd} {o0 o1 o2 o3 : Value} (hg : w.grownBy wz none) (hv : NdV wz (.agg #[o0, o1, o2, o3]) n) (bn : Blk wz w.heap.size 26 #[o0, o1, o2, o3]) (be : Blk wz (w.heap.size + 1) 45 #[.nilIface])
    (h2 : tmps.getD 2 undef = .pointer (some ⟨w.heap.size, 0, none⟩)) (h3 : tmps.getD 3 undef = .pointer (some ⟨w.heap.size + 1, 0, none⟩)) :
    Leaves Tryz.prog Tryz.f24 tmps (GetG w (some n)) [readD w] .returning wz := by
  refine leaves_cons (f := 34) (args := #[.pointer (some ⟨w.heap.size + 1, 0, none⟩), .pointer (some ⟨w.heap.size + 4, 0, none⟩)]) (by simp) (by simp [go_sem]) ?_
  refine (got_idle _ _ wz).mono ?_
  rintro e u' w'' ⟨rfl, rfl, rfl⟩
  exact ⟨_, results_ce rfl _ _ _ _ _ _ _ _ _ h2 bn h3 be, _, rfl, hv, hg⟩
/-- The five blocks of a reading. -/
theorem new5 (w : World) (s : ByteArray) : ∃ w0, w0 = ((((w.alloc (.cells #[.bool false, .slice none 0 0, .slice none 0 0, .slice none 0 0] 26)).alloc (.cells #[.nilIface] 45)).alloc (.cells #[.string s, .int .i64 0] 86)).alloc (.cells #[.pointer (some ⟨w.heap.size + 1 + 1, 0, none⟩), .string s, .int .i64 0] 77)).alloc (.cells #[.pointer (some ⟨w.heap.size + 1 + 1 + 1, 0, none⟩)] 73) ∧
    Blk w0 w.heap.size 26 #[.bool false, .slice none 0 0, .slice none 0 0, .slice none 0 0] ∧ Blk w0 (w.heap.size + 1) 45 #[.nilIface] ∧ RG w0 (w.heap.size + 1 + 1) (w.heap.size + 1 + 1 + 1) s s.data.toList ∧ Blk w0 (w.heap.size + 1 + 1 + 1 + 1) 73 #[.pointer (some ⟨w.heap.size + 1 + 1 + 1, 0, none⟩)] ∧ w.grownBy w0 none ∧ w0.heap.size = w.heap.size + 5 := by
  obtain ⟨wa, ha, b1, b2, b3, g1, s1⟩ := new3 w 26 #[.bool false, .slice none 0 0, .slice none 0 0, .slice none 0 0] 45 #[.nilIface] 86 #[.string s, .int .i64 0]
  obtain ⟨wb, hb, b4, b5, g2, s2⟩ := new2 wa 77 #[.pointer (some ⟨w.heap.size + 1 + 1, 0, none⟩), .string s, .int .i64 0] 73 #[.pointer (some ⟨w.heap.size + 1 + 1 + 1, 0, none⟩)]
  rw [s1] at b4 b5
  exact ⟨wb, by rw [hb, ha], b1.keep0 g2, b2.keep0 g2, ⟨0, 0, b3.keep0 g2, by omega, rfl, b4, by omega⟩, b5, gb_trans g1 g2, by omega⟩
set_option maxRecDepth 100000 in
set_option maxHeartbeats 2000000 in
theorem read_any (s : ByteArray) (w : World) (hs : s.size ≤ 9223372036854775807) : Calls Tryz.prog 24 #[.string s] w (GetG w (getF s.data.toList)) := by
  have HN : Hid (∀ b g W, RG W b g s s.data.toList → Calls Tryz.prog 35 #[.pointer (some ⟨g, 0, none⟩)] W (WholeR b g s W (getF s.data.toList))) := Lib.hid (fun b g W h => node_any b g s W h hs)
  generalize getF s.data.toList = o at HN ⊢
  obtain ⟨w5, hw5, bn, be, hr, br, g5, s5⟩ := new5 w s
  have HW := Lib.hid hw5
  have HR := Lib.hid hr
  have HG := Lib.hid g5
  clear hw5 hr g5 s5
  cases o with
  | none =>
    have Hn := Lib.hid bn
    have He := Lib.hid be
    have Hr := Lib.hid br
    clear bn be br
    go_enter_defers Tryz.func24, Tryz.ntmps24
    go_wp2_with (go_at_call 33; (with_reducible refine (new_any _ _).mono ?_); rintro e w1 ⟨rfl, rfl⟩)
    go_at_call 35
    rw [← HW.out]
    refine (HN.out _ _ w5 HR.out).mono ?_
    rintro e wz ⟨v, l, rfl, hv, hz, hk⟩
    exact read_gave (Kq.gb HG.out hk (by omega) (by omega)) hv hz (hk.blk Hn.out (by omega) (by omega)) (hk.blk He.out (by omega) (by omega)) (hk.blk Hr.out (by omega) (by omega)) rfl rfl
  | some n =>
    go_enter_defers Tryz.func24, Tryz.ntmps24
    go_wp2_with (first
      | (go_at_call 33; (with_reducible refine (new_any _ _).mono ?_); rintro e w1 ⟨rfl, rfl⟩)
      | (go_at_call 35; rw [← HW.out]; (with_reducible refine (HN.out _ _ w5 HR.out).mono ?_); rintro e w7 ⟨v, rfl, hv, hk⟩; obtain ⟨x1, y1, z1, rfl, ax, ay, az⟩ := hv; obtain ⟨o1, p1, d1, rfl⟩ := shape' ax; obtain ⟨o2, p2, d2, rfl⟩ := shape' ay; obtain ⟨o3, p3, d3, rfl⟩ := shape' az; have HV : Hid (NdV w7 (.agg #[.bool n.leaf, .slice o1 p1 d1, .slice o2 p2 d2, .slice o3 p3 d3]) n) := Lib.hid ⟨_, _, _, rfl, ax, ay, az⟩; clear ax ay az; have b7 := hk.blk bn (by omega) (by omega); have e7 := hk.blk be (by omega) (by omega); have G7 := Lib.hid (Kq.gb HG.out hk (by omega) (by omega)); clear bn be br hk)
      | ((with_reducible refine st_node rfl w.heap.size 26 ?_ ?_ ?_ ?_ ?_ ?_ ?_ ?_ ?_ ?_ ?_ ?_ _ _ _ _ b7 ?_); rotate_left 10; (· rfl); (· rfl); intro w9 n9 g9; have e9 := e7.keep g9 (ne_some (by omega)); have c9 := e9.cell 0 rfl; have f9 := e9.free 0))
    have gE := gb_set w9 (w.heap.size + 1) 0 none .nilIface
    have hB : Nbl w9 (w.heap.size + 1) := ⟨_, _, e9, fun u hu => by simp at hu; subst hu; rfl⟩
    exact read_done (gb_step (gb_step G7.out g9 (by omega)) gE (by omega)) ((HV.out.keepN (Nbl.node b7) g9).keepN hB gE) (n9.keep gE (ne_some (by omega))) (e9.set 0 .nilIface) rfl rfl
/-- What the reading of a text answers and leaves. -/
theorem get_any (s : ByteArray) (w : World) (hs : s.size ≤ 9223372036854775807) : Calls Tryz.prog 16 #[.string s] w (GetG w (getF s.data.toList)) := by
  obtain ⟨w1, hw1, bn, g1, s1⟩ := new1 w 26 #[.bool false, .slice none 0 0, .slice none 0 0, .slice none 0 0]
  have HW := Lib.hid hw1
  have HG := Lib.hid g1
  have HR := Lib.hid (read_any s w1 hs)
  clear hw1 g1 s1
  generalize getF s.data.toList = o at HR ⊢
  cases o with
  | none =>
    go_enter Tryz.func16, Tryz.ntmps16
    go_wp2_with (first
      | (go_at_call 24; rw [← HW.out]; (with_reducible refine (HR.out).mono ?_); rintro e w2 ⟨a, rfl, g2⟩; unfold nodeZ; have b2 := bn.keep0 g2; have G2 := Lib.hid (gb_trans HG.out g2); clear g2 bn)
      | ((with_reducible refine st_node rfl w.heap.size 26 ?_ ?_ ?_ ?_ ?_ ?_ ?_ ?_ ?_ ?_ ?_ ?_ _ _ _ _ b2 ?_); rotate_left 10; (· rfl); (· rfl); intro w9 n9 g9))
    exact bodyPost_ret (results_cs rfl _ _ _ _ _ _ _ rfl n9) rfl ⟨a, rfl, gb_step G2.out g9 (Nat.le_refl _)⟩
  | some n =>
    go_enter Tryz.func16, Tryz.ntmps16
    go_wp2_with (first
      | (go_at_call 24; rw [← HW.out]; (with_reducible refine (HR.out).mono ?_); rintro e w2 ⟨v, rfl, hv, g2⟩; obtain ⟨x1, y1, z1, rfl, ax, ay, az⟩ := hv; obtain ⟨o1, p1, d1, rfl⟩ := shape' ax; obtain ⟨o2, p2, d2, rfl⟩ := shape' ay; obtain ⟨o3, p3, d3, rfl⟩ := shape' az; have HV : Hid (NdV w2 (.agg #[.bool n.leaf, .slice o1 p1 d1, .slice o2 p2 d2, .slice o3 p3 d3]) n) := Lib.hid ⟨_, _, _, rfl, ax, ay, az⟩; clear ax ay az; have b2 := bn.keep0 g2; have G2 := Lib.hid (gb_trans HG.out g2); clear g2 bn)
      | ((with_reducible refine st_node rfl w.heap.size 26 ?_ ?_ ?_ ?_ ?_ ?_ ?_ ?_ ?_ ?_ ?_ ?_ _ _ _ _ b2 ?_); rotate_left 10; (· rfl); (· rfl); intro w9 n9 g9))
    exact bodyPost_ret (results_cs rfl _ _ _ _ _ _ _ rfl n9) rfl ⟨_, rfl, HV.out.keepN (Nbl.node b2) g9, gb_step G2.out g9 (Nat.le_refl _)⟩
end Go.Proofs.YthhimhjegodklaaGreat.N11

