/-
  What the closed statement plays with: the first pages, a pager that is dead, kinds and bodies that may not be; over this seat's translation; conditions: those that each law states.
-/
import Derived.Test.YtjbfooaembpdfaaGreatDoorWJaq
import Derived.Test.YtjbfooaembpdfaaGreatDoorWQi
set_option linter.unusedSimpArgs false
set_option linter.unusedVariables false
namespace Go.Proofs.YtjbfooaembpdfaaGreatDoor.J10
open Go.RowKit Go.Maps
/-- The first pages, all alike. -/
def firstV (i : Nat) (x : Nat × ByteArray) : Pgs := fun p => if 1 ≤ p ∧ p ≤ (i : Int) then some x else none
theorem firstV_zero (x : Nat × ByteArray) : firstV 0 x = fun _ => none := by
  funext p
  unfold firstV
  rw [if_neg (by omega)]
theorem firstV_upd (i : Nat) (x : Nat × ByteArray) : upd (firstV i x) ((i : Int) + 1) x = firstV (i + 1) x := by
  funext p
  unfold firstV upd
  by_cases e : p = (i : Int) + 1
  · rw [if_pos e, if_pos (by omega)]
  · rw [if_neg e]
    show (if 1 ≤ p ∧ p ≤ (i : Int) then some x else none) = _
    by_cases h : 1 ≤ p ∧ p ≤ (i : Int)
    · rw [if_pos h, if_pos (by omega)]
    · rw [if_neg h, if_neg (by omega)]
theorem firstV_has (i : Nat) (x : Nat × ByteArray) (p : Int) : firstV i x p ≠ none ↔ 1 ≤ p ∧ p ≤ (i : Int) := by
  unfold firstV
  by_cases h : 1 ≤ p ∧ p ≤ (i : Int)
  · rw [if_pos h]; simp [h]
  · rw [if_neg h]; simp [h]
theorem firstV_no {i : Nat} {x : Nat × ByteArray} {p : Int} (h : ¬ (1 ≤ p ∧ p ≤ (i : Int))) : firstV i x p = none := by unfold firstV; rw [if_neg h]
theorem firstV_cnt {i : Nat} (hi : i ≤ 960) (x : Nat × ByteArray) : cntV (firstV i x) = i := cntV_first hi fun j _ => by
  rw [firstV_has]; omega
theorem firstV_low {i : Nat} (hi : i ≤ 100) (x : Nat × ByteArray) : Low (firstV i x) := fun p hp => by
  have := (firstV_has i x p).1 hp; omega
/-- How much is left over a store without pages. -/
theorem Over.leftX {g : Pg} {T : Tr} {V' : Pgs} {N : Nat} (o : Over g T (fun _ => none) V' N) : M6.leftF T.m + cntV V' = M6.leftF g.m := by
  have h1 := o.tx.left o.st.sto
  rw [o.own] at h1
  exact h1
theorem isNone_c {w : World} {p : Nat} {q : Addr} (c0 : w.cell? ⟨p, 0, none⟩ = some (.pointer (some q))) : Calls Tryz.prog 29 #[.pointer (some ⟨p, 0, none⟩)] w fun e w' => e = .returned (.bool false) ∧ w = w' := by
  go_enter Tryz.func29, Tryz.ntmps29
  go_wp2
  go_ret
  exact ⟨rfl, rfl⟩
/-- A pager that is dead, whatever its disk. -/
theorem dead_c {w : World} {p : Nat} {q : Addr} (c0 : w.cell? ⟨p, 0, none⟩ = some (.pointer (some q))) (c14 : w.cell? ⟨p, 14, none⟩ = some (.bool true)) : Calls Tryz.prog 20 #[.pointer (some ⟨p, 0, none⟩)] w fun e w' => e = .returned (.bool true) ∧ w = w' := by
  go_enter Tryz.func20, Tryz.ntmps20
  go_wp2_with (go_at_call 29; (with_reducible refine (isNone_c c0).mono ?_); rintro e w' ⟨rfl, rfl⟩)
  go_ret
  exact ⟨rfl, rfl⟩
theorem begin_nil1 (w : World) : Calls Tryz.prog 10 #[.pointer none] w fun e w' => e = .returned (.tuple #[.pointer none, .int .i64 1]) ∧ w = w' := begin_nil w
theorem dirty_changed {g : Pg} {T : Tr} {V V' : Pgs} {N : Nat} (o : Over g T V V' N) {p : Int} (h : V' p ≠ V p) : T9.dirtyF T.t.D ≠ [] := fun e => h (congrFun (clean_same o e) p)
/-- A Commit on a disk whose power goes at once. -/
theorem com_cut {w : World} {base n N : Nat} {k : Bk} {y : Bx} {g : Pg} {T : Tr} {V V' : Pgs} (h : TxV w base k y n g T) (o : Over g T V V' N) (hE : Env w) (b5 : 5 ≤ base) (hb : base ≤ w.heap.size) (hN : N ≤ 4800) (hre : g.r.e < 999999) (ha : cutAt g.d 2) {p : Int} (hp : V' p ≠ V p) (hr : cntV V' + 8 ≤ M6.leftF g.m) :
    Calls Tryz.prog 14 #[.pointer (some ⟨y.x, 0, none⟩)] w fun e w' => e = .returned (.int .i64 10) ∧ ∃ k' g', k'.p = k.p ∧ k'.dp = k.dp ∧ PgV w' base k' g' ∧ g'.busy = false ∧ (∀ i, footG k' i → footX k y i ∨ w.heap.size ≤ i) ∧ D5.Kp (footX k y) w w' ∧ g'.dead = true ∧ g'.d.Ok (N + 110) ∧ Opens (D5.bootS g'.d []).secs V :=
  (ov_commit h o hE b5 hb hN hre).mono fun e w' hh => by
    obtain ⟨c, k', g', e1, e2, e3, e4, e5, e6, e7, e8, e9⟩ := hh
    rcases e9 with ⟨_, _, _, h1, _⟩ | ⟨_, _, _, h4, _⟩ | ⟨rfl, _, h2, h3, _, h5⟩
    · rcases h1 with h1 | h1
      · exact absurd h1 (dirty_changed o hp)
      · exact absurd ha h1
    · exact absurd h4 (o.room hr)
    · exact ⟨e1, k', g', e2, e3, e4, e5, e7, e8, h2, h3, h5⟩
/-- A Commit for which there is no room. -/
theorem com_no {w : World} {base n N : Nat} {k : Bk} {y : Bx} {g : Pg} {T : Tr} {V V' : Pgs} (h : TxV w base k y n g T) (o : Over g T V V' N) (hE : Env w) (b5 : 5 ≤ base) (hb : base ≤ w.heap.size) (hN : N ≤ 4800) (hre : g.r.e < 999999) (ha : g.d.armed = false) (hlo : Low V') (hr : g.d.secs.length < cntV V' + 3) :
    Calls Tryz.prog 14 #[.pointer (some ⟨y.x, 0, none⟩)] w fun e w' => e = .returned (.int .i64 11) ∧ ∃ k' g', k'.p = k.p ∧ k'.dp = k.dp ∧ PgV w' base k' g' ∧ g'.busy = false ∧ (∀ i, footG k' i → footX k y i ∨ w.heap.size ≤ i) ∧ D5.Kp (footX k y) w w' ∧ Stands g' V N ∧ g'.r.e = g.r.e ∧ g'.d = g.d :=
  (ov_commit h o hE b5 hb hN hre).mono fun e w' hh => by
    obtain ⟨c, k', g', e1, e2, e3, e4, e5, e6, e7, e8, e9⟩ := hh
    rcases e9 with ⟨_, h1, _, _, _, h2⟩ | ⟨rfl, h1, h2, _, h3⟩ | ⟨_, h2, _⟩
    · have e1 := h1.left hlo
      rw [h2] at e1
      by_cases e2 : cntV V' = 0
      · have := o.st.sto.n1; omega
      · rw [if_neg e2] at e1; omega
    · exact ⟨e1, k', g', e2, e3, e4, e5, e7, e8, h1, h2, h3⟩
    · rw [ha] at h2; cases h2
/-- The disk is armed, beside a transaction. -/
theorem arm_tx {w : World} {base n : Nat} {k : Bk} {y : Bx} {g : Pg} {T : Tr} (h : TxV w base k y n g T) (z : Int) : Calls Tryz.prog 9 #[.pointer (some ⟨k.dp, 0, none⟩), .int .i64 z] w fun e w' =>
    e = .returned (.tuple #[]) ∧ ∃ k', k'.p = k.p ∧ k'.dp = k.dp ∧ TxV w' base k' y n { g with d := D5.armS g.d z } T ∧ (∀ i, footX k' y i → footX k y i) ∧ D5.Kp (footX k y) w w' := by
  refine (D5.darm_any w base (D5.footP k.dp k.vs k.vp k.bm) k.dp g.d z ⟨k.vs, k.vp, k.bm, k.D, h.pg.disk, fun _ h => h⟩).mono fun e w' hh => ?_
  obtain ⟨e1, hp, hk⟩ := hh
  obtain ⟨k', e2, e3, e4, e5, hg, hf⟩ := h.pg.disk' hk hp
  refine ⟨e1, k', e2, e5, h.disk' hk hg e2 e3 e4 (fun i hi => .inl (hf i hi)), fun i hi => ?_, hk.mono fun i hi => .inl (.inr (.inl hi))⟩
  rcases hi with hi | hi
  · exact .inl ((foot_of (F := fun _ => False) e2 e3 e4 (fun i h => .inl (hf i h)) i hi).resolve_right id)
  · exact .inr hi
theorem Over.arm {g : Pg} {T : Tr} {V V' : Pgs} {N : Nat} (o : Over g T V V' N) {z : Int} (hz : z ≤ 1000) : Over { g with d := D5.armS g.d z } T V V' N := ⟨o.st.arm hz, o.tx⟩
theorem arm_one (s : D5.St) : cutAt (D5.armS s 1) 2 := by
  rw [D5.arm_hi (by omega)]
  exact ⟨rfl, by show (1 : Int) ≤ ((2 : Nat) : Int); omega⟩
theorem arm_none (s : D5.St) (ho : s.off = false) (hl : 0 < s.secs.length) : D5.opE (D5.armS s 0) (D5.hasF (D5.armS s 0) 0) = 10 := by
  rw [D5.arm_hi (by omega)]
  unfold D5.opE D5.hasF
  simp only [ho]
  have : (decide (0 < (s.secs.length : Int))) = true := decide_eq_true (by omega)
  have h2 : ¬ s.secs = [] := fun e => by rw [e] at hl; simp at hl
  simp [h2]
theorem eql_page (w : World) : (binOp .eql 62 (.agg #[.int .i64 9, .string ⟨#[102, 105, 114, 115, 116]⟩]) (.agg #[.int .i64 9, .string ⟨#[102, 105, 114, 115, 116]⟩])).run Tryz.prog w = .ok (.bool true) w := by kernel_rfl
theorem pgL_cells {w : World} {b dp tb mb : Nat} {r : R8.Rt} {wh : Int} {dead busy : Bool} (hl : r.cs.length = 8) (h : Blk w b 81 (pgL dp tb mb r wh dead busy).toArray) : w.cell? ⟨b, 0, none⟩ = some (.pointer (some ⟨dp, 0, none⟩)) ∧ w.cell? ⟨b, 14, none⟩ = some (.bool dead) := by
  obtain ⟨a, c, d, e, f, i, j, k, hl⟩ := eight hl
  unfold pgL R8.rootC at h
  rw [hl] at h
  exact ⟨h.cell 0 rfl, h.cell 14 rfl⟩
/-- Texts that may not be. -/
def z241 : ByteArray := ⟨(List.replicate 241 (0 : UInt8)).toArray⟩
theorem seal_0 : sealC 0 ⟨#[]⟩ = (6 : Nat) := rfl
theorem seal_255 : sealC 255 ⟨#[]⟩ = (6 : Nat) := rfl
theorem seal_long : sealC 254 z241 = (4 : Nat) := by
  unfold sealC C7.sealE z241
  rw [if_neg (by decide), if_neg (by decide), if_pos (show 240 < (List.replicate 241 (0 : UInt8)).length by rw [List.length_replicate]; omega)]
theorem make241 (w : World) : (Instr.makeSlice 24 (.int .i64 241) (.int .i64 241)).run Tryz.prog w = .ok (.slice (some ⟨w.heap.size, 0, none⟩) 241 241) (w.alloc (.cells (byC (List.replicate 241 0)).toArray 5)) := make_by 241 w (by omega)
theorem str241 {w : World} {b : Nat} (h : Blk w b 5 (byC (List.replicate 241 0)).toArray) : (convert 24 9 (.slice (some ⟨b, 0, none⟩) 241 241)).run Tryz.prog w = .ok (.string z241) w := by_str h 241 (List.length_replicate (n := 241) (a := (0 : UInt8))).symm
def wrongA : Array Value := #[.int .i64 6, .int .i64 6, .int .i64 4, .int .i64 13]
/-- How far the four wrong calls are. -/
structure Far21 (u : World) (listed : Array Bool) (w : World) (v111 v113 v115 v116 v117 v119 v120 v21 : Value) : Prop where
  a1 : listed.getD 1 false = true → v111 = .int .i64 6
  a3 : listed.getD 3 false = true → v113 = .int .i64 6
  a5 : listed.getD 5 false = true → ∃ b, v115 = .slice (some ⟨b, 0, none⟩) 241 241 ∧ u.heap.size ≤ b ∧ Blk w b 5 (byC (List.replicate 241 0)).toArray
  a6 : listed.getD 6 false = true → v116 = .string z241
  a7 : listed.getD 7 false = true → v117 = .int .i64 4
  a9 : listed.getD 9 false = true → v119 = .int .i64 13
  a10 : listed.getD 10 false = true → v120 = .agg wrongA
  a11 : listed.getD 11 false = true → ∃ b, v21 = .pointer (some ⟨b, 0, none⟩) ∧ u.heap.size ≤ b ∧ ∃ cs : Array Value, cs.size = 4 ∧ Blk w b 57 cs
  a12 : listed.getD 12 false = true → listed.getD 11 false = true ∧ ∃ b, v21 = .pointer (some ⟨b, 0, none⟩) ∧ u.heap.size ≤ b ∧ Blk w b 57 wrongA
theorem store4 {w : World} {b : Nat} : ∀ {cs : Array Value}, cs.size = 4 → Blk w b 57 cs → Blk (w.setCells b 0 wrongA.toList) b 57 wrongA
  | ⟨[_, _, _, _]⟩, _, h => blk_setCells wrongA.toList 0 w _ h
theorem neq_wrong (w : World) : (binOp .neq 57 (.agg #[.int .i64 6, .int .i64 6, .int .i64 4, .int .i64 13]) (.agg #[.int .i64 6, .int .i64 6, .int .i64 4, .int .i64 13])).run Tryz.prog w = .ok (.bool false) w := by kernel_rfl
theorem equ_wrong (w : World) : (Op.equalIn 10000 57 (.agg #[.int .i64 6, .int .i64 6, .int .i64 4, .int .i64 13]) (.agg #[.int .i64 6, .int .i64 6, .int .i64 4, .int .i64 13])).run Tryz.prog w = .ok true w := by kernel_rfl
theorem wrong_guard : Tryz.prog.eqGuardType Tryz.prog.depth 57 = false := by kernel_rfl
theorem wrong_size : (Tryz.prog.info? 57).map (·.size) = some wrongA.size := by kernel_rfl
theorem wrong_one : wrongA.all (·.oneCell') = true := by kernel_rfl
end Go.Proofs.YtjbfooaembpdfaaGreatDoor.J10
