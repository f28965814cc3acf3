/-
  Texts of one layer, one behind the other, each with its own sentence; conditions: those that each law states.
-/
import Derived.Laws.ResultCell
import Derived.Deep.WholeRow
import Derived.Laws.CopyRow
import Derived.Laws.StructEq
import Derived.ChangeKeysEq
import Derived.Test.YtliiooldlooagaaGreatDoorZR3
set_option linter.unusedSimpArgs false
set_option linter.unusedVariables false

/-
  What the document's own Get answers, over this seat's translation; no conditions beside the model's own.
-/
namespace Go.Proofs.YtliiooldlooagaaGreatDoor.R8
open Go.RowKit

theorem beq_text (x y : ByteArray) (l r : List UInt8) (hx : x.data.toList = l) (hy : y.data.toList = r) : (x.toList == y.toList) = (l == r) := by
  rw [ByteArray.toList_eq, ByteArray.toList_eq, hx, hy]
/-- A root and a number. -/
def RootGot (w : World) (p : Rt × Nat) (e : Ending) (w' : World) : Prop := e = .returned (.tuple #[RV p.1, .int .i64 (p.2 : Nat)]) ∧ w.grownBy w' none
theorem results_ct {fn : Func} {p u : Tmp} (h : fn.results = #[.cell p 79, .tmp u]) (tmps : Array Value) (w : World) (b : Nat) (r : Rt)
    (hp : tmps.getD p undef = .pointer (some ⟨b, 0, none⟩)) (hb : RB w b r) (hr : r.cs.length = 8) :
    (results fn tmps).run Tryz.prog w = .ok (.tuple #[RV r, tmps.getD u undef]) w := by
  have hp' : tmps[p]?.getD undef = .pointer (some ⟨b, 0, none⟩) := by simpa using hp
  simp [results, h, hp', asAddr, hb.load hr]
theorem gb_setRow (w : World) (g : Nat) (cs : Array Value) : w.grownBy (w.setRow g cs) (some g) := by
  refine ⟨rfl, rfl, rfl, by simp, fun k _ hk => ?_⟩
  exact setRow_other w g k cs (fun e => hk (by rw [e]))
theorem zero_len : zeroR.cs.length = 8 := rfl
/-- A new root's cells, behind what came later. -/
theorem new_zero {w w' : World} (g : (w.alloc (.cells #[.int .u64 0, .int .i64 0, .int .i64 0, .int .i64 0, .int .i64 0, .int .i64 0, .int .i64 0, .int .i64 0, .int .i64 0, .int .i64 0] 79)).grownBy w' none) : RB w' w.heap.size zeroR ∧ w.grownBy w' none :=
  ⟨Blk.keep0 (Blk.mk w 79 (rootC zeroR).toArray) g, gb_trans (gb_alloc _ _ _) g⟩
theorem set_root {w : World} {b : Nat} {q : Rt} (h : RB w b q) (r : Rt) : RB (w.setRow b (rootC r).toArray) b r := setRow_heap w b _ _ _ _ h
theorem vl_two (l : List UInt8) (n : Nat) (h : l.length ≤ n + 2) : vl (l.drop n) < 65536 := by
  have h1 := vl_lt (l.drop n)
  have h2 : 256 ^ (l.drop n).length ≤ 256 ^ 2 := Nat.pow_le_pow_right (by decide) (by rw [List.length_drop]; omega)
  have h3 : (256 : Nat) ^ 2 = 65536 := by decide
  omega
theorem new_root {w w2 W : World} (hb : RB w2 w.heap.size zeroR) (g : w.grownBy w2 none) (hW : W = (w2.alloc (.cells (rootC zeroR).toArray 79)).drew) (r : Rt) :
    RB (W.setRow w2.heap.size (rootC r).toArray) w2.heap.size r ∧ RB (W.setRow w2.heap.size (rootC r).toArray) w.heap.size zeroR ∧ w.grownBy (W.setRow w2.heap.size (rootC r).toArray) none ∧ w2.grownBy (W.setRow w2.heap.size (rootC r).toArray) none := by
  have g1 : w2.grownBy W none := by rw [hW]; exact gb_trans (gb_alloc _ _ _) (gb_drew _ _)
  have h1 : RB W w2.heap.size zeroR := by rw [hW]; exact Blk.keep0 (Blk.mk w2 _ _) (gb_drew _ none)
  exact ⟨set_root h1 r, Blk.keep (Blk.keep0 hb g1) (gb_setRow _ _ _) (ne_some (Nat.ne_of_lt (Blk.lt hb))), gb_step (gb_trans g g1) (gb_setRow _ _ _) g.size, gb_step g1 (gb_setRow _ _ _) (Nat.le_refl _)⟩
theorem vl_chunk (l : List UInt8) (i : Nat) : vl ((l.take (12 + 2 * i)).drop (10 + 2 * i)) < 65536 := vl_two _ _ (by rw [List.length_take]; omega)
theorem read_fit (l : List UInt8) : Fit (readR l) := by
  refine ⟨read_len l, read_e l, ?_, fun i hi => ?_⟩
  · show -9223372036854775808 ≤ ((vl ((l.take 10).drop 8) : Nat) : Int) ∧ ((vl ((l.take 10).drop 8) : Nat) : Int) ≤ 9223372036854775807
    have := vl_two (l.take 10) 8 (by rw [List.length_take]; omega)
    omega
  · have h := vl_chunk l i
    have e : (readR l).cs.getD i 0 = ((vl ((l.take (12 + 2 * i)).drop (10 + 2 * i)) : Nat) : Int) := by
      rw [List.getD_eq_getElem?_getD, List.getElem?_eq_getElem (by rw [read_len]; exact hi)]
      simp [readR]
    rw [e]; omega
theorem cut_str (P : Program) (t : TypeId) (hu : P.underlying t = some .string) (s : ByteArray) (a b : Nat) (x y : Int) (hx : x = a) (hy : y = b) (h1 : a ≤ b) (h2 : b ≤ s.size) (W : World) :
    (Instr.slice t (.string s) (some (.int .i64 x)) (some (.int .i64 y)) none).run P W = .ok (.string (s.extract a b)) W := by
  subst hx; subst hy
  have := run_slice_string (P := P) W t s .i64 .i64 (a : Int) (b : Int) hu (by omega) (by omega) (by omega)
  simpa using this
/-- What is read of the first so many chunks. -/
def partR (l : List UInt8) (j : Nat) : Rt := ⟨vl (l.take 8), (vl ((l.take 10).drop 8) : Nat), (List.range 8).map fun i => if i < j then (vl ((l.take (12 + 2 * i)).drop (10 + 2 * i)) : Nat) else 0⟩
theorem part_zero (l : List UInt8) (v1 v2 : Nat) (h1 : vl (l.take 8) = v1) (h2 : vl ((l.take 10).drop 8) = v2) : partR l 0 = ⟨v1, (v2 : Nat), [0, 0, 0, 0, 0, 0, 0, 0]⟩ := by subst h1; subst h2; rfl
theorem part_all (l : List UInt8) : partR l 8 = readR l := by
  refine Rt.eq_of rfl rfl ?_
  unfold partR readR
  exact List.map_congr_left fun i hi => if_pos (List.mem_range.1 hi)
theorem part_len (l : List UInt8) (j : Nat) : (partR l j).cs.length = 8 := by simp [partR]
theorem part_set (l : List UInt8) (j : Nat) : (rootC (partR l j)).toArray.setIfInBounds (2 + j) (.int .i64 (vl ((l.take (12 + 2 * j)).drop (10 + 2 * j)) : Nat)) = (rootC (partR l (j + 1))).toArray := by
  rw [List.setIfInBounds_toArray]
  congr 1
  unfold rootC partR
  rw [show 2 + j = j + 1 + 1 by omega, List.set_cons_succ, List.set_cons_succ]
  congr 2
  refine List.ext_getElem (by simp) fun i h1 h2 => ?_
  rw [List.getElem_set]
  simp only [List.getElem_map, List.getElem_range]
  rcases Nat.lt_trichotomy j i with h3 | h3 | h3
  · rw [if_neg (by omega), if_neg (by omega), if_neg (by omega)]
  · subst h3; rw [if_pos rfl, if_pos (by omega)]
  · rw [if_neg (by omega), if_pos (by omega), if_pos (by omega)]
theorem part_store {W : World} {b : Nat} {l : List UInt8} {j : Nat} (h : RB W b (partR l j)) (v : Nat) (hv : vl ((l.take (12 + 2 * j)).drop (10 + 2 * j)) = v) :
    RB (W.setCell ⟨b, 2 + j, none⟩ (.int .i64 (v : Nat))) b (partR l (j + 1)) := by
  subst hv
  have := Blk.set h (2 + j) (.int .i64 (vl ((l.take (12 + 2 * j)).drop (10 + 2 * j)) : Nat))
  rw [part_set l j] at this
  exact this
end Go.Proofs.YtliiooldlooagaaGreatDoor.R8

/-
  What the document's own Pick and Next answer, over this seat's translation; conditions: of Next the root's numbers fit.
-/
namespace Go.Proofs.YtliiooldlooagaaGreatDoor.R8
open Go.RowKit

theorem get_parts (l : List UInt8) : ∃ x n, getF l = (x, n) ∧ x.cs.length = 8 ∧ x.e < 18446744073709551616 ∧ (n = 0 ∨ n = 5 ∨ n = 9) := by
  rcases get_cases l with h | h | h
  · obtain ⟨_, _, h3, h4⟩ := get_ok l h
    exact ⟨_, 0, Prod.ext rfl h, h3, h4, Or.inl rfl⟩
  · exact ⟨_, _, h, rfl, by decide, Or.inr (Or.inl rfl)⟩
  · exact ⟨_, _, h.1, rfl, by decide, Or.inr (Or.inr rfl)⟩
/-- A root and two numbers. -/
def PickGot (w : World) (p : Rt × Int × Nat) (e : Ending) (w' : World) : Prop := e = .returned (.tuple #[RV p.1, .int .i64 p.2.1, .int .i64 (p.2.2 : Nat)]) ∧ w.grownBy w' none
theorem results_ctt {fn : Func} {p u v : Tmp} (h : fn.results = #[.cell p 79, .tmp u, .tmp v]) (tmps : Array Value) (w : World) (b : Nat) (r : Rt)
    (hp : tmps.getD p undef = .pointer (some ⟨b, 0, none⟩)) (hb : RB w b r) (hr : r.cs.length = 8) :
    (results fn tmps).run Tryz.prog w = .ok (.tuple #[RV r, tmps.getD u undef, tmps.getD v undef]) w := by
  have hp' : tmps[p]?.getD undef = .pointer (some ⟨b, 0, none⟩) := by simpa using hp
  simp [results, h, hp', asAddr, hb.load hr]
/-- A root and a number. -/
def NextGot (w : World) (r : Rt) (which : Int) (e : Ending) (w' : World) : Prop := e = .returned (.tuple #[RV (nextR r), .int .i64 (nextW which)]) ∧ w.grownBy w' none
theorem next_store {W : World} {b : Nat} {r : Rt} (h : RB W b r) (v : Int) (hv : v = ((r.e + 1) % 18446744073709551616 : Nat)) : RB (W.setCell ⟨b, 0, none⟩ (.int .u64 v)) b (nextR r) := by
  subst hv
  exact Blk.set h 0 _
end Go.Proofs.YtliiooldlooagaaGreatDoor.R8

/-
  The program's sector, its table of places, and the closures that lay and read numbers, over this seat's translation; conditions: the table lies as the program's text lays it.
-/
namespace Go.Proofs.YtliiooldlooagaaGreatDoor.R8
open Go.RowKit

/-- The program's table of places. -/
def placesL : List Int := [0, 8, 8, 2, 10, 2, 248, 8]
def Pl (w : World) : Prop := ∀ j, j < 8 → w.cell? ⟨0, j, none⟩ = some (.int .i64 (placesL.getD j 0))
theorem Pl.keep0 {w w' : World} (h : Pl w) (g : w.grownBy w' none) : Pl w' := fun k hk => g.cell (h k hk) (by simp)
/-- A sector's block; a place's; the box of an address. -/
def Sec (W : World) (b : Nat) (l : List UInt8) : Prop := Blk W b 171 (bytesC l).toArray ∧ l.length = 256
def Plc (W : World) (p a n : Nat) : Prop := Blk W p 196 #[.int .i64 (a : Nat), .int .i64 (n : Nat)]
def Box (W : World) (x b : Nat) : Prop := Blk W x 194 #[.pointer (some ⟨b, 0, none⟩)]
theorem Sec.byte {W : World} {b : Nat} {l : List UInt8} (h : Sec W b l) (k : Nat) (hk : k < 256) : W.cell? ⟨b, k, none⟩ = some (.int .u8 ((l.getD k 0).toNat : Nat)) := Blk.cell h.1 k (by rw [List.getElem?_toArray]; exact bytes_at (by rw [h.2]; exact hk))
theorem Sec.free {W : World} {b : Nat} {l : List UInt8} (h : Sec W b l) (k : Nat) : W.frozen? ⟨b, k, none⟩ = false := Blk.free h.1 k
theorem Sec.keep {W W' : World} {b : Nat} {l : List UInt8} {r : Option Nat} (h : Sec W b l) (g : W.grownBy W' r) (hr : some b ≠ r) : Sec W' b l := ⟨Blk.keep h.1 g hr, h.2⟩
theorem Sec.keep0 {W W' : World} {b : Nat} {l : List UInt8} (h : Sec W b l) (g : W.grownBy W' none) : Sec W' b l := h.keep g (by simp)
theorem bytesC_set (l : List UInt8) (k : Nat) (c : UInt8) : (bytesC l).toArray.setIfInBounds k (.int .u8 (c.toNat : Nat)) = (bytesC (l.set k c)).toArray := by
  simp [bytesC, List.map_set]
theorem Sec.set {W : World} {b : Nat} {l : List UInt8} (h : Sec W b l) (k : Nat) (c : UInt8) {z : Int} (hz : z = (c.toNat : Nat)) : Sec (W.setCell ⟨b, k, none⟩ (.int .u8 z)) b (l.set k c) := by
  subst hz
  refine ⟨?_, by rw [List.length_set]; exact h.2⟩
  rw [← bytesC_set]
  exact Blk.set h.1 k _
/-- Nothing but two blocks turned. -/
structure Chg (b p : Nat) (w w' : World) : Prop where
  os : w'.os = w.os
  tape : w'.tape = w.tape
  output : w'.output = w.output
  size : w.heap.size ≤ w'.heap.size
  block : ∀ i, i < w.heap.size → i ≠ b → i ≠ p → w'.heap[i]? = w.heap[i]?
theorem Chg.refl (b p : Nat) (w : World) : Chg b p w w := ⟨rfl, rfl, rfl, Nat.le_refl _, fun _ _ _ _ => rfl⟩
theorem Chg.step {b p q : Nat} {a m c : World} (h : Chg b p a m) (k : m.grownBy c (some q)) (hq : q = b ∨ q = p) : Chg b p a c :=
  ⟨k.os.trans h.os, k.tape.trans h.tape, k.output.trans h.output, Nat.le_trans h.size k.size, fun i hi h1 h2 => (k.block i (Nat.lt_of_lt_of_le hi h.size) (by intro e; cases e; rcases hq with e | e <;> exact absurd e (by first | exact h1 | exact h2))).trans (h.block i hi h1 h2)⟩
theorem Chg.step0 {b p : Nat} {a m c : World} (h : Chg b p a m) (k : m.grownBy c none) : Chg b p a c :=
  ⟨k.os.trans h.os, k.tape.trans h.tape, k.output.trans h.output, Nat.le_trans h.size k.size, fun i hi h1 h2 => (k.block i (Nat.lt_of_lt_of_le hi h.size) (by simp)).trans (h.block i hi h1 h2)⟩
theorem Chg.blk {b p k : Nat} {w w' : World} {t : TypeId} {vs : Array Value} (h : Chg b p w w') (hb : Blk w k t vs) (h1 : k ≠ b) (h2 : k ≠ p) : Blk w' k t vs := (h.block k hb.lt h1 h2).trans hb
theorem Chg.grown {b p : Nat} {W w w' : World} (h : Chg b p w w') (g : W.grownBy w none) (hb : W.heap.size ≤ b) (hp : W.heap.size ≤ p) : W.grownBy w' none :=
  ⟨h.os.trans g.os, h.tape.trans g.tape, h.output.trans g.output, Nat.le_trans g.size h.size, fun i hi _ => (h.block i (Nat.lt_of_lt_of_le hi g.size) (by omega) (by omega)).trans (g.block i hi (by simp))⟩
/-- Bytes laid at a place. -/
def putAt (l : List UInt8) (i : Nat) (r : List UInt8) : List UInt8 := l.take i ++ r ++ l.drop (i + r.length)
theorem putAt_length (l : List UInt8) (i : Nat) (r : List UInt8) (h : i + r.length ≤ l.length) : (putAt l i r).length = l.length := by simp [putAt]; omega
theorem putAt_nil (l : List UInt8) (i : Nat) : putAt l i [] = l := by simp [putAt]
theorem putAt_cons (l : List UInt8) (i : Nat) (r : List UInt8) (c : UInt8) (h : i + 1 + r.length ≤ l.length) : (putAt l (i + 1) r).set i c = putAt l i (c :: r) := by
  unfold putAt
  have h1 : (l.take (i + 1)).length = i + 1 := by rw [List.length_take]; omega
  rw [List.append_assoc, List.set_append_left _ _ (by omega), List.take_succ_eq_append_getElem (show i < l.length by omega), List.set_append_right _ _ (by rw [List.length_take]; omega)]
  rw [show i - (l.take i).length = 0 by rw [List.length_take]; omega]
  simp [Nat.add_assoc, Nat.add_comm 1]

/-- What makes a closure leaves: the place's block, and the box. -/
def Made (w w' : World) (b p x a n : Nat) : Prop := w.heap.size ≤ p ∧ w.heap.size ≤ x ∧ x ≠ p ∧ Plc w' p a n ∧ Box w' x b ∧ w.grownBy w' none
def LayMade (w : World) (b a n : Nat) (e : Ending) (w' : World) : Prop := ∃ p x, e = .returned (.func (.func 120) #[] #[.pointer (some ⟨p, 0, none⟩), .pointer (some ⟨x, 0, none⟩)]) ∧ Made w w' b p x a n
def ReadMade (w : World) (b a n : Nat) (e : Ending) (w' : World) : Prop := ∃ p x, e = .returned (.func (.func 157) #[] #[.pointer (some ⟨x, 0, none⟩), .pointer (some ⟨p, 0, none⟩)]) ∧ Made w w' b p x a n
theorem made_new (w : World) (b a n : Nat) : Made w ((w.alloc (.cells #[.pointer (some ⟨b, 0, none⟩)] 194)).alloc (.cells #[.int .i64 (a : Nat), .int .i64 (n : Nat)] 196)) b (w.heap.size + 1) w.heap.size a n := by
  have g1 := gb_alloc w (.cells #[.pointer (some ⟨b, 0, none⟩)] 194) none
  have g2 := gb_alloc (w.alloc (.cells #[.pointer (some ⟨b, 0, none⟩)] 194)) (.cells #[.int .i64 (a : Nat), .int .i64 (n : Nat)] 196) none
  refine ⟨by omega, by omega, by omega, ?_, Blk.keep0 (Blk.mk w _ _) g2, gb_trans g1 g2⟩
  rw [← World.size_alloc w (.cells #[.pointer (some ⟨b, 0, none⟩)] 194)]
  exact Blk.mk _ _ _
set_option maxRecDepth 100000 in
set_option maxHeartbeats 1000000 in
theorem layer_any (b k a n : Nat) (z : Int) (w : World) (hP : Pl w) (hz : z = (k : Nat)) (hk : k < 4) (ha : placesL.getD (2 * k) 0 = (a : Nat)) (hn : placesL.getD (2 * k + 1) 0 = (n : Nat)) :
    Calls Tryz.prog 100 #[.pointer (some ⟨b, 0, none⟩), .int .i64 z] w (LayMade w b a n) := by
  have c0 := (hP.keep0 (gb_alloc w (.cells #[.pointer (some ⟨b, 0, none⟩)] 194) none)) (2 * k) (by omega)
  have c1 := (hP.keep0 (gb_alloc w (.cells #[.pointer (some ⟨b, 0, none⟩)] 194) none)) (2 * k + 1) (by omega)
  rw [ha] at c0
  rw [hn] at c1
  have HM := Lib.hid (made_new w b a n)
  clear ha hn hP
  subst hz
  obtain rfl | rfl | rfl | rfl : k = 0 ∨ k = 1 ∨ k = 2 ∨ k = 3 := by omega
  all_goals
    simp only [Nat.mul_zero, Nat.zero_add, Nat.reduceMul, Nat.reduceAdd] at c0 c1
    go_enter Tryz.func100, Tryz.ntmps100
    go_wp2
    go_ret
    exact ⟨_, _, rfl, HM.out⟩
set_option maxRecDepth 100000 in
set_option maxHeartbeats 1000000 in
theorem reader_any (b k a n : Nat) (z : Int) (w : World) (hP : Pl w) (hz : z = (k : Nat)) (hk : k < 4) (ha : placesL.getD (2 * k) 0 = (a : Nat)) (hn : placesL.getD (2 * k + 1) 0 = (n : Nat)) :
    Calls Tryz.prog 146 #[.pointer (some ⟨b, 0, none⟩), .int .i64 z] w (ReadMade w b a n) := by
  have c0 := (hP.keep0 (gb_alloc w (.cells #[.pointer (some ⟨b, 0, none⟩)] 194) none)) (2 * k) (by omega)
  have c1 := (hP.keep0 (gb_alloc w (.cells #[.pointer (some ⟨b, 0, none⟩)] 194) none)) (2 * k + 1) (by omega)
  rw [ha] at c0
  rw [hn] at c1
  have HM := Lib.hid (made_new w b a n)
  clear ha hn hP
  subst hz
  obtain rfl | rfl | rfl | rfl : k = 0 ∨ k = 1 ∨ k = 2 ∨ k = 3 := by omega
  all_goals
    simp only [Nat.mul_zero, Nat.zero_add, Nat.reduceMul, Nat.reduceAdd] at c0 c1
    go_enter Tryz.func146, Tryz.ntmps146
    go_wp2
    go_ret
    exact ⟨_, _, rfl, HM.out⟩
theorem pow_eight (i : Nat) : (2 : Int) ^ (8 * i) = ((256 ^ i : Nat) : Int) := by
  rw [Int.pow_mul, show (2 : Int) ^ 8 = ((256 : Nat) : Int) from rfl, ← Int.natCast_pow]
/-- The closure that lays a number. -/
def Laid (w : World) (b p x a n : Nat) (l : List UInt8) (e : Ending) (w' : World) : Prop := e = .returned (.tuple #[]) ∧ Sec w' b l ∧ Plc w' p (a + n) n ∧ Box w' x b ∧ Chg b p w w'
set_option maxRecDepth 100000 in
set_option maxHeartbeats 2000000 in
theorem lay_any (b p x a n N : Nat) (l : List UInt8) (w : World) (hs : Sec w b l) (hp : Plc w p a n) (hx : Box w x b) (hbp : b ≠ p) (hxb : x ≠ b) (hxp : x ≠ p) (han : a + n ≤ 256) (hn : n ≤ 8) (hN : N < 18446744073709551616) :
    Calls Tryz.prog 120 #[.int .u64 (N : Nat), .pointer (some ⟨p, 0, none⟩), .pointer (some ⟨x, 0, none⟩)] w (Laid w b p x a n (putAt l a (dg N n))) := by
  have cp1 := Blk.cell hp 1 rfl
  have HA := Lib.hid (And.intro hs (And.intro hp hx))
  clear hs hp hx
  go_enter Tryz.func120, Tryz.ntmps120
  go_wp2
  go_loopw [7] (fun v wr => ∃ i : Nat, i ≤ n ∧ v = .int .i64 i ∧ Sec wr b (putAt l (a + n - i) (dg N i)) ∧ Plc wr p a n ∧ Box wr x b ∧ Chg b p w wr) (fun v _ => 9 - (intOf v).toNat)
  case atStart => exact ⟨0, by omega, rfl, by rw [dg, putAt_nil]; exact HA.out.1, HA.out.2.1, HA.out.2.2, Chg.refl _ _ _⟩
  case round =>
    obtain ⟨i, hi, rfl, h1, h2, h3, h4⟩ := hrel
    have c0 := Blk.cell h2 0 rfl
    have c1 := Blk.cell h2 1 rfl
    have cx := Blk.cell h3 0 rfl
    by_cases hlt : i < n
    · obtain ⟨q, hq⟩ : ∃ q, a + n - (i + 1) = q := ⟨_, rfl⟩
      have hcb := h1.byte q (by omega)
      have hcf := h1.free q
      have i1 : (a : Int) + (n : Int) - 1 - (i : Int) = (q : Nat) := by omega
      go_wp2
      go_region
      have hz : ((N : Int) / 2 ^ (8 * i) % 256) = (((UInt8.ofNat (N / 256 ^ i % 256)).toNat : Nat) : Int) := by
        rw [pow_eight]
        have : (UInt8.ofNat (N / 256 ^ i % 256)).toNat = N / 256 ^ i % 256 := by simp
        rw [this]
        push_cast
        rfl
      have gs : wr.grownBy ((wr.setCell ⟨b, q, none⟩ (.int .u8 ((N : Int) / 2 ^ (8 * i) % 256))).drew) (some b) := gb_trans (gb_set _ _ _ _ _) (gb_drew _ _)
      have s1 := Sec.keep0 (h1.set q (UInt8.ofNat (N / 256 ^ i % 256)) hz) (gb_drew _ _)
      rw [show a + n - i = q + 1 by omega, putAt_cons _ _ _ _ (by rw [dg_length]; have := h1.2; rw [HA.out.1.2]; omega), ← dg_front] at s1
      generalize (wr.setCell ⟨b, q, none⟩ (.int .u8 ((N : Int) / 2 ^ (8 * i) % 256))).drew = w2 at gs s1 ⊢
      go_wp2
      go_roundw
      case rel => exact ⟨i + 1, by omega, by go_num, by rw [hq]; exact s1, Blk.keep h2 gs (ne_some hbp.symm), Blk.keep h3 gs (ne_some hxb), h4.step gs (Or.inl rfl)⟩
      case measure => simp [intOf]; omega
    · obtain rfl : i = n := by omega
      have cf := Blk.free h2 0
      go_wp2
      go_end0
      have gs := gb_set wr p 0 none (.int .i64 ((a : Int) + (i : Int)))
      refine ⟨rfl, ?_, ?_, Blk.keep h3 gs (ne_some hxp), h4.step gs (Or.inr rfl)⟩
      · rw [Nat.add_sub_cancel] at h1
        exact h1.keep gs (ne_some hbp)
      · have h5 := Blk.set h2 0 (.int .i64 ((a : Int) + (i : Int)))
        exact h5
theorem or_byte' (a c : Nat) (ha : a < 72057594037927936) (hc : c < 256) : bits .or .u64 ((a : Int) * 256) (c : Int) = ((a * 256 + c : Nat) : Int) := by
  have e1 : BitVec.ofInt 64 ((a : Int) * 256) = BitVec.ofNat 64 (a * 256) := by
    rw [show ((a : Int) * 256) = ((a * 256 : Nat) : Int) from by omega, BitVec.ofInt_natCast]
  have e2 : BitVec.ofInt 64 ((c : Int)) = BitVec.ofNat 64 c := BitVec.ofInt_natCast _ _
  have e3 : (a * 256 ||| c) = a * 256 + c := by
    have := Nat.shiftLeft_add_eq_or_of_lt (i := 8) (b := c) (by simpa using hc) a
    rw [Nat.shiftLeft_eq] at this
    simpa using this.symm
  show IntKind.u64.wrap (((BitVec.ofInt 64 ((a : Int) * 256) ||| BitVec.ofInt 64 (c : Int)).toNat : Nat) : Int) = _
  rw [e1, e2, BitVec.toNat_or, BitVec.toNat_ofNat, BitVec.toNat_ofNat]
  rw [Nat.mod_eq_of_lt (show a * 256 < 2 ^ 64 by omega), Nat.mod_eq_of_lt (show c < 2 ^ 64 by omega), e3]
  exact u64_small _ (by omega)
/-- The closure that reads a number. -/
def Told (w : World) (p a n : Nat) (v : Nat) (e : Ending) (w' : World) : Prop := e = .returned (.int .u64 (v : Nat)) ∧ Plc w' p (a + n) n ∧ w.grownBy w' (some p)
theorem slice_sec (b a n : Nat) (h : a + n ≤ 256) (h0 : a < 256) (W : World) : (Instr.sliceAt 171 (.pointer (some ⟨b, 0, none⟩)) (some (.int .i64 (a : Int))) (some (.int .i64 ((a : Int) + (n : Int)))) none).run Tryz.prog W = .ok (.slice (some ⟨b, a, none⟩) n (256 - a)) W := by
  have h1 : (a : Int) ≤ a + (n : Int) := by omega
  have h2 : (a : Int) + (n : Int) ≤ 256 := by omega
  have h3 : ((a : Int) + (n : Int)).toNat = a + n := by omega
  have h4 : (0 : Int) ≤ a + (n : Int) := by omega
  have h5 : ¬ (256 = a) := by omega
  simp [Instr.sliceAt, run_underlying Tryz.underlying171, Sem.run_bind, Tryz.sizeOf5]
  go_simp
set_option maxRecDepth 100000 in
set_option maxHeartbeats 2000000 in
theorem read_any (b p x a n : Nat) (l : List UInt8) (w : World) (hs : Sec w b l) (hp : Plc w p a n) (hx : Box w x b) (hbp : b ≠ p) (hxp : x ≠ p) (han : a + n ≤ 256) (ha : a < 256) (hn : n ≤ 8) :
    Calls Tryz.prog 157 #[.pointer (some ⟨x, 0, none⟩), .pointer (some ⟨p, 0, none⟩)] w (Told w p a n (vl ((l.take (a + n)).drop a))) := by
  have c0 := Blk.cell hp 0 rfl
  have c1 := Blk.cell hp 1 rfl
  have cf := Blk.free hp 0
  have cx := Blk.cell hx 0 rfl
  have hsl := slice_sec b a n han ha
  have HA := Lib.hid (And.intro hs (And.intro hp hx))
  clear hs hp hx
  go_enter Tryz.func157, Tryz.ntmps157
  go_wp2
  go_region
  obtain ⟨h1, h2, h3⟩ := HA.out
  have h1 := Sec.keep0 h1 (gb_drew w none)
  have h2 : Plc w.drew p a n := Blk.keep0 h2 (gb_drew w none)
  have gg := gb_drew w (some p)
  generalize w.drew = w1 at h1 h2 gg ⊢
  have c0 := Blk.cell h2 0 rfl
  have c1 := Blk.cell h2 1 rfl
  have cf := Blk.free h2 0
  go_wp2
  go_loop [3, 17] (fun v i => ∃ j : Nat, j ≤ n ∧ i = .int .i64 j ∧ v = .int .u64 (vl ((l.take (a + j)).drop a) : Nat)) (fun _ i => 9 - (intOf i).toNat)
  case atStart => exact ⟨0, by omega, rfl, by rw [Nat.add_zero, List.drop_of_length_le (by rw [List.length_take]; omega)]; rfl⟩
  case round =>
    obtain ⟨j, hj, rfl, rfl⟩ := hrel
    by_cases hlt : j < n
    · have hcb := h1.byte (a + j) (by omega)
      have hll := h1.2
      have HS := Lib.hid (show vl ((l.take (a + (j + 1))).drop a) = vl ((l.take (a + j)).drop a) * 256 + (l.getD (a + j) 0).toNat by
        rw [show a + (j + 1) = a + j + 1 by omega, List.take_succ_eq_append_getElem (show a + j < l.length by omega), List.drop_append_of_le_length (by rw [List.length_take]; omega), vl_snoc, List.getD_eq_getElem?_getD, List.getElem?_eq_getElem (show a + j < l.length by omega)]; rfl)
      have hb : (l.getD (a + j) 0).toNat < 256 := (l.getD (a + j) 0).toNat_lt
      have hv : vl ((l.take (a + j)).drop a) < 72057594037927936 := by
        have h5 := vl_lt ((l.take (a + j)).drop a)
        have h6 : 256 ^ ((l.take (a + j)).drop a).length ≤ 256 ^ 7 := Nat.pow_le_pow_right (by decide) (by rw [List.length_drop, List.length_take]; omega)
        have h7 : (256 : Nat) ^ 7 = 72057594037927936 := by decide
        omega
      generalize vl ((l.take (a + j)).drop a) = q at HS hv
      generalize (l.getD (a + j) 0).toNat = c at hcb HS hb
      have e1 : IntKind.u64.wrap ((q : Int) * 256) = (q : Int) * 256 := by rw [show (q : Int) * 256 = ((q * 256 : Nat) : Int) from by omega]; exact u64_small _ (by omega)
      have e2 : IntKind.u64.wrap (c : Int) = (c : Int) := u64_small _ (by omega)
      have e3 : bits .or .u64 ((q : Int) * 256) (c : Int) = ((q * 256 + c : Nat) : Int) := or_byte' q c hv hb
      go_wp2
      go_round
      case rel => exact ⟨j + 1, by omega, by go_num, by rw [HS.out]; congr 1⟩
      case measure => simp [intOf]; omega
    · obtain rfl : j = n := by omega
      go_wp2
      go_ret
      exact ⟨rfl, Blk.set h2 0 (.int .i64 ((a : Int) + (j : Int))), gb_trans gg (gb_set _ _ _ _ _)⟩
end Go.Proofs.YtliiooldlooagaaGreatDoor.R8

/-
  Roots held against each other, whole, over this seat's translation; conditions: eight chunks each.
-/
namespace Go.Proofs.YtliiooldlooagaaGreatDoor.R8
open Go.RowKit

/-- A whole row loaded by an operation behind a guard that lets it be. -/
theorem wpList_load_rowG {P : Program} {ops : Array Oper} {rest : List Oper} {o : Oper} {a : Act} {w : World} {Q : Exit → Act → World → Prop} (hw : Region.wanted o (yielded ops a.tmps) = true) (ty : TypeId) (x : Operand) (ho : o.op = .load ty x)
    (g : Nat) (hx : a.eval x = .pointer (some ⟨g, 0, none⟩)) (t : TypeId) (cs : Array Value) (fr : Nat × Nat) (d : TypeDesc) (hg : w.heap[g]? = some (.cells cs t fr))
    (hu : P.underlying ty = some d) (hd : (match d with | .struct _ | .array _ _ => true | _ => false) = true) (hi : (P.info? ty).map (·.size) = some cs.size)
    (h : wpList P ops Q rest (a.put o.dst (.agg cs)) w) : wpList P ops Q (o :: rest) a w := by
  unfold wpList
  rw [if_pos hw]
  exact .inl (wp_load_row ty x ho g hx t cs fr d hg hu hd hi h)
theorem root_fields : Tryz.prog.underlying 79 = some (.struct (Tryz.prog.fieldsOf 79)) := by kernel_rfl
theorem root_held : Tryz.prog.stoodInHeld 79 = false := by kernel_rfl
theorem root_guard : Tryz.prog.eqGuardType Tryz.prog.depth 79 = false := by kernel_rfl
theorem root_three : (Tryz.prog.fieldsOf 79).toList = [⟨"Epoch", 76, 0, false, "", "", 0⟩, ⟨"Sectors", 3, 1, false, "", "", 8⟩, ⟨"Chunks", 77, 2, false, "", "", 16⟩] := by kernel_rfl
theorem rootC_at (r : Rt) (k : Nat) (h : k < r.cs.length) : ((rootC r).toArray.extract 2 (2 + 8))[k]? = if k < 8 then some (.int .i64 (r.cs.getD k 0)) else none := by
  rw [Array.getElem?_extract]
  have := rootC_chunk r k h
  rw [Nat.add_comm] at this
  have hs : (rootC r).toArray.size = r.cs.length + 2 := by simp [rootC]
  by_cases h8 : k < 8
  · rw [if_pos (by omega), if_pos h8, List.getElem?_toArray, this]
  · rw [if_neg (by omega), if_neg h8]
theorem part_epoch (r : Rt) (w : World) : (part 76 (rootC r).toArray 0).run Tryz.prog w = .ok (.int .u64 (r.e : Nat)) w := by
  simp [part, Tryz.isAgg76, Sem.run_bind, rootC]
theorem part_sectors (r : Rt) (w : World) : (part 3 (rootC r).toArray 1).run Tryz.prog w = .ok (.int .i64 r.n) w := by
  simp [part, Tryz.isAgg3, Sem.run_bind, rootC]
theorem part_chunks (r : Rt) (w : World) : (part 77 (rootC r).toArray 2).run Tryz.prog w = .ok (.agg ((rootC r).toArray.extract 2 (2 + 8))) w := by
  simp [part, Tryz.isAgg77, Sem.run_bind, Tryz.sizeOf77]
theorem part_chunk (r : Rt) (k : Nat) (h : k < 8) (hl : r.cs.length = 8) (w : World) : (part 3 ((rootC r).toArray.extract 2 (2 + 8)) (k * Tryz.prog.cellsOf 3)).run Tryz.prog w = .ok (.int .i64 (r.cs.getD k 0)) w := by
  have hc : Tryz.prog.cellsOf 3 = 1 := by kernel_rfl
  have := rootC_at r k (by omega)
  rw [if_pos h] at this
  rw [hc, Nat.mul_one]
  unfold part
  simp only [Sem.run_bind, Tryz.isAgg3, Result.andThen_ok, Bool.false_eq_true, if_false, this]
  rfl
theorem eqItems_chunks (d : Nat) (a b : Rt) (ha : a.cs.length = 8) (hb : b.cs.length = 8) (w : World) : ∀ is : List Nat, (∀ k ∈ is, k < 8) →
    (Op.eqItems (d + 1) 3 (Tryz.prog.cellsOf 3) ((rootC a).toArray.extract 2 (2 + 8)) ((rootC b).toArray.extract 2 (2 + 8)) is).run Tryz.prog w = .ok (is.all fun k => a.cs.getD k 0 == b.cs.getD k 0) w
  | [], _ => by simp [Op.eqItems]
  | k :: is, h => by
    have ih := eqItems_chunks d a b ha hb w is (fun x hx => h x (List.mem_cons_of_mem _ hx))
    have hk := h k (List.mem_cons_self ..)
    have he := run_equalIn_int (P := Tryz.prog) (w := w) d 3 .i64 .i64 (a.cs.getD k 0) (b.cs.getD k 0) Tryz.underlying3
    simp only [Op.eqItems, Sem.run_bind, part_chunk a k hk ha, part_chunk b k hk hb, Result.andThen_ok, he, List.all_cons]
    cases a.cs.getD k 0 == b.cs.getD k 0
    · simp
    · simpa using ih
def sameR (a b : Rt) : Bool := (a.e == b.e) && ((a.n == b.n) && (List.range 8).all fun k => a.cs.getD k 0 == b.cs.getD k 0)
theorem sameR_iff (a b : Rt) (ha : a.cs.length = 8) (hb : b.cs.length = 8) : sameR a b = true ↔ a = b := by
  unfold sameR
  simp only [Bool.and_eq_true, beq_iff_eq, List.all_eq_true, List.mem_range]
  constructor
  · rintro ⟨h1, h2, h3⟩
    refine Rt.eq_of h1 h2 (List.ext_getElem (by omega) fun k h4 h5 => ?_)
    have := h3 k (by omega)
    simpa [List.getD_eq_getElem?_getD, h4, h5] using this
  · rintro rfl; exact ⟨rfl, rfl, fun _ _ => rfl⟩
theorem equal_roots (a b : Rt) (ha : a.cs.length = 8) (hb : b.cs.length = 8) (w : World) : (Op.equalIn 10000 79 (.agg (rootC a).toArray) (.agg (rootC b).toArray)).run Tryz.prog w = .ok (sameR a b) w := by
  cases hi : Tryz.prog.info? 3 with
  | none => exact absurd hi (by have h : (Tryz.prog.info? 3).isSome = true := by kernel_rfl
                                intro e; rw [e] at h; cases h)
  | some i =>
    rw [show (10000 : Nat) = 9997 + 1 + 1 + 1 from rfl, run_equalIn_struct w (9997 + 1 + 1) _ _ _ root_fields root_held, root_three]
    have e1 := run_equalIn_int (P := Tryz.prog) (w := w) (9997 + 1) 76 .u64 .u64 (a.e : Nat) (b.e : Nat) Tryz.underlying76
    have e2 := run_equalIn_int (P := Tryz.prog) (w := w) (9997 + 1) 3 .i64 .i64 a.n b.n Tryz.underlying3
    have e3 := run_equalIn_array w (9997 + 1) ((rootC a).toArray.extract 2 (2 + 8)) ((rootC b).toArray.extract 2 (2 + 8)) Tryz.underlying77 hi
    rw [eqItems_chunks 9997 a b ha hb w _ (fun k hk => List.mem_range.1 hk)] at e3
    have he : (((a.e : Nat) : Int) == ((b.e : Nat) : Int)) = (a.e == b.e) := by
      rw [Bool.eq_iff_iff, beq_iff_eq, beq_iff_eq]; omega
    rw [he] at e1
    have n1 : ("Epoch" : String) ≠ "_" := by decide
    have n2 : ("Sectors" : String) ≠ "_" := by decide
    have n3 : ("Chunks" : String) ≠ "_" := by decide
    unfold sameR
    simp only [Op.eqFields, if_pos n1, if_pos n2, if_pos n3, Sem.run_bind, part_epoch, Result.andThen_ok, e1]
    cases a.e == b.e
    · simp
    · simp only [Bool.not_true, Bool.false_eq_true, if_false, Sem.run_bind, part_sectors, Result.andThen_ok, e2]
      cases a.n == b.n
      · simp
      · simp only [Bool.not_true, Bool.false_eq_true, if_false, Sem.run_bind, part_chunks, Result.andThen_ok, e3]
        cases (List.range 8).all (fun k => a.cs.getD k 0 == b.cs.getD k 0) <;> simp
theorem eql_roots (a b : Rt) (ha : a.cs.length = 8) (hb : b.cs.length = 8) (w : World) : (binOp .eql 79 (.agg (rootC a).toArray) (.agg (rootC b).toArray)).run Tryz.prog w = .ok (.bool (sameR a b)) w := by
  rw [run_eql_struct, equal_roots a b ha hb]; rfl
theorem neq_roots (a b : Rt) (ha : a.cs.length = 8) (hb : b.cs.length = 8) (w : World) : (binOp .neq 79 (.agg (rootC a).toArray) (.agg (rootC b).toArray)).run Tryz.prog w = .ok (.bool (!sameR a b)) w := by
  rw [run_neq_struct, equal_roots a b ha hb]; rfl
theorem Fit.len {r : Rt} (h : Fit r) : r.cs.length = 8 := h.1
theorem Good.l8 {r : Rt} (h : Good r) : r.cs.length = 8 := h.2.1
/-- A whole root loaded: the operation is written out, so that what does not fit is told at once. -/
theorem ld (s b : Nat) (r : Rt) {ops : Array Oper} {rest : List Oper} {a : Act} {w : World} {Q : Exit → Act → World → Prop} {dst : Option Tmp} {ty : TypeId} {pos : String} {after : Array Edge} (hr : r.cs.length = 8) (hb : RB w b r)
    (hx : a.eval (.tmp s) = .pointer (some ⟨b, 0, none⟩)) (h : wpList Tryz.prog ops Q rest (a.put dst (.agg (rootC r).toArray)) w) : wpList Tryz.prog ops Q (⟨dst, .load 79 (.tmp s), ty, pos, after, none⟩ :: rest) a w :=
  wpList_load_row rfl 79 (.tmp s) rfl b hx 79 (rootC r).toArray (0, 0) _ hb Tryz.underlying79 rfl (root_info r hr) h
theorem ldG (s b : Nat) (r : Rt) {ops : Array Oper} {rest : List Oper} {a : Act} {w : World} {Q : Exit → Act → World → Prop} {dst : Option Tmp} {ty : TypeId} {pos : String} {after : Array Edge} {j : Nat} {want : Bool} (hr : r.cs.length = 8) (hb : RB w b r)
    (hw : yielded ops a.tmps j = some want) (hx : a.eval (.tmp s) = .pointer (some ⟨b, 0, none⟩)) (h : wpList Tryz.prog ops Q rest (a.put dst (.agg (rootC r).toArray)) w) : wpList Tryz.prog ops Q (⟨dst, .load 79 (.tmp s), ty, pos, after, some (j, want)⟩ :: rest) a w :=
  wpList_load_rowG (by simp [Region.wanted, hw]) 79 (.tmp s) rfl b hx 79 (rootC r).toArray (0, 0) _ hb Tryz.underlying79 rfl (root_info r hr) h
theorem root_size (r : Rt) (h : r.cs.length = 8) : 10 = (rootC r).toArray.size := by rw [List.size_toArray, rootC_length r h]
/-- A whole root stored into a new one. -/
theorem stN (p v : Nat) (r : Rt) {ops : Array Oper} {rest : List Oper} {a : Act} {w : World} {Q : Exit → Act → World → Prop} {dst : Option Tmp} {ty : TypeId} {pos : String} {after : Array Edge} (hr : r.cs.length = 8)
    (hx : a.eval (.tmp p) = .pointer (some ⟨w.heap.size, 0, none⟩)) (hy : a.eval (.tmp v) = .agg (rootC r).toArray) (h : wpList Tryz.prog ops Q rest (a.put dst undef) (w.alloc (.cells (rootC r).toArray 79))) :
    wpList Tryz.prog ops Q (⟨dst, .store 79 (.tmp p) (.tmp v), ty, pos, after, none⟩ :: rest) a (w.alloc (.cells #[.int .u64 0, .int .i64 0, .int .i64 0, .int .i64 0, .int .i64 0, .int .i64 0, .int .i64 0, .int .i64 0, .int .i64 0, .int .i64 0] 79)) := by
  refine wpList_store_row rfl 79 (.tmp p) (.tmp v) rfl w.heap.size (rootC r).toArray hx hy 79 _ (heap_alloc_new _ _) (root_info r hr) (root_size r hr) (root_one r) ?_
  rw [World.setRow_alloc_new]
  exact h
/-- A whole root stored, as the next operation of a drawn region. -/
theorem stR (p v b : Nat) (q r : Rt) {ops : Array Oper} {a : Act} {w : World} {K : Act → World → Prop} {Q : Exit → Act → World → Prop} {dst : Option Tmp} {ty : TypeId} {pos : String} {after : Array Edge} (hq : q.cs.length = 8) (hr : r.cs.length = 8) (hb : RB w b q)
    (hx : a.eval (.tmp p) = .pointer (some ⟨b, 0, none⟩)) (hy : a.eval (.tmp v) = .agg (rootC r).toArray) (h : K (a.put dst undef) (w.setRow b (rootC r).toArray)) :
    if Region.wanted ⟨dst, .store 79 (.tmp p) (.tmp v), ty, pos, after, none⟩ (yielded ops a.tmps) = true then Oper.wp Tryz.prog ⟨dst, .store 79 (.tmp p) (.tmp v), ty, pos, after, none⟩ a w K Q else K (a.put dst undef) w := by
  rw [if_pos (by rfl)]
  exact wp_store_row 79 (.tmp p) (.tmp v) rfl b (rootC r).toArray hx hy 79 _ hb (root_info r hr) ((root_size q hq).symm.trans (root_size r hr)) (root_one r) h
end Go.Proofs.YtliiooldlooagaaGreatDoor.R8
