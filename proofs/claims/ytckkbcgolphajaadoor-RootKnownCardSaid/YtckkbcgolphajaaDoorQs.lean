/-
  The program's sector, its table of places, and the closures that lay and read numbers, over this seat's translation; conditions: the table lies as the program's text lays it.
-/
import Derived.Test.YtckkbcgolphajaaDoorQp
import Derived.Laws.CopyRow
namespace Go.Proofs.YtckkbcgolphajaaDoor
open Go.RowKit

/-- The program's table of places. -/
def placesL : List Int := [0, 8, 8, 2, 10, 2, 248, 8]
def Pl (w : World) : Prop := ∀ j, j < 8 → w.cell? ⟨0, j, none⟩ = some (.int .i64 (placesL.getD j 0))
theorem Pl.keep0 {w w' : World} (h : Pl w) (g : w.grownBy w' none) : Pl w' := fun k hk => g.cell (h k hk) (by simp)
/-- A sector's block; a place's; the box of an address. -/
def Sec (W : World) (b : Nat) (l : List UInt8) : Prop := Blk W b 61 (bytesC l).toArray ∧ l.length = 256
def Plc (W : World) (p a n : Nat) : Prop := Blk W p 71 #[.int .i64 (a : Nat), .int .i64 (n : Nat)]
def Box (W : World) (x b : Nat) : Prop := Blk W x 69 #[.pointer (some ⟨b, 0, none⟩)]
theorem Sec.byte {W : World} {b : Nat} {l : List UInt8} (h : Sec W b l) (k : Nat) (hk : k < 256) : W.cell? ⟨b, k, none⟩ = some (.int .u8 ((l.getD k 0).toNat : Nat)) := Blk.cell h.1 k (by rw [List.getElem?_toArray]; exact bytes_at (by rw [h.2]; exact hk))
theorem Sec.free {W : World} {b : Nat} {l : List UInt8} (h : Sec W b l) (k : Nat) : W.frozen? ⟨b, k, none⟩ = false := Blk.free h.1 k
theorem Sec.keep {W W' : World} {b : Nat} {l : List UInt8} {r : Option Nat} (h : Sec W b l) (g : W.grownBy W' r) (hr : some b ≠ r) : Sec W' b l := ⟨Blk.keep h.1 g hr, h.2⟩
theorem Sec.keep0 {W W' : World} {b : Nat} {l : List UInt8} (h : Sec W b l) (g : W.grownBy W' none) : Sec W' b l := h.keep g (by simp)
theorem bytesC_set (l : List UInt8) (k : Nat) (c : UInt8) : (bytesC l).toArray.setIfInBounds k (.int .u8 (c.toNat : Nat)) = (bytesC (l.set k c)).toArray := by
  simp [bytesC, List.map_set]
theorem Sec.set {W : World} {b : Nat} {l : List UInt8} (h : Sec W b l) (k : Nat) (c : UInt8) {z : Int} (hz : z = (c.toNat : Nat)) : Sec (W.setCell ⟨b, k, none⟩ (.int .u8 z)) b (l.set k c) := by
  subst hz
  refine ⟨?_, by rw [List.length_set]; exact h.2⟩
  rw [← bytesC_set]
  exact Blk.set h.1 k _
/-- Nothing but two blocks turned. -/
structure Chg (b p : Nat) (w w' : World) : Prop where
  os : w'.os = w.os
  tape : w'.tape = w.tape
  output : w'.output = w.output
  size : w.heap.size ≤ w'.heap.size
  block : ∀ i, i < w.heap.size → i ≠ b → i ≠ p → w'.heap[i]? = w.heap[i]?
theorem Chg.refl (b p : Nat) (w : World) : Chg b p w w := ⟨rfl, rfl, rfl, Nat.le_refl _, fun _ _ _ _ => rfl⟩
theorem Chg.step {b p q : Nat} {a m c : World} (h : Chg b p a m) (k : m.grownBy c (some q)) (hq : q = b ∨ q = p) : Chg b p a c :=
  ⟨k.os.trans h.os, k.tape.trans h.tape, k.output.trans h.output, Nat.le_trans h.size k.size, fun i hi h1 h2 => (k.block i (Nat.lt_of_lt_of_le hi h.size) (by intro e; cases e; rcases hq with e | e <;> exact absurd e (by first | exact h1 | exact h2))).trans (h.block i hi h1 h2)⟩
theorem Chg.step0 {b p : Nat} {a m c : World} (h : Chg b p a m) (k : m.grownBy c none) : Chg b p a c :=
  ⟨k.os.trans h.os, k.tape.trans h.tape, k.output.trans h.output, Nat.le_trans h.size k.size, fun i hi h1 h2 => (k.block i (Nat.lt_of_lt_of_le hi h.size) (by simp)).trans (h.block i hi h1 h2)⟩
theorem Chg.blk {b p k : Nat} {w w' : World} {t : TypeId} {vs : Array Value} (h : Chg b p w w') (hb : Blk w k t vs) (h1 : k ≠ b) (h2 : k ≠ p) : Blk w' k t vs := (h.block k hb.lt h1 h2).trans hb
theorem Chg.grown {b p : Nat} {W w w' : World} (h : Chg b p w w') (g : W.grownBy w none) (hb : W.heap.size ≤ b) (hp : W.heap.size ≤ p) : W.grownBy w' none :=
  ⟨h.os.trans g.os, h.tape.trans g.tape, h.output.trans g.output, Nat.le_trans g.size h.size, fun i hi _ => (h.block i (Nat.lt_of_lt_of_le hi g.size) (by omega) (by omega)).trans (g.block i hi (by simp))⟩
/-- Bytes laid at a place. -/
def putAt (l : List UInt8) (i : Nat) (r : List UInt8) : List UInt8 := l.take i ++ r ++ l.drop (i + r.length)
theorem putAt_length (l : List UInt8) (i : Nat) (r : List UInt8) (h : i + r.length ≤ l.length) : (putAt l i r).length = l.length := by simp [putAt]; omega
theorem putAt_nil (l : List UInt8) (i : Nat) : putAt l i [] = l := by simp [putAt]
theorem putAt_cons (l : List UInt8) (i : Nat) (r : List UInt8) (c : UInt8) (h : i + 1 + r.length ≤ l.length) : (putAt l (i + 1) r).set i c = putAt l i (c :: r) := by
  unfold putAt
  have h1 : (l.take (i + 1)).length = i + 1 := by rw [List.length_take]; omega
  rw [List.append_assoc, List.set_append_left _ _ (by omega), List.take_succ_eq_append_getElem (show i < l.length by omega), List.set_append_right _ _ (by rw [List.length_take]; omega)]
  rw [show i - (l.take i).length = 0 by rw [List.length_take]; omega]
  simp [Nat.add_assoc, Nat.add_comm 1]

/-- What makes a closure leaves: the place's block, and the box. -/
def Made (w w' : World) (b p x a n : Nat) : Prop := w.heap.size ≤ p ∧ w.heap.size ≤ x ∧ x ≠ p ∧ Plc w' p a n ∧ Box w' x b ∧ w.grownBy w' none
def LayMade (w : World) (b a n : Nat) (e : Ending) (w' : World) : Prop := ∃ p x, e = .returned (.func (.func 29) #[] #[.pointer (some ⟨p, 0, none⟩), .pointer (some ⟨x, 0, none⟩)]) ∧ Made w w' b p x a n
def ReadMade (w : World) (b a n : Nat) (e : Ending) (w' : World) : Prop := ∃ p x, e = .returned (.func (.func 31) #[] #[.pointer (some ⟨x, 0, none⟩), .pointer (some ⟨p, 0, none⟩)]) ∧ Made w w' b p x a n
theorem made_new (w : World) (b a n : Nat) : Made w ((w.alloc (.cells #[.pointer (some ⟨b, 0, none⟩)] 69)).alloc (.cells #[.int .i64 (a : Nat), .int .i64 (n : Nat)] 71)) b (w.heap.size + 1) w.heap.size a n := by
  have g1 := gb_alloc w (.cells #[.pointer (some ⟨b, 0, none⟩)] 69) none
  have g2 := gb_alloc (w.alloc (.cells #[.pointer (some ⟨b, 0, none⟩)] 69)) (.cells #[.int .i64 (a : Nat), .int .i64 (n : Nat)] 71) none
  refine ⟨by omega, by omega, by omega, ?_, Blk.keep0 (Blk.mk w _ _) g2, gb_trans g1 g2⟩
  rw [← World.size_alloc w (.cells #[.pointer (some ⟨b, 0, none⟩)] 69)]
  exact Blk.mk _ _ _
set_option maxRecDepth 100000 in
set_option maxHeartbeats 1000000 in
theorem layer_any (b k a n : Nat) (z : Int) (w : World) (hP : Pl w) (hz : z = (k : Nat)) (hk : k < 4) (ha : placesL.getD (2 * k) 0 = (a : Nat)) (hn : placesL.getD (2 * k + 1) 0 = (n : Nat)) :
    Calls Tryd.prog 22 #[.pointer (some ⟨b, 0, none⟩), .int .i64 z] w (LayMade w b a n) := by
  have c0 := (hP.keep0 (gb_alloc w (.cells #[.pointer (some ⟨b, 0, none⟩)] 69) none)) (2 * k) (by omega)
  have c1 := (hP.keep0 (gb_alloc w (.cells #[.pointer (some ⟨b, 0, none⟩)] 69) none)) (2 * k + 1) (by omega)
  rw [ha] at c0
  rw [hn] at c1
  have HM := Lib.hid (made_new w b a n)
  clear ha hn hP
  subst hz
  obtain rfl | rfl | rfl | rfl : k = 0 ∨ k = 1 ∨ k = 2 ∨ k = 3 := by omega
  all_goals
    simp only [Nat.mul_zero, Nat.zero_add, Nat.reduceMul, Nat.reduceAdd] at c0 c1
    go_enter Tryd.func22, Tryd.ntmps22
    go_wp2
    go_ret
    exact ⟨_, _, rfl, HM.out⟩
set_option maxRecDepth 100000 in
set_option maxHeartbeats 1000000 in
theorem reader_any (b k a n : Nat) (z : Int) (w : World) (hP : Pl w) (hz : z = (k : Nat)) (hk : k < 4) (ha : placesL.getD (2 * k) 0 = (a : Nat)) (hn : placesL.getD (2 * k + 1) 0 = (n : Nat)) :
    Calls Tryd.prog 30 #[.pointer (some ⟨b, 0, none⟩), .int .i64 z] w (ReadMade w b a n) := by
  have c0 := (hP.keep0 (gb_alloc w (.cells #[.pointer (some ⟨b, 0, none⟩)] 69) none)) (2 * k) (by omega)
  have c1 := (hP.keep0 (gb_alloc w (.cells #[.pointer (some ⟨b, 0, none⟩)] 69) none)) (2 * k + 1) (by omega)
  rw [ha] at c0
  rw [hn] at c1
  have HM := Lib.hid (made_new w b a n)
  clear ha hn hP
  subst hz
  obtain rfl | rfl | rfl | rfl : k = 0 ∨ k = 1 ∨ k = 2 ∨ k = 3 := by omega
  all_goals
    simp only [Nat.mul_zero, Nat.zero_add, Nat.reduceMul, Nat.reduceAdd] at c0 c1
    go_enter Tryd.func30, Tryd.ntmps30
    go_wp2
    go_ret
    exact ⟨_, _, rfl, HM.out⟩
theorem pow_eight (i : Nat) : (2 : Int) ^ (8 * i) = ((256 ^ i : Nat) : Int) := by
  rw [Int.pow_mul, show (2 : Int) ^ 8 = ((256 : Nat) : Int) from rfl, ← Int.natCast_pow]
/-- The closure that lays a number. -/
def Laid (w : World) (b p x a n : Nat) (l : List UInt8) (e : Ending) (w' : World) : Prop := e = .returned (.tuple #[]) ∧ Sec w' b l ∧ Plc w' p (a + n) n ∧ Box w' x b ∧ Chg b p w w'
set_option maxRecDepth 100000 in
set_option maxHeartbeats 2000000 in
theorem lay_any (b p x a n N : Nat) (l : List UInt8) (w : World) (hs : Sec w b l) (hp : Plc w p a n) (hx : Box w x b) (hbp : b ≠ p) (hxb : x ≠ b) (hxp : x ≠ p) (han : a + n ≤ 256) (hn : n ≤ 8) (hN : N < 18446744073709551616) :
    Calls Tryd.prog 29 #[.int .u64 (N : Nat), .pointer (some ⟨p, 0, none⟩), .pointer (some ⟨x, 0, none⟩)] w (Laid w b p x a n (putAt l a (dg N n))) := by
  have cp1 := Blk.cell hp 1 rfl
  have HA := Lib.hid (And.intro hs (And.intro hp hx))
  clear hs hp hx
  go_enter Tryd.func29, Tryd.ntmps29
  go_wp2
  go_loopw [7] (fun v wr => ∃ i : Nat, i ≤ n ∧ v = .int .i64 i ∧ Sec wr b (putAt l (a + n - i) (dg N i)) ∧ Plc wr p a n ∧ Box wr x b ∧ Chg b p w wr) (fun v _ => 9 - (intOf v).toNat)
  case atStart => exact ⟨0, by omega, rfl, by rw [dg, putAt_nil]; exact HA.out.1, HA.out.2.1, HA.out.2.2, Chg.refl _ _ _⟩
  case round =>
    obtain ⟨i, hi, rfl, h1, h2, h3, h4⟩ := hrel
    have c0 := Blk.cell h2 0 rfl
    have c1 := Blk.cell h2 1 rfl
    have cx := Blk.cell h3 0 rfl
    by_cases hlt : i < n
    · obtain ⟨q, hq⟩ : ∃ q, a + n - (i + 1) = q := ⟨_, rfl⟩
      have hcb := h1.byte q (by omega)
      have hcf := h1.free q
      have i1 : (a : Int) + (n : Int) - 1 - (i : Int) = (q : Nat) := by omega
      go_wp2
      go_region
      have hz : ((N : Int) / 2 ^ (8 * i) % 256) = (((UInt8.ofNat (N / 256 ^ i % 256)).toNat : Nat) : Int) := by
        rw [pow_eight]
        have : (UInt8.ofNat (N / 256 ^ i % 256)).toNat = N / 256 ^ i % 256 := by simp
        rw [this]
        push_cast
        rfl
      have gs : wr.grownBy ((wr.setCell ⟨b, q, none⟩ (.int .u8 ((N : Int) / 2 ^ (8 * i) % 256))).drew) (some b) := gb_trans (gb_set _ _ _ _ _) (gb_drew _ _)
      have s1 := Sec.keep0 (h1.set q (UInt8.ofNat (N / 256 ^ i % 256)) hz) (gb_drew _ _)
      rw [show a + n - i = q + 1 by omega, putAt_cons _ _ _ _ (by rw [dg_length]; have := h1.2; rw [HA.out.1.2]; omega), ← dg_front] at s1
      generalize (wr.setCell ⟨b, q, none⟩ (.int .u8 ((N : Int) / 2 ^ (8 * i) % 256))).drew = w2 at gs s1 ⊢
      go_wp2
      go_roundw
      case rel => exact ⟨i + 1, by omega, by go_num, by rw [hq]; exact s1, Blk.keep h2 gs (ne_some hbp.symm), Blk.keep h3 gs (ne_some hxb), h4.step gs (Or.inl rfl)⟩
      case measure => simp [intOf]; omega
    · obtain rfl : i = n := by omega
      have cf := Blk.free h2 0
      go_wp2
      go_end0
      have gs := gb_set wr p 0 none (.int .i64 ((a : Int) + (i : Int)))
      refine ⟨rfl, ?_, ?_, Blk.keep h3 gs (ne_some hxp), h4.step gs (Or.inr rfl)⟩
      · rw [Nat.add_sub_cancel] at h1
        exact h1.keep gs (ne_some hbp)
      · have h5 := Blk.set h2 0 (.int .i64 ((a : Int) + (i : Int)))
        exact h5
theorem or_byte' (a c : Nat) (ha : a < 72057594037927936) (hc : c < 256) : bits .or .u64 ((a : Int) * 256) (c : Int) = ((a * 256 + c : Nat) : Int) := by
  have e1 : BitVec.ofInt 64 ((a : Int) * 256) = BitVec.ofNat 64 (a * 256) := by
    rw [show ((a : Int) * 256) = ((a * 256 : Nat) : Int) from by omega, BitVec.ofInt_natCast]
  have e2 : BitVec.ofInt 64 ((c : Int)) = BitVec.ofNat 64 c := BitVec.ofInt_natCast _ _
  have e3 : (a * 256 ||| c) = a * 256 + c := by
    have := Nat.shiftLeft_add_eq_or_of_lt (i := 8) (b := c) (by simpa using hc) a
    rw [Nat.shiftLeft_eq] at this
    simpa using this.symm
  show IntKind.u64.wrap (((BitVec.ofInt 64 ((a : Int) * 256) ||| BitVec.ofInt 64 (c : Int)).toNat : Nat) : Int) = _
  rw [e1, e2, BitVec.toNat_or, BitVec.toNat_ofNat, BitVec.toNat_ofNat]
  rw [Nat.mod_eq_of_lt (show a * 256 < 2 ^ 64 by omega), Nat.mod_eq_of_lt (show c < 2 ^ 64 by omega), e3]
  exact u64_small _ (by omega)
/-- The closure that reads a number. -/
def Told (w : World) (p a n : Nat) (v : Nat) (e : Ending) (w' : World) : Prop := e = .returned (.int .u64 (v : Nat)) ∧ Plc w' p (a + n) n ∧ w.grownBy w' (some p)
theorem slice_sec (b a n : Nat) (h : a + n ≤ 256) (h0 : a < 256) (W : World) : (Instr.sliceAt 61 (.pointer (some ⟨b, 0, none⟩)) (some (.int .i64 (a : Int))) (some (.int .i64 ((a : Int) + (n : Int)))) none).run Tryd.prog W = .ok (.slice (some ⟨b, a, none⟩) n (256 - a)) W := by
  have h1 : (a : Int) ≤ a + (n : Int) := by omega
  have h2 : (a : Int) + (n : Int) ≤ 256 := by omega
  have h3 : ((a : Int) + (n : Int)).toNat = a + n := by omega
  have h4 : (0 : Int) ≤ a + (n : Int) := by omega
  have h5 : ¬ (256 = a) := by omega
  simp [Instr.sliceAt, run_underlying Tryd.underlying61, Sem.run_bind, Tryd.sizeOf5]
  go_simp
set_option maxRecDepth 100000 in
set_option maxHeartbeats 2000000 in
theorem read_any (b p x a n : Nat) (l : List UInt8) (w : World) (hs : Sec w b l) (hp : Plc w p a n) (hx : Box w x b) (hbp : b ≠ p) (hxp : x ≠ p) (han : a + n ≤ 256) (ha : a < 256) (hn : n ≤ 8) :
    Calls Tryd.prog 31 #[.pointer (some ⟨x, 0, none⟩), .pointer (some ⟨p, 0, none⟩)] w (Told w p a n (vl ((l.take (a + n)).drop a))) := by
  have c0 := Blk.cell hp 0 rfl
  have c1 := Blk.cell hp 1 rfl
  have cf := Blk.free hp 0
  have cx := Blk.cell hx 0 rfl
  have hsl := slice_sec b a n han ha
  have HA := Lib.hid (And.intro hs (And.intro hp hx))
  clear hs hp hx
  go_enter Tryd.func31, Tryd.ntmps31
  go_wp2
  go_region
  obtain ⟨h1, h2, h3⟩ := HA.out
  have h1 := Sec.keep0 h1 (gb_drew w none)
  have h2 : Plc w.drew p a n := Blk.keep0 h2 (gb_drew w none)
  have gg := gb_drew w (some p)
  generalize w.drew = w1 at h1 h2 gg ⊢
  have c0 := Blk.cell h2 0 rfl
  have c1 := Blk.cell h2 1 rfl
  have cf := Blk.free h2 0
  go_wp2
  go_loop [3, 17] (fun v i => ∃ j : Nat, j ≤ n ∧ i = .int .i64 j ∧ v = .int .u64 (vl ((l.take (a + j)).drop a) : Nat)) (fun _ i => 9 - (intOf i).toNat)
  case atStart => exact ⟨0, by omega, rfl, by rw [Nat.add_zero, List.drop_of_length_le (by rw [List.length_take]; omega)]; rfl⟩
  case round =>
    obtain ⟨j, hj, rfl, rfl⟩ := hrel
    by_cases hlt : j < n
    · have hcb := h1.byte (a + j) (by omega)
      have hll := h1.2
      have HS := Lib.hid (show vl ((l.take (a + (j + 1))).drop a) = vl ((l.take (a + j)).drop a) * 256 + (l.getD (a + j) 0).toNat by
        rw [show a + (j + 1) = a + j + 1 by omega, List.take_succ_eq_append_getElem (show a + j < l.length by omega), List.drop_append_of_le_length (by rw [List.length_take]; omega), vl_snoc, List.getD_eq_getElem?_getD, List.getElem?_eq_getElem (show a + j < l.length by omega)]; rfl)
      have hb : (l.getD (a + j) 0).toNat < 256 := (l.getD (a + j) 0).toNat_lt
      have hv : vl ((l.take (a + j)).drop a) < 72057594037927936 := by
        have h5 := vl_lt ((l.take (a + j)).drop a)
        have h6 : 256 ^ ((l.take (a + j)).drop a).length ≤ 256 ^ 7 := Nat.pow_le_pow_right (by decide) (by rw [List.length_drop, List.length_take]; omega)
        have h7 : (256 : Nat) ^ 7 = 72057594037927936 := by decide
        omega
      generalize vl ((l.take (a + j)).drop a) = q at HS hv
      generalize (l.getD (a + j) 0).toNat = c at hcb HS hb
      have e1 : IntKind.u64.wrap ((q : Int) * 256) = (q : Int) * 256 := by rw [show (q : Int) * 256 = ((q * 256 : Nat) : Int) from by omega]; exact u64_small _ (by omega)
      have e2 : IntKind.u64.wrap (c : Int) = (c : Int) := u64_small _ (by omega)
      have e3 : bits .or .u64 ((q : Int) * 256) (c : Int) = ((q * 256 + c : Nat) : Int) := or_byte' q c hv hb
      go_wp2
      go_round
      case rel => exact ⟨j + 1, by omega, by go_num, by rw [HS.out]; congr 1⟩
      case measure => simp [intOf]; omega
    · obtain rfl : j = n := by omega
      go_wp2
      go_ret
      exact ⟨rfl, Blk.set h2 0 (.int .i64 ((a : Int) + (j : Int))), gb_trans gg (gb_set _ _ _ _ _)⟩
end Go.Proofs.YtckkbcgolphajaaDoor
