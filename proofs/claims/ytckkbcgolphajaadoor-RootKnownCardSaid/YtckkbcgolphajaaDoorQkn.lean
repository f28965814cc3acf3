/-
  RootKnown, walked: the chapter's examples; what may not be; which counts; condition: the table of places lies as the program's text lays it.
-/
import Derived.Test.YtckkbcgolphajaaDoorQh
import Derived.Test.YtckkbcgolphajaaDoorQi
namespace Go.Proofs.YtckkbcgolphajaaDoor
open Go.RowKit

/-- The eight roots that may not be, side by side. -/
def badCs : List Value := badR.flatMap rootC
theorem badCs_at (i : Nat) (hi : i < 8) (j : Nat) (hj : j < 10) : badCs.toArray[i * 10 + j]? = (rootC (badR.getD i zeroR))[j]? := by
  rw [List.getElem?_toArray]
  obtain rfl | rfl | rfl | rfl | rfl | rfl | rfl | rfl : i = 0 ∨ i = 1 ∨ i = 2 ∨ i = 3 ∨ i = 4 ∨ i = 5 ∨ i = 6 ∨ i = 7 := by omega
  all_goals
    obtain rfl | rfl | rfl | rfl | rfl | rfl | rfl | rfl | rfl | rfl : j = 0 ∨ j = 1 ∨ j = 2 ∨ j = 3 ∨ j = 4 ∨ j = 5 ∨ j = 6 ∨ j = 7 ∨ j = 8 ∨ j = 9 := by omega
    all_goals rfl
theorem bad_range {W : World} {b : Nat} {t : TypeId} (h : Blk W b t badCs.toArray) (i : Nat) (hi : i < 8) : W.rangeAt b (i * 10) (rootC (badR.getD i zeroR)) := by
  intro j v hj
  have hl : (rootC (badR.getD i zeroR)).length = 10 := by rw [rootC_length _ (bad_fit i hi).1]
  have hj10 : j < 10 := by have := (List.getElem?_eq_some_iff.1 hj).1; omega
  exact Blk.cell h _ ((badCs_at i hi j hj10).trans hj)
/-- A row of the last table. -/
def rowC (r : ByteArray × ByteArray × Nat × Int × Nat) : List Value := [.string r.1, .string r.2.1, .int .u64 (r.2.2.1 : Nat), .int .i64 r.2.2.2.1, .int .i64 (r.2.2.2.2 : Nat)]
theorem rows_at (l : List (ByteArray × ByteArray × Nat × Int × Nat)) (hl : l.length = 10) (i : Nat) (hi : i < 10) (j : Nat) (hj : j < 5) : (l.flatMap rowC).toArray[i * 5 + j]? = (rowC (l.getD i (⟨#[]⟩, ⟨#[]⟩, 0, 0, 0)))[j]? := by
  rw [List.getElem?_toArray]
  match l, hl with
  | [a0, a1, a2, a3, a4, a5, a6, a7, a8, a9], _ =>
  obtain rfl | rfl | rfl | rfl | rfl | rfl | rfl | rfl | rfl | rfl : i = 0 ∨ i = 1 ∨ i = 2 ∨ i = 3 ∨ i = 4 ∨ i = 5 ∨ i = 6 ∨ i = 7 ∨ i = 8 ∨ i = 9 := by omega
  all_goals
    obtain rfl | rfl | rfl | rfl | rfl : j = 0 ∨ j = 1 ∨ j = 2 ∨ j = 3 ∨ j = 4 := by omega
    all_goals rfl
theorem rows_range {W : World} {b : Nat} {t : TypeId} (l : List (ByteArray × ByteArray × Nat × Int × Nat)) (hl : l.length = 10) (h : Blk W b t (l.flatMap rowC).toArray) (i : Nat) (hi : i < 10) : W.rangeAt b (i * 5) (rowC (l.getD i (⟨#[]⟩, ⟨#[]⟩, 0, 0, 0))) := by
  intro j v hj
  have hj5 : j < 5 := by have := (List.getElem?_eq_some_iff.1 hj).1; simpa [rowC] using this
  exact Blk.cell h _ ((rows_at l hl i hi j hj5).trans hj)
theorem put_bad (x : Rt) (W : World) (hP : Pl W) (h : Fit x) (hn : ¬ MayR x) : Calls Tryd.prog 10 #[.agg (rootC x).toArray] W fun e w' => e = .returned (.tuple #[.string ⟨#[]⟩, .int .i64 2]) ∧ W.grownBy w' none := by
  have h := put_b x W hP h
  rw [show putC x = 2 from if_neg hn, list_eq (a := putB x) (b := ⟨#[]⟩) (by rw [putB_list]; unfold putS; rw [if_neg hn])] at h
  exact h
/-- A whole value stored into new memory of its type. -/
theorem stG (T : TypeId) (zs cs : Array Value) (p v : Nat) {ops : Array Oper} {rest : List Oper} {a : Act} {w : World} {Q : Exit → Act → World → Prop} {dst : Option Tmp} {ty : TypeId} {pos : String} {after : Array Edge} (hi : (Tryd.prog.info? T).map (·.size) = some cs.size) (hz : zs.size = cs.size) (ho : cs.all (·.oneCell') = true)
    (hx : a.eval (.tmp p) = .pointer (some ⟨w.heap.size, 0, none⟩)) (hy : a.eval (.tmp v) = .agg cs) (h : wpList Tryd.prog ops Q rest (a.put dst undef) (w.alloc (.cells cs T))) :
    wpList Tryd.prog ops Q (⟨dst, .store T (.tmp p) (.tmp v), ty, pos, after, none⟩ :: rest) a (w.alloc (.cells zs T)) := by
  refine wpList_store_row rfl T (.tmp p) (.tmp v) rfl w.heap.size cs hx hy T _ (heap_alloc_new _ _) hi hz ho ?_
  rw [World.setRow_alloc_new]
  exact h
theorem row_info (a b : ByteArray) (e : Nat) (z : Int) (n : Nat) : (Tryd.prog.info? 57).map (·.size) = some (rowC (a, b, e, z, n)).length := by
  show _ = some 5
  kernel_rfl
theorem st57 (p v : Nat) (x y : ByteArray) (e : Nat) (z : Int) (n : Nat) {ops : Array Oper} {rest : List Oper} {a : Act} {w : World} {Q : Exit → Act → World → Prop} {dst : Option Tmp} {ty : TypeId} {pos : String} {after : Array Edge}
    (hx : a.eval (.tmp p) = .pointer (some ⟨w.heap.size, 0, none⟩)) (hy : a.eval (.tmp v) = .agg (rowC (x, y, e, z, n)).toArray) (h : wpList Tryd.prog ops Q rest (a.put dst undef) (w.alloc (.cells (rowC (x, y, e, z, n)).toArray 57))) :
    wpList Tryd.prog ops Q (⟨dst, .store 57 (.tmp p) (.tmp v), ty, pos, after, none⟩ :: rest) a (w.alloc (.cells #[.string ⟨#[]⟩, .string ⟨#[]⟩, .int .u64 0, .int .i64 0, .int .i64 0] 57)) :=
  stG 57 _ (rowC (x, y, e, z, n)).toArray p v (row_info x y e z n) rfl (by simp [rowC, Value.oneCell']) hx hy h
theorem root_infoL (r : Rt) (h : r.cs.length = 8) : (Tryd.prog.info? 25).map (·.size) = some (rootC r).length := by
  rw [rootC_length r h]; kernel_rfl
def topR : Rt := ⟨18446744073709551615, 0, [0, 0, 0, 0, 0, 0, 0, 0]⟩
theorem next_top (W : World) : Calls Tryd.prog 12 #[.agg #[.int .u64 18446744073709551615, .int .i64 0, .int .i64 0, .int .i64 0, .int .i64 0, .int .i64 0, .int .i64 0, .int .i64 0, .int .i64 0, .int .i64 0], .int .i64 7] W fun e w' => e = .returned (.tuple #[.agg (rootC (nextR topR)).toArray, .int .i64 1]) ∧ W.grownBy w' none := next_any topR 7 W (fit_new 18446744073709551615 0 (by decide) (by decide))
theorem put_4 (W : World) (hP : Pl W) : Calls Tryd.prog 10 #[.agg #[.int .u64 4, .int .i64 1024, .int .i64 2, .int .i64 1023, .int .i64 0, .int .i64 0, .int .i64 7, .int .i64 8, .int .i64 9, .int .i64 10]] W fun e w' => e = .returned (.tuple #[.string (putB f4), .int .i64 0]) ∧ W.grownBy w' none := by
  have h := put_b f4 W hP fit_f4
  rwa [show putC f4 = 0 from if_pos may_f4] at h
theorem put_5 (W : World) (hP : Pl W) : Calls Tryd.prog 10 #[.agg #[.int .u64 5, .int .i64 64, .int .i64 63, .int .i64 0, .int .i64 0, .int .i64 0, .int .i64 0, .int .i64 0, .int .i64 0, .int .i64 0]] W fun e w' => e = .returned (.tuple #[.string (putB f5), .int .i64 0]) ∧ W.grownBy w' none := by
  have h := put_b f5 W hP fit_f5
  rwa [show putC f5 = 0 from if_pos may_f5] at h
theorem put_6 (W : World) (hP : Pl W) : Calls Tryd.prog 10 #[.agg #[.int .u64 5, .int .i64 65, .int .i64 0, .int .i64 0, .int .i64 0, .int .i64 0, .int .i64 0, .int .i64 0, .int .i64 0, .int .i64 0]] W fun e w' => e = .returned (.tuple #[.string (putB f6), .int .i64 0]) ∧ W.grownBy w' none := by
  have h := put_b f6 W hP fit_f6
  rwa [show putC f6 = 0 from if_pos may_f6] at h
set_option maxRecDepth 100000 in
set_option linter.unusedSimpArgs false in
set_option maxHeartbeats 8000000 in
theorem known_any (w : World) (hPl : Pl w) : Calls Tryd.prog 8 #[] w (TrueGot w) := by
  have HPl := Lib.hid hPl
  clear hPl
  have HWk := Lib.hid (fun W (g : w.grownBy W none) => works_any W (HPl.out.keep0 g))
  unfold TrueGot at HWk
  have HP4 := Lib.hid (fun W (g : w.grownBy W none) => put_4 W (HPl.out.keep0 g))
  have HP5 := Lib.hid (fun W (g : w.grownBy W none) => put_5 W (HPl.out.keep0 g))
  have HP6 := Lib.hid (fun W (g : w.grownBy W none) => put_6 W (HPl.out.keep0 g))
  have L4 := put_f f4 may_f4
  have L5 := put_f f5 may_f5
  have L6 := put_f f6 may_f6
  have s4 := put_fs f4 may_f4 rfl
  have s5 := put_fs f5 may_f5 rfl
  obtain ⟨four, h4⟩ : ∃ x, putB f4 = x := ⟨_, rfl⟩
  obtain ⟨five, h5⟩ : ∃ x, putB f5 = x := ⟨_, rfl⟩
  obtain ⟨same, h6⟩ : ∃ x, putB f6 = x := ⟨_, rfl⟩
  rw [h4] at HP4 L4 s4
  rw [h5] at HP5 L5 s5
  rw [h6] at HP6 L6
  have HL := Lib.hid (And.intro L4 (And.intro L5 L6))
  clear h4 h5 h6 L4 L5 L6
  have gg := gb_refl w none
  go_enter Tryd.func8, Tryd.ntmps8
  go_wp2_with (first
    | (go_at_call 16; (with_reducible refine (HWk.out _ gg).mono ?_); rintro e v1 ⟨rfl, gN⟩; have gg := gb_trans gg gN)
    | (go_at_call 10; (with_reducible refine (HP4.out _ gg).mono ?_); rintro e v2 ⟨rfl, gN⟩; have gg := gb_trans gg gN)
    | (go_at_call 10; (with_reducible refine (HP5.out _ gg).mono ?_); rintro e v3 ⟨rfl, gN⟩; have gg := gb_trans gg gN)
    | (go_at_call 10; (with_reducible refine (HP6.out _ gg).mono ?_); rintro e v4 ⟨rfl, gN⟩; have gg := gb_trans gg gN)
    | fail)
  have hb := Blk.mk v4 25 #[.int .u64 0, .int .i64 64, .int .i64 0, .int .i64 0, .int .i64 0, .int .i64 0, .int .i64 0, .int .i64 0, .int .i64 0, .int .i64 0, .int .u64 1, .int .i64 63, .int .i64 0, .int .i64 0, .int .i64 0, .int .i64 0, .int .i64 0, .int .i64 0, .int .i64 0, .int .i64 0, .int .u64 1, .int .i64 1025, .int .i64 0, .int .i64 0, .int .i64 0, .int .i64 0, .int .i64 0, .int .i64 0, .int .i64 0, .int .i64 0, .int .u64 1, .int .i64 64, .int .i64 1, .int .i64 0, .int .i64 0, .int .i64 0, .int .i64 0, .int .i64 0, .int .i64 0, .int .i64 0, .int .u64 1, .int .i64 64, .int .i64 64, .int .i64 0, .int .i64 0, .int .i64 0, .int .i64 0, .int .i64 0, .int .i64 0, .int .i64 0, .int .u64 1, .int .i64 64, .int .i64 5, .int .i64 0, .int .i64 5, .int .i64 0, .int .i64 0, .int .i64 0, .int .i64 0, .int .i64 0, .int .u64 1, .int .i64 64, .int .i64 0, .int .i64 (-1), .int .i64 0, .int .i64 0, .int .i64 0, .int .i64 0, .int .i64 0, .int .i64 0, .int .u64 1, .int .i64 (-64), .int .i64 0, .int .i64 0, .int .i64 0, .int .i64 0, .int .i64 0, .int .i64 0, .int .i64 0, .int .i64 0]
  have ga := gb_alloc v4 (.cells #[.int .u64 0, .int .i64 64, .int .i64 0, .int .i64 0, .int .i64 0, .int .i64 0, .int .i64 0, .int .i64 0, .int .i64 0, .int .i64 0, .int .u64 1, .int .i64 63, .int .i64 0, .int .i64 0, .int .i64 0, .int .i64 0, .int .i64 0, .int .i64 0, .int .i64 0, .int .i64 0, .int .u64 1, .int .i64 1025, .int .i64 0, .int .i64 0, .int .i64 0, .int .i64 0, .int .i64 0, .int .i64 0, .int .i64 0, .int .i64 0, .int .u64 1, .int .i64 64, .int .i64 1, .int .i64 0, .int .i64 0, .int .i64 0, .int .i64 0, .int .i64 0, .int .i64 0, .int .i64 0, .int .u64 1, .int .i64 64, .int .i64 64, .int .i64 0, .int .i64 0, .int .i64 0, .int .i64 0, .int .i64 0, .int .i64 0, .int .i64 0, .int .u64 1, .int .i64 64, .int .i64 5, .int .i64 0, .int .i64 5, .int .i64 0, .int .i64 0, .int .i64 0, .int .i64 0, .int .i64 0, .int .u64 1, .int .i64 64, .int .i64 0, .int .i64 (-1), .int .i64 0, .int .i64 0, .int .i64 0, .int .i64 0, .int .i64 0, .int .i64 0, .int .u64 1, .int .i64 (-64), .int .i64 0, .int .i64 0, .int .i64 0, .int .i64 0, .int .i64 0, .int .i64 0, .int .i64 0, .int .i64 0] 25) none
  have gg := gb_trans gg ga
  generalize v4.alloc (.cells #[.int .u64 0, .int .i64 64, .int .i64 0, .int .i64 0, .int .i64 0, .int .i64 0, .int .i64 0, .int .i64 0, .int .i64 0, .int .i64 0, .int .u64 1, .int .i64 63, .int .i64 0, .int .i64 0, .int .i64 0, .int .i64 0, .int .i64 0, .int .i64 0, .int .i64 0, .int .i64 0, .int .u64 1, .int .i64 1025, .int .i64 0, .int .i64 0, .int .i64 0, .int .i64 0, .int .i64 0, .int .i64 0, .int .i64 0, .int .i64 0, .int .u64 1, .int .i64 64, .int .i64 1, .int .i64 0, .int .i64 0, .int .i64 0, .int .i64 0, .int .i64 0, .int .i64 0, .int .i64 0, .int .u64 1, .int .i64 64, .int .i64 64, .int .i64 0, .int .i64 0, .int .i64 0, .int .i64 0, .int .i64 0, .int .i64 0, .int .i64 0, .int .u64 1, .int .i64 64, .int .i64 5, .int .i64 0, .int .i64 5, .int .i64 0, .int .i64 0, .int .i64 0, .int .i64 0, .int .i64 0, .int .u64 1, .int .i64 64, .int .i64 0, .int .i64 (-1), .int .i64 0, .int .i64 0, .int .i64 0, .int .i64 0, .int .i64 0, .int .i64 0, .int .u64 1, .int .i64 (-64), .int .i64 0, .int .i64 0, .int .i64 0, .int .i64 0, .int .i64 0, .int .i64 0, .int .i64 0, .int .i64 0] 25) = v5 at hb gg ⊢
  generalize v4.heap.size = bl at hb ⊢
  clear ga gN
  replace hb : Blk v5 bl 25 badCs.toArray := hb
  go_loopw [73] (fun v wr => ∃ i : Nat, i ≤ 8 ∧ v = .int .i64 i ∧ Blk wr bl 25 badCs.toArray ∧ w.grownBy wr none) (fun v _ => 9 - (intOf v).toNat)
  case atStart => exact ⟨0, by omega, rfl, hb, gg⟩
  case round =>
    obtain ⟨i, hi, rfl, hb, gg⟩ := hrel
    by_cases hlt : i < 8
    · have hr := bad_range hb i hlt
      have hx1 := bad_fit i hlt
      have hx2 := bad_may i hlt
      generalize badR.getD i zeroR = x at hr hx1 hx2
      have HPb := Lib.hid (fun W (g : w.grownBy W none) => put_bad x W (HPl.out.keep0 g) hx1 hx2)
      have HXL := Lib.hid hx1.len
      have HR := Lib.hid hr
      clear hr hx1 hx2
      go_wp2_with (first
        | (refine wpList_load_mid rfl 25 (.tmp 76) rfl bl (i * 10) ?hx (rootC x) _ HR.out Tryd.underlying25 rfl (root_infoL x HXL.out) ?_; case hx => (go_simp; try with_reducible rfl))
        | ((with_reducible refine stN 8 77 x HXL.out ?_ ?_ ?_); rfl; rfl; have q8 : RB (wr.alloc (.cells (rootC x).toArray 25)) wr.heap.size x := Blk.mk wr _ _; have hb := Blk.keep0 hb (gb_alloc wr (.cells (rootC x).toArray 25) none); have gg := gb_trans gg (gb_alloc wr (.cells (rootC x).toArray 25) none); generalize wr.alloc (.cells (rootC x).toArray 25) = v1 at hb q8 gg ⊢)
        | ((with_reducible refine ld 8 (wr.heap.size) x HXL.out q8 ?_ ?_); rfl)
        | (go_at_call 10; (with_reducible refine (HPb.out _ gg).mono ?_); rintro e v2 ⟨rfl, g2⟩; have hb := Blk.keep0 hb g2; have q8 := RB.keep0 q8 g2; have gg := gb_trans gg g2;)
        | fail)
      go_roundw
      case rel => exact ⟨i + 1, by omega, by go_num, hb, gg⟩
      case measure => simp [intOf]; omega
    · obtain rfl : i = 8 := by omega
      clear hb
      obtain ⟨L4, L5, L6⟩ := HL.out
      have kA := fun W => cut_to Tryd.prog 9 Tryd.underlying9 four 255 255 rfl (by omega) W
      have kB := fun W => cut_to Tryd.prog 9 Tryd.underlying9 four 200 200 rfl (by omega) W
      have kC := fun W => cut_from Tryd.prog 9 Tryd.underlying9 five 200 200 rfl (by omega) W
      have kD := fun W => cut_to Tryd.prog 9 Tryd.underlying9 five 100 100 rfl (by omega) W
      have kE := fun W => cut_from Tryd.prog 9 Tryd.underlying9 four 100 100 rfl (by omega) W
      have kF := fun W => cut_to Tryd.prog 9 Tryd.underlying9 four 100 100 rfl (by omega) W
      have kG := fun W => cut_from Tryd.prog 9 Tryd.underlying9 four 101 101 rfl (by omega) W
      obtain ⟨cu, hcu⟩ : ∃ x, four.extract 0 255 = x := ⟨_, rfl⟩
      obtain ⟨a1, ha1⟩ : ∃ x, four.extract 0 200 = x := ⟨_, rfl⟩
      obtain ⟨a2, ha2⟩ : ∃ x, five.extract 200 five.size = x := ⟨_, rfl⟩
      obtain ⟨a3, ha3⟩ : ∃ x, five.extract 0 100 = x := ⟨_, rfl⟩
      obtain ⟨a4, ha4⟩ : ∃ x, four.extract 100 four.size = x := ⟨_, rfl⟩
      obtain ⟨a5, ha5⟩ : ∃ x, four.extract 101 four.size = x := ⟨_, rfl⟩
      have z1 : a1.size ≤ 256 := by rw [← ha1, ByteArray.size_extract]; omega
      have z2 : a2.size ≤ 256 := by rw [← ha2, ByteArray.size_extract]; omega
      have z3 : a3.size ≤ 256 := by rw [← ha3, ByteArray.size_extract]; omega
      have z4 : a4.size ≤ 256 := by rw [← ha4, ByteArray.size_extract]; omega
      have z5 : a5.size ≤ 256 := by rw [← ha5, ByteArray.size_extract]; omega
      obtain ⟨b3, hb3⟩ : ∃ x, four.extract 0 100 = x := ⟨_, rfl⟩
      have y3 : b3.size ≤ 256 := by rw [← hb3, ByteArray.size_extract]; omega
      obtain ⟨m1, hm1⟩ : ∃ x, a1 ++ a2 = x := ⟨_, rfl⟩
      obtain ⟨m2, hm2⟩ : ∃ x, a3 ++ a4 = x := ⟨_, rfl⟩
      obtain ⟨o1, ho1⟩ : ∃ x, b3 ++ (⟨#[120]⟩ : ByteArray) = x := ⟨_, rfl⟩
      obtain ⟨o2, ho2⟩ : ∃ x, o1 ++ a5 = x := ⟨_, rfl⟩
      obtain ⟨o3, ho3⟩ : ∃ x, four ++ (⟨#[0]⟩ : ByteArray) = x := ⟨_, rfl⟩
      rw [hcu] at kA
      rw [ha1] at kB
      rw [ha2] at kC
      rw [ha3] at kD
      rw [ha4] at kE
      rw [hb3] at kF
      rw [ha5] at kG
      have q1 : ¬ 9223372036854775807 < a1.size + a2.size := by omega
      have q2 : ¬ 9223372036854775807 < a3.size + a4.size := by omega
      have l4 : four.size = four.data.toList.length := by rw [Array.length_toList]; rfl
      have l5 : five.size = five.data.toList.length := by rw [Array.length_toList]; rfl
      have hGC : getF cu.data.toList = (zeroR, 5) := get_five (by rw [← hcu, ex_list, L4, List.drop_zero]; exact cut1)
      have hG1 : getF m1.data.toList = (zeroR, 5) := get_five (by rw [← hm1, ap_list, ← ha1, ← ha2, ex_list, ex_list, l5, List.take_length, L4, L5, List.drop_zero]; exact mix1)
      have hG2 : getF m2.data.toList = (zeroR, 5) := get_five (by rw [← hm2, ap_list, ← ha3, ← ha4, ex_list, ex_list, l4, List.take_length, L4, L5, List.drop_zero]; exact mix2)
      have hG3 : getF o2.data.toList = (zeroR, 5) := get_five (by rw [← ho2, ← ho1, ap_list, ap_list, ← hb3, ← ha5, ex_list, ex_list, l4, List.take_length, L4, List.drop_zero]; exact odd1)
      have hG4 : getF o3.data.toList = (zeroR, 5) := get_five (by rw [← ho3, ap_list, L4]; exact long1)
      have hF4 : getF four.data.toList = (f4, 0) := by rw [L4]; exact get_f f4 may_f4 rfl (by decide)
      have hF5 : getF five.data.toList = (f5, 0) := by rw [L5]; exact get_f f5 may_f5 rfl (by decide)
      have hF6 : getF same.data.toList = (f6, 0) := by rw [L6]; exact get_f f6 may_f6 rfl (by decide)
      have hFZ : getF zeroB.data.toList = (zeroR, 9) := by rw [zeroB_list]; exact get_blank
      have HB := Lib.hid (fun W => blank_b W)
      generalize zeroB = Z at hFZ HB
      have HPI := Lib.hid (rows_pick hF4 hF5 hF6 hFZ hGC hG1 hG2)
      have HO := Lib.hid (And.intro hG3 hG4)
      have HO1 := Lib.hid (And.intro kF (And.intro kG (And.intro ho1 (And.intro ho2 ho3))))
      have HO2 := Lib.hid (And.intro y3 z5)
      clear hcu ha1 ha2 ha3 ha4 ha5 z1 z2 z3 z4 z5 hb3 y3 l4 l5 L4 L5 L6 hGC hG1 hG2 hG3 hG4 hF4 hF5 hF6 hFZ kF kG ho1 ho2 ho3
      go_wp2
      rename_i K16 hK16
      have HK16 := Lib.hid hK16
      clear hK16
      suffices key16 : ∀ (bl2 : Nat) (W : World) {p0 p2 p4 p5 p6 p7 p8 p9 p10 p11 p12 p13 p14 p15 p16 p17 p18 p19 p20 p21 p22 p23 p24 p25 p26 p27 p28 p29 p30 p31 p32 p33 p34 p35 p36 p37 p38 p39 p40 p41 p42 p43 p44 p45 p46 p47 p48 p49 p50 p51 p52 p53 p54 p55 p56 p57 p58 p59 p60 p61 p62 p63 p64 p65 p66 p67 p68 p69 p70 p71 p72 p73 p74 p75 p76 p77 p78 p79 p80 p81 p82 p83 p84 p85 p86 p87 p88 p89 p90 p91 p92 p93 p94 p95 p96 p97 p98 p99 p100 p101 p102 p103 p104 p105 p106 p107 p108 p109 p110 p111 p112 p113 p114 p115 p116 p117 p118 p119 p120 p121 p122 p123 p124 p125 p129 p130 p131 p132 p133 p134 p135 p136 p137 p138 p139 p140 p141 p142 p143 p144 p145 p146 p147 p148 p149 p150 p151 p152 p153 p154 p155 p156 p157 p158 p159 p160 p161 p162 p163 p164 p165 p166 p167 p168 p169 p170 p171 p172 p173 p174 p175 p176 p177 p178 p179 p180 p181 p182 p183 p184 p185 p186 p187 p188 p189 p190 p191 p192 p193 p194 p195 p196 p197 : Value}, Blk W bl2 57 ((rowsK four five same Z cu m1 m2).flatMap rowC).toArray → w.grownBy W none → K16 ⟨#[p0, .string four, p2, .string five, p4, p5, p6, p7, p8, p9, p10, p11, p12, p13, p14, p15, p16, p17, p18, p19, p20, p21, p22, p23, p24, p25, p26, p27, p28, p29, p30, p31, p32, p33, p34, p35, p36, p37, p38, p39, p40, p41, p42, p43, p44, p45, p46, p47, p48, p49, p50, p51, p52, p53, p54, p55, p56, p57, p58, p59, p60, p61, p62, p63, p64, p65, p66, p67, p68, p69, p70, p71, p72, p73, p74, p75, p76, p77, p78, p79, p80, p81, p82, p83, p84, p85, p86, p87, p88, p89, p90, p91, p92, p93, p94, p95, p96, p97, p98, p99, p100, p101, p102, p103, p104, p105, p106, p107, p108, p109, p110, p111, p112, p113, p114, p115, p116, p117, p118, p119, p120, p121, p122, p123, p124, p125, .slice (some ⟨bl2, 0, none⟩) 10 10, .int .i64 10, .int .i64 0, p129, p130, p131, p132, p133, p134, p135, p136, p137, p138, p139, p140, p141, p142, p143, p144, p145, p146, p147, p148, p149, p150, p151, p152, p153, p154, p155, p156, p157, p158, p159, p160, p161, p162, p163, p164, p165, p166, p167, p168, p169, p170, p171, p172, p173, p174, p175, p176, p177, p178, p179, p180, p181, p182, p183, p184, p185, p186, p187, p188, p189, p190, p191, p192, p193, p194, p195, p196, p197], []⟩ W by
        refine wp_region_noPanic ?_
        refine wp_region_held_drew (S := fun w' => (wr).grownBy w' none) (by kernel_rfl) (gb_drew _ _) (fun hHeld => ?_)
        have hS := gb_drew (wr) none
        have gg := gb_trans gg (gb_drew (wr) none)
        generalize (wr).drew = u0 at  gg hS hHeld ⊢
        refine wpAnyH_take (i := 0) (v := ?_) (List.getElem?_toArray.trans rfl) (by kernel_rfl) (by kernel_rfl) (by kernel_rfl) (fun _ _ _ h => h) (Or.inl ⟨by rfl, ?_⟩) hHeld ?_
        rotate_left
        · intro w' hSw; go_simp; try with_reducible rfl
        try simp only [Act.put, List.setIfInBounds_toArray, List.set_cons_zero, List.set_cons_succ]
        refine wpAnyH_take (i := 1) (v := ?_) (List.getElem?_toArray.trans rfl) (by kernel_rfl) (by kernel_rfl) (by kernel_rfl) (fun _ _ _ h => h) (Or.inl ⟨by rfl, ?_⟩) hHeld ?_
        rotate_left
        · intro w' hSw; go_simp; try with_reducible rfl
        try simp only [Act.put, List.setIfInBounds_toArray, List.set_cons_zero, List.set_cons_succ]
        refine wpAnyH_take (i := 2) (v := ?_) (List.getElem?_toArray.trans rfl) (by kernel_rfl) (by kernel_rfl) (by kernel_rfl) (fun _ _ _ h => h) (Or.inl ⟨by rfl, ?_⟩) hHeld ?_
        rotate_left
        · intro w' hSw; go_simp; try with_reducible rfl
        try simp only [Act.put, List.setIfInBounds_toArray, List.set_cons_zero, List.set_cons_succ]
        refine wpAnyH_take (i := 3) (v := ?_) (List.getElem?_toArray.trans rfl) (by kernel_rfl) (by kernel_rfl) (by kernel_rfl) (fun _ _ _ h => h) (Or.inl ⟨by rfl, ?_⟩) hHeld ?_
        rotate_left
        · intro w' hSw; go_simp; try with_reducible rfl
        try simp only [Act.put, List.setIfInBounds_toArray, List.set_cons_zero, List.set_cons_succ]
        refine wpAnyH_take (i := 4) (v := ?_) (List.getElem?_toArray.trans rfl) (by kernel_rfl) (by kernel_rfl) (by kernel_rfl) (fun _ _ _ h => h) (Or.inl ⟨by rfl, ?_⟩) hHeld ?_
        rotate_left
        · intro w' hSw; go_simp; try with_reducible rfl
        try simp only [Act.put, List.setIfInBounds_toArray, List.set_cons_zero, List.set_cons_succ]
        refine wpAnyH_take (i := 5) (v := ?_) (List.getElem?_toArray.trans rfl) (by kernel_rfl) (by kernel_rfl) (by kernel_rfl) (fun _ _ _ h => h) (Or.inl ⟨by rfl, ?_⟩) hHeld ?_
        rotate_left
        · intro w' hSw; go_simp; try with_reducible rfl
        try simp only [Act.put, List.setIfInBounds_toArray, List.set_cons_zero, List.set_cons_succ]
        refine wpAnyH_take (i := 6) (v := ?_) (List.getElem?_toArray.trans rfl) (by kernel_rfl) (by kernel_rfl) (by kernel_rfl) (fun _ _ _ h => h) (Or.inl ⟨by rfl, ?_⟩) hHeld ?_
        rotate_left
        · intro w' hSw; go_simp; try with_reducible rfl
        try simp only [Act.put, List.setIfInBounds_toArray, List.set_cons_zero, List.set_cons_succ]
        refine wpAnyH_take (i := 7) (v := ?_) (List.getElem?_toArray.trans rfl) (by kernel_rfl) (by kernel_rfl) (by kernel_rfl) (fun _ _ _ h => h) (Or.inl ⟨by rfl, ?_⟩) hHeld ?_
        rotate_left
        · intro w' hSw; go_simp; try with_reducible rfl
        try simp only [Act.put, List.setIfInBounds_toArray, List.set_cons_zero, List.set_cons_succ]
        refine wpAnyH_take (i := 8) (v := ?_) (List.getElem?_toArray.trans rfl) (by kernel_rfl) (by kernel_rfl) (by kernel_rfl) (fun _ _ _ h => h) (Or.inl ⟨by rfl, ?_⟩) hHeld ?_
        rotate_left
        · intro w' hSw; go_simp; try with_reducible rfl
        try simp only [Act.put, List.setIfInBounds_toArray, List.set_cons_zero, List.set_cons_succ]
        refine wpAnyH_take (i := 10) (v := ?_) (List.getElem?_toArray.trans rfl) (by kernel_rfl) (by kernel_rfl) (by kernel_rfl) (fun _ _ _ h => h) (Or.inl ⟨by rfl, ?_⟩) hHeld ?_
        rotate_left
        · intro w' hSw; go_simp; try with_reducible rfl
        try simp only [Act.put, List.setIfInBounds_toArray, List.set_cons_zero, List.set_cons_succ]
        refine wpAnyH_take (i := 12) (v := ?_) (List.getElem?_toArray.trans rfl) (by kernel_rfl) (by kernel_rfl) (by kernel_rfl) (fun _ _ _ h => h) (Or.inl ⟨by rfl, ?_⟩) hHeld ?_
        rotate_left
        · intro w' hSw; go_simp; try with_reducible rfl
        try simp only [Act.put, List.setIfInBounds_toArray, List.set_cons_zero, List.set_cons_succ]
        refine wpAnyH_take (i := 13) (v := ?_) (List.getElem?_toArray.trans rfl) (by kernel_rfl) (by kernel_rfl) (by kernel_rfl) (fun _ _ _ h => h) (Or.inl ⟨by rfl, ?_⟩) hHeld ?_
        rotate_left
        · intro w' hSw; go_simp; try with_reducible rfl
        try simp only [Act.put, List.setIfInBounds_toArray, List.set_cons_zero, List.set_cons_succ]
        refine wpAnyH_take (i := 14) (v := ?_) (List.getElem?_toArray.trans rfl) (by kernel_rfl) (by kernel_rfl) (by kernel_rfl) (fun _ _ _ h => h) (Or.inl ⟨by rfl, ?_⟩) hHeld ?_
        rotate_left
        · intro w' hSw; go_simp; try with_reducible rfl
        try simp only [Act.put, List.setIfInBounds_toArray, List.set_cons_zero, List.set_cons_succ]
        refine wpAnyH_take (i := 15) (v := ?_) (List.getElem?_toArray.trans rfl) (by kernel_rfl) (by kernel_rfl) (by kernel_rfl) (fun _ _ _ h => h) (Or.inl ⟨by rfl, ?_⟩) hHeld ?_
        rotate_left
        · intro w' hSw; go_simp; try with_reducible rfl
        try simp only [Act.put, List.setIfInBounds_toArray, List.set_cons_zero, List.set_cons_succ]
        refine wpAnyH_take (i := 16) (v := ?_) (List.getElem?_toArray.trans rfl) (by kernel_rfl) (by kernel_rfl) (by kernel_rfl) (fun _ _ _ h => h) (Or.inl ⟨by rfl, ?_⟩) hHeld ?_
        rotate_left
        · intro w' hSw; go_simp; try with_reducible rfl
        try simp only [Act.put, List.setIfInBounds_toArray, List.set_cons_zero, List.set_cons_succ]
        refine wpAnyH_take (i := 17) (v := ?_) (List.getElem?_toArray.trans rfl) (by kernel_rfl) (by kernel_rfl) (by kernel_rfl) (fun _ _ _ h => h) (Or.inl ⟨by rfl, ?_⟩) hHeld ?_
        rotate_left
        · intro w' hSw; go_simp; try with_reducible rfl
        try simp only [Act.put, List.setIfInBounds_toArray, List.set_cons_zero, List.set_cons_succ]
        refine wpAnyH_take (i := 22) (v := ?_) (List.getElem?_toArray.trans rfl) (by kernel_rfl) (by kernel_rfl) (by kernel_rfl) (fun _ _ _ h => h) (Or.inl ⟨by rfl, ?_⟩) hHeld ?_
        rotate_left
        · intro w' hSw; go_simp; try with_reducible rfl
        try simp only [Act.put, List.setIfInBounds_toArray, List.set_cons_zero, List.set_cons_succ]
        refine wpAnyH_take (i := 23) (v := ?_) (List.getElem?_toArray.trans rfl) (by kernel_rfl) (by kernel_rfl) (by kernel_rfl) (fun _ _ _ h => h) (Or.inl ⟨by rfl, ?_⟩) hHeld ?_
        rotate_left
        · intro w' hSw; go_simp; try with_reducible rfl
        try simp only [Act.put, List.setIfInBounds_toArray, List.set_cons_zero, List.set_cons_succ]
        refine wpAnyH_take (i := 24) (v := ?_) (List.getElem?_toArray.trans rfl) (by kernel_rfl) (by kernel_rfl) (by kernel_rfl) (fun _ _ _ h => h) (Or.inl ⟨by rfl, ?_⟩) hHeld ?_
        rotate_left
        · intro w' hSw; go_simp; try with_reducible rfl
        try simp only [Act.put, List.setIfInBounds_toArray, List.set_cons_zero, List.set_cons_succ]
        refine wpAnyH_take (i := 25) (v := ?_) (List.getElem?_toArray.trans rfl) (by kernel_rfl) (by kernel_rfl) (by kernel_rfl) (fun _ _ _ h => h) (Or.inl ⟨by rfl, ?_⟩) hHeld ?_
        rotate_left
        · intro w' hSw; go_simp; try with_reducible rfl
        try simp only [Act.put, List.setIfInBounds_toArray, List.set_cons_zero, List.set_cons_succ]
        refine wpAnyH_take (i := 26) (v := ?_) (List.getElem?_toArray.trans rfl) (by kernel_rfl) (by kernel_rfl) (by kernel_rfl) (fun _ _ _ h => h) (Or.inl ⟨by rfl, ?_⟩) hHeld ?_
        rotate_left
        · intro w' hSw; go_simp; try with_reducible rfl
        try simp only [Act.put, List.setIfInBounds_toArray, List.set_cons_zero, List.set_cons_succ]
        refine wpAnyH_take (i := 27) (v := ?_) (List.getElem?_toArray.trans rfl) (by kernel_rfl) (by kernel_rfl) (by kernel_rfl) (fun _ _ _ h => h) (Or.inl ⟨by rfl, ?_⟩) hHeld ?_
        rotate_left
        · intro w' hSw; go_simp; try with_reducible rfl
        try simp only [Act.put, List.setIfInBounds_toArray, List.set_cons_zero, List.set_cons_succ]
        refine wpAnyH_take (i := 28) (v := ?_) (List.getElem?_toArray.trans rfl) (by kernel_rfl) (by kernel_rfl) (by kernel_rfl) (fun _ _ _ h => h) (Or.inl ⟨by rfl, ?_⟩) hHeld ?_
        rotate_left
        · intro w' hSw; go_simp; try with_reducible rfl
        try simp only [Act.put, List.setIfInBounds_toArray, List.set_cons_zero, List.set_cons_succ]
        refine wpAnyH_take (i := 29) (v := ?_) (List.getElem?_toArray.trans rfl) (by kernel_rfl) (by kernel_rfl) (by kernel_rfl) (fun _ _ _ h => h) (Or.inl ⟨by rfl, ?_⟩) hHeld ?_
        rotate_left
        · intro w' hSw; go_simp; try with_reducible rfl
        try simp only [Act.put, List.setIfInBounds_toArray, List.set_cons_zero, List.set_cons_succ]
        refine wpAnyH_take (i := 30) (v := ?_) (List.getElem?_toArray.trans rfl) (by kernel_rfl) (by kernel_rfl) (by kernel_rfl) (fun _ _ _ h => h) (Or.inl ⟨by rfl, ?_⟩) hHeld ?_
        rotate_left
        · intro w' hSw; go_simp; try with_reducible rfl
        try simp only [Act.put, List.setIfInBounds_toArray, List.set_cons_zero, List.set_cons_succ]
        refine wpAnyH_take (i := 31) (v := ?_) (List.getElem?_toArray.trans rfl) (by kernel_rfl) (by kernel_rfl) (by kernel_rfl) (fun _ _ _ h => h) (Or.inl ⟨by rfl, ?_⟩) hHeld ?_
        rotate_left
        · intro w' hSw; go_simp; try with_reducible rfl
        try simp only [Act.put, List.setIfInBounds_toArray, List.set_cons_zero, List.set_cons_succ]
        refine wpAnyH_take (i := 32) (v := ?_) (List.getElem?_toArray.trans rfl) (by kernel_rfl) (by kernel_rfl) (by kernel_rfl) (fun _ _ _ h => h) (Or.inl ⟨by rfl, ?_⟩) hHeld ?_
        rotate_left
        · intro w' hSw; go_simp; try with_reducible rfl
        try simp only [Act.put, List.setIfInBounds_toArray, List.set_cons_zero, List.set_cons_succ]
        refine wpAnyH_take (i := 33) (v := ?_) (List.getElem?_toArray.trans rfl) (by kernel_rfl) (by kernel_rfl) (by kernel_rfl) (fun _ _ _ h => h) (Or.inl ⟨by rfl, ?_⟩) hHeld ?_
        rotate_left
        · intro w' hSw; go_simp; try with_reducible rfl
        try simp only [Act.put, List.setIfInBounds_toArray, List.set_cons_zero, List.set_cons_succ]
        refine wpAnyH_take (i := 36) (v := ?_) (List.getElem?_toArray.trans rfl) (by kernel_rfl) (by kernel_rfl) (by kernel_rfl) (fun _ _ _ h => h) (Or.inl ⟨by rfl, ?_⟩) hHeld ?_
        rotate_left
        · intro w' hSw; go_simp; try with_reducible rfl
        try simp only [Act.put, List.setIfInBounds_toArray, List.set_cons_zero, List.set_cons_succ]
        refine wpAnyH_ready (rs := [9]) (by kernel_rfl) (by simp) ?_
        refine AllReadyH.cons (List.getElem?_toArray.trans rfl) (fun K hK => ?_) AllReadyH.nil
        go_simp
        go_at_call 20
        (with_reducible refine (HB.out _).mono ?_)
        rintro e u1 ⟨rfl, gN⟩
        have gg := gb_trans gg gN
        have hS := gb_trans hS gN
        refine hK.out _ _ hS (fun hHeld => ?_)
        clear hK K
        try simp only [Act.put, List.setIfInBounds_toArray, List.set_cons_zero, List.set_cons_succ]
        refine wpAnyH_take (i := 11) (v := ?_) (List.getElem?_toArray.trans rfl) (by kernel_rfl) (by kernel_rfl) (by kernel_rfl) (fun _ _ _ h => h) (Or.inl ⟨by rfl, ?_⟩) hHeld ?_
        rotate_left
        · intro w' hSw; go_simp; try with_reducible rfl
        try simp only [Act.put, List.setIfInBounds_toArray, List.set_cons_zero, List.set_cons_succ]
        refine wpAnyH_ready (rs := [18]) (by kernel_rfl) (by simp) ?_
        refine AllReadyH.cons (List.getElem?_toArray.trans rfl) (fun K hK => ?_) AllReadyH.nil
        go_simp
        go_at_call 20
        (with_reducible refine (HB.out _).mono ?_)
        rintro e u2 ⟨rfl, gN⟩
        have gg := gb_trans gg gN
        have hS := gb_trans hS gN
        refine hK.out _ _ hS (fun hHeld => ?_)
        clear hK K
        try simp only [Act.put, List.setIfInBounds_toArray, List.set_cons_zero, List.set_cons_succ]
        refine wpAnyH_take (i := 19) (v := ?_) (List.getElem?_toArray.trans rfl) (by kernel_rfl) (by kernel_rfl) (by kernel_rfl) (fun _ _ _ h => h) (Or.inl ⟨by rfl, ?_⟩) hHeld ?_
        rotate_left
        · intro w' hSw; go_simp; try with_reducible rfl
        try simp only [Act.put, List.setIfInBounds_toArray, List.set_cons_zero, List.set_cons_succ]
        refine wpAnyH_ready (rs := [20]) (by kernel_rfl) (by simp) ?_
        refine AllReadyH.cons (List.getElem?_toArray.trans rfl) (fun K hK => ?_) AllReadyH.nil
        go_simp
        go_at_call 20
        (with_reducible refine (HB.out _).mono ?_)
        rintro e u3 ⟨rfl, gN⟩
        have gg := gb_trans gg gN
        have hS := gb_trans hS gN
        refine hK.out _ _ hS (fun hHeld => ?_)
        clear hK K
        try simp only [Act.put, List.setIfInBounds_toArray, List.set_cons_zero, List.set_cons_succ]
        refine wpAnyH_take (i := 21) (v := ?_) (List.getElem?_toArray.trans rfl) (by kernel_rfl) (by kernel_rfl) (by kernel_rfl) (fun _ _ _ h => h) (Or.inl ⟨by rfl, ?_⟩) hHeld ?_
        rotate_left
        · intro w' hSw; go_simp; try with_reducible rfl
        try simp only [Act.put, List.setIfInBounds_toArray, List.set_cons_zero, List.set_cons_succ]
        refine wpAnyH_ready (rs := [34]) (by kernel_rfl) (by simp) ?_
        refine AllReadyH.cons (List.getElem?_toArray.trans rfl) (fun K hK => ?_) AllReadyH.nil
        go_simp
        have hb := Blk.mk u3 57 #[.string four, .string five, .int .u64 5, .int .i64 1, .int .i64 0, .string five, .string four, .int .u64 5, .int .i64 0, .int .i64 0, .string five, .string same, .int .u64 5, .int .i64 0, .int .i64 0, .string Z, .string four, .int .u64 4, .int .i64 1, .int .i64 0, .string ⟨#[120]⟩, .string four, .int .u64 4, .int .i64 1, .int .i64 0, .string four, .string cu, .int .u64 4, .int .i64 0, .int .i64 0, .string Z, .string ⟨#[]⟩, .int .u64 0, .int .i64 (-1), .int .i64 9, .string ⟨#[]⟩, .string Z, .int .u64 0, .int .i64 (-1), .int .i64 9, .string ⟨#[]⟩, .string ⟨#[120]⟩, .int .u64 0, .int .i64 (-1), .int .i64 29, .string m1, .string m2, .int .u64 0, .int .i64 (-1), .int .i64 29]
        have ga := gb_alloc u3 (.cells #[.string four, .string five, .int .u64 5, .int .i64 1, .int .i64 0, .string five, .string four, .int .u64 5, .int .i64 0, .int .i64 0, .string five, .string same, .int .u64 5, .int .i64 0, .int .i64 0, .string Z, .string four, .int .u64 4, .int .i64 1, .int .i64 0, .string ⟨#[120]⟩, .string four, .int .u64 4, .int .i64 1, .int .i64 0, .string four, .string cu, .int .u64 4, .int .i64 0, .int .i64 0, .string Z, .string ⟨#[]⟩, .int .u64 0, .int .i64 (-1), .int .i64 9, .string ⟨#[]⟩, .string Z, .int .u64 0, .int .i64 (-1), .int .i64 9, .string ⟨#[]⟩, .string ⟨#[120]⟩, .int .u64 0, .int .i64 (-1), .int .i64 29, .string m1, .string m2, .int .u64 0, .int .i64 (-1), .int .i64 29] 57) none
        have gg := gb_trans gg ga
        have hS := gb_trans hS ga
        generalize u3.alloc (.cells #[.string four, .string five, .int .u64 5, .int .i64 1, .int .i64 0, .string five, .string four, .int .u64 5, .int .i64 0, .int .i64 0, .string five, .string same, .int .u64 5, .int .i64 0, .int .i64 0, .string Z, .string four, .int .u64 4, .int .i64 1, .int .i64 0, .string ⟨#[120]⟩, .string four, .int .u64 4, .int .i64 1, .int .i64 0, .string four, .string cu, .int .u64 4, .int .i64 0, .int .i64 0, .string Z, .string ⟨#[]⟩, .int .u64 0, .int .i64 (-1), .int .i64 9, .string ⟨#[]⟩, .string Z, .int .u64 0, .int .i64 (-1), .int .i64 9, .string ⟨#[]⟩, .string ⟨#[120]⟩, .int .u64 0, .int .i64 (-1), .int .i64 29, .string m1, .string m2, .int .u64 0, .int .i64 (-1), .int .i64 29] 57) = u4 at hb gg hS ⊢
        generalize u3.heap.size = bl2 at hb ⊢
        clear ga
        refine hK.out _ _ hS (fun hHeld => ?_)
        clear hK K
        try simp only [Act.put, List.setIfInBounds_toArray, List.set_cons_zero, List.set_cons_succ]
        refine wpAnyH_take (i := 35) (v := ?_) (List.getElem?_toArray.trans rfl) (by kernel_rfl) (by kernel_rfl) (by kernel_rfl) (fun _ _ _ h => h) (Or.inl ⟨by rfl, ?_⟩) hHeld ?_
        rotate_left
        · intro w' hSw; go_simp; try with_reducible rfl
        try simp only [Act.put, List.setIfInBounds_toArray, List.set_cons_zero, List.set_cons_succ]
        refine wpAnyH_done (by kernel_rfl) ?_ _
        refine NoPanic.normal ?_
        exact key16 bl2 _ hb gg
      intro bl2 W p0 p2 p4 p5 p6 p7 p8 p9 p10 p11 p12 p13 p14 p15 p16 p17 p18 p19 p20 p21 p22 p23 p24 p25 p26 p27 p28 p29 p30 p31 p32 p33 p34 p35 p36 p37 p38 p39 p40 p41 p42 p43 p44 p45 p46 p47 p48 p49 p50 p51 p52 p53 p54 p55 p56 p57 p58 p59 p60 p61 p62 p63 p64 p65 p66 p67 p68 p69 p70 p71 p72 p73 p74 p75 p76 p77 p78 p79 p80 p81 p82 p83 p84 p85 p86 p87 p88 p89 p90 p91 p92 p93 p94 p95 p96 p97 p98 p99 p100 p101 p102 p103 p104 p105 p106 p107 p108 p109 p110 p111 p112 p113 p114 p115 p116 p117 p118 p119 p120 p121 p122 p123 p124 p125 p129 p130 p131 p132 p133 p134 p135 p136 p137 p138 p139 p140 p141 p142 p143 p144 p145 p146 p147 p148 p149 p150 p151 p152 p153 p154 p155 p156 p157 p158 p159 p160 p161 p162 p163 p164 p165 p166 p167 p168 p169 p170 p171 p172 p173 p174 p175 p176 p177 p178 p179 p180 p181 p182 p183 p184 p185 p186 p187 p188 p189 p190 p191 p192 p193 p194 p195 p196 p197 hb gg
      refine HK16.out _ _ ?_
      have HLN := Lib.hid (show (rowsK four five same Z cu m1 m2).length = 10 from rfl)
      obtain ⟨L, hL⟩ : ∃ L, rowsK four five same Z cu m1 m2 = L := ⟨_, rfl⟩
      rw [hL] at hb HPI HLN
      clear hL kA kB kC kD kE q1 q2 hm1 hm2
      go_wp2
      go_loopw [128] (fun v wr => ∃ i : Nat, i ≤ 10 ∧ v = .int .i64 i ∧ Blk wr bl2 57 (L.flatMap rowC).toArray ∧ w.grownBy wr none) (fun v _ => 11 - (intOf v).toNat)
      case atStart => exact ⟨0, by omega, rfl, hb, gg⟩
      case round =>
        obtain ⟨i, hi, rfl, hb, gg⟩ := hrel
        by_cases hlt : i < 10
        · have hr := rows_range L HLN.out hb i hlt
          obtain ⟨r, hrl, hp, hre⟩ := HPI.out i hlt
          generalize L.getD i (⟨#[]⟩, ⟨#[]⟩, 0, 0, 0) = row at hr hp hre
          obtain ⟨a, b, ep, wh, er⟩ := row
          have HPk := Lib.hid (fun W (g : w.grownBy W none) => pick_any a b W (HPl.out.keep0 g))
          rw [show pickF a.data.toList b.data.toList = (r, wh, er) from hp] at HPk
          unfold PickGot RV at HPk
          have HRL := Lib.hid hrl
          have HRE := Lib.hid (show r.e = ep from hre)
          have HR := Lib.hid hr
          clear hr hrl hp hre
          go_wp2_with (first
            | (refine wpList_load_mid rfl 57 (.tmp 131) rfl bl2 (i * 5) ?hx (rowC (a, b, ep, wh, er)) _ HR.out Tryd.underlying57 rfl (row_info a b ep wh er) ?_; case hx => (go_simp; try with_reducible rfl))
            | ((with_reducible refine st57 12 132 a b ep wh er ?_ ?_ ?_); rfl; rfl; have hb := Blk.keep0 hb (gb_alloc wr (.cells (rowC (a, b, ep, wh, er)).toArray 57) none); have d0 := Blk.cell (Blk.mk wr 57 (rowC (a, b, ep, wh, er)).toArray) 0 (v := .string a) rfl; have d1 := Blk.cell (Blk.mk wr 57 (rowC (a, b, ep, wh, er)).toArray) 1 (v := .string b) rfl; have d2 := Blk.cell (Blk.mk wr 57 (rowC (a, b, ep, wh, er)).toArray) 2 (v := .int .u64 (ep : Nat)) rfl; have d3 := Blk.cell (Blk.mk wr 57 (rowC (a, b, ep, wh, er)).toArray) 3 (v := .int .i64 wh) rfl; have d4 := Blk.cell (Blk.mk wr 57 (rowC (a, b, ep, wh, er)).toArray) 4 (v := .int .i64 (er : Nat)) rfl; have gg := gb_trans gg (gb_alloc wr (.cells (rowC (a, b, ep, wh, er)).toArray 57) none); generalize wr.alloc (.cells (rowC (a, b, ep, wh, er)).toArray 57) = v1 at hb d0 d1 d2 d3 d4 gg ⊢)
            | (go_at_call 18; (with_reducible refine (HPk.out _ gg).mono ?_); rintro e v2 ⟨rfl, g2⟩; have hb := Blk.keep0 hb g2; have d0 := g2.cell d0 (by simp); have d1 := g2.cell d1 (by simp); have d2 := g2.cell d2 (by simp); have d3 := g2.cell d3 (by simp); have d4 := g2.cell d4 (by simp); have gg := gb_trans gg g2;)
            | ((with_reducible refine stN 13 139 r HRL.out ?_ ?_ ?_); rfl; rfl; have q13 : RB (v2.alloc (.cells (rootC r).toArray 25)) v2.heap.size r := Blk.mk v2 _ _; have hb := Blk.keep0 hb (gb_alloc v2 (.cells (rootC r).toArray 25) none); have d0 := (gb_alloc v2 (.cells (rootC r).toArray 25) none).cell d0 (by simp); have d1 := (gb_alloc v2 (.cells (rootC r).toArray 25) none).cell d1 (by simp); have d2 := (gb_alloc v2 (.cells (rootC r).toArray 25) none).cell d2 (by simp); have d3 := (gb_alloc v2 (.cells (rootC r).toArray 25) none).cell d3 (by simp); have d4 := (gb_alloc v2 (.cells (rootC r).toArray 25) none).cell d4 (by simp); have gg := gb_trans gg (gb_alloc v2 (.cells (rootC r).toArray 25) none); generalize v2.alloc (.cells (rootC r).toArray 25) = v3 at hb d0 d1 d2 d3 d4 q13 gg ⊢; have e13 := q13.epoch; rw [HRE.out] at e13)
            | fail)
          go_roundw
          case rel => exact ⟨i + 1, by omega, by go_num, hb, gg⟩
          case measure => simp [intOf]; omega
        · obtain rfl : i = 10 := by omega
          clear hb
          obtain ⟨kF, kG, ho1, ho2, ho3⟩ := HO1.out
          obtain ⟨y3, z5⟩ := HO2.out
          have q3 : ¬ 9223372036854775807 < b3.size + 1 := by omega
          have q4 : o1.size = b3.size + 1 := by rw [← ho1, ByteArray.size_append]; rfl
          have q5 : ¬ 9223372036854775807 < o1.size + a5.size := by omega
          have q6 : ¬ 9223372036854775807 < four.size + 1 := by omega
          have HGo := Lib.hid (fun W (g : w.grownBy W none) => get_any o2 W (HPl.out.keep0 g))
          have HGl := Lib.hid (fun W (g : w.grownBy W none) => get_any o3 W (HPl.out.keep0 g))
          rw [HO.out.1] at HGo
          rw [HO.out.2] at HGl
          unfold RootGot RV at HGo HGl
          have HNx := Lib.hid (fun W => next_top W)
          have HNL := Lib.hid (show (nextR topR).cs.length = 8 from rfl)
          clear q4 y3 z5
          go_wp2
          rename_i K23 hK23
          have HK23 := Lib.hid hK23
          clear hK23
          suffices key23 : ∀ (W : World) {p0 p2 p3 p4 p5 p6 p7 p8 p9 p10 p11 p12 p13 p14 p15 p16 p18 p19 p20 p21 p22 p23 p24 p25 p26 p27 p28 p29 p30 p31 p32 p33 p34 p35 p36 p37 p38 p39 p40 p41 p42 p43 p44 p45 p46 p47 p48 p49 p50 p51 p52 p53 p54 p55 p56 p57 p58 p59 p60 p61 p62 p63 p64 p65 p66 p67 p68 p69 p70 p71 p72 p73 p74 p75 p76 p77 p78 p79 p80 p81 p82 p83 p84 p85 p86 p87 p88 p89 p90 p91 p92 p93 p94 p95 p96 p97 p98 p99 p100 p101 p102 p103 p104 p105 p106 p107 p108 p109 p110 p111 p112 p113 p114 p115 p116 p117 p118 p119 p120 p121 p122 p123 p124 p125 p126 p127 p128 p129 p130 p131 p132 p133 p134 p135 p136 p137 p138 p139 p140 p141 p142 p143 p144 p145 p146 p147 p148 p149 p150 p151 p152 p153 p154 p155 p156 p157 p158 p159 p160 p161 p162 p163 p164 p165 p166 p167 p168 p169 p170 p171 p172 p173 p174 p175 p176 p177 p178 p179 p180 p181 p182 p183 p184 p185 p186 p187 p188 p189 p190 p191 p192 p193 p194 p195 p196 p197 : Value}, w.grownBy W none → K23 ⟨#[p0, .string four, p2, p3, p4, p5, p6, p7, p8, p9, p10, p11, p12, p13, p14, p15, p16, .int .i64 5, p18, p19, p20, p21, p22, p23, p24, p25, p26, p27, p28, p29, p30, p31, p32, p33, p34, p35, p36, p37, p38, p39, p40, p41, p42, p43, p44, p45, p46, p47, p48, p49, p50, p51, p52, p53, p54, p55, p56, p57, p58, p59, p60, p61, p62, p63, p64, p65, p66, p67, p68, p69, p70, p71, p72, p73, p74, p75, p76, p77, p78, p79, p80, p81, p82, p83, p84, p85, p86, p87, p88, p89, p90, p91, p92, p93, p94, p95, p96, p97, p98, p99, p100, p101, p102, p103, p104, p105, p106, p107, p108, p109, p110, p111, p112, p113, p114, p115, p116, p117, p118, p119, p120, p121, p122, p123, p124, p125, p126, p127, p128, p129, p130, p131, p132, p133, p134, p135, p136, p137, p138, p139, p140, p141, p142, p143, p144, p145, p146, p147, p148, p149, p150, p151, p152, p153, p154, p155, p156, p157, p158, p159, p160, p161, p162, p163, p164, p165, p166, p167, p168, p169, p170, p171, p172, p173, p174, p175, p176, p177, p178, p179, p180, p181, p182, p183, p184, p185, p186, p187, p188, p189, p190, p191, p192, p193, p194, p195, p196, p197], []⟩ W by
            refine wp_region_noPanic ?_
            refine wp_region_held_drew (S := fun w' => (wr).grownBy w' none) (by kernel_rfl) (gb_drew _ _) (fun hHeld => ?_)
            have hS := gb_drew (wr) none
            have gg := gb_trans gg (gb_drew (wr) none)
            generalize (wr).drew = u0 at  gg hS hHeld ⊢
            refine wpAnyH_take (i := 0) (v := ?_) (List.getElem?_toArray.trans rfl) (by kernel_rfl) (by kernel_rfl) (by kernel_rfl) (fun _ _ _ h => h) (Or.inl ⟨by rfl, ?_⟩) hHeld ?_
            rotate_left
            · intro w' hSw; go_simp; try with_reducible rfl
            try simp only [Act.put, List.setIfInBounds_toArray, List.set_cons_zero, List.set_cons_succ]
            refine wpAnyH_take (i := 1) (v := ?_) (List.getElem?_toArray.trans rfl) (by kernel_rfl) (by kernel_rfl) (by kernel_rfl) (fun _ _ _ h => h) (Or.inl ⟨by rfl, ?_⟩) hHeld ?_
            rotate_left
            · intro w' hSw; go_simp; try with_reducible rfl
            try simp only [Act.put, List.setIfInBounds_toArray, List.set_cons_zero, List.set_cons_succ]
            refine wpAnyH_take (i := 2) (v := ?_) (List.getElem?_toArray.trans rfl) (by kernel_rfl) (by kernel_rfl) (by kernel_rfl) (fun _ _ _ h => h) (Or.inl ⟨by rfl, ?_⟩) hHeld ?_
            rotate_left
            · intro w' hSw; go_simp; try with_reducible rfl
            try simp only [Act.put, List.setIfInBounds_toArray, List.set_cons_zero, List.set_cons_succ]
            refine wpAnyH_take (i := 3) (v := ?_) (List.getElem?_toArray.trans rfl) (by kernel_rfl) (by kernel_rfl) (by kernel_rfl) (fun _ _ _ h => h) (Or.inl ⟨by rfl, ?_⟩) hHeld ?_
            rotate_left
            · intro w' hSw; go_simp; try with_reducible rfl
            try simp only [Act.put, List.setIfInBounds_toArray, List.set_cons_zero, List.set_cons_succ]
            refine wpAnyH_take (i := 4) (v := ?_) (List.getElem?_toArray.trans rfl) (by kernel_rfl) (by kernel_rfl) (by kernel_rfl) (fun _ _ _ h => h) (Or.inl ⟨by rfl, ?_⟩) hHeld ?_
            rotate_left
            · intro w' hSw; go_simp; try with_reducible rfl
            try simp only [Act.put, List.setIfInBounds_toArray, List.set_cons_zero, List.set_cons_succ]
            refine wpAnyH_take (i := 5) (v := ?_) (List.getElem?_toArray.trans rfl) (by kernel_rfl) (by kernel_rfl) (by kernel_rfl) (fun _ _ _ h => h) (Or.inl ⟨by rfl, ?_⟩) hHeld ?_
            rotate_left
            · intro w' hSw; go_simp; try with_reducible rfl
            try simp only [Act.put, List.setIfInBounds_toArray, List.set_cons_zero, List.set_cons_succ]
            refine wpAnyH_ready (rs := [6, 10]) (by kernel_rfl) (by simp) ?_
            refine AllReadyH.cons (List.getElem?_toArray.trans rfl) (fun K hK => ?_) (AllReadyH.cons (List.getElem?_toArray.trans rfl) (fun K hK => ?_) AllReadyH.nil)
            · skip
              go_simp
              go_at_call 14
              (with_reducible refine (HGo.out _ gg).mono ?_)
              rintro e u1 ⟨rfl, gN⟩
              have gg := gb_trans gg gN
              have hS := gb_trans hS gN
              refine hK.out _ _ hS (fun hHeld => ?_)
              clear hK K
              try simp only [Act.put, List.setIfInBounds_toArray, List.set_cons_zero, List.set_cons_succ]
              refine wpAnyH_take (i := 7) (v := ?_) (List.getElem?_toArray.trans rfl) (by kernel_rfl) (by kernel_rfl) (by kernel_rfl) (fun _ _ _ h => h) (Or.inl ⟨by rfl, ?_⟩) hHeld ?_
              rotate_left
              · intro w' hSw; go_simp; try with_reducible rfl
              try simp only [Act.put, List.setIfInBounds_toArray, List.set_cons_zero, List.set_cons_succ]
              refine wpAnyH_take (i := 8) (v := ?_) (List.getElem?_toArray.trans rfl) (by kernel_rfl) (by kernel_rfl) (by kernel_rfl) (fun _ _ _ h => h) (Or.inl ⟨by rfl, ?_⟩) hHeld ?_
              rotate_left
              · intro w' hSw; go_simp; try with_reducible rfl
              try simp only [Act.put, List.setIfInBounds_toArray, List.set_cons_zero, List.set_cons_succ]
              refine wpAnyH_take (i := 9) (v := ?_) (List.getElem?_toArray.trans rfl) (by kernel_rfl) (by kernel_rfl) (by kernel_rfl) (fun _ _ _ h => h) (Or.inl ⟨by rfl, ?_⟩) hHeld ?_
              rotate_left
              · intro w' hSw; go_simp; try with_reducible rfl
              try simp only [Act.put, List.setIfInBounds_toArray, List.set_cons_zero, List.set_cons_succ]
              refine wpAnyH_ready (rs := [10]) (by kernel_rfl) (by simp) ?_
              refine AllReadyH.cons (List.getElem?_toArray.trans rfl) (fun K hK => ?_) AllReadyH.nil
              go_simp
              have r16 : RB (u1.alloc (.cells #[.int .u64 0, .int .i64 0, .int .i64 0, .int .i64 0, .int .i64 0, .int .i64 0, .int .i64 0, .int .i64 0, .int .i64 0, .int .i64 0] 25)) u1.heap.size zeroR := Blk.mk u1 25 (rootC zeroR).toArray
              have l_r16 := gg.size
              have ls_r16 := hS.size
              have gg := gb_trans gg (gb_alloc u1 (.cells #[.int .u64 0, .int .i64 0, .int .i64 0, .int .i64 0, .int .i64 0, .int .i64 0, .int .i64 0, .int .i64 0, .int .i64 0, .int .i64 0] 25) none)
              have hS := gb_trans hS (gb_alloc u1 (.cells #[.int .u64 0, .int .i64 0, .int .i64 0, .int .i64 0, .int .i64 0, .int .i64 0, .int .i64 0, .int .i64 0, .int .i64 0, .int .i64 0] 25) none)
              generalize u1.alloc (.cells #[.int .u64 0, .int .i64 0, .int .i64 0, .int .i64 0, .int .i64 0, .int .i64 0, .int .i64 0, .int .i64 0, .int .i64 0, .int .i64 0] 25) = u2 at r16 gg hS ⊢
              refine hK.out _ _ hS (fun hHeld => ?_)
              clear hK K
              try simp only [Act.put, List.setIfInBounds_toArray, List.set_cons_zero, List.set_cons_succ]
              refine wpAnyH_ready (rs := [11]) (by kernel_rfl) (by simp) ?_
              refine AllReadyH.cons (List.getElem?_toArray.trans rfl) (fun K hK => ?_) AllReadyH.nil
              with_reducible refine stR 16 170 (u1.heap.size) zeroR zeroR zero_len zero_len r16 ?hx ?hy ?_
              case hx => rfl
              case hy => rfl
              have r16 := set_root r16 zeroR
              have gg := gb_step gg (gb_setRow u2 (u1.heap.size) (rootC zeroR).toArray) l_r16
              have hS := gb_step hS (gb_setRow u2 (u1.heap.size) (rootC zeroR).toArray) ls_r16
              generalize u2.setRow (u1.heap.size) (rootC zeroR).toArray = u3 at r16 gg hS ⊢
              refine hK.out _ _ hS (fun hHeld => ?_)
              clear hK K
              try simp only [Act.put, List.setIfInBounds_toArray, List.set_cons_zero, List.set_cons_succ]
              refine wpAnyH_take (i := 12) (v := ?_) (List.getElem?_toArray.trans rfl) (by kernel_rfl) (by kernel_rfl) (by kernel_rfl) (fun _ _ _ h => h) (Or.inl ⟨by rfl, ?_⟩) hHeld ?_
              rotate_left
              · intro w' hSw; go_simp; try with_reducible rfl
              try simp only [Act.put, List.setIfInBounds_toArray, List.set_cons_zero, List.set_cons_succ]
              refine wpAnyH_done (by kernel_rfl) ?_ _
              refine NoPanic.normal ?_
              exact key23 _ gg
            · skip
              go_simp
              have r16 : RB (u0.alloc (.cells #[.int .u64 0, .int .i64 0, .int .i64 0, .int .i64 0, .int .i64 0, .int .i64 0, .int .i64 0, .int .i64 0, .int .i64 0, .int .i64 0] 25)) u0.heap.size zeroR := Blk.mk u0 25 (rootC zeroR).toArray
              have l_r16 := gg.size
              have ls_r16 := hS.size
              have gg := gb_trans gg (gb_alloc u0 (.cells #[.int .u64 0, .int .i64 0, .int .i64 0, .int .i64 0, .int .i64 0, .int .i64 0, .int .i64 0, .int .i64 0, .int .i64 0, .int .i64 0] 25) none)
              have hS := gb_trans hS (gb_alloc u0 (.cells #[.int .u64 0, .int .i64 0, .int .i64 0, .int .i64 0, .int .i64 0, .int .i64 0, .int .i64 0, .int .i64 0, .int .i64 0, .int .i64 0] 25) none)
              generalize u0.alloc (.cells #[.int .u64 0, .int .i64 0, .int .i64 0, .int .i64 0, .int .i64 0, .int .i64 0, .int .i64 0, .int .i64 0, .int .i64 0, .int .i64 0] 25) = u4 at r16 gg hS ⊢
              refine hK.out _ _ hS (fun hHeld => ?_)
              clear hK K
              try simp only [Act.put, List.setIfInBounds_toArray, List.set_cons_zero, List.set_cons_succ]
              refine wpAnyH_ready (rs := [6]) (by kernel_rfl) (by simp) ?_
              refine AllReadyH.cons (List.getElem?_toArray.trans rfl) (fun K hK => ?_) AllReadyH.nil
              go_simp
              go_at_call 14
              (with_reducible refine (HGo.out _ gg).mono ?_)
              rintro e u5 ⟨rfl, gN⟩
              have r16 := RB.keep0 r16 gN
              have gg := gb_trans gg gN
              have hS := gb_trans hS gN
              refine hK.out _ _ hS (fun hHeld => ?_)
              clear hK K
              try simp only [Act.put, List.setIfInBounds_toArray, List.set_cons_zero, List.set_cons_succ]
              refine wpAnyH_take (i := 7) (v := ?_) (List.getElem?_toArray.trans rfl) (by kernel_rfl) (by kernel_rfl) (by kernel_rfl) (fun _ _ _ h => h) (Or.inl ⟨by rfl, ?_⟩) hHeld ?_
              rotate_left
              · intro w' hSw; go_simp; try with_reducible rfl
              try simp only [Act.put, List.setIfInBounds_toArray, List.set_cons_zero, List.set_cons_succ]
              refine wpAnyH_take (i := 8) (v := ?_) (List.getElem?_toArray.trans rfl) (by kernel_rfl) (by kernel_rfl) (by kernel_rfl) (fun _ _ _ h => h) (Or.inl ⟨by rfl, ?_⟩) hHeld ?_
              rotate_left
              · intro w' hSw; go_simp; try with_reducible rfl
              try simp only [Act.put, List.setIfInBounds_toArray, List.set_cons_zero, List.set_cons_succ]
              refine wpAnyH_take (i := 9) (v := ?_) (List.getElem?_toArray.trans rfl) (by kernel_rfl) (by kernel_rfl) (by kernel_rfl) (fun _ _ _ h => h) (Or.inl ⟨by rfl, ?_⟩) hHeld ?_
              rotate_left
              · intro w' hSw; go_simp; try with_reducible rfl
              try simp only [Act.put, List.setIfInBounds_toArray, List.set_cons_zero, List.set_cons_succ]
              refine wpAnyH_ready (rs := [11]) (by kernel_rfl) (by simp) ?_
              refine AllReadyH.cons (List.getElem?_toArray.trans rfl) (fun K hK => ?_) AllReadyH.nil
              with_reducible refine stR 16 170 (u0.heap.size) zeroR zeroR zero_len zero_len r16 ?hx ?hy ?_
              case hx => rfl
              case hy => rfl
              have r16 := set_root r16 zeroR
              have gg := gb_step gg (gb_setRow u5 (u0.heap.size) (rootC zeroR).toArray) l_r16
              have hS := gb_step hS (gb_setRow u5 (u0.heap.size) (rootC zeroR).toArray) ls_r16
              generalize u5.setRow (u0.heap.size) (rootC zeroR).toArray = u6 at r16 gg hS ⊢
              refine hK.out _ _ hS (fun hHeld => ?_)
              clear hK K
              try simp only [Act.put, List.setIfInBounds_toArray, List.set_cons_zero, List.set_cons_succ]
              refine wpAnyH_take (i := 12) (v := ?_) (List.getElem?_toArray.trans rfl) (by kernel_rfl) (by kernel_rfl) (by kernel_rfl) (fun _ _ _ h => h) (Or.inl ⟨by rfl, ?_⟩) hHeld ?_
              rotate_left
              · intro w' hSw; go_simp; try with_reducible rfl
              try simp only [Act.put, List.setIfInBounds_toArray, List.set_cons_zero, List.set_cons_succ]
              refine wpAnyH_done (by kernel_rfl) ?_ _
              refine NoPanic.normal ?_
              exact key23 _ gg
          intro W p0 p2 p3 p4 p5 p6 p7 p8 p9 p10 p11 p12 p13 p14 p15 p16 p18 p19 p20 p21 p22 p23 p24 p25 p26 p27 p28 p29 p30 p31 p32 p33 p34 p35 p36 p37 p38 p39 p40 p41 p42 p43 p44 p45 p46 p47 p48 p49 p50 p51 p52 p53 p54 p55 p56 p57 p58 p59 p60 p61 p62 p63 p64 p65 p66 p67 p68 p69 p70 p71 p72 p73 p74 p75 p76 p77 p78 p79 p80 p81 p82 p83 p84 p85 p86 p87 p88 p89 p90 p91 p92 p93 p94 p95 p96 p97 p98 p99 p100 p101 p102 p103 p104 p105 p106 p107 p108 p109 p110 p111 p112 p113 p114 p115 p116 p117 p118 p119 p120 p121 p122 p123 p124 p125 p126 p127 p128 p129 p130 p131 p132 p133 p134 p135 p136 p137 p138 p139 p140 p141 p142 p143 p144 p145 p146 p147 p148 p149 p150 p151 p152 p153 p154 p155 p156 p157 p158 p159 p160 p161 p162 p163 p164 p165 p166 p167 p168 p169 p170 p171 p172 p173 p174 p175 p176 p177 p178 p179 p180 p181 p182 p183 p184 p185 p186 p187 p188 p189 p190 p191 p192 p193 p194 p195 p196 p197 gg
          clear kF kG ho1 ho2 q3 q5
          refine HK23.out _ _ ?_
          go_wp2_with (first
            | (go_at_call 14; (with_reducible refine (HGl.out _ gg).mono ?_); rintro e v1 ⟨rfl, g1⟩; have gg := gb_trans gg g1;)
            | ((with_reducible refine stN 18 176 zeroR zero_len ?_ ?_ ?_); rfl; rfl; have q18 : RB (v1.alloc (.cells (rootC zeroR).toArray 25)) v1.heap.size zeroR := Blk.mk v1 _ _; have gg := gb_trans gg (gb_alloc v1 (.cells (rootC zeroR).toArray 25) none); generalize v1.alloc (.cells (rootC zeroR).toArray 25) = v2 at q18 gg ⊢)
            | (go_at_call 12; (with_reducible refine (HNx.out _).mono ?_); rintro e v3 ⟨rfl, g3⟩; have q18 := RB.keep0 q18 g3; have gg := gb_trans gg g3;)
            | ((with_reducible refine stN 20 181 (nextR topR) HNL.out ?_ ?_ ?_); rfl; rfl; have q20 : RB (v3.alloc (.cells (rootC (nextR topR)).toArray 25)) v3.heap.size (nextR topR) := Blk.mk v3 _ _; have q18 := RB.keep0 q18 (gb_alloc v3 (.cells (rootC (nextR topR)).toArray 25) none); have gg := gb_trans gg (gb_alloc v3 (.cells (rootC (nextR topR)).toArray 25) none); generalize v3.alloc (.cells (rootC (nextR topR)).toArray 25) = v4 at q18 q20 gg ⊢; have e20 := q20.epoch; rw [show (nextR topR).e = 0 from rfl] at e20)
            | fail)
          go_ret
          exact ⟨rfl, gg⟩
end Go.Proofs.YtckkbcgolphajaaDoor
