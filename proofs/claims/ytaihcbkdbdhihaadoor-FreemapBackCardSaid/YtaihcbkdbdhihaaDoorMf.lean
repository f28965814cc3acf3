/-
  The map that is read of any bytes, over this seat's translation; conditions: those that each law states.
-/
import Derived.Test.YtaihcbkdbdhihaaDoorMe
import Derived.OrdersHeld
import Derived.Deep.RegionHeld3
import Derived.Deep.WholeRow
namespace Go.Proofs.YtaihcbkdbdhihaaDoor
open Go.RowKit

/-- Which error the document has for a map of n things that these bytes are said to be. -/
def readE (n : Int) (l : List UInt8) : Int := if 1 ≤ n ∧ n ≤ 1024 then (if formOk n.toNat l then 0 else 5) else 2
theorem sameW_form (n : Nat) (l : List UInt8) (hn : n ≤ 1024) (hl : l.length = (n + 7) / 8) : sameW (natOf (usOf n l)) (leN l) = formOk n l := by
  unfold formOk
  rw [decide_eq_true hl, Bool.true_and, Bool.eq_iff_iff, sameW_iff, decide_eq_true_eq]
  constructor
  · intro h
    refine wd_eq (natOf_high (by rw [usOf_length]; exact hn)) (fun i hi => ?_) h
    rw [leN_bit, List.getD_eq_getElem?_getD, List.getElem?_eq_none (by omega)]; simp
  · intro h k _
    rw [h]
theorem exec_load {P : Program} {o : Oper} {a : Act} {w : World} (ty : TypeId) (x : Operand) (ho : o.op = .load ty x)
    (ad : Addr) (hx : a.eval x = .pointer (some ad)) (v : Value) (hr : (loadVar ty ad).run P w = .ok v w) : (execOp a.eval o).run P w = .ok (.value v) w := by
  unfold execOp
  simp only [ho, hx, Instr.loadAt, Instr.sureAddr, Sem.run_bind, Sem.run_pure, Result.andThen_ok, hr]
theorem exec_neq {P : Program} {o : Oper} {a : Act} {w : World} (t t' : TypeId) (x y : Operand) (ho : o.op = .binOp .neq t x y t') (X Y : Array Value) (hx : a.eval x = .agg X) (hy : a.eval y = .agg Y)
    (hm : P.eqGuardType P.depth t = false) (r : Value) (hr : (binOp .neq t (.agg X) (.agg Y)).run P w = .ok r w) : (execOp a.eval o).run P w = .ok (.value r) w := by
  unfold execOp
  simp only [ho, hx, hy, Sem.run_bind, run_eqGuard_agg _ _ _ _ _ _ _ hm, Result.andThen_ok, hr]
  rfl
theorem read_arg (n : Int) (s : ByteArray) (w : World) (h : n < 1 ∨ 1024 < n) (h1 : -9223372036854775808 ≤ n) (h2 : n ≤ 9223372036854775807) :
    Calls Tryd.prog 23 #[.int .i64 n, .string s] w fun e w' => e = .returned (.tuple #[.pointer none, .int .i64 2]) ∧ w = w' := by
  have HN := Lib.hid (fun W => new_no n W h h1 h2)
  clear h
  go_enter Tryd.func23, Tryd.ntmps23
  go_wp2_with (go_at_call 8; (with_reducible refine (HN.out _).mono ?_); rintro e w' ⟨rfl, rfl⟩)
  go_ret2
  exact ⟨rfl, rfl⟩
theorem read_size (n : Nat) (s : ByteArray) (w : World) (h1 : 1 ≤ n) (h2 : n ≤ 1024) (hs : s.size ≠ (n + 7) / 8) :
    Calls Tryd.prog 23 #[.int .i64 (n : Nat), .string s] w fun e w' => e = .returned (.tuple #[.pointer none, .int .i64 5]) ∧ w.grownBy w' none := by
  have HN := Lib.hid (fun W => new_yes n W h1 h2)
  obtain ⟨S, hS⟩ : ∃ S, (n + 7) / 8 = S := ⟨_, rfl⟩
  have HSz := Lib.hid (fun W => by have := sizeFor_any n W (by omega); rw [hS] at this; exact this : ∀ W, Calls Tryd.prog 36 #[.int .i64 (n : Nat)] W fun e w' => e = .returned (.int .i64 (S : Nat)) ∧ W = w')
  have hne : ((s.size : Int) != (S : Int)) = true := by simp; omega
  clear hS
  go_enter Tryd.func23, Tryd.ntmps23
  go_wp2_with (first
    | (go_at_call 8; (with_reducible refine (HN.out _).mono ?_); rintro e w1 ⟨rfl, hP1, g1⟩)
    | (go_at_call 36; (with_reducible refine (HSz.out _).mono ?_); rintro e w' ⟨rfl, rfl⟩))
  go_ret2
  exact ⟨rfl, g1⟩
/-- What is answered beside bytes that are a map's, or none. -/
def ReadGot (w : World) (us : List Bool) (b : Bool) (e : Ending) (w' : World) : Prop :=
  (b = true → e = .returned (.tuple #[.pointer (some ⟨w.heap.size, 0, none⟩), .int .i64 0]) ∧ PM w' w.heap.size us) ∧ (b = false → e = .returned (.tuple #[.pointer none, .int .i64 5])) ∧ w.grownBy w' none
set_option maxHeartbeats 1000000 in
theorem read_whole (n : Nat) (s : ByteArray) (w : World) (h1 : 1 ≤ n) (h2 : n ≤ 1024) (hs : s.size = (n + 7) / 8) (b : Bool) (hb : formOk n s.data.toList = b) :
    Calls Tryd.prog 23 #[.int .i64 (n : Nat), .string s] w (ReadGot w (usOf n s.data.toList) b) := by
  have hsm : sameW (natOf (usOf n s.data.toList)) (leN s.data.toList) = b := by rw [sameW_form n _ h2 (by simpa using hs)]; exact hb
  have HN := Lib.hid (fun W => new_yes n W h1 h2)
  obtain ⟨S, hS⟩ : ∃ S, (n + 7) / 8 = S := ⟨_, rfl⟩
  have HSz := Lib.hid (fun W => by have := sizeFor_any n W (by omega); rw [hS] at this; exact this : ∀ W, Calls Tryd.prog 36 #[.int .i64 (n : Nat)] W fun e w' => e = .returned (.int .i64 (S : Nat)) ∧ W = w')
  have hne : ((s.size : Int) != (S : Int)) = false := by simp; omega
  have HW := Lib.hid (fun W => words_any s W (by omega))
  have HE := Lib.hid (fun p W h => onEach_any p n (leN s.data.toList) W h h2)
  rw [usUp_all] at HE
  obtain ⟨C, hC⟩ : ∃ C, (wordsC (leN s.data.toList)).toArray = C := ⟨_, rfl⟩
  have hinfo : (Tryd.prog.info? 57).map (·.size) = some C.size := by rw [← hC]; exact words_info _
  have hone : C.all (·.oneCell') = true := by rw [← hC]; exact words_one _
  have hsz : C.size = 16 := by rw [← hC, List.size_toArray, wordsC_length]
  rw [hC] at HW HE
  have HC := Lib.hid hC
  have HI := Lib.hid (And.intro hinfo (And.intro hone hsz))
  have HM := Lib.hid hsm
  clear hC hinfo hone hsz hS hs hb hsm
  go_enter Tryd.func23, Tryd.ntmps23
  go_wp2_with (first
    | (go_at_call 8; (with_reducible refine (HN.out _).mono ?_); rintro e w1 ⟨rfl, hP1, g1⟩)
    | (go_at_call 36; (with_reducible refine (HSz.out _).mono ?_); rintro e w' ⟨rfl, rfl⟩)
    | (go_at_call 37; (with_reducible refine (HW.out _).mono ?_); rintro e w2 ⟨rfl, g2⟩)
    | (refine wpList_store_row rfl 57 (.tmp 7) (.tmp 18) rfl w2.heap.size C rfl rfl 57 _ (heap_alloc_new _ _) HI.out.1 (by rw [HI.out.2.2]; rfl) HI.out.2.1 ?_; rw [World.setRow_alloc_new]; have hA2 : Arr (w2.alloc (.cells C 57)) w2.heap.size (leN s.data.toList) := by { unfold Arr; rw [HC.out]; exact Blk.mk w2 _ _ }; have hP2 := (hP1.keep0 g2).keep0 (gb_alloc w2 (.cells C 57) none); have g3 := gb_trans (gb_trans g1 g2) (gb_alloc w2 (.cells C 57) none); have hlt2 : w.heap.size < w2.heap.size := Nat.lt_of_lt_of_le hP1.lt g2.size; generalize w2.alloc (.cells C 57) = W2 at hA2 hP2 g3 ⊢; have hld := hA2.load; rw [HC.out] at hld)
    | (refine wpList_load_at rfl 57 (.tmp 7) rfl ⟨w2.heap.size, 0, none⟩ rfl _ hld ?_)
    | (go_at_call 38; (with_reducible refine (HE.out _ _ hP2).mono ?_); rintro e w3 ⟨rfl, hP3, g4⟩; clear hld))
  have hA3 : Arr w3 w2.heap.size (leN s.data.toList) := Blk.keep hA2 g4 (ne_some (by omega))
  have g5 : w.grownBy w3 none := gb_step g3 g4 (Nat.le_refl _)
  have hl1 := load_words (hP3.keep0 (gb_drew w3 none))
  have hl2 := (hA3.keep0 (gb_drew w3 none)).load
  have hq := neq_words (natOf (usOf n s.data.toList)) (leN s.data.toList)
  rw [HM.out] at hq
  rw [HC.out] at hq hl2
  generalize (wordsC (natOf (usOf n s.data.toList))).toArray = C1 at hl1 hq
  have H1 := Lib.hid (And.intro hl1 hl2)
  have HP3 := Lib.hid (And.intro hP3 g5)
  clear hl1 hl2 hP1 g1 g2 hA2 hP2 g3 hP3 g4 hA3 g5
  refine wp_region_noPanic ?_
  refine wp_region_held_drew (S := fun w' => w' = w3.drew) (by kernel_rfl) rfl (fun hHeld => ?_)
  refine wpAnyH_take (i := 0) (v := ?_) (List.getElem?_toArray.trans rfl) (by kernel_rfl) (by kernel_rfl) (by kernel_rfl) (fun _ _ _ h => h) (Or.inl ⟨by rfl, ?_⟩) hHeld ?_
  rotate_left
  · intro w' hSw; go_simp; try with_reducible rfl
  try simp only [Act.put, List.setIfInBounds_toArray, List.set_cons_zero, List.set_cons_succ]
  refine wpAnyH_take (i := 1) (v := ?_) (List.getElem?_toArray.trans rfl) (by kernel_rfl) (by kernel_rfl) (by kernel_rfl) (fun _ _ _ h => h) (Or.inl ⟨by rfl, ?_⟩) hHeld ?_
  rotate_left
  · intro w' hSw; go_simp; try with_reducible rfl
  try simp only [Act.put, List.setIfInBounds_toArray, List.set_cons_zero, List.set_cons_succ]
  refine wpAnyH_take (i := 2) (v := ?_) (List.getElem?_toArray.trans rfl) (by kernel_rfl) (by kernel_rfl) (by kernel_rfl) (fun _ _ _ h => h) (Or.inl ⟨by rfl, ?_⟩) hHeld ?_
  rotate_left
  · intro w' hSw; go_simp; try with_reducible rfl
  try simp only [Act.put, List.setIfInBounds_toArray, List.set_cons_zero, List.set_cons_succ]
  refine wpAnyH_take (i := 3) (v := .agg C1) (List.getElem?_toArray.trans rfl) (by kernel_rfl) (by kernel_rfl) (by kernel_rfl) (fun _ _ _ h => h) (Or.inl ⟨by rfl, fun w' hSw => by subst hSw; exact exec_load 57 (.tmp 24) rfl ⟨w.heap.size, 1, none⟩ rfl _ H1.out.1⟩) hHeld ?_
  try simp only [Act.put, List.setIfInBounds_toArray, List.set_cons_zero, List.set_cons_succ]
  refine wpAnyH_take (i := 4) (v := .agg C) (List.getElem?_toArray.trans rfl) (by kernel_rfl) (by kernel_rfl) (by kernel_rfl) (fun _ _ _ h => h) (Or.inl ⟨by rfl, fun w' hSw => by subst hSw; exact exec_load 57 (.tmp 7) rfl ⟨w2.heap.size, 0, none⟩ rfl _ H1.out.2⟩) hHeld ?_
  try simp only [Act.put, List.setIfInBounds_toArray, List.set_cons_zero, List.set_cons_succ]
  refine wpAnyH_take (i := 5) (v := .bool (!b)) (List.getElem?_toArray.trans rfl) (by kernel_rfl) (by kernel_rfl) (by kernel_rfl) (fun _ _ _ h => h) (Or.inl ⟨by rfl, fun w' hSw => by subst hSw; exact exec_neq 57 57 (.tmp 25) (.tmp 26) rfl C1 C rfl rfl (by kernel_rfl) _ (hq _)⟩) hHeld ?_
  try simp only [Act.put, List.setIfInBounds_toArray, List.set_cons_zero, List.set_cons_succ]
  refine wpAnyH_done (by kernel_rfl) ?_ _
  refine NoPanic.normal ?_
  clear hq
  cases b
  · go_wp2
    go_ret2
    exact ⟨(fun e => by cases e), fun _ => rfl, gb_trans HP3.out.2 (gb_drew _ _)⟩
  · go_wp2
    go_ret2
    exact ⟨fun _ => ⟨rfl, HP3.out.1.keep0 (gb_drew _ _)⟩, (fun e => by cases e), gb_trans HP3.out.2 (gb_drew _ _)⟩
end Go.Proofs.YtaihcbkdbdhihaaDoor
