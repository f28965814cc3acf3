/-
  What the statements' own 'works' answers, over this seat's translation: true; condition: the table of places lies as the program's text lays it.
-/
import Derived.Test.YtckkbcgolphajaaDoorQf
import Derived.Test.YtckkbcgolphajaaDoorQc
namespace Go.Proofs.YtckkbcgolphajaaDoor
open Go.RowKit

def zeroB : ByteArray := ⟨(zer 256).toArray⟩
theorem zeroB_list : zeroB.data.toList = zer 256 := rfl
theorem zeroB_size : zeroB.size = 256 := by show (zer 256).toArray.size = 256; rw [List.size_toArray, zer_length]
theorem list_eq {a b : ByteArray} (h : a.data.toList = b.data.toList) : a = b := by
  apply ByteArray.ext; exact Array.toList_inj.1 h
theorem blank_b (w : World) : Calls Tryd.prog 20 #[] w fun e w' => e = .returned (.string zeroB) ∧ w.grownBy w' none :=
  (blank_any w).mono fun e w' ⟨t, h1, h2, h3⟩ => ⟨by rw [h1, list_eq (b := zeroB) h2], h3⟩
/-- A root's sector, as a text. -/
def putB (r : Rt) : ByteArray := ⟨(putS r).toArray⟩
theorem putB_list (r : Rt) : (putB r).data.toList = putS r := rfl
theorem putB_size (r : Rt) (h : r.cs.length = 8) : (putB r).size ≤ 256 := by
  show (putS r).toArray.size ≤ 256
  rw [List.size_toArray]
  unfold putS
  split
  · rw [putL_length r h]; exact Nat.le_refl _
  · exact Nat.zero_le _
theorem put_b (r : Rt) (w : World) (hP : Pl w) (hr : Fit r) : Calls Tryd.prog 10 #[RV r] w fun e w' => e = .returned (.tuple #[.string (putB r), .int .i64 (putC r : Nat)]) ∧ w.grownBy w' none :=
  (put_any r w hP hr).mono fun e w' ⟨t, h1, h2, h3⟩ => ⟨by rw [h1, list_eq (b := putB r) h2], h3⟩
theorem refPut_b (r : Rt) (w : World) (hr : Fit r) : Calls Tryd.prog 11 #[RV r] w fun e w' => e = .returned (.tuple #[.string (putB r), .int .i64 (putC r : Nat)]) ∧ w.grownBy w' none :=
  (refPut_any r w hr).mono fun e w' ⟨t, h1, h2, h3⟩ => ⟨by rw [h1, list_eq (b := putB r) h2], h3⟩
/-- What a call that answers true leaves. -/
def TrueGot (w : World) (e : Ending) (w' : World) : Prop := e = .returned (.bool true) ∧ w.grownBy w' none
def r1 : Rt := ⟨1, 64, [0, 0, 0, 0, 0, 0, 0, 0]⟩
def r5 : Rt := ⟨5, 0, [0, 0, 0, 0, 0, 0, 0, 0]⟩
theorem fit_r1 : Fit r1 := fit_new 1 64 (by decide) (by decide)
theorem fit_r5 : Fit r5 := fit_new 5 0 (by decide) (by decide)
theorem may_r1 : MayR r1 := by decide
theorem put_r1 : putB r1 = (⟨#[0, 0, 0, 0, 0, 0, 0, 1, 0, 64]⟩ : ByteArray) ++ zeroB.extract 0 238 ++ (⟨#[0, 0, 0, 0, 0, 0, 0, 1]⟩ : ByteArray) := by
  refine list_eq ?_
  rw [ap_list, ap_list, ex_list, zeroB_list, putB_list]
  decide +kernel
theorem len_r1 : r1.cs.length = 8 := rfl
theorem len_n5 : (nextR r5).cs.length = 8 := rfl
theorem get_none : getF (⟨#[]⟩ : ByteArray).data.toList = (zeroR, 5) := by
  show getF [] = _
  unfold getF
  rw [if_neg (by intro h; have := congrArg List.length h; rw [zer_length] at this; cases this), if_pos (by decide)]
set_option maxRecDepth 100000 in
set_option maxHeartbeats 4000000 in
theorem works_any (w : World) (hPl : Pl w) : Calls Tryd.prog 16 #[] w (TrueGot w) := by
  have HPl := Lib.hid hPl
  clear hPl
  have HP := Lib.hid (fun W (g : w.grownBy W none) => put_b r1 W (HPl.out.keep0 g) fit_r1)
  rw [show putC r1 = 0 from if_pos may_r1] at HP
  have HG := Lib.hid (fun W (g : w.grownBy W none) => get_any (putB r1) W (HPl.out.keep0 g))
  rw [show getF (putB r1).data.toList = (r1, 0) from by rw [putB_list]; unfold putS; rw [if_pos may_r1]; exact get_put r1 may_r1 rfl (by decide)] at HG
  have HB := Lib.hid (fun W => blank_b W)
  have HK := Lib.hid (fun W (g : w.grownBy W none) => pick_any zeroB zeroB W (HPl.out.keep0 g))
  rw [show pickF zeroB.data.toList zeroB.data.toList = (zeroR, -1, 9) from by rw [zeroB_list]; unfold pickF; rw [get_blank]; rfl] at HK
  have HE := Lib.hid (fun W (g : w.grownBy W none) => get_any ⟨#[]⟩ W (HPl.out.keep0 g))
  rw [show getF (⟨#[]⟩ : ByteArray).data.toList = (zeroR, 5) from get_none] at HE
  have HX := Lib.hid (fun W => next_any r5 1 W fit_r5)
  have hq : ((putB r1).toList == ((⟨#[0, 0, 0, 0, 0, 0, 0, 1, 0, 64]⟩ : ByteArray) ++ zeroB.extract 0 238 ++ (⟨#[0, 0, 0, 0, 0, 0, 0, 1]⟩ : ByteArray)).toList) = true := by rw [← put_r1]; exact beq_self_eq_true _
  have hz := zeroB_size
  unfold RootGot RV at HG HE
  unfold PickGot RV at HK
  unfold NextGot RV at HX
  rw [show nextW 1 = 0 from rfl] at HX
  unfold RV at HP
  generalize putB r1 = S at *
  generalize zeroB = Z at *
  have he := fun W => equal_roots r1 r1 rfl rfl W
  have hg := root_guard
  have hsame : sameR r1 r1 = true := rfl
  go_enter Tryd.func16, Tryd.ntmps16
  go_wp2_with (first
    | (go_at_call 20; (with_reducible refine (HB.out _).mono ?_); rintro e v12 ⟨rfl, g12⟩; have qa := RB.keep0 qa g12; have qb := RB.keep0 qb g12; have qe := RB.keep0 qe g12; have gg := gb_trans gg g12; have ce := qe.epoch;)
    | ((with_reducible refine stN 1 13 r1 len_r1 ?_ ?_ ?_); rfl; rfl; have qa : RB (w.alloc (.cells (rootC r1).toArray 25)) w.heap.size r1 := Blk.mk w _ _; have gg := (gb_alloc w (.cells (rootC r1).toArray 25) none); generalize w.alloc (.cells (rootC r1).toArray 25) = v1 at qa gg ⊢)
    | ((with_reducible refine ld 1 (w.heap.size) r1 len_r1 qa ?_ ?_); rfl)
    | (go_at_call 10; (with_reducible refine (HP.out _ gg).mono ?_); rintro e v2 ⟨rfl, g2⟩; have qa := RB.keep0 qa g2; have gg := gb_trans gg g2;)
    | (go_at_call 14; (with_reducible refine (HG.out _ gg).mono ?_); rintro e v3 ⟨rfl, g3⟩; have qa := RB.keep0 qa g3; have gg := gb_trans gg g3;)
    | ((with_reducible refine stN 4 22 r1 len_r1 ?_ ?_ ?_); rfl; rfl; have qb : RB (v3.alloc (.cells (rootC r1).toArray 25)) v3.heap.size r1 := Blk.mk v3 _ _; have qa := RB.keep0 qa (gb_alloc v3 (.cells (rootC r1).toArray 25) none); have gg := gb_trans gg (gb_alloc v3 (.cells (rootC r1).toArray 25) none); generalize v3.alloc (.cells (rootC r1).toArray 25) = v4 at qa qb gg ⊢)
    | (go_at_call 20; (with_reducible refine (HB.out _).mono ?_); rintro e v5 ⟨rfl, g5⟩; have qa := RB.keep0 qa g5; have qb := RB.keep0 qb g5; have gg := gb_trans gg g5;)
    | (go_at_call 18; (with_reducible refine (HK.out _ gg).mono ?_); rintro e v6 ⟨rfl, g6⟩; have qa := RB.keep0 qa g6; have qb := RB.keep0 qb g6; have gg := gb_trans gg g6;)
    | ((with_reducible refine stN 6 28 zeroR zero_len ?_ ?_ ?_); rfl; rfl; have qc : RB (v6.alloc (.cells (rootC zeroR).toArray 25)) v6.heap.size zeroR := Blk.mk v6 _ _; have qa := RB.keep0 qa (gb_alloc v6 (.cells (rootC zeroR).toArray 25) none); have qb := RB.keep0 qb (gb_alloc v6 (.cells (rootC zeroR).toArray 25) none); have gg := gb_trans gg (gb_alloc v6 (.cells (rootC zeroR).toArray 25) none); generalize v6.alloc (.cells (rootC zeroR).toArray 25) = v7 at qa qb qc gg ⊢)
    | (go_at_call 14; (with_reducible refine (HE.out _ gg).mono ?_); rintro e v8 ⟨rfl, g8⟩; have qa := RB.keep0 qa g8; have qb := RB.keep0 qb g8; have gg := gb_trans gg g8;)
    | ((with_reducible refine stN 9 33 zeroR zero_len ?_ ?_ ?_); rfl; rfl; have qd : RB (v8.alloc (.cells (rootC zeroR).toArray 25)) v8.heap.size zeroR := Blk.mk v8 _ _; have qa := RB.keep0 qa (gb_alloc v8 (.cells (rootC zeroR).toArray 25) none); have qb := RB.keep0 qb (gb_alloc v8 (.cells (rootC zeroR).toArray 25) none); have gg := gb_trans gg (gb_alloc v8 (.cells (rootC zeroR).toArray 25) none); generalize v8.alloc (.cells (rootC zeroR).toArray 25) = v9 at qa qb qd gg ⊢)
    | (go_at_call 12; (refine (HX.out _).mono ?_); rintro e v10 ⟨rfl, g10⟩; have qa := RB.keep0 qa g10; have qb := RB.keep0 qb g10; have gg := gb_trans gg g10;)
    | ((with_reducible refine stN 11 38 (nextR r5) len_n5 ?_ ?_ ?_); rfl; rfl; have qe : RB (v10.alloc (.cells (rootC (nextR r5)).toArray 25)) v10.heap.size (nextR r5) := Blk.mk v10 _ _; have qa := RB.keep0 qa (gb_alloc v10 (.cells (rootC (nextR r5)).toArray 25) none); have qb := RB.keep0 qb (gb_alloc v10 (.cells (rootC (nextR r5)).toArray 25) none); have gg := gb_trans gg (gb_alloc v10 (.cells (rootC (nextR r5)).toArray 25) none); generalize v10.alloc (.cells (rootC (nextR r5)).toArray 25) = v11 at qa qb qe gg ⊢)
    | ((with_reducible refine ldG 4 (v3.heap.size) r1 len_r1 qb ?_ ?_ ?_); rfl; rfl)
    | ((with_reducible refine ldG 1 (w.heap.size) r1 len_r1 qa ?_ ?_ ?_); rfl; rfl)
    | fail)
  go_ret
  exact ⟨rfl, gg⟩
end Go.Proofs.YtckkbcgolphajaaDoor
