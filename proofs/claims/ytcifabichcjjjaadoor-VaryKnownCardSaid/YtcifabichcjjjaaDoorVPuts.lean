/-
  What VaryPuts answers, over this seat's translation: true; conditions: the variable errors.errorType holds its type's handle, the slice reads as fields whose numbers fit.
-/
import Derived.Test.YtcifabichcjjjaaDoorVBk
import Derived.Test.YtcifabichcjjjaaDoorVFind
namespace Go.Proofs.YtcifabichcjjjaaDoor
open Go.RowKit

theorem ref_put_as (v : Value) (l : List Fd) (B : ByteArray) (c : Nat) (w : World) (hv : Fs w v l) (hok : ∀ f ∈ l, f.ok) (hl : l.length ≤ 1000000) (hB : B = ⟨(putS l).1.toArray⟩) (hc : (putS l).2 = c) :
    Calls Tryd.prog 10 #[v] w fun e w' => e = .returned (.tuple #[.string B, .int .i64 c]) ∧ w.grownBy w' none := by
  subst hB; subst hc
  exact ref_put v l w hv hok hl
theorem found_form (l : List Fd) (tag : Int) : ∃ (t : Int) (x : Bool) (n : Nat) (s : ByteArray), foundV l tag = .agg #[.int .i64 t, .bool x, .int .u64 n, .string s] := by
  unfold foundV
  cases findS l tag with
  | none => exact ⟨0, false, 0, ⟨#[]⟩, rfl⟩
  | some f => exact ⟨f.tag, f.text, f.n, f.s, rfl⟩
theorem find_as (v : Value) (l : List Fd) (tag t : Int) (x b : Bool) (n : Nat) (s : ByteArray) (w : World) (hv : Fs w v l) (hl : l.length ≤ 1000000) (h1 : foundV l tag = .agg #[.int .i64 t, .bool x, .int .u64 n, .string s]) (h2 : foundB l tag = b) :
    Calls Tryd.prog 11 #[v, .int .i64 tag] w fun e w' => e = .returned (.tuple #[.agg #[.int .i64 t, .bool x, .int .u64 n, .string s], .bool b]) ∧ w.grownBy w' none := by
  refine (find_any v l tag w hv hl).mono ?_
  rintro e w' ⟨he, hg⟩
  rw [h1, h2] at he
  exact ⟨he, hg⟩
theorem ref_find_as (v : Value) (l : List Fd) (tag t : Int) (x b : Bool) (n : Nat) (s : ByteArray) (w : World) (hv : Fs w v l) (hl : l.length ≤ 1000000) (h1 : foundV l tag = .agg #[.int .i64 t, .bool x, .int .u64 n, .string s]) (h2 : foundB l tag = b) :
    Calls Tryd.prog 12 #[v, .int .i64 tag] w fun e w' => e = .returned (.tuple #[.agg #[.int .i64 t, .bool x, .int .u64 n, .string s], .bool b]) ∧ w.grownBy w' none := by
  refine (ref_find v l tag w hv hl).mono ?_
  rintro e w' ⟨he, hg⟩
  rw [h1, h2] at he
  exact ⟨he, hg⟩

set_option maxRecDepth 100000 in
set_option maxHeartbeats 4000000 in
theorem puts_walk (v : Value) (l : List Fd) (tag : Int) (longer : Nat) (w : World) (hd : Hd w) (hv : Fs w v l) (hok : ∀ f ∈ l, f.ok) (hl : l.length ≤ 9223372036854775807) (hlong : longer < 256) :
    Calls Tryd.prog 3 #[v, .int .i64 tag, .int .u8 longer] w fun e w' => e = .returned (.bool true) ∧ w.grownBy w' none := by
  have HO := Lib.hid hok
  clear hok
  go_enter Tryd.func3, Tryd.ntmps3
  go_wp2_with fail
  ((with_reducible refine (few_any v l longer _ hv HO.out hl hlong).mono ?_); rintro e w2 ⟨v2, m, rfl, f2, hm40, hmok, g2⟩)
  have HM := Lib.hid hmok
  clear hmok
  obtain ⟨B, hB⟩ : ∃ B : ByteArray, B = ⟨(putS m).1.toArray⟩ := ⟨_, rfl⟩
  obtain ⟨c, hc⟩ : ∃ c, (putS m).2 = c := ⟨_, rfl⟩
  obtain ⟨t, x, n, s, hfv⟩ := found_form m tag
  obtain ⟨b, hfb⟩ : ∃ b, foundB m tag = b := ⟨_, rfl⟩
  have HB := Lib.hid hB
  have HC := Lib.hid hc
  have HFV := Lib.hid hfv
  have HFB := Lib.hid hfb
  clear hB hc hfv hfb
  go_wp2_with fail
  ((with_reducible refine (put_as v2 m B c _ f2 (fun f hf => (HM.out f hf).1) (by omega) HB.out HC.out).mono ?_); rintro e w3 ⟨rfl, g3⟩)
  have f3 := f2.keep0 g3
  replace g3 := gb_trans g2 g3
  clear g2 f2
  go_wp2_with fail
  ((with_reducible refine (ref_put_as v2 m B c _ f3 (fun f hf => (HM.out f hf).1) (by omega) HB.out HC.out).mono ?_); rintro e w4 ⟨rfl, g4⟩)
  have f4 := f3.keep0 g4
  replace g4 := gb_trans g3 g4
  clear g3 f3
  go_wp2_with fail
  ((with_reducible refine (find_as v2 m tag t x b n s _ f4 (by omega) HFV.out HFB.out).mono ?_); rintro e w5 ⟨rfl, g5⟩)
  have f5 := f4.keep0 g5
  replace g5 := gb_trans g4 g5
  clear g4 f4
  obtain ⟨w6, hw6⟩ : ∃ w6 : World, w6 = w5.alloc (.cells #[.int .i64 t, .bool x, .int .u64 n, .string s] 29) := ⟨_, rfl⟩
  have k6 : Blk w6 w5.heap.size 29 #[.int .i64 t, .bool x, .int .u64 n, .string s] := by rw [hw6]; exact Blk.mk _ _ _
  have g6 : w5.grownBy w6 none := by rw [hw6]; exact gb_alloc _ _ _
  have f6 := f5.keep0 g6
  replace g6 := gb_trans g5 g6
  have HW := Lib.hid hw6
  clear hw6 g5 f5
  go_wp2_with fail
  rw [← HW.out]
  ((with_reducible refine (ref_find_as v2 m tag t x b n s _ f6 (by omega) HFV.out HFB.out).mono ?_); rintro e w7 ⟨rfl, g7⟩)
  have k7 := k6.keep0 g7
  replace g7 := gb_trans g6 g7
  clear g6 f6 k6
  obtain ⟨w8, hw8⟩ : ∃ w8 : World, w8 = w7.alloc (.cells #[.int .i64 t, .bool x, .int .u64 n, .string s] 29) := ⟨_, rfl⟩
  have k8 : Blk w8 w7.heap.size 29 #[.int .i64 t, .bool x, .int .u64 n, .string s] := by rw [hw8]; exact Blk.mk _ _ _
  have g8 : w7.grownBy w8 none := by rw [hw8]; exact gb_alloc _ _ _
  have j8 := k7.keep0 g8
  replace g8 := gb_trans g7 g8
  have d8 := hd.keep0 g8
  have HW8 := Lib.hid hw8
  clear hw8 g7 k7
  have a0 := Blk.cell j8 0 rfl
  have a1 := Blk.cell j8 1 rfl
  have a2 := Blk.cell j8 2 rfl
  have a3 := Blk.cell j8 3 rfl
  have b0 := Blk.cell k8 0 rfl
  have b1 := Blk.cell k8 1 rfl
  have b2 := Blk.cell k8 2 rfl
  have b3 := Blk.cell k8 3 rfl
  have heq := Tryd.eqlField t x n s
  go_upto_region 6 with (fail)
  rw [← HW8.out]
  go_wp2_with fail
  ((with_reducible refine (works_any _ d8).mono ?_); rintro e w9 ⟨rfl, g9⟩)
  go_wp2
  go_ret
  exact ⟨rfl, gb_trans g8 g9⟩
end Go.Proofs.YtcifabichcjjjaaDoor
