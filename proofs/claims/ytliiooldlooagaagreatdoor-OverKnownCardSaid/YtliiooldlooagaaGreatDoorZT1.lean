/-
  Texts of one layer, one behind the other, each with its own sentence; conditions: those that each law states.
-/
import Derived.RangeFuncNested
import Derived.RangeFuncBound
import Derived.RangeFuncCalls
import Derived.RangeFuncLeaves
import Derived.RangeFuncBox
import Derived.Shelf.Abstract
import Derived.Shelf.RegionOpen
import Derived.OwnWalkIn
import Derived.TacticsInMore
import Derived.LoopNIn
import Derived.LoopIn
import Derived.IntWalk
import Derived.WalkLawsBesides
import Derived.WalkSpells
import Derived.Laws.BitsAllLaws
import Derived.Laws.CopyRow
import Derived.Test.YtliiooldlooagaaGreatDoorZROOT1
import Derived.Test.YtliiooldlooagaaGreatDoorZROOT7
import Derived.Test.YtliiooldlooagaaGreatDoorZROOT8
import Derived.Test.YtliiooldlooagaaGreatDoorZT2
set_option linter.unusedSimpArgs false
set_option linter.unusedVariables false

/-
  What the texts of this seat stand on: nothing of its own.
-/
namespace Go.Proofs.YtliiooldlooagaaGreatDoor.T9
open Go.RowKit
end Go.Proofs.YtliiooldlooagaaGreatDoor.T9

/-
  How a table lies in memory, and its smallest calls (New, Get, put, Set, Drop, Clean), over this seat's translation; conditions: those that each law states.
-/
namespace Go.Proofs.YtliiooldlooagaaGreatDoor.T9
open Go.RowKit

theorem add_at (p o j : Nat) : (⟨p, o, none⟩ : Addr).add j = ⟨p, o + j, none⟩ := by unfold Addr.add; split <;> simp_all
theorem ret_int {k : IntKind} {a b : Int} (h : a = b) : Ending.returned (.int k a) = .returned (.int k b) := by rw [h]
theorem ret_bool {a b : Bool} (h : a = b) : Ending.returned (.bool a) = .returned (.bool b) := by rw [h]
/-- Numbers of 16 bits, as cells. -/
def u16C (l : List Nat) : List Value := l.map fun n => .int .u16 (n : Nat)
theorem u16C_length (l : List Nat) : (u16C l).length = l.length := List.length_map ..
theorem bools_length (l : List Bool) : (bools l).length = l.length := List.length_map ..
theorem u16C_at {l : List Nat} {k : Nat} (h : k < l.length) : (u16C l)[k]? = some (.int .u16 (l.getD k 0 : Nat)) := by
  unfold u16C; rw [List.getElem?_map, List.getElem?_eq_getElem h]; simp [List.getD_eq_getElem?_getD, h]
theorem bools_at {l : List Bool} {k : Nat} (h : k < l.length) : (bools l)[k]? = some (.bool (l.getD k false)) := by
  unfold bools; rw [List.getElem?_map, List.getElem?_eq_getElem h]; simp [List.getD_eq_getElem?_getD, h]
/-- A table's cells. -/
def tabC (s : TB) : List Value := u16C s.P ++ bools s.D
theorem tabC_length {s : TB} (h : s.Fit) : (tabC s).length = 968 := by unfold tabC; rw [List.length_append, u16C_length, bools_length, h.1, h.2.1]
theorem tabC_page {s : TB} (h : s.Fit) {k : Nat} (hk : k < 960) : (tabC s)[k]? = some (.int .u16 (s.P.getD k 0 : Nat)) := by
  unfold tabC; rw [List.getElem?_append_left (by rw [u16C_length, h.1]; exact hk)]; exact u16C_at (by rw [h.1]; exact hk)
theorem tabC_dirt {s : TB} (h : s.Fit) {k : Nat} (hk : k < 8) : (tabC s)[960 + k]? = some (.bool (s.D.getD k false)) := by
  unfold tabC; rw [List.getElem?_append_right (by rw [u16C_length, h.1]; omega), u16C_length, h.1, show 960 + k - 960 = k by omega]; exact bools_at (by rw [h.2.1]; exact hk)
theorem tabC_setPage {s : TB} (h : s.Fit) {k v : Nat} (hk : k < 960) : (tabC s).toArray.setIfInBounds k (.int .u16 (v : Nat)) = (tabC ⟨s.P.set k v, s.D⟩).toArray := by
  rw [List.setIfInBounds_toArray]
  congr 1
  unfold tabC u16C
  rw [List.set_append_left _ _ (by rw [List.length_map, h.1]; exact hk), List.map_set]
theorem tabC_setDirt {s : TB} (h : s.Fit) {k : Nat} (b : Bool) : (tabC s).toArray.setIfInBounds (960 + k) (.bool b) = (tabC ⟨s.P, s.D.set k b⟩).toArray := by
  rw [List.setIfInBounds_toArray]
  congr 1
  unfold tabC bools
  rw [List.set_append_right _ _ (by rw [u16C_length, h.1]; omega), u16C_length, h.1, show 960 + k - 960 = k by omega, List.map_set]
/-- The program's table: its block. -/
def PT (w : World) (p : Nat) (s : TB) : Prop := Blk w p 125 (tabC s).toArray ∧ s.Fit
theorem PT.fit {w : World} {p : Nat} {s : TB} (h : PT w p s) : s.Fit := h.2
theorem PT.lt {w : World} {p : Nat} {s : TB} (h : PT w p s) : p < w.heap.size := h.1.lt
theorem PT.keep {w w' : World} {p : Nat} {s : TB} {r : Option Nat} (h : PT w p s) (g : w.grownBy w' r) (hr : some p ≠ r) : PT w' p s := ⟨h.1.keep g hr, h.2⟩
theorem PT.keep0 {w w' : World} {p : Nat} {s : TB} (h : PT w p s) (g : w.grownBy w' none) : PT w' p s := ⟨h.1.keep0 g, h.2⟩
theorem PT.page {w : World} {p : Nat} {s : TB} (h : PT w p s) {k : Nat} (hk : k < 960) : w.cell? ⟨p, k, none⟩ = some (.int .u16 (s.P.getD k 0 : Nat)) := h.1.cell k (by rw [List.getElem?_toArray]; exact tabC_page h.2 hk)
theorem PT.dirt {w : World} {p : Nat} {s : TB} (h : PT w p s) {k : Nat} (hk : k < 8) : w.cell? ⟨p, 960 + k, none⟩ = some (.bool (s.D.getD k false)) := h.1.cell (960 + k) (by rw [List.getElem?_toArray]; exact tabC_dirt h.2 hk)
theorem PT.free {w : World} {p : Nat} {s : TB} (h : PT w p s) (k : Nat) : w.frozen? ⟨p, k, none⟩ = false := h.1.free k
theorem PT.setPage {w : World} {p : Nat} {s : TB} (h : PT w p s) {k v : Nat} (hk : k < 960) (hv : v < 1024) : PT (w.setCell ⟨p, k, none⟩ (.int .u16 (v : Nat))) p ⟨s.P.set k v, s.D⟩ := by
  refine ⟨?_, by rw [List.length_set]; exact h.2.1, h.2.2.1, fun x hx => ?_⟩
  · have := h.1.set k (.int .u16 (v : Nat))
    rw [tabC_setPage h.2 hk] at this
    exact this
  · rcases List.mem_or_eq_of_mem_set hx with h1 | h1
    · exact h.2.2.2 x h1
    · rw [h1]; exact hv
theorem PT.setDirt {w : World} {p : Nat} {s : TB} (h : PT w p s) (k : Nat) (b : Bool) : PT (w.setCell ⟨p, 960 + k, none⟩ (.bool b)) p ⟨s.P, s.D.set k b⟩ := by
  refine ⟨?_, h.2.1, by rw [List.length_set]; exact h.2.2.1, h.2.2.2⟩
  have := h.1.set (960 + k) (.bool b)
  rw [tabC_setDirt h.2] at this
  exact this

theorem zero_tab (w : World) : (zeroValue 125).run Tryz.prog w = .ok (.agg (tabC newF).toArray) w := by kernel_rfl
theorem tnew_any (w : World) : Calls Tryz.prog 110 #[] w fun e w' => e = .returned (.pointer (some ⟨w.heap.size, 0, none⟩)) ∧ PT w' w.heap.size newF ∧ w.grownBy w' none := by
  have hz := zero_tab
  obtain ⟨Z, hZ⟩ : ∃ Z, (tabC newF).toArray = Z := ⟨_, rfl⟩
  rw [hZ] at hz
  have HZ := Lib.hid hZ
  clear hZ
  go_enter Tryz.func110, Tryz.ntmps110
  go_wp2
  go_ret
  exact ⟨rfl, ⟨by rw [HZ.out]; exact Blk.mk _ _ _, newF_fit⟩, gb_alloc _ _ _⟩
end Go.Proofs.YtliiooldlooagaaGreatDoor.T9

/-
  What Get, Set and Drop answer and leave, over this seat's translation; conditions: the table's block is there, or there is no table.
-/
namespace Go.Proofs.YtliiooldlooagaaGreatDoor.T9
open Go.RowKit

theorem isPage_any (i : Int) (w : World) : Calls Tryz.prog 90 #[.int .i64 i] w fun e w' => e = .returned (.bool (decide (IsPage i))) ∧ w = w' := by
  by_cases h1 : 1 ≤ i
  · by_cases h2 : i ≤ 960
    · rw [decide_eq_true (show IsPage i from ⟨h1, h2⟩)]
      go_enter Tryz.func90, Tryz.ntmps90
      go_wp2
      go_ret
      exact ⟨rfl, rfl⟩
    · rw [decide_eq_false (show ¬ IsPage i from fun h => h2 h.2)]
      go_enter Tryz.func90, Tryz.ntmps90
      go_wp2
      go_ret
      exact ⟨rfl, rfl⟩
  · rw [decide_eq_false (show ¬ IsPage i from fun h => h1 h.1)]
    go_enter Tryz.func90, Tryz.ntmps90
    go_wp2
    go_ret
    exact ⟨rfl, rfl⟩
theorem isSect_any (i : Int) (w : World) : Calls Tryz.prog 108 #[.int .i64 i] w fun e w' => e = .returned (.bool (decide (IsSect i))) ∧ w = w' := by
  by_cases h1 : 2 ≤ i
  · by_cases h2 : i ≤ 1023
    · rw [decide_eq_true (show IsSect i from ⟨h1, h2⟩)]
      go_enter Tryz.func108, Tryz.ntmps108
      go_wp2
      go_ret
      exact ⟨rfl, rfl⟩
    · rw [decide_eq_false (show ¬ IsSect i from fun h => h2 h.2)]
      go_enter Tryz.func108, Tryz.ntmps108
      go_wp2
      go_ret
      exact ⟨rfl, rfl⟩
  · rw [decide_eq_false (show ¬ IsSect i from fun h => h1 h.1)]
    go_enter Tryz.func108, Tryz.ntmps108
    go_wp2
    go_ret
    exact ⟨rfl, rfl⟩
theorem isPage_is {b : Bool} {i : Int} (w : World) (h : decide (IsPage i) = b) : Calls Tryz.prog 90 #[.int .i64 i] w fun e w' => e = .returned (.bool b) ∧ w = w' := h ▸ isPage_any i w
theorem isSect_is {b : Bool} {i : Int} (w : World) (h : decide (IsSect i) = b) : Calls Tryz.prog 108 #[.int .i64 i] w fun e w' => e = .returned (.bool b) ∧ w = w' := h ▸ isSect_any i w
theorem get_nil (i : Int) (w : World) : Calls Tryz.prog 55 #[.pointer none, .int .i64 i] w fun e w' => e = .returned (.int .i64 0) ∧ w = w' := by
  go_enter Tryz.func55, Tryz.ntmps55
  go_wp2
  go_ret
  exact ⟨rfl, rfl⟩
set_option maxRecDepth 100000 in
set_option maxHeartbeats 400000 in
theorem get_any (p : Nat) (s : TB) (i : Int) (w : World) (h : PT w p s) : Calls Tryz.prog 55 #[.pointer (some ⟨p, 0, none⟩), .int .i64 i] w fun e w' => e = .returned (.int .i64 (getF s i : Nat)) ∧ w = w' := by
  by_cases hi : IsPage i
  · have hg : getF s i = s.P.getD (i - 1).toNat 0 := if_pos hi
    have HI := Lib.hid hi
    obtain ⟨k, rfl, hk⟩ : ∃ k : Nat, i = (k : Int) + 1 ∧ k < 960 := ⟨(i - 1).toNat, by unfold IsPage at hi; omega, by unfold IsPage at hi; omega⟩
    rw [getF_nat s k hk]
    have hc := h.page hk
    have hv := h.fit.lt k
    generalize s.P.getD k 0 = v at hc hv
    have hd : (k : Int) + 1 - 1 = (k : Int) := by omega
    have hkw : IntKind.i64.wrap (k : Int) = (k : Int) := IntWalk.i64_in _ (by omega)
    have hvw : IntKind.i64.wrap (v : Int) = (v : Int) := IntWalk.i64_in _ (by omega)
    clear hg hi h
    go_enter Tryz.func55, Tryz.ntmps55
    go_wp2_with (go_at_call 90; (with_reducible refine (isPage_is _ (decide_eq_true HI.out)).mono ?_); rintro e w' ⟨rfl, rfl⟩)
    go_ret
    exact ⟨rfl, rfl⟩
  · rw [getF_no hi]
    have HI := Lib.hid hi
    clear hi h
    go_enter Tryz.func55, Tryz.ntmps55
    go_wp2_with (go_at_call 90; (with_reducible refine (isPage_is _ (decide_eq_false HI.out)).mono ?_); rintro e w' ⟨rfl, rfl⟩)
    go_ret
    exact ⟨rfl, rfl⟩
set_option maxRecDepth 100000 in
set_option maxHeartbeats 400000 in
theorem put_any (p : Nat) (s : TB) (k v : Nat) (w : World) (h : PT w p s) (hk : k < 960) (hv : v < 1024) : Calls Tryz.prog 84 #[.pointer (some ⟨p, 0, none⟩), .int .i64 ((k : Int) + 1), .int .i64 (v : Nat)] w fun e w' => e = .returned (.tuple #[]) ∧ PT w' p (putF s k v) ∧ w.grownBy w' (some p) := by
  have HG := Lib.hid (get_any p s ((k : Int) + 1) w h)
  rw [getF_nat s k hk] at HG
  by_cases he : s.P.getD k 0 = v
  · have hs : putF s k v = s := if_pos he
    rw [hs]
    rw [he] at HG
    have HP := Lib.hid h
    clear he hs h
    go_enter Tryz.func84, Tryz.ntmps84
    go_wp2_with (go_at_call 55; (with_reducible refine HG.out.mono ?_); rintro e w' ⟨rfl, rfl⟩)
    refine bodyPost_ret (results_none rfl _ _ _) rfl ?_
    exact ⟨rfl, HP.out, gb_refl _ _⟩
  · have hs : putF s k v = ⟨s.P.set k v, s.D.set (k / 120) true⟩ := if_neg he
    rw [hs]
    have hfin := (h.setPage hk hv).setDirt (k / 120) true
    have c1 := h.page hk
    have f1 := h.free k
    have f2 := (h.setPage hk hv).free (960 + k / 120)
    have c2 := (h.setPage hk hv).dirt (k := k / 120) (by omega)
    have HF := Lib.hid hfin
    generalize s.P.getD k 0 = u at HG c1 he
    have hne : ((u : Int) == (v : Int)) = false := by simp; omega
    have hd : (k : Int) + 1 - 1 = (k : Int) := by omega
    have hkw : IntKind.i64.wrap (k : Int) = (k : Int) := IntWalk.i64_in _ (by omega)
    have hvw : IntKind.u16.wrap (v : Int) = (v : Int) := by rw [IntKind.wrap_u16]; omega
    have hq : IntKind.i64.wrap ((k : Int) / 120) = ((k / 120 : Nat) : Int) := by rw [show (k : Int) / 120 = ((k / 120 : Nat) : Int) from by omega]; exact IntWalk.i64_in _ (by omega)
    clear hfin h he hs
    go_enter Tryz.func84, Tryz.ntmps84
    go_wp2_with (go_at_call 55; (with_reducible refine HG.out.mono ?_); rintro e w' ⟨rfl, rfl⟩)
    go_end0
    exact ⟨rfl, HF.out, gb_trans (gb_set _ _ _ _ _) (gb_set _ _ _ _ _)⟩
end Go.Proofs.YtliiooldlooagaaGreatDoor.T9

/-
  What Set, Drop, Clean and Dirty answer and leave, over this seat's translation; conditions: the table's block is there, or there is no table.
-/
namespace Go.Proofs.YtliiooldlooagaaGreatDoor.T9
open Go.RowKit

theorem set_nil (i v : Int) (w : World) : Calls Tryz.prog 80 #[.pointer none, .int .i64 i, .int .i64 v] w fun e w' => e = .returned (.int .i64 1) ∧ w = w' := by
  go_enter Tryz.func80, Tryz.ntmps80
  go_wp2
  go_ret
  exact ⟨rfl, rfl⟩
/-- What a Set leaves. -/
def SetGot (w : World) (p : Nat) (s : TB) (i v : Int) (e : Ending) (w' : World) : Prop := e = .returned (.int .i64 (setE i v)) ∧ PT w' p (setF s i v) ∧ w.grownBy w' (some p)
set_option maxRecDepth 100000 in
set_option maxHeartbeats 400000 in
theorem set_any (p : Nat) (s : TB) (i v : Int) (w : World) (h : PT w p s) : Calls Tryz.prog 80 #[.pointer (some ⟨p, 0, none⟩), .int .i64 i, .int .i64 v] w (SetGot w p s i v) := by
  unfold SetGot
  by_cases hi : IsPage i
  · by_cases hv : IsSect v
    · have he : setE i v = 0 := if_pos ⟨hi, hv⟩
      have hs : setF s i v = putF s (i - 1).toNat v.toNat := if_pos ⟨hi, hv⟩
      rw [he, hs]
      have HI := Lib.hid hi
      have HV := Lib.hid hv
      obtain ⟨k, rfl, hk⟩ : ∃ k : Nat, i = (k : Int) + 1 ∧ k < 960 := ⟨(i - 1).toNat, by unfold IsPage at hi; omega, by unfold IsPage at hi; omega⟩
      obtain ⟨n, rfl, hn⟩ : ∃ n : Nat, v = (n : Int) ∧ n < 1024 := ⟨v.toNat, by unfold IsSect at hv; omega, by unfold IsSect at hv; omega⟩
      have hk1 : ((k : Int) + 1 - 1).toNat = k := by omega
      rw [hk1, Int.toNat_natCast]
      have HP := Lib.hid (put_any p s k n w h hk hn)
      clear hi hv h he hs hk1
      go_enter Tryz.func80, Tryz.ntmps80
      go_wp2_with (first
        | (go_at_call 90; (with_reducible refine (isPage_is _ (decide_eq_true HI.out)).mono ?_); rintro e w' ⟨rfl, rfl⟩)
        | (go_at_call 108; (with_reducible refine (isSect_is _ (decide_eq_true HV.out)).mono ?_); rintro e w' ⟨rfl, rfl⟩)
        | (go_at_call 84; (with_reducible refine HP.out.mono ?_); rintro e w' ⟨rfl, h1, g1⟩))
      go_ret
      exact ⟨rfl, h1, g1⟩
    · have he : setE i v = 2 := if_neg (fun x => hv x.2)
      have hs : setF s i v = s := if_neg (fun x => hv x.2)
      rw [he, hs]
      have HI := Lib.hid hi
      have HV := Lib.hid hv
      have HP := Lib.hid h
      clear hi hv h he hs
      go_enter Tryz.func80, Tryz.ntmps80
      go_wp2_with (first
        | (go_at_call 90; (with_reducible refine (isPage_is _ (decide_eq_true HI.out)).mono ?_); rintro e w' ⟨rfl, rfl⟩)
        | (go_at_call 108; (with_reducible refine (isSect_is _ (decide_eq_false HV.out)).mono ?_); rintro e w' ⟨rfl, rfl⟩))
      go_ret
      exact ⟨rfl, HP.out, gb_refl _ _⟩
  · have he : setE i v = 2 := if_neg (fun x => hi x.1)
    have hs : setF s i v = s := if_neg (fun x => hi x.1)
    rw [he, hs]
    have HI := Lib.hid hi
    have HP := Lib.hid h
    clear hi h he hs
    go_enter Tryz.func80, Tryz.ntmps80
    go_wp2_with (go_at_call 90; (with_reducible refine (isPage_is _ (decide_eq_false HI.out)).mono ?_); rintro e w' ⟨rfl, rfl⟩)
    go_ret
    exact ⟨rfl, HP.out, gb_refl _ _⟩
theorem drop_nil (i : Int) (w : World) : Calls Tryz.prog 48 #[.pointer none, .int .i64 i] w fun e w' => e = .returned (.int .i64 1) ∧ w = w' := by
  go_enter Tryz.func48, Tryz.ntmps48
  go_wp2
  go_ret
  exact ⟨rfl, rfl⟩
/-- What a Drop leaves. -/
def DropGot (w : World) (p : Nat) (s : TB) (i : Int) (e : Ending) (w' : World) : Prop := e = .returned (.int .i64 (dropE s i)) ∧ PT w' p (dropF s i) ∧ w.grownBy w' (some p)
set_option maxRecDepth 100000 in
set_option maxHeartbeats 400000 in
theorem drop_any (p : Nat) (s : TB) (i : Int) (w : World) (h : PT w p s) : Calls Tryz.prog 48 #[.pointer (some ⟨p, 0, none⟩), .int .i64 i] w (DropGot w p s i) := by
  unfold DropGot
  have HG := Lib.hid (get_any p s i w h)
  by_cases h0 : getF s i = 0
  · have he : dropE s i = 13 := if_pos h0
    have hs : dropF s i = s := if_pos h0
    rw [he, hs]
    rw [h0] at HG
    have HP := Lib.hid h
    clear h0 h he hs
    go_enter Tryz.func48, Tryz.ntmps48
    go_wp2_with (go_at_call 55; (with_reducible refine HG.out.mono ?_); rintro e w' ⟨rfl, rfl⟩)
    go_ret
    exact ⟨rfl, HP.out, gb_refl _ _⟩
  · have he : dropE s i = 0 := if_neg h0
    have hs : dropF s i = putF s (i - 1).toNat 0 := if_neg h0
    rw [he, hs]
    have hi : IsPage i := Decidable.byContradiction fun hn => h0 (getF_no hn)
    obtain ⟨k, rfl, hk⟩ : ∃ k : Nat, i = (k : Int) + 1 ∧ k < 960 := ⟨(i - 1).toNat, by unfold IsPage at hi; omega, by unfold IsPage at hi; omega⟩
    have hk1 : ((k : Int) + 1 - 1).toNat = k := by omega
    rw [hk1]
    have HP := Lib.hid (put_any p s k 0 w h hk (by omega))
    generalize getF s ((k : Int) + 1) = u at HG h0
    have hne : ((u : Int) == 0) = false := by simp; omega
    clear h0 h he hs hi hk1
    go_enter Tryz.func48, Tryz.ntmps48
    go_wp2_with (first
      | (go_at_call 55; (with_reducible refine HG.out.mono ?_); rintro e w' ⟨rfl, rfl⟩)
      | (go_at_call 84; refine HP.out.mono ?_; rintro e w' ⟨rfl, h1, g1⟩))
    go_ret
    exact ⟨rfl, h1, g1⟩
theorem clean_nil (w : World) : Calls Tryz.prog 61 #[.pointer none] w fun e w' => e = .returned (.tuple #[]) ∧ w = w' := by
  go_enter Tryz.func61, Tryz.ntmps61
  go_wp2
  refine bodyPost_ret (results_none rfl _ _ _) rfl ?_
  exact ⟨rfl, rfl⟩
def CleanGot (w : World) (p : Nat) (s : TB) (e : Ending) (w' : World) : Prop := e = .returned (.tuple #[]) ∧ PT w' p (cleanF s) ∧ w.grownBy w' (some p)
theorem gb_setRow (w : World) (g : Nat) (cs : Array Value) : w.grownBy (w.setRow g cs) (some g) := by
  refine ⟨rfl, rfl, rfl, by simp, fun k _ hk => ?_⟩
  exact setRow_other w g k cs (fun e => hk (by rw [e]))
theorem offs8 : bools (offs 8) = [.bool false, .bool false, .bool false, .bool false, .bool false, .bool false, .bool false, .bool false] := rfl
theorem tabC_off {s : TB} (h : s.Fit) : ((tabC s).toArray.toList.take (960 + 0) ++ bools (offs 8) ++ (tabC s).toArray.toList.drop (960 + 0 + (bools (offs 8)).length)).toArray = (tabC (cleanF s)).toArray := by
  congr 1
  show (tabC s).take 960 ++ bools (offs 8) ++ (tabC s).drop (960 + (bools (offs 8)).length) = _
  have h1 : (u16C s.P).length = 960 := by rw [u16C_length]; exact h.1
  rw [List.drop_eq_nil_of_le (by rw [tabC_length h, bools_length, offs_length]; omega), List.append_nil]
  unfold tabC cleanF
  rw [List.take_append_of_le_length (by omega), List.take_of_length_le (by omega)]
theorem clear_tab {p : Nat} {s : TB} {w : World} (h : PT w p s) (ty : TypeId) :
    (Builtin.clear_ #[163] ty #[.slice (some ⟨p, 960, none⟩) 8 8]).run Tryz.prog w = .ok (.tuple #[]) (w.setRow p (tabC (cleanF s)).toArray) := by
  have hst := run_storeCells_at Tryz.prog p 960 125 (bools (offs 8)) 0 (tabC s).toArray w h.1 (by rw [List.size_toArray, tabC_length h.2, bools_length, offs_length]; omega) (by
    intro v hv; unfold bools at hv; obtain ⟨b, _, rfl⟩ := List.mem_map.1 hv; rfl)
  rw [tabC_off h.2, offs8] at hst
  have hc : (Go.Builtin.zeroCells (Value.bool false).cells 8).toList = [Value.bool false, .bool false, .bool false, .bool false, .bool false, .bool false, .bool false, .bool false] := by kernel_rfl
  simp [Builtin.clear_, run_underlying Tryz.underlying163, Tryz.zeroValue4, hc, hst, Result.andThen]
theorem clean_any (p : Nat) (s : TB) (w : World) (h : PT w p s) : Calls Tryz.prog 61 #[.pointer (some ⟨p, 0, none⟩)] w (CleanGot w p s) := by
  have hc := clear_tab h
  have hfin : CleanGot w p s (.returned (.tuple #[])) (w.setRow p (tabC (cleanF s)).toArray) := ⟨rfl, ⟨setRow_heap w p _ _ _ _ h.1, cleanF_fit h.2⟩, gb_setRow _ _ _⟩
  have HF := Lib.hid hfin
  clear h hfin
  generalize w.setRow p (tabC (cleanF s)).toArray = W at hc HF
  go_enter Tryz.func61, Tryz.ntmps61
  go_wp2
  go_end0
  exact HF.out
end Go.Proofs.YtliiooldlooagaaGreatDoor.T9

/-
  Whole arrays loaded out of a table, one of their elements, and what Dirty answers, over this seat's translation; conditions: the table's block is there, or there is no table.
-/
namespace Go.Proofs.YtliiooldlooagaaGreatDoor.T9
open Go.RowKit

/-- A load of whatever a run of it answers. -/
theorem wp_load_at {P : Program} {o : Oper} {a : Act} {w : World} {K : Act → World → Prop} {Q : Exit → Act → World → Prop} (ty : TypeId) (x : Operand) (ho : o.op = .load ty x)
    (ad : Addr) (hx : a.eval x = .pointer (some ad)) (v : Value) (hr : (loadVar ty ad).run P w = .ok v w) (h : K (a.put o.dst v) w) : o.wp P a w K Q := by
  unfold Oper.wp execOp
  simp only [ho, hx, Instr.loadAt, Instr.sureAddr, Sem.run_bind, Sem.run_pure, Result.andThen_ok, hr]
  exact h
theorem wpList_load_at {P : Program} {ops : Array Oper} {rest : List Oper} {o : Oper} {a : Act} {w : World} {Q : Exit → Act → World → Prop} (hgd : o.guard = none) (ty : TypeId) (x : Operand) (ho : o.op = .load ty x)
    (ad : Addr) (hx : a.eval x = .pointer (some ad)) (v : Value) (hr : (loadVar ty ad).run P w = .ok v w) (h : wpList P ops Q rest (a.put o.dst v) w) : wpList P ops Q (o :: rest) a w :=
  wpList_plain hgd fun _ hK => wp_load_at ty x ho ad hx v hr (hK _ _ h)
theorem load_row {w : World} {p : Nat} {t : TypeId} {vs : Array Value} (h : Blk w p t vs) (o : Nat) (L : List Value) (hL : ∀ j v, L[j]? = some v → vs[o + j]? = some v) : (loadCells ⟨p, o, none⟩ L.length).run Tryz.prog w = .ok L.toArray w :=
  run_loadCells_list (P := Tryz.prog) w ⟨p, o, none⟩ L (fun j v hv => by rw [add_at]; exact h.cell (o + j) (hL j v hv))
theorem load_dirt {w : World} {p : Nat} {s : TB} (h : PT w p s) : (loadVar 123 ⟨p, 960, none⟩).run Tryz.prog w = .ok (.agg (bools s.D).toArray) w := by
  have hl := load_row h.1 960 (bools s.D) (fun j v hv => by
    have hj : j < 8 := by have := (List.getElem?_eq_some_iff.1 hv).1; rw [bools_length, h.2.2.1] at this; exact this
    rw [List.getElem?_toArray, tabC_dirt h.2 hj, ← hv, bools_at (by rw [h.2.2.1]; exact hj)])
  rw [bools_length, h.2.2.1] at hl
  simp [loadVar, Sem.run_bind, Tryz.isAgg123, Tryz.sizeOf123, hl]
theorem load_pages {w : World} {p : Nat} {s : TB} (h : PT w p s) : (loadVar 122 ⟨p, 0, none⟩).run Tryz.prog w = .ok (.agg (u16C s.P).toArray) w := by
  have hl := load_row h.1 0 (u16C s.P) (fun j v hv => by
    have hj : j < 960 := by have := (List.getElem?_eq_some_iff.1 hv).1; rw [u16C_length, h.2.1] at this; exact this
    rw [Nat.zero_add, List.getElem?_toArray, tabC_page h.2 hj, ← hv, u16C_at (by rw [h.2.1]; exact hj)])
  rw [u16C_length, h.2.1] at hl
  simp [loadVar, Sem.run_bind, Tryz.isAgg122, Tryz.sizeOf122, hl]
theorem index_dirt (D : List Bool) (hD : D.length = 8) (k : Nat) (hk : k < 8) (w : World) : (Instr.index 123 (.agg (bools D).toArray) (.int .i64 (k : Nat))).run Tryz.prog w = .ok (.bool (D.getD k false)) w := by
  have h := bools_at (l := D) (k := k) (by omega)
  simp [Instr.index, asIntOf, Sem.run_bind, run_underlying Tryz.underlying123, Tryz.sizeOf4, part, Tryz.isAgg4, h, hk]
theorem index_pages (P : List Nat) (hP : P.length = 960) (k : Nat) (hk : k < 960) (w : World) : (Instr.index 122 (.agg (u16C P).toArray) (.int .i64 (k : Nat))).run Tryz.prog w = .ok (.int .u16 (P.getD k 0 : Nat)) w := by
  have h := u16C_at (l := P) (k := k) (by omega)
  simp [Instr.index, asIntOf, Sem.run_bind, run_underlying Tryz.underlying122, Tryz.sizeOf23, part, Tryz.isAgg23, h, hk]

def dirtyTo (D : List Bool) (k : Nat) : List Nat := (List.range k).filter fun i => D.getD i false
theorem dirtyTo_yes {D : List Bool} {k : Nat} (h : D.getD k false = true) : dirtyTo D (k + 1) = dirtyTo D k ++ [k] := by
  rw [List.getD_eq_getElem?_getD] at h; unfold dirtyTo; rw [List.range_succ, List.filter_append]; simp [h]
theorem dirtyTo_no {D : List Bool} {k : Nat} (h : D.getD k false = false) : dirtyTo D (k + 1) = dirtyTo D k := by
  rw [List.getD_eq_getElem?_getD] at h; unfold dirtyTo; rw [List.range_succ, List.filter_append]; simp [h]
theorem dirtyTo_length (D : List Bool) (k : Nat) : (dirtyTo D k).length ≤ k := by
  unfold dirtyTo; exact Nat.le_trans (List.length_filter_le _ _) (by simp)
theorem intsC_snoc (l : List Nat) (n : Nat) : intsC (l ++ [n]) = intsC l ++ [.int .i64 (n : Nat)] := by simp [intsC]
theorem cell1_new (w : World) (x : Value) (t : TypeId) : ∀ j u, [x][j]? = some u → (w.alloc (.cells #[x] t)).cell? ((⟨w.heap.size, 0, none⟩ : Addr).add j) = some u := by
  intro j u hj
  rw [add_at, Nat.zero_add]
  exact (Blk.mk w t #[x]).cell j (by rw [List.getElem?_toArray]; exact hj)
theorem one_int (k : IntKind) (z : Int) : ∀ u ∈ [Value.int k z], u.oneCell' = true := by
  intro u hu; simp at hu; rw [hu]; rfl
theorem Tryz.infoInt : (Tryz.prog.info? 3).map (fun i => (i.zero, i.size, i.bytes)) = some (some (.int .i64 0), 1, 8) := by kernel_rfl
theorem owns_mono {w : World} {base base' : Nat} {e : TypeId} {size : Nat} {v : Value} {n : Nat} {xs : List Value} (h : w.ownsRow base e size v n xs) (hb : base' ≤ base) : w.ownsRow base' e size v n xs := by
  refine ⟨h.1, ?_⟩
  rcases h.2 with h1 | ⟨g, cap, cur, e1, e2, e3⟩
  · exact Or.inl h1
  · exact Or.inr ⟨g, cap, cur, e1, by omega, e3⟩
/-- A list of numbers in a slice that is new; nothing that was there has turned. -/
def NtsGot (w : World) (l : List Nat) (e : Ending) (w' : World) : Prop := ∃ v, e = .returned v ∧ w'.ownsRow w.heap.size 3 1 v l.length (intsC l) ∧ w.grownBy w' none
theorem dirty_nil (w : World) : Calls Tryz.prog 31 #[.pointer none] w fun e w' => e = .returned (.slice none 0 0) ∧ w = w' := by
  go_enter Tryz.func31, Tryz.ntmps31
  go_wp2
  go_ret
  exact ⟨rfl, rfl⟩
/-- A row of numbers of the call's own. -/
def RowIn (w : World) (l : List Nat) (v : Value) (W : World) : Prop := W.ownsRow w.heap.size 3 1 v l.length (intsC l) ∧ w.grownBy W none
theorem RowIn.nil (w : World) : RowIn w [] (.slice none 0 0) w := ⟨World.ownsRow_nil _ _ _ _, gb_refl _ _⟩
theorem RowIn.shape {w : World} {l : List Nat} {v : Value} {W : World} (h : RowIn w l v W) : ∃ ao cap, v = .slice ao l.length cap := by
  obtain ⟨ao, cap, h1, _⟩ := Sl.of_owns h.1; exact ⟨ao, cap, h1⟩
theorem RowIn.got {w : World} {l : List Nat} {v : Value} {W : World} (h : RowIn w l v W) : Nts W v l := Sl.of_owns h.1
theorem RowIn.snoc {w : World} {l : List Nat} {v v3 : Value} {W w3 : World} {n : Nat} {t : TypeId} (h : RowIn w l v W) (o3 : w3.ownsRow w.heap.size 3 1 v3 (l.length + 1) (intsC l ++ [.int .i64 (n : Nat)])) (g3 : (W.alloc (.cells #[.int .i64 (n : Nat)] t)).grownBy w3 v.ownBlock) : RowIn w (l ++ [n]) v3 w3 :=
  ⟨owns_cast o3 (by simp) (intsC_snoc l n).symm, gb_app h.2 h.1 (Nat.le_refl _) g3⟩
theorem RowIn.keep {w : World} {l : List Nat} {v : Value} {W W' : World} (h : RowIn w l v W) (g : W.grownBy W' none) : RowIn w l v W' := ⟨h.1.kept g (by cases v.ownBlock <;> simp), gb_trans h.2 g⟩
set_option maxRecDepth 100000 in
set_option maxHeartbeats 1000000 in
theorem dirty_any (p : Nat) (s : TB) (w : World) (h : PT w p s) : Calls Tryz.prog 31 #[.pointer (some ⟨p, 0, none⟩)] w (NtsGot w (dirtyF s.D)) := by
  obtain ⟨i0, hi, hz0, hz1, hz2⟩ := info_parts Tryz.infoInt
  have hl := load_dirt h
  have hx := index_dirt s.D h.2.2.1
  obtain ⟨C, hC⟩ : ∃ C, (bools s.D).toArray = C := ⟨_, rfl⟩
  rw [hC] at hl hx
  have HX := Lib.hid hx
  clear h hC hx
  go_enter Tryz.func31, Tryz.ntmps31
  go_wp2_with (refine wpList_load_at rfl 123 (.tmp 10) rfl ⟨p, 960, none⟩ rfl _ hl ?_)
  clear hl
  go_loopw [3, 12] (fun v i wr => ∃ k : Nat, k ≤ 8 ∧ i = .int .i64 k ∧ RowIn w (dirtyTo s.D k) v wr) (fun _ i _ => 8 - (intOf i).toNat)
  case atStart => exact ⟨0, by omega, rfl, RowIn.nil w⟩
  case round =>
    obtain ⟨k, hk, rfl, hR⟩ := hrel
    obtain ⟨ao, cap, rfl⟩ := hR.shape
    have hlen := dirtyTo_length s.D k
    by_cases hlt : k < 8
    · have hix := HX.out k hlt
      obtain ⟨b, hb⟩ : ∃ b, s.D.getD k false = b := ⟨_, rfl⟩
      rw [hb] at hix
      cases b
      · have hR2 : RowIn w (dirtyTo s.D (k + 1)) (.slice ao (dirtyTo s.D k).length cap) wr := by rw [dirtyTo_no hb]; exact hR
        have HR := Lib.hid hR2
        clear hR hR2 hb
        generalize dirtyTo s.D k = L at *
        go_wp2
        go_roundw
        case rel => exact ⟨k + 1, by omega, by go_num, HR.out⟩
        case measure => simp [intOf]; omega
      · have HS := Lib.hid (dirtyTo_yes hb)
        generalize dirtyTo s.D k = L at *
        have own := hR.1
        have hg := hR.2.size
        have HR := Lib.hid hR
        clear hR hb
        go_wp2_with (at_builtin; go_must (refine wpList_append_own _ rfl _ _ 40 rfl w.heap.size 3 i0 (.int .i64 0) 1 8 Tryz.underlying40 hi hz0 hz1 hz2 rfl (by decide) _ _ _ rfl (own.alloc _) ⟨wr.heap.size, 0, none⟩ 1 1 [.int .i64 (k : Nat)] rfl rfl (cell1_new _ _ _) (one_int _ _) (by unfold maxLen; omega) (by omega) (by simp; omega) ?_; intro v3 w3 own3 g3 _))
        have HQ := Lib.hid (HR.out.snoc own3 g3)
        clear own3 g3 own HR
        go_roundw
        case rel => exact ⟨k + 1, by omega, by go_num, by rw [HS.out]; exact HQ.out⟩
        case measure => simp [intOf]; omega
    · obtain rfl : k = 8 := by omega
      have HR := Lib.hid hR
      clear hR
      go_wp2
      go_ret
      exact ⟨_, rfl, HR.out.1, HR.out.2⟩
end Go.Proofs.YtliiooldlooagaaGreatDoor.T9

/-
  The table's pages, gone through: its iterator's contract, and what Lowest and Sectors answer, over this seat's translation; conditions: the table's block is there, or there is no table.
-/
namespace Go.Proofs.YtliiooldlooagaaGreatDoor.T9
open Go.RowKit Go.Shelf
attribute [local go_sem] Oper.semAt_some

theorem all_any (p : Nat) (w : World) : Calls Tryz.prog 89 #[.pointer (some ⟨p, 0, none⟩)] w fun e w' => e = .returned (.func (.func 112) #[] #[.pointer (some ⟨w.heap.size, 0, none⟩)]) ∧ w' = w.alloc (.cells #[.pointer (some ⟨p, 0, none⟩)] 68) := by
  go_enter Tryz.func89, Tryz.ntmps89
  go_wp2
  go_ret
  exact ⟨rfl, rfl⟩
theorem wpListIn_load_at {F : Fence} {n : Nat} {P : Program} {ops : Array Oper} {rest : List Oper} {o : Oper} {a : Act} {w : World} {Q : Exit → Act → World → Prop} (hgd : o.guard = none) (ty : TypeId) (x : Operand) (ho : o.op = .load ty x)
    (ad : Addr) (hx : a.eval x = .pointer (some ad)) (v : Value) (hr : (loadVar ty ad).run P w = .ok v w) (h : wpListIn F n P ops Q rest (a.put o.dst v) w) : wpListIn F n P ops Q (o :: rest) a w := by
  refine wpListIn_plain hgd fun K hK' => ?_
  unfold Oper.wpIn
  refine ⟨?_, ?_⟩
  · simp [Oper.about, ho]
  · rw [Oper.semAt_plain F _ _ (by rw [ho]; intro c hc'; cases hc')]
    simp [execOp, ho, hx, Instr.loadAt, Instr.sureAddr, Sem.run_bind, Result.andThen, hr]
    exact hK' _ _ h
/-- What a round need keep: nothing. -/
def Keep0 (_ _ : World) : Prop := True
set_option maxRecDepth 100000 in
set_option maxHeartbeats 1000000 in
theorem all1_in (n : Nat) (hn : 1 ≤ n) (l B p : Nat) (s : TB) (J Jx : List (Nat × Nat) → World → Prop)
    (hY : ∀ pre x W, J pre W → pre.length < 961 → YieldAt Fence.wide (n - 1) Tryz.prog l #[.int .i64 (x.1 : Nat), .int .i64 (x.2 : Nat)] W fun e W' =>
      (e = .returned (.bool true) ∧ J (pre ++ [x]) W' ∧ Keep0 W W') ∨ (e = .returned (.bool false) ∧ Jx (pre ++ [x]) W'))
    (W : World) (hB : W.cell? ⟨B, 0, none⟩ = some (.pointer (some ⟨p, 0, none⟩))) (hP : PT W p s) (h0 : J [] W) :
    CallsIn Fence.wide n Tryz.prog 112 #[.func (.yield l) #[] #[], .pointer (some ⟨B, 0, none⟩)] W fun e W' => (∃ v, e = .returned v) ∧
      ((∃ ys, ys = allF s.P ∧ J ys W') ∨ (∃ pre, (∃ k, k ≤ 960 ∧ pre = (allF s.P).take k) ∧ Jx pre W')) := by
  have hl := load_pages hP
  have hx := index_pages s.P hP.2.1
  have hlt := hP.fit.lt
  obtain ⟨C, hC⟩ : ∃ C, (u16C s.P).toArray = C := ⟨_, rfl⟩
  rw [hC] at hl hx
  have HX := Lib.hid hx
  have HLT := Lib.hid hlt
  clear hP hC hx hlt
  refine callsIn_of_wp Tryz.func112 rfl trivial ?_ rfl
  simp only [Tryz.ntmps112, List.size_toArray, List.length_cons, List.length_nil, Nat.reduceAdd, Nat.reduceSub, Array.replicate_succ, Array.replicate_zero, List.push_toArray, List.append_toArray, List.nil_append, List.cons_append]
  gi_wp2_with (refine wpListIn_load_at rfl 122 (.tmp 7) rfl ⟨p, 0, none⟩ rfl _ hl ?_)
  clear hl
  gi_loopw [9] (fun i wr => ∃ k : Nat, k ≤ 960 ∧ i = .int .i64 k ∧ J ((allF s.P).take k) wr) (fun i _ => 960 - (intOf i).toNat)
  case atStart => exact ⟨0, by omega, rfl, h0⟩
  case round =>
    obtain ⟨k, hk, rfl, hJs⟩ := hrel
    clear hB h0
    by_cases hlt : k < 960
    · have hix := HX.out k hlt
      have hvl := HLT.out k
      have HS := Lib.hid (allF_snoc s.P hlt)
      obtain ⟨fn, tmps, assign, body, hy, hR⟩ := hY ((allF s.P).take k) (k + 1, s.P.getD k 0) wr hJs (by rw [List.length_take]; omega)
      dsimp only at hy hR
      generalize s.P.getD k 0 = v at hix hvl HS hR hy
      have hvw : IntKind.i64.wrap (v : Int) = (v : Int) := IntWalk.i64_in _ (by omega)
      have e1 : ((k + 1 : Nat) : Int) = (k : Int) + 1 := by omega
      rw [e1] at hy
      clear hY
      gi_wp2
      refine hR.mono ?_
      rintro e' W3 (⟨rfl, hJ3, _⟩ | ⟨rfl, hJx3⟩)
      · rw [← HS.out] at hJ3
        gi_wp2
        go_roundw
        case rel => exact ⟨k + 1, by omega, by go_num, hJ3⟩
        case measure => simp [intOf]; omega
      · rw [← HS.out] at hJx3
        gi_wp2
        refine bodyPost_ret (results_none rfl _ _ _) rfl ?_
        exact ⟨⟨_, rfl⟩, .inr ⟨_, ⟨k + 1, by omega, rfl⟩, hJx3⟩⟩
    · obtain rfl : k = 960 := by omega
      rw [List.take_of_length_le (by rw [allF_length]; omega)] at hJs
      gi_wp2
      go_end0
      exact ⟨⟨_, rfl⟩, .inl ⟨_, rfl, hJs⟩⟩

/-- What the closure hands over: all pages in their order, or a beginning of them. -/
theorem all_stops (n : Nat) (hn : 1 ≤ n) (B p : Nat) (s : TB) (w : World) (hBn : B < w.heap.size)
    (hc : w.cell? ⟨B, 0, none⟩ = some (.pointer (some ⟨p, 0, none⟩))) (hP : PT w p s) :
    SeqStopsK Fence.wide n Tryz.prog 112 #[.pointer (some ⟨B, 0, none⟩)] (fun x : Nat × Nat => #[Value.int .i64 (x.1 : Nat), .int .i64 (x.2 : Nat)]) Keep0 (fun ys => ys = allF s.P) (fun pre => ∃ k, k ≤ 960 ∧ pre = (allF s.P).take k) 961 w := fun l J Jx W hW _ _ hY h0 =>
  all1_in n hn l B p s J Jx hY W ((hW.cell (p := ⟨B, 0, none⟩) hBn).trans hc) (hP.keep0 (gb_of_below hW)) h0
end Go.Proofs.YtliiooldlooagaaGreatDoor.T9

/-
  What Lowest and Sectors answer, over this seat's translation; conditions: the table's block is there, or there is no table.
-/
namespace Go.Proofs.YtliiooldlooagaaGreatDoor.T9
open Go.RowKit Go.Shelf
attribute [local go_sem] Oper.semAt_some

theorem keep0_t {A B C : World} (_ : Keep0 A B) (_ : Keep0 B C) : Keep0 A C := trivial
theorem blk_own {β : Type} (N B : Nat) (t : TypeId) (f : β → Array Value) : OwnFrom N (fun s W => Blk W B t (f s)) := by
  intro s W W' row h g hr
  refine Blk.keep h g ?_
  intro e
  obtain ⟨_, o, ho, hc⟩ := hr B e.symm
  unfold Blk at h
  rw [h] at ho; cases ho; cases hc
/-- What a beginning of all pages tells of the lowest one. -/
theorem low_of_pre {P : List Nat} (hP : P.length = 960) {k : Nat} (hk : k ≤ 960) {pre : List (Nat × Nat)} {x : Nat × Nat} (h : pre ++ [x] = (allF P).take k) (hb : ∀ y ∈ pre, y.2 ≠ 0) (hx : x.2 = 0) : lowN P = x.1 ∧ lowE P = 0 := by
  have hl : pre.length + 1 = k := by
    have := congrArg List.length h
    rw [List.length_append, List.length_take, allF_length] at this
    simp at this; omega
  have hget : ∀ j y, (pre ++ [x])[j]? = some y → y = (j + 1, P.getD j 0) := by
    intro j y hj
    have h1 : j < k := by have := (List.getElem?_eq_some_iff.1 hj).1; simp at this; omega
    rw [h, List.getElem?_take, if_pos h1, allF_at P (by omega)] at hj
    exact (Option.some.inj hj).symm
  have hxk := hget pre.length x (by simp)
  obtain ⟨h1, h2⟩ := low_told (P := P) (k := pre.length) (by omega) (by rw [hxk] at hx; exact hx) (fun j hj => by
    have h3 : (pre ++ [x])[j]? = some pre[j] := by rw [List.getElem?_append_left hj, List.getElem?_eq_getElem hj]
    have h4 := hget j _ h3
    have h5 := hb pre[j] (List.getElem_mem hj)
    rw [h4] at h5; exact h5)
  rw [h1, hxk]; exact ⟨rfl, h2⟩
theorem low_of_all {P : List Nat} (hP : P.length = 960) (hb : ∀ y ∈ allF P, y.2 ≠ 0) : lowN P = 0 ∧ lowE P = 15 :=
  low_full fun j hj => hb (j + 1, P.getD j 0) (List.mem_of_getElem? (allF_at P (by omega)))
theorem two_rows {fn : Func} {p q : Tmp} (h : fn.results = #[.cell p 3, .cell q 33]) (tmps : Array Value) (w : World) (B C : Nat) (y z : Int)
    (hp : tmps.getD p undef = .pointer (some ⟨B, 0, none⟩)) (hq : tmps.getD q undef = .pointer (some ⟨C, 0, none⟩)) (hb : Blk w B 3 #[.int .i64 y]) (hc : Blk w C 33 #[.int .i64 z]) : (results fn tmps).run Tryz.prog w = .ok (.tuple #[.int .i64 y, .int .i64 z]) w := by
  have r0 := hb.cell 0 rfl
  have r1 := hc.cell 0 rfl
  have hp' : tmps[p]?.getD undef = .pointer (some ⟨B, 0, none⟩) := by simpa using hp
  have hq' : tmps[q]?.getD undef = .pointer (some ⟨C, 0, none⟩) := by simpa using hq
  simp [results, h, hp', hq', go_sem, r0, r1]
theorem lowest_nil (w : World) : Calls Tryz.prog 53 #[.pointer none] w fun e w' => e = .returned (.tuple #[.int .i64 0, .int .i64 1]) ∧ w.grownBy w' none := by
  go_enter Tryz.func53, Tryz.ntmps53
  go_wp2
  have b0 := (Blk.mk w 3 #[.int .i64 0]).keep0 (gb_alloc _ (.cells #[.int .i64 1] 33) none)
  have b1 := Blk.mk (w.alloc (.cells #[.int .i64 0] 3)) 33 #[.int .i64 1]
  have g0 : w.grownBy ((w.alloc (.cells #[.int .i64 0] 3)).alloc (.cells #[.int .i64 1] 33)) none := gb_trans (gb_alloc _ _ _) (gb_alloc _ _ _)
  simp only [World.size_alloc] at b1
  exact bodyPost_ret (two_rows rfl _ _ w.heap.size (w.heap.size + 1) _ _ rfl rfl b0 b1) rfl ⟨rfl, g0⟩
def LowGot (w : World) (P : List Nat) (e : Ending) (w' : World) : Prop := e = .returned (.tuple #[.int .i64 (lowN P : Nat), .int .i64 (lowE P : Nat)]) ∧ w.grownBy w' none
set_option maxRecDepth 100000 in
set_option maxHeartbeats 1000000 in
theorem lowest_any (p : Nat) (s : TB) (w : World) (h : PT w p s) : Calls Tryz.prog 53 #[.pointer (some ⟨p, 0, none⟩)] w (LowGot w s.P) := by
  have hp := h.lt
  refine (callsIn_wide (n := 5)).1 ?_
  refine callsIn_of_wp_marks Tryz.func53 rfl trivial ?_ rfl
  simp only [Tryz.ntmps53, List.size_toArray, List.length_cons, List.length_nil, Nat.reduceAdd, Nat.reduceSub, Array.replicate_succ, Array.replicate_zero, List.push_toArray, List.append_toArray, List.nil_append, List.cons_append]
  gi_wp2_with (refine ⟨trivial, ?_⟩; gi_at_call 89; (with_reducible refine (callsIn_wide.2 (all_any _ _)).mono ?_); rintro e w' ⟨rfl, rfl⟩)
  have b0 := ((Blk.mk w 3 #[.int .i64 0]).keep0 (gb_alloc _ (.cells #[.int .i64 0] 33) none)).keep0 (gb_alloc _ (.cells #[.pointer (some ⟨p, 0, none⟩)] 68) none)
  have b1 := (Blk.mk (w.alloc (.cells #[.int .i64 0] 3)) 33 #[.int .i64 0]).keep0 (gb_alloc _ (.cells #[.pointer (some ⟨p, 0, none⟩)] 68) none)
  have b2 := Blk.mk ((w.alloc (.cells #[.int .i64 0] 3)).alloc (.cells #[.int .i64 0] 33)) 68 #[.pointer (some ⟨p, 0, none⟩)]
  have g0 : w.grownBy (((w.alloc (.cells #[.int .i64 0] 3)).alloc (.cells #[.int .i64 0] 33)).alloc (.cells #[.pointer (some ⟨p, 0, none⟩)] 68)) none := gb_trans (gb_trans (gb_alloc _ _ _) (gb_alloc _ _ _)) (gb_alloc _ _ _)
  have hsz : (((w.alloc (.cells #[.int .i64 0] 3)).alloc (.cells #[.int .i64 0] 33)).alloc (.cells #[.pointer (some ⟨p, 0, none⟩)] 68)).heap.size = w.heap.size + 3 := by simp
  simp only [World.size_alloc] at b1 b2
  generalize ((w.alloc (.cells #[.int .i64 0] 3)).alloc (.cells #[.int .i64 0] 33)).alloc (.cells #[.pointer (some ⟨p, 0, none⟩)] 68) = W0 at b0 b1 b2 g0 hsz ⊢
  have hP0 := h.keep0 g0
  have HF := Lib.hid h.fit
  clear h
  refine wpIn_rangeFunc_ownF (a₁ := ?fr) rfl (by omega) (gf := 112) (lb := #[.pointer (some ⟨w.heap.size + 1 + 1, 0, none⟩)]) rfl trivial (enters_of Tryz.func112 (by kernel_rfl) rfl)
    (all_stops _ (by omega) (w.heap.size + 1 + 1) p s W0 (by omega) (b2.cell 0 rfl) hP0) keep0_t (fun _ _ _ _ _ _ _ _ => trivial) (Below.refl _ _) (fun _ => rfl)
    (fun pre W => Blk W w.heap.size 3 #[.int .i64 0] ∧ Blk W (w.heap.size + 1) 33 #[.int .i64 0] ∧ Below w.heap.size w W ∧ ∀ y ∈ pre, y.2 ≠ 0)
    (fun c pre W => c = Code.ret ∧ ∃ pr x, pre = pr ++ [x] ∧ (∀ y ∈ pr, y.2 ≠ 0) ∧ x.2 = 0 ∧ Blk W w.heap.size 3 #[.int .i64 (x.1 : Nat)] ∧ Blk W (w.heap.size + 1) 33 #[.int .i64 0] ∧ Below w.heap.size w W)
    (OwnFrom.and (blk_own _ _ _ _) (OwnFrom.and (blk_own _ _ _ _) (OwnFrom.and (ownFrom_below (Nat.le_refl _) (by omega)) (fun _ _ _ _ h _ _ => h))))
    (fun _ => OwnFrom.and (fun _ _ _ _ h _ _ => h) (fun s A B row hs hg hr => by
      obtain ⟨pr, x, h1, h2, h3, h4, h5, h6⟩ := hs
      exact ⟨pr, x, h1, h2, h3, blk_own (β := Unit) _ _ _ (fun _ => _) () A B row h4 hg hr, blk_own (β := Unit) _ _ _ (fun _ => _) () A B row h5 hg hr, ownFrom_below (β := Unit) (Nat.le_refl _) (by omega) () A B row h6 hg hr⟩))
    ⟨b0, b1, gb_below g0, by simp⟩
    ?assign ?body ?done ?stop
  case assign =>
    intro l x W K hK
    gi_wp2
    exact hK
  case body =>
    rintro l pre x W ⟨hT0, hT1, hB, hne⟩ hpl
    obtain ⟨xa, xb⟩ := x
    have c0 := hT0.cell 0 rfl
    have d0 := hT1.cell 0 rfl
    have e0 := hT0.free 0
    have e1 := hT1.free 0
    by_cases hx : xb = 0
    · subst hx
      have HN := Lib.hid hne
      clear hne
      gi_wp2
      refine ⟨(KeepsOthers.setCell _ _ _).trans (KeepsOthers.setCell _ _ _), rfl, pre, (xa, 0), rfl, HN.out, rfl, (hT0.set 0 _).keep (gb_set _ _ _ _ _) (ne_some (by omega)), (hT1.keep (gb_set _ _ _ _ _) (ne_some (by omega))).set 0 _, (hB.setCell (p := ⟨w.heap.size, 0, none⟩) (Nat.le_refl _) _).setCell (p := ⟨w.heap.size + 1, 0, none⟩) (by simp) _⟩
    · have hx1 : ((xb : Int) == 0) = false := by simp; omega
      have HN := Lib.hid hne
      clear hne
      gi_wp2
      refine ⟨KeepsOthers.refl _, trivial, hT0, hT1, hB, ?_⟩
      intro z hz
      rcases List.mem_append.1 hz with h | h
      · exact HN.out z h
      · rw [List.mem_singleton.1 h]; exact hx
  case done =>
    rintro D ys W hD hys ⟨hT0, hT1, hB, hne⟩ hK
    subst hys
    have HL := Lib.hid (low_of_all HF.out.1 hne)
    have c0 := hT0.cell 0 rfl
    have d0 := hT1.cell 0 rfl
    have e0 := hT0.free 0
    have e1 := hT1.free 0
    clear hne
    gi_wp2
    have hK2 : ((W.setCell ⟨w.heap.size, 0, none⟩ (.int .i64 0)).setCell ⟨w.heap.size + 1, 0, none⟩ (.int .i64 15)).heap[D]? = some (.deferred (some [])) :=
      (Below.heap_setCell _ ⟨w.heap.size + 1, 0, none⟩ _ D (by show D ≠ w.heap.size + 1; omega)).trans ((Below.heap_setCell W ⟨w.heap.size, 0, none⟩ (.int .i64 0) D (by show D ≠ w.heap.size; omega)).trans hK)
    refine ⟨by simp, .inl ⟨_, _, rfl, run_takeDeferred hK2, ?_⟩⟩
    refine ⟨_, two_rows rfl _ _ w.heap.size (w.heap.size + 1) _ _ rfl rfl (((hT0.set 0 _).keep (gb_set _ _ _ _ _) (ne_some (by omega))).keep (grownBy_putObj' _ D _) (ne_some (by omega))) (((hT1.keep (gb_set _ _ _ _ _) (ne_some (by omega))).set 0 _).keep (grownBy_putObj' _ D _) (ne_some (by omega))), ?_⟩
    exact ⟨by rw [HL.out.1, HL.out.2]; rfl, gb_step (gb_step (gb_step (gb_of_below hB) (gb_set _ _ _ _ _) (Nat.le_refl _)) (gb_set _ _ _ _ _) (by simp)) (grownBy_putObj' _ D _) (by omega)⟩
  case stop =>
    rintro D c pre W hD ⟨k, hk, hpre⟩ ⟨rfl, pr, x, h1, h2, h3, hT0, hT1, hB⟩ hK
    subst h1
    have HL := Lib.hid (low_of_pre HF.out.1 hk hpre h2 h3)
    clear hpre h2 h3
    gi_wp2
    refine ⟨by simp, .inl ⟨_, _, rfl, run_takeDeferred hK, ?_⟩⟩
    refine ⟨_, two_rows rfl _ _ w.heap.size (w.heap.size + 1) _ _ rfl rfl (hT0.keep (grownBy_putObj' _ D _) (ne_some (by omega))) (hT1.keep (grownBy_putObj' _ D _) (ne_some (by omega))), ?_⟩
    exact ⟨by rw [HL.out.1, HL.out.2]; rfl, gb_step (gb_of_below hB) (grownBy_putObj' _ D _) (by omega)⟩
theorem sectors_nil (w : World) : Calls Tryz.prog 92 #[.pointer none] w fun e w' => e = .returned (.slice none 0 0) ∧ w = w' := by
  go_enter Tryz.func92, Tryz.ntmps92
  go_wp2
  go_ret
  exact ⟨rfl, rfl⟩
theorem own_not {w : World} {base size n D : Nat} {e : TypeId} {v : Value} {xs : List Value} {x : Option (List Deferred)} (h : w.ownsRow base e size v n xs) (hK : w.heap[D]? = some (.deferred x)) : v.ownBlock ≠ some D := by
  rcases h.2 with ⟨rfl, _⟩ | ⟨g, cap, cur, rfl, _, hg, _⟩
  · intro h; cases h
  · intro h
    have h2 : some g = some D := h
    rw [Option.some.inj h2, hK] at hg
    cases hg
/-- The sectors among the pages that have come. -/
def secsOf (pre : List (Nat × Nat)) : List Nat := secsF (pre.map (·.2))
theorem secsOf_snoc (pre : List (Nat × Nat)) (a b : Nat) : secsOf (pre ++ [(a, b)]) = if b = 0 then secsOf pre else secsOf pre ++ [b] := by
  unfold secsOf secsF
  rw [List.map_append, List.filter_append]
  by_cases h : b = 0
  · subst h; simp
  · simp [h]
theorem secsOf_length (pre : List (Nat × Nat)) : (secsOf pre).length ≤ pre.length := by
  unfold secsOf secsF
  exact Nat.le_trans (List.length_filter_le _ _) (by simp)
theorem secsOf_all {P : List Nat} (hP : P.length = 960) : secsOf (allF P) = secsF P := by unfold secsOf; rw [allF_secs hP]
/-- What has been collected so far. -/
def Collects (w : World) (pre : List (Nat × Nat)) (W : World) : Prop := ∃ ao cap, Blk W w.heap.size 40 #[.slice ao (secsOf pre).length cap] ∧ W.ownsRow (w.heap.size + 2) 3 1 (.slice ao (secsOf pre).length cap) (secsOf pre).length (intsC (secsOf pre)) ∧ Below w.heap.size w W
theorem collects_own (w : World) {N : Nat} (hN : w.heap.size ≤ N) : OwnFrom N (Collects w) := by
  intro s W W' row h g hr
  obtain ⟨ao, cap, h1, h2, h3⟩ := h
  refine ⟨ao, cap, blk_own N _ _ (fun _ => #[.slice ao (secsOf s).length cap]) s W W' row h1 g hr, h2.kept g ?_, ownFrom_below (Nat.le_refl _) hN s W W' row h3 g hr⟩
  cases hrow : row with
  | none => cases (Value.slice ao (secsOf s).length cap).ownBlock <;> simp
  | some r =>
    right
    intro e
    obtain ⟨_, o, ho, hc⟩ := hr r hrow
    rcases h2.2 with ⟨h5, _⟩ | ⟨g2, cap2, cur, h5, _, hg, _⟩
    · rw [h5] at e; cases e
    · rw [h5] at e
      have e2 : some g2 = some r := e
      rw [Option.some.inj e2, ho] at hg
      cases hg; cases hc
theorem ownsRow_succ {w : World} {base n size : Nat} {e : TypeId} {v : Value} {xs : List Value} (h : w.ownsRow base e size v (n + 1) xs) : ∃ g cap, v = .slice (some ⟨g, 0, none⟩) (n + 1) cap := by
  rcases h.2 with ⟨_, hn⟩ | ⟨g, cap, cur, rfl, _⟩
  · omega
  · exact ⟨g, cap, rfl⟩
set_option maxRecDepth 100000 in
set_option maxHeartbeats 2000000 in
theorem sectors_any (p : Nat) (s : TB) (w : World) (h : PT w p s) : Calls Tryz.prog 92 #[.pointer (some ⟨p, 0, none⟩)] w (NtsGot w (secsF s.P)) := by
  obtain ⟨i0, hi, hz0, hz1, hz2⟩ := info_parts Tryz.infoInt
  have hp := h.lt
  have HF := Lib.hid h.fit
  refine (callsIn_wide (n := 5)).1 ?_
  refine callsIn_of_wp_marks Tryz.func92 rfl trivial ?_ rfl
  simp only [Tryz.ntmps92, List.size_toArray, List.length_cons, List.length_nil, Nat.reduceAdd, Nat.reduceSub, Array.replicate_succ, Array.replicate_zero, List.push_toArray, List.append_toArray, List.nil_append, List.cons_append]
  gi_wp2_with (refine ⟨trivial, ?_⟩; gi_at_call 89; (with_reducible refine (callsIn_wide.2 (all_any _ _)).mono ?_); rintro e w' ⟨rfl, rfl⟩)
  have b0 := (Blk.mk w 40 #[.slice none 0 0]).keep0 (gb_alloc _ (.cells #[.pointer (some ⟨p, 0, none⟩)] 68) none)
  have b1 := Blk.mk (w.alloc (.cells #[.slice none 0 0] 40)) 68 #[.pointer (some ⟨p, 0, none⟩)]
  have g0 : w.grownBy ((w.alloc (.cells #[.slice none 0 0] 40)).alloc (.cells #[.pointer (some ⟨p, 0, none⟩)] 68)) none := gb_trans (gb_alloc _ _ _) (gb_alloc _ _ _)
  have hsz : ((w.alloc (.cells #[.slice none 0 0] 40)).alloc (.cells #[.pointer (some ⟨p, 0, none⟩)] 68)).heap.size = w.heap.size + 2 := by simp
  simp only [World.size_alloc] at b1
  generalize (w.alloc (.cells #[.slice none 0 0] 40)).alloc (.cells #[.pointer (some ⟨p, 0, none⟩)] 68) = W0 at b0 b1 g0 hsz ⊢
  refine wpIn_rangeFunc_ownF (a₁ := ?fr) rfl (by omega) (gf := 112) (lb := #[.pointer (some ⟨w.heap.size + 1, 0, none⟩)]) rfl trivial (enters_of Tryz.func112 (by kernel_rfl) rfl)
    (all_stops _ (by omega) (w.heap.size + 1) p s W0 (by omega) (b1.cell 0 rfl) (h.keep0 g0)) keep0_t (fun _ _ _ _ _ _ _ _ => trivial) (Below.refl _ _) (fun _ => rfl)
    (Collects w)
    (fun _ _ _ => False)
    (collects_own w (by omega))
    (fun _ _ _ _ _ hs _ _ => hs)
    ⟨none, 0, b0, World.ownsRow_nil _ _ _ _, gb_below g0⟩
    ?assign ?body ?done ?stop
  case assign =>
    intro l x W K hK
    gi_wp2
    exact hK
  case body =>
    rintro l pre x W ⟨ao, cap, hB, own, hbel⟩ hpl
    obtain ⟨xa, xb⟩ := x
    have c0 := hB.cell 0 rfl
    have f0 := hB.free 0
    have hlt := hB.lt
    have hlen := secsOf_length pre
    have HS := Lib.hid (secsOf_snoc pre xa xb)
    by_cases hx : xb = 0
    · subst hx
      have HQ : Hid (Collects w (pre ++ [(xa, 0)]) W) := Lib.hid (by
        refine ⟨ao, cap, ?_⟩
        rw [HS.out, if_pos rfl]
        exact ⟨hB, own, hbel⟩)
      clear hB own hbel HS
      generalize (secsOf pre).length = m at *
      gi_wp2
      exact ⟨KeepsOthers.refl _, trivial, HQ.out⟩
    · have hx1 : ((xb : Int) != 0) = true := by simp; omega
      have hx2 : ((xb : Int) == 0) = false := by simp; omega
      have HS2 := Lib.hid (HS.out.trans (if_neg hx))
      clear HS
      generalize secsOf pre = L at *
      gi_wp2_with (gi_at_builtin; refine wpListIn_append_own _ rfl _ _ 40 rfl (w.heap.size + 2) 3 i0 (.int .i64 0) 1 8 Tryz.underlying40 hi hz0 hz1 hz2 rfl (by decide) _ _ _ rfl (own.alloc _) ⟨W.heap.size, 0, none⟩ 1 1 [.int .i64 (xb : Nat)] rfl rfl (cell1_new _ _ _) (one_int _ _) (by unfold maxLen; omega) (by omega) (by have := hbel.size; have := hsz; have := b1.lt; simp; omega) ?_; intro v3 w3 own3 g3 _; obtain ⟨g4, cap4, rfl⟩ := ownsRow_succ own3; have b3 := blk_app hB own (by omega) g3; have c3 := b3.cell 0 rfl; have f3 := b3.free 0; replace g3 : (W.alloc (.cells #[.int .i64 (xb : Nat)] 3)).grownBy w3 (Value.slice ao L.length cap).ownBlock := g3; have G3 := Lib.hid g3; have OW := Lib.hid (And.intro own own3); have B3 := Lib.hid b3; clear g3 own own3 b3)
      refine ⟨?_, trivial, ?_⟩
      · refine (KeepsOthers.alloc W _).trans ((KeepsOthers.of_grownBy G3.out (fun j o e ho => ?_)).trans (KeepsOthers.setCell _ _ _))
        rcases (OW.out.1.alloc (.cells #[.int .i64 (xb : Nat)] 3)).2 with ⟨h5, _⟩ | ⟨g2, cap2, cur, h5, _, hg, _⟩
        · rw [h5] at e; cases e
        · rw [h5] at e
          have e2 : some g2 = some j := e
          rw [Option.some.inj e2, ho] at hg
          cases hg; rfl
      · refine ⟨some ⟨g4, 0, none⟩, cap4, ?_, ?_, gb_below (gb_step (gb_app (gb_of_below hbel) OW.out.1 (by omega) G3.out) (gb_set _ _ _ _ _) (Nat.le_refl _))⟩
        · have := B3.out.set 0 (.slice (some ⟨g4, 0, none⟩) (L.length + 1) cap4)
          rw [HS2.out, List.length_append]
          exact this
        · rw [HS2.out, List.length_append, intsC_snoc]; exact own_set (b := w.heap.size) (k := 0) OW.out.2 (by omega) _
  case done =>
    rintro D ys W hD hys ⟨ao, cap, hB, own, hbel⟩ hK
    subst hys
    rw [secsOf_all HF.out.1] at hB own
    have c0 := hB.cell 0 rfl
    gi_wp2
    refine ⟨by simp, .inl ⟨_, _, rfl, run_takeDeferred hK, ?_⟩⟩
    refine ⟨_, results_tmp rfl _ _ _, _, rfl, ?_, gb_of_below (hbel.trans (belowK_b (w := w) (Nat.le_refl _) W D _ _ (by omega) hK rfl rfl))⟩
    exact owns_mono (own.kept (grownBy_putObj' W D (.deferred none)) (Or.inr (own_not own hK))) (by omega)
  case stop =>
    rintro D c pre W _ _ h _
    exact h.elim
end Go.Proofs.YtliiooldlooagaaGreatDoor.T9

/-
  What the statements' own 'ints' and 'works' answer, over this seat's translation; conditions: the slices read as numbers.
-/
namespace Go.Proofs.YtliiooldlooagaaGreatDoor.T9
open Go.RowKit

theorem intsC_at {l : List Nat} {k : Nat} (h : k < l.length) : (intsC l)[k]? = some (.int .i64 (l.getD k 0 : Nat)) := by
  unfold intsC; rw [List.getElem?_map, List.getElem?_eq_getElem h]; simp [List.getD_eq_getElem?_getD, h]
theorem nts_at {w : World} {l : List Nat} {ao : Option Addr} {cap : Nat} (h : Nts w (.slice ao l.length cap) l) {k : Nat} (hk : k < l.length) : ∃ a, ao = some a ∧ w.cell? (a.add k) = some (.int .i64 (l.getD k 0 : Nat)) := by
  obtain ⟨a, cap', he, _, hc⟩ := Sl.some h (by omega)
  injection he with e1 _ _
  exact ⟨a, e1, hc k _ (intsC_at hk)⟩
theorem nts_shape {w : World} {v : Value} {l : List Nat} (h : Nts w v l) : ∃ ao cap, v = .slice ao l.length cap := by
  obtain ⟨ao, cap, h1, _⟩ := h; exact ⟨ao, cap, h1⟩
/-- Two lists are the same if each number is. -/
theorem same_of {l r : List Nat} (hl : l.length = r.length) (h : ∀ k, k < l.length → l.getD k 0 = r.getD k 0) : l = r := by
  refine List.ext_getElem hl fun k h1 h2 => ?_
  have := h k h1
  rw [List.getD_eq_getElem?_getD, List.getD_eq_getElem?_getD, List.getElem?_eq_getElem h1, List.getElem?_eq_getElem h2] at this
  exact this
/-- What comes of two lists held against each other. -/
def SameGot (w : World) (b : Bool) (e : Ending) (w' : World) : Prop := e = .returned (.bool b) ∧ w.grownBy w' none ∧ w'.heap = w.heap
theorem Sl_owns {w : World} {base : Nat} {v : Value} {l : List Nat} (h : w.ownsRow base 3 1 v l.length (intsC l)) : Nts w v l := Sl.of_owns h
/-- The states of the chapter's examples. -/
def k1 : TB := setF newF 1 2
def k2 : TB := setF k1 121 1023
def k3 : TB := cleanF k2
def k4 : TB := dropF k3 1
theorem set_k (p : Nat) (s s' : TB) (i v e' : Int) (hE : setE i v = e') (hS : setF s i v = s') (w : World) (h : PT w p s) : Calls Tryz.prog 80 #[.pointer (some ⟨p, 0, none⟩), .int .i64 i, .int .i64 v] w fun e w' => e = .returned (.int .i64 e') ∧ PT w' p s' ∧ w.grownBy w' (some p) := by
  subst hE hS; exact set_any p s i v w h
theorem drop_k (p : Nat) (s s' : TB) (i e' : Int) (hE : dropE s i = e') (hS : dropF s i = s') (w : World) (h : PT w p s) : Calls Tryz.prog 48 #[.pointer (some ⟨p, 0, none⟩), .int .i64 i] w fun e w' => e = .returned (.int .i64 e') ∧ PT w' p s' ∧ w.grownBy w' (some p) := by
  subst hE hS; exact drop_any p s i w h
theorem get_k (p : Nat) (s : TB) (i v : Int) (hE : (getF s i : Nat) = v) (w : World) (h : PT w p s) : Calls Tryz.prog 55 #[.pointer (some ⟨p, 0, none⟩), .int .i64 i] w fun e w' => e = .returned (.int .i64 v) ∧ w = w' := by
  subst hE; exact get_any p s i w h
theorem dirty_k (p : Nat) (s : TB) (l : List Nat) (hE : dirtyF s.D = l) (w : World) (h : PT w p s) : Calls Tryz.prog 31 #[.pointer (some ⟨p, 0, none⟩)] w (NtsGot w l) := by
  subst hE; exact dirty_any p s w h
theorem sectors_k (p : Nat) (s : TB) (l : List Nat) (hE : secsF s.P = l) (w : World) (h : PT w p s) : Calls Tryz.prog 92 #[.pointer (some ⟨p, 0, none⟩)] w (NtsGot w l) := by
  subst hE; exact sectors_any p s w h
theorem lowest_k (p : Nat) (s : TB) (n c : Int) (hN : (lowN s.P : Nat) = n) (hC : (lowE s.P : Nat) = c) (w : World) (h : PT w p s) : Calls Tryz.prog 53 #[.pointer (some ⟨p, 0, none⟩)] w fun e w' => e = .returned (.tuple #[.int .i64 n, .int .i64 c]) ∧ w.grownBy w' none := by
  subst hN hC; exact lowest_any p s w h
theorem clean_k (p : Nat) (s s' : TB) (hS : cleanF s = s') (w : World) (h : PT w p s) : Calls Tryz.prog 61 #[.pointer (some ⟨p, 0, none⟩)] w fun e w' => e = .returned (.tuple #[]) ∧ PT w' p s' ∧ w.grownBy w' (some p) := by
  subst hS; exact clean_any p s w h
theorem kset0 : setF k2 0 5 = k2 ∧ setF k2 961 5 = k2 ∧ setF k2 3 1 = k2 ∧ setF k2 3 1024 = k2 :=
  ⟨if_neg (by decide), if_neg (by decide), if_neg (by decide), if_neg (by decide)⟩
theorem ksetE : setE 1 2 = 0 ∧ setE 121 1023 = 0 ∧ setE 0 5 = 2 ∧ setE 961 5 = 2 ∧ setE 3 1 = 2 ∧ setE 3 1024 = 2 := by decide
theorem kget : (getF k2 121 : Nat) = (1023 : Int) := by decide +kernel
theorem kdirty2 : dirtyF k2.D = [0, 1] := by decide +kernel
theorem klow : (lowN k2.P : Nat) = (2 : Int) ∧ (lowE k2.P : Nat) = (0 : Int) := by decide +kernel
theorem ksecs : secsF k2.P = [2, 1023] := by decide +kernel
theorem kdrop3 : getF k2 3 = 0 := by decide +kernel
theorem kset3 : setF k3 1 2 = k3 := by
  have h : k3.P.getD 0 0 = 2 := by decide +kernel
  have h2 : putF k3 0 2 = k3 := if_pos h
  have h3 : setF k3 1 2 = putF k3 0 2 := if_pos (by decide)
  rw [h3, h2]
theorem kdirty3 : dirtyF k3.D = [] := by decide +kernel
theorem kdrop1 : getF k3 1 = 2 := by decide +kernel
theorem kdirty4 : dirtyF k4.D = [0] := by decide +kernel
theorem nts_list (w : World) (l : List Nat) : ∀ n : Nat, n = l.length → Nts (w.alloc (.cells (intsC l).toArray 3)) (.slice (some ⟨w.heap.size, 0, none⟩) n n) l := by
  rintro n rfl
  refine ⟨_, _, rfl, Nat.le_refl _, by simp [intsC], (fun e => by cases e), ?_⟩
  intro a e j u hj
  cases e
  rw [add_at, Nat.zero_add]
  exact (Blk.mk w 3 (intsC l).toArray).cell j (by rw [List.getElem?_toArray]; exact hj)
/-- A row of numbers that lies behind a block. -/
def Far (p : Nat) (W : World) (v : Value) (l : List Nat) : Prop := W.ownsRow (p + 1) 3 1 v l.length (intsC l)
theorem far_of {p : Nat} {W W' : World} {v : Value} {l : List Nat} {s : TB} (o : W'.ownsRow W.heap.size 3 1 v l.length (intsC l)) (h : PT W p s) : Far p W' v l := owns_mono o h.lt
theorem Far.keep0 {p : Nat} {W W' : World} {v : Value} {l : List Nat} (h : Far p W v l) (g : W.grownBy W' none) : Far p W' v l := World.ownsRow.kept h g (by cases v.ownBlock <;> simp)
theorem Far.keepP {p : Nat} {W W' : World} {v : Value} {l : List Nat} (h : Far p W v l) (g : W.grownBy W' (some p)) : Far p W' v l := World.ownsRow.kept h g (Or.inr (fun e => own_far h (Nat.lt_succ_self p) e.symm))
theorem Far.nts {p : Nat} {W : World} {v : Value} {l : List Nat} (h : Far p W v l) : Nts W v l := Sl.of_owns h
theorem nts_01 (w : World) : Nts (w.alloc (.cells #[.int .i64 0, .int .i64 1] 3)) (.slice (some ⟨w.heap.size, 0, none⟩) 2 2) [0, 1] := nts_list w [0, 1] 2 rfl
theorem nts_2 (w : World) : Nts (w.alloc (.cells #[.int .i64 2, .int .i64 1023] 3)) (.slice (some ⟨w.heap.size, 0, none⟩) 2 2) [2, 1023] := nts_list w [2, 1023] 2 rfl
theorem nts_0 (w : World) : Nts (w.alloc (.cells #[.int .i64 0] 3)) (.slice (some ⟨w.heap.size, 0, none⟩) 1 1) [0] := nts_list w [0] 1 rfl
end Go.Proofs.YtliiooldlooagaaGreatDoor.T9

/-
  The document's own table (foyerref09): how it lies in memory, and what New, Get, Set, Drop, Clean, Lowest, Sectors and Dirty answer and leave, over this seat's translation; conditions: the table's block is there.
-/
namespace Go.Proofs.YtliiooldlooagaaGreatDoor.T9
open Go.RowKit

theorem intsC_length (l : List Nat) : (intsC l).length = l.length := List.length_map ..
/-- The cells of the document's table. -/
def refC (s : TB) : List Value := .int .i64 0 :: (intsC s.P ++ bools s.D)
theorem refC_length {s : TB} (h : s.Fit) : (refC s).length = 969 := by unfold refC; rw [List.length_cons, List.length_append, intsC_length, bools_length, h.1, h.2.1]
theorem refC_page {s : TB} (h : s.Fit) {k : Nat} (hk : k < 960) : (refC s)[k + 1]? = some (.int .i64 (s.P.getD k 0 : Nat)) := by
  unfold refC; rw [List.getElem?_cons_succ, List.getElem?_append_left (by rw [intsC_length, h.1]; exact hk)]; exact intsC_at (by rw [h.1]; exact hk)
theorem refC_dirt {s : TB} (h : s.Fit) {k : Nat} (hk : k < 8) : (refC s)[961 + k]? = some (.bool (s.D.getD k false)) := by
  unfold refC; rw [show 961 + k = (960 + k) + 1 by omega, List.getElem?_cons_succ, List.getElem?_append_right (by rw [intsC_length, h.1]; omega), intsC_length, h.1, show 960 + k - 960 = k by omega]; exact bools_at (by rw [h.2.1]; exact hk)
theorem refC_setPage {s : TB} (h : s.Fit) {k v : Nat} (hk : k < 960) : (refC s).toArray.setIfInBounds (k + 1) (.int .i64 (v : Nat)) = (refC ⟨s.P.set k v, s.D⟩).toArray := by
  rw [List.setIfInBounds_toArray]
  congr 1
  unfold refC intsC
  rw [List.set_cons_succ, List.set_append_left _ _ (by rw [List.length_map, h.1]; exact hk), List.map_set]
theorem refC_setDirt {s : TB} (h : s.Fit) {k : Nat} (b : Bool) : (refC s).toArray.setIfInBounds (961 + k) (.bool b) = (refC ⟨s.P, s.D.set k b⟩).toArray := by
  rw [List.setIfInBounds_toArray]
  congr 1
  unfold refC bools
  rw [show 961 + k = (960 + k) + 1 by omega, List.set_cons_succ, List.set_append_right _ _ (by rw [intsC_length, h.1]; omega), intsC_length, h.1, show 960 + k - 960 = k by omega, List.map_set]
end Go.Proofs.YtliiooldlooagaaGreatDoor.T9
