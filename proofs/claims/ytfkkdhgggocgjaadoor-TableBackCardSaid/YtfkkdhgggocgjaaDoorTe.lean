/-
  The document's own table (foyerref09): how it lies in memory, and what New, Get, Set, Drop, Clean, Lowest, Sectors and Dirty answer and leave, over this seat's translation; conditions: the table's block is there.
-/
import Derived.Test.YtfkkdhgggocgjaaDoorTk
namespace Go.Proofs.YtfkkdhgggocgjaaDoor
open Go.RowKit

theorem intsC_length (l : List Nat) : (intsC l).length = l.length := List.length_map ..
/-- The cells of the document's table. -/
def refC (s : TB) : List Value := .int .i64 0 :: (intsC s.P ++ bools s.D)
theorem refC_length {s : TB} (h : s.Fit) : (refC s).length = 969 := by unfold refC; rw [List.length_cons, List.length_append, intsC_length, bools_length, h.1, h.2.1]
theorem refC_page {s : TB} (h : s.Fit) {k : Nat} (hk : k < 960) : (refC s)[k + 1]? = some (.int .i64 (s.P.getD k 0 : Nat)) := by
  unfold refC; rw [List.getElem?_cons_succ, List.getElem?_append_left (by rw [intsC_length, h.1]; exact hk)]; exact intsC_at (by rw [h.1]; exact hk)
theorem refC_dirt {s : TB} (h : s.Fit) {k : Nat} (hk : k < 8) : (refC s)[961 + k]? = some (.bool (s.D.getD k false)) := by
  unfold refC; rw [show 961 + k = (960 + k) + 1 by omega, List.getElem?_cons_succ, List.getElem?_append_right (by rw [intsC_length, h.1]; omega), intsC_length, h.1, show 960 + k - 960 = k by omega]; exact bools_at (by rw [h.2.1]; exact hk)
theorem refC_setPage {s : TB} (h : s.Fit) {k v : Nat} (hk : k < 960) : (refC s).toArray.setIfInBounds (k + 1) (.int .i64 (v : Nat)) = (refC ⟨s.P.set k v, s.D⟩).toArray := by
  rw [List.setIfInBounds_toArray]
  congr 1
  unfold refC intsC
  rw [List.set_cons_succ, List.set_append_left _ _ (by rw [List.length_map, h.1]; exact hk), List.map_set]
theorem refC_setDirt {s : TB} (h : s.Fit) {k : Nat} (b : Bool) : (refC s).toArray.setIfInBounds (961 + k) (.bool b) = (refC ⟨s.P, s.D.set k b⟩).toArray := by
  rw [List.setIfInBounds_toArray]
  congr 1
  unfold refC bools
  rw [show 961 + k = (960 + k) + 1 by omega, List.set_cons_succ, List.set_append_right _ _ (by rw [intsC_length, h.1]; omega), intsC_length, h.1, show 960 + k - 960 = k by omega, List.map_set]
/-- The document's table: its block. -/
def RT (w : World) (p : Nat) (s : TB) : Prop := Blk w p 64 (refC s).toArray ∧ s.Fit
theorem RT.fit {w : World} {p : Nat} {s : TB} (h : RT w p s) : s.Fit := h.2
theorem RT.lt {w : World} {p : Nat} {s : TB} (h : RT w p s) : p < w.heap.size := h.1.lt
theorem RT.keep {w w' : World} {p : Nat} {s : TB} {r : Option Nat} (h : RT w p s) (g : w.grownBy w' r) (hr : some p ≠ r) : RT w' p s := ⟨h.1.keep g hr, h.2⟩
theorem RT.keep0 {w w' : World} {p : Nat} {s : TB} (h : RT w p s) (g : w.grownBy w' none) : RT w' p s := ⟨h.1.keep0 g, h.2⟩
theorem RT.page {w : World} {p : Nat} {s : TB} (h : RT w p s) {k : Nat} (hk : k < 960) : w.cell? ⟨p, k + 1, none⟩ = some (.int .i64 (s.P.getD k 0 : Nat)) := h.1.cell (k + 1) (by rw [List.getElem?_toArray]; exact refC_page h.2 hk)
theorem RT.dirt {w : World} {p : Nat} {s : TB} (h : RT w p s) {k : Nat} (hk : k < 8) : w.cell? ⟨p, 961 + k, none⟩ = some (.bool (s.D.getD k false)) := h.1.cell (961 + k) (by rw [List.getElem?_toArray]; exact refC_dirt h.2 hk)
theorem RT.free {w : World} {p : Nat} {s : TB} (h : RT w p s) (k : Nat) : w.frozen? ⟨p, k, none⟩ = false := h.1.free k
theorem RT.setPage {w : World} {p : Nat} {s : TB} (h : RT w p s) {k v : Nat} (hk : k < 960) (hv : v < 1024) : RT (w.setCell ⟨p, k + 1, none⟩ (.int .i64 (v : Nat))) p ⟨s.P.set k v, s.D⟩ := by
  refine ⟨?_, by rw [List.length_set]; exact h.2.1, h.2.2.1, fun x hx => ?_⟩
  · have := h.1.set (k + 1) (.int .i64 (v : Nat))
    rw [refC_setPage h.2 hk] at this
    exact this
  · rcases List.mem_or_eq_of_mem_set hx with h1 | h1
    · exact h.2.2.2 x h1
    · rw [h1]; exact hv
theorem RT.setDirt {w : World} {p : Nat} {s : TB} (h : RT w p s) (k : Nat) (b : Bool) : RT (w.setCell ⟨p, 961 + k, none⟩ (.bool b)) p ⟨s.P, s.D.set k b⟩ := by
  refine ⟨?_, h.2.1, by rw [List.length_set]; exact h.2.2.1, h.2.2.2⟩
  have := h.1.set (961 + k) (.bool b)
  rw [refC_setDirt h.2] at this
  exact this
theorem zero_ref (w : World) : (zeroValue 64).run Tryd.prog w = .ok (.agg (refC newF).toArray) w := by kernel_rfl
theorem rnew_any (w : World) : Calls Tryd.prog 7 #[] w fun e w' => e = .returned (.pointer (some ⟨w.heap.size, 0, none⟩)) ∧ RT w' w.heap.size newF ∧ w.grownBy w' none := by
  have hz := zero_ref
  obtain ⟨Z, hZ⟩ : ∃ Z, (refC newF).toArray = Z := ⟨_, rfl⟩
  rw [hZ] at hz
  have HZ := Lib.hid hZ
  clear hZ
  go_enter Tryd.func7, Tryd.ntmps7
  go_wp2
  go_ret
  exact ⟨rfl, ⟨by rw [HZ.out]; exact Blk.mk _ _ _, newF_fit⟩, gb_alloc _ _ _⟩
theorem rpage_is {b : Bool} {i : Int} (w : World) (h : decide (IsPage i) = b) : Calls Tryd.prog 32 #[.int .i64 i] w fun e w' => e = .returned (.bool b) ∧ w = w' := by
  subst h
  by_cases h1 : 1 ≤ i
  · by_cases h2 : i ≤ 960
    · rw [decide_eq_true (show IsPage i from ⟨h1, h2⟩)]
      go_enter Tryd.func32, Tryd.ntmps32
      go_wp2
      go_ret
      exact ⟨rfl, rfl⟩
    · rw [decide_eq_false (show ¬ IsPage i from fun h => h2 h.2)]
      go_enter Tryd.func32, Tryd.ntmps32
      go_wp2
      go_ret
      exact ⟨rfl, rfl⟩
  · rw [decide_eq_false (show ¬ IsPage i from fun h => h1 h.1)]
    go_enter Tryd.func32, Tryd.ntmps32
    go_wp2
    go_ret
    exact ⟨rfl, rfl⟩
set_option maxHeartbeats 400000 in
theorem rget_any (p : Nat) (s : TB) (i : Int) (w : World) (h : RT w p s) : Calls Tryd.prog 21 #[.pointer (some ⟨p, 0, none⟩), .int .i64 i] w fun e w' => e = .returned (.int .i64 (getF s i : Nat)) ∧ w = w' := by
  by_cases hi : IsPage i
  · have HI := Lib.hid hi
    obtain ⟨k, rfl, hk⟩ : ∃ k : Nat, i = (k : Int) + 1 ∧ k < 960 := ⟨(i - 1).toNat, by unfold IsPage at hi; omega, by unfold IsPage at hi; omega⟩
    rw [getF_nat s k hk]
    have hc := h.page hk
    generalize s.P.getD k 0 = v at hc
    have hto : ((k : Int) + 1).toNat = k + 1 := by omega
    clear hi h
    go_enter Tryd.func21, Tryd.ntmps21
    go_wp2_with (go_at_call 32; (with_reducible refine (rpage_is _ (decide_eq_true HI.out)).mono ?_); rintro e w' ⟨rfl, rfl⟩)
    go_ret
    exact ⟨rfl, rfl⟩
  · rw [getF_no hi]
    have HI := Lib.hid hi
    clear hi h
    go_enter Tryd.func21, Tryd.ntmps21
    go_wp2_with (go_at_call 32; (with_reducible refine (rpage_is _ (decide_eq_false HI.out)).mono ?_); rintro e w' ⟨rfl, rfl⟩)
    go_ret
    exact ⟨rfl, rfl⟩
set_option maxHeartbeats 400000 in
theorem rput_any (p : Nat) (s : TB) (k v : Nat) (w : World) (h : RT w p s) (hk : k < 960) (hv : v < 1024) : Calls Tryd.prog 33 #[.pointer (some ⟨p, 0, none⟩), .int .i64 ((k : Int) + 1), .int .i64 (v : Nat)] w fun e w' => e = .returned (.tuple #[]) ∧ RT w' p (putF s k v) ∧ w.grownBy w' (some p) := by
  have hto : ((k : Int) + 1).toNat = k + 1 := by omega
  have c1 := h.page hk
  have f1 := h.free (k + 1)
  by_cases he : s.P.getD k 0 = v
  · have hs : putF s k v = s := if_pos he
    rw [hs]
    have h2 := h.setPage (v := v) hk hv
    have h3 : (⟨s.P.set k v, s.D⟩ : TB) = s := by
      have : s.P.set k v = s.P := by
        refine List.ext_getElem? fun j => ?_
        rw [List.getElem?_set]
        by_cases hj : k = j
        · subst hj
          have hl : k < s.P.length := by rw [h.2.1]; exact hk
          rw [if_pos rfl, if_pos hl, List.getElem?_eq_getElem hl, ← he, List.getD_eq_getElem?_getD, List.getElem?_eq_getElem hl]; rfl
        · rw [if_neg hj]
      rw [this]
    rw [h3] at h2
    rw [he] at c1
    have hne : ((v : Int) != (v : Int)) = false := by simp
    have HP := Lib.hid h2
    clear he hs h h2 h3
    go_enter Tryd.func33, Tryd.ntmps33
    go_wp2
    go_end0
    exact ⟨rfl, HP.out, gb_set _ _ _ _ _⟩
  · have hs : putF s k v = ⟨s.P.set k v, s.D.set (k / 120) true⟩ := if_neg he
    rw [hs]
    have hfin := (h.setDirt (k / 120) true).setPage (v := v) hk hv
    have f2 := h.free (961 + k / 120)
    have c2 := h.dirt (k := k / 120) (by omega)
    have HF := Lib.hid hfin
    generalize s.P.getD k 0 = u at c1 he
    have hne : ((u : Int) != (v : Int)) = true := by simp; omega
    have hd : (k : Int) + 1 - 1 = (k : Int) := by omega
    have hq : IntKind.i64.wrap ((k : Int) / 120) = ((k / 120 : Nat) : Int) := by rw [show (k : Int) / 120 = ((k / 120 : Nat) : Int) from by omega]; exact IntWalk.i64_in _ (by omega)
    clear hfin h he hs
    go_enter Tryd.func33, Tryd.ntmps33
    go_wp2
    go_end0
    exact ⟨rfl, HF.out, gb_trans (gb_set _ _ _ _ _) (gb_set _ _ _ _ _)⟩
end Go.Proofs.YtfkkdhgggocgjaaDoor

