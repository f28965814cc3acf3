/-
  How a table lies in memory, and its smallest calls (New, Get, put, Set, Drop, Clean), over this seat's translation; conditions: those that each law states.
-/
import Derived.Test.YtfkkdhgggocgjaaDoorT0
import Derived.Test.YtfkkdhgggocgjaaDoorTm
namespace Go.Proofs.YtfkkdhgggocgjaaDoor
open Go.RowKit

theorem add_at (p o j : Nat) : (⟨p, o, none⟩ : Addr).add j = ⟨p, o + j, none⟩ := by unfold Addr.add; split <;> simp_all
theorem ret_int {k : IntKind} {a b : Int} (h : a = b) : Ending.returned (.int k a) = .returned (.int k b) := by rw [h]
theorem ret_bool {a b : Bool} (h : a = b) : Ending.returned (.bool a) = .returned (.bool b) := by rw [h]
/-- Numbers of 16 bits, as cells. -/
def u16C (l : List Nat) : List Value := l.map fun n => .int .u16 (n : Nat)
theorem u16C_length (l : List Nat) : (u16C l).length = l.length := List.length_map ..
theorem bools_length (l : List Bool) : (bools l).length = l.length := List.length_map ..
theorem u16C_at {l : List Nat} {k : Nat} (h : k < l.length) : (u16C l)[k]? = some (.int .u16 (l.getD k 0 : Nat)) := by
  unfold u16C; rw [List.getElem?_map, List.getElem?_eq_getElem h]; simp [List.getD_eq_getElem?_getD, h]
theorem bools_at {l : List Bool} {k : Nat} (h : k < l.length) : (bools l)[k]? = some (.bool (l.getD k false)) := by
  unfold bools; rw [List.getElem?_map, List.getElem?_eq_getElem h]; simp [List.getD_eq_getElem?_getD, h]
/-- A table's cells. -/
def tabC (s : TB) : List Value := u16C s.P ++ bools s.D
theorem tabC_length {s : TB} (h : s.Fit) : (tabC s).length = 968 := by unfold tabC; rw [List.length_append, u16C_length, bools_length, h.1, h.2.1]
theorem tabC_page {s : TB} (h : s.Fit) {k : Nat} (hk : k < 960) : (tabC s)[k]? = some (.int .u16 (s.P.getD k 0 : Nat)) := by
  unfold tabC; rw [List.getElem?_append_left (by rw [u16C_length, h.1]; exact hk)]; exact u16C_at (by rw [h.1]; exact hk)
theorem tabC_dirt {s : TB} (h : s.Fit) {k : Nat} (hk : k < 8) : (tabC s)[960 + k]? = some (.bool (s.D.getD k false)) := by
  unfold tabC; rw [List.getElem?_append_right (by rw [u16C_length, h.1]; omega), u16C_length, h.1, show 960 + k - 960 = k by omega]; exact bools_at (by rw [h.2.1]; exact hk)
theorem tabC_setPage {s : TB} (h : s.Fit) {k v : Nat} (hk : k < 960) : (tabC s).toArray.setIfInBounds k (.int .u16 (v : Nat)) = (tabC ⟨s.P.set k v, s.D⟩).toArray := by
  rw [List.setIfInBounds_toArray]
  congr 1
  unfold tabC u16C
  rw [List.set_append_left _ _ (by rw [List.length_map, h.1]; exact hk), List.map_set]
theorem tabC_setDirt {s : TB} (h : s.Fit) {k : Nat} (b : Bool) : (tabC s).toArray.setIfInBounds (960 + k) (.bool b) = (tabC ⟨s.P, s.D.set k b⟩).toArray := by
  rw [List.setIfInBounds_toArray]
  congr 1
  unfold tabC bools
  rw [List.set_append_right _ _ (by rw [u16C_length, h.1]; omega), u16C_length, h.1, show 960 + k - 960 = k by omega, List.map_set]
/-- The program's table: its block. -/
def PT (w : World) (p : Nat) (s : TB) : Prop := Blk w p 62 (tabC s).toArray ∧ s.Fit
theorem PT.fit {w : World} {p : Nat} {s : TB} (h : PT w p s) : s.Fit := h.2
theorem PT.lt {w : World} {p : Nat} {s : TB} (h : PT w p s) : p < w.heap.size := h.1.lt
theorem PT.keep {w w' : World} {p : Nat} {s : TB} {r : Option Nat} (h : PT w p s) (g : w.grownBy w' r) (hr : some p ≠ r) : PT w' p s := ⟨h.1.keep g hr, h.2⟩
theorem PT.keep0 {w w' : World} {p : Nat} {s : TB} (h : PT w p s) (g : w.grownBy w' none) : PT w' p s := ⟨h.1.keep0 g, h.2⟩
theorem PT.page {w : World} {p : Nat} {s : TB} (h : PT w p s) {k : Nat} (hk : k < 960) : w.cell? ⟨p, k, none⟩ = some (.int .u16 (s.P.getD k 0 : Nat)) := h.1.cell k (by rw [List.getElem?_toArray]; exact tabC_page h.2 hk)
theorem PT.dirt {w : World} {p : Nat} {s : TB} (h : PT w p s) {k : Nat} (hk : k < 8) : w.cell? ⟨p, 960 + k, none⟩ = some (.bool (s.D.getD k false)) := h.1.cell (960 + k) (by rw [List.getElem?_toArray]; exact tabC_dirt h.2 hk)
theorem PT.free {w : World} {p : Nat} {s : TB} (h : PT w p s) (k : Nat) : w.frozen? ⟨p, k, none⟩ = false := h.1.free k
theorem PT.setPage {w : World} {p : Nat} {s : TB} (h : PT w p s) {k v : Nat} (hk : k < 960) (hv : v < 1024) : PT (w.setCell ⟨p, k, none⟩ (.int .u16 (v : Nat))) p ⟨s.P.set k v, s.D⟩ := by
  refine ⟨?_, by rw [List.length_set]; exact h.2.1, h.2.2.1, fun x hx => ?_⟩
  · have := h.1.set k (.int .u16 (v : Nat))
    rw [tabC_setPage h.2 hk] at this
    exact this
  · rcases List.mem_or_eq_of_mem_set hx with h1 | h1
    · exact h.2.2.2 x h1
    · rw [h1]; exact hv
theorem PT.setDirt {w : World} {p : Nat} {s : TB} (h : PT w p s) (k : Nat) (b : Bool) : PT (w.setCell ⟨p, 960 + k, none⟩ (.bool b)) p ⟨s.P, s.D.set k b⟩ := by
  refine ⟨?_, h.2.1, by rw [List.length_set]; exact h.2.2.1, h.2.2.2⟩
  have := h.1.set (960 + k) (.bool b)
  rw [tabC_setDirt h.2] at this
  exact this

theorem zero_tab (w : World) : (zeroValue 62).run Tryd.prog w = .ok (.agg (tabC newF).toArray) w := by kernel_rfl
theorem tnew_any (w : World) : Calls Tryd.prog 6 #[] w fun e w' => e = .returned (.pointer (some ⟨w.heap.size, 0, none⟩)) ∧ PT w' w.heap.size newF ∧ w.grownBy w' none := by
  have hz := zero_tab
  obtain ⟨Z, hZ⟩ : ∃ Z, (tabC newF).toArray = Z := ⟨_, rfl⟩
  rw [hZ] at hz
  have HZ := Lib.hid hZ
  clear hZ
  go_enter Tryd.func6, Tryd.ntmps6
  go_wp2
  go_ret
  exact ⟨rfl, ⟨by rw [HZ.out]; exact Blk.mk _ _ _, newF_fit⟩, gb_alloc _ _ _⟩
end Go.Proofs.YtfkkdhgggocgjaaDoor

