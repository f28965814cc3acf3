/-
  What comes of one write: whether it fits (fate.fits), and what is in a sector behind a torn one (fate.cut), over this seat's translation; conditions: the numbers fit their kinds, the texts are as long as a sector.
-/
import Derived.Test.YtcoegaipojnndaaDoorFt9
namespace Go.Proofs.YtcoegaipojnndaaDoor
open Go.RowKit

/-- How many first bytes. -/
def clampN (a : Int) : Nat := min a.toNat 256
theorem clampN_le (a : Int) : clampN a ≤ 256 := Nat.min_le_right _ _
def cutS (d : ByteArray) (a : Int) (had : ByteArray) : ByteArray := d.extract 0 (clampN a) ++ had.extract (clampN a) 256
def fitsB (k : Int) (d : ByteArray) (n : Nat) : Bool := decide (0 ≤ k) && (decide (k < (n : Int)) && decide (d.size = 256))
def FitsGot (w : World) (k : Int) (d : ByteArray) (n : Nat) (e : Ending) (w' : World) : Prop := e = .returned (.bool (fitsB k d n)) ∧ w.grownBy w' none
set_option maxRecDepth 100000 in
set_option maxHeartbeats 1000000 in
theorem fits_any (k : Int) (d : ByteArray) (n : Nat) (w : World) : Calls Tryd.prog 39 #[.agg #[.int .i64 k, .string d], .int .i64 (n : Nat)] w (FitsGot w k d n) := by
  have g0 := gb_alloc w (.cells #[.int .i64 k, .string d] 35) none
  rcases Int.lt_or_le k 0 with h | h
  · have hd : decide (0 ≤ k) = false := decide_eq_false (by omega)
    have H := Lib.hid (show fitsB k d n = false by unfold fitsB; rw [hd]; rfl)
    go_enter Tryd.func39, Tryd.ntmps39
    go_wp2
    go_ret
    exact ⟨by rw [H.out]; rfl, g0⟩
  · have hd : decide (0 ≤ k) = true := decide_eq_true h
    rcases Int.lt_or_le k (n : Int) with h1 | h1
    · have hd2 : decide (k < (n : Int)) = true := decide_eq_true h1
      by_cases h2 : d.size = 256
      · have H := Lib.hid (show fitsB k d n = true by unfold fitsB; rw [hd, hd2, decide_eq_true h2]; rfl)
        have h3 : ((d.size : Int) == 256) = true := by rw [h2]; rfl
        go_enter Tryd.func39, Tryd.ntmps39
        go_wp2
        go_ret
        exact ⟨by rw [H.out]; rfl, g0⟩
      · have H := Lib.hid (show fitsB k d n = false by unfold fitsB; rw [hd, hd2, decide_eq_false h2]; rfl)
        have h3 : ((d.size : Int) == 256) = false := beq_eq_false_iff_ne.2 (by omega)
        go_enter Tryd.func39, Tryd.ntmps39
        go_wp2
        go_ret
        exact ⟨by rw [H.out]; rfl, g0⟩
    · have hd2 : decide (k < (n : Int)) = false := decide_eq_false (by omega)
      have H := Lib.hid (show fitsB k d n = false by unfold fitsB; rw [hd, hd2]; rfl)
      go_enter Tryd.func39, Tryd.ntmps39
      go_wp2
      go_ret
      exact ⟨by rw [H.out]; rfl, g0⟩
def CutGot (w : World) (d : ByteArray) (a : Int) (had : ByteArray) (e : Ending) (w' : World) : Prop := e = .returned (.string (cutS d a had)) ∧ w.grownBy w' none
set_option maxRecDepth 100000 in
set_option maxHeartbeats 1000000 in
theorem cut_any (d : ByteArray) (a : Int) (had : ByteArray) (w : World) (hd : d.size = 256) (hh : had.size = 256) (h1 : -9223372036854775808 ≤ a) (h2 : a ≤ 9223372036854775807) : Calls Tryd.prog 40 #[.string d, .int .i64 a, .string had] w (CutGot w d a had) := by
  obtain ⟨m, hm⟩ : ∃ m, clampN a = m := ⟨_, rfl⟩
  have hmb := clampN_le a
  have HC : Hid (CutGot w d a had = fun e w' => e = .returned (.string (d.extract 0 m ++ had.extract m 256)) ∧ w.grownBy w' none) := by
    unfold CutGot cutS; rw [hm]; rfl
  rw [hm] at hmb
  rw [HC.out]
  have hs1 : (d.extract 0 m).size = m := by simp; omega
  have hs2 : (had.extract m 256).size = 256 - m := by simp; omega
  have hcat : (9223372036854775807 < (d.extract 0 m).size + (had.extract m 256).size) = False := by rw [hs1, hs2]; simp; omega
  rcases Int.lt_or_le a 0 with h | h
  · have : m = 0 := by rw [← hm]; unfold clampN; omega
    subst this
    clear hm
    go_enter Tryd.func40, Tryd.ntmps40
    go_wp2_with fail
    go_quiet (fail)
    go_wp2
    go_ret
    first | exact ⟨rfl, gb_drewN _ _ _⟩ | exact ⟨by simp, gb_drewN _ _ _⟩
  · rcases Int.lt_or_le 256 a with h3 | h3
    · have : m = 256 := by rw [← hm]; unfold clampN; omega
      subst this
      clear hm
      go_enter Tryd.func40, Tryd.ntmps40
      go_wp2_with fail
      go_quiet (fail)
      go_wp2
      go_ret
      first | exact ⟨rfl, gb_drewN _ _ _⟩ | exact ⟨by simp, gb_drewN _ _ _⟩
    · obtain ⟨an, rfl⟩ := Int.eq_ofNat_of_zero_le h
      have : m = an := by rw [← hm]; unfold clampN; omega
      subst this
      clear hm
      rcases Nat.lt_or_ge m 256 with h5 | h5
      · rcases Nat.eq_zero_or_pos m with h6 | h6
        · subst h6
          go_enter Tryd.func40, Tryd.ntmps40
          go_wp2_with fail
          go_quiet (fail)
          go_wp2
          go_ret
          first | exact ⟨rfl, gb_drewN _ _ _⟩ | exact ⟨by simp, gb_drewN _ _ _⟩
        · have h7 : (m : Int) ≤ 256 := by omega
          have h8 : (m : Int) < 256 := by omega
          have h9 : (0 : Int) ≤ (m : Int) := by omega
          have h10 : (0 : Int) < (m : Int) := by omega
          have h11 : IntKind.i64.wrap (m : Int) = (m : Int) := IntWalk.i64_in _ (by omega)
          go_enter Tryd.func40, Tryd.ntmps40
          go_wp2_with fail
          go_quiet (fail)
          go_wp2
          go_ret
          first | exact ⟨rfl, gb_drewN _ _ _⟩ | exact ⟨by simp, gb_drewN _ _ _⟩
      · obtain rfl : m = 256 := by omega
        go_enter Tryd.func40, Tryd.ntmps40
        go_wp2_with fail
        go_quiet (fail)
        go_wp2
        go_ret
        first | exact ⟨rfl, gb_drewN _ _ _⟩ | exact ⟨by simp, gb_drewN _ _ _⟩
end Go.Proofs.YtcoegaipojnndaaDoor

