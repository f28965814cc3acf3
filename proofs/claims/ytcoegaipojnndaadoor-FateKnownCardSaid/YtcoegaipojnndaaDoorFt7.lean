/-
  Whether a fate may be (fate.mayBe, foyerref04.May), and how many came ahead of the torn write (fate.aheadOf), over this seat's translation; conditions: the slice reads as a list of bools.
-/
import Derived.Test.YtcoegaipojnndaaDoorFt6
namespace Go.Proofs.YtcoegaipojnndaaDoor
open Go.RowKit

/-- May a fate be? -/
def mayF (l : List Bool) (t a : Int) : Bool := if t = -1 then decide (a = 0) else decide (0 ≤ t) && (decide (t < (l.length : Int)) && (l.getD t.toNat false && (decide (0 ≤ a) && decide (a ≤ 256))))
theorem may_minus (l : List Bool) (a : Int) : mayF l (-1) a = decide (a = 0) := if_pos rfl
theorem may_low (l : List Bool) {t : Int} (a : Int) (h : t ≠ -1) (h1 : t < 0) : mayF l t a = false := by
  unfold mayF; rw [if_neg h, decide_eq_false (by omega)]; rfl
theorem may_high (l : List Bool) {t : Int} (a : Int) (h : 0 ≤ t) (h1 : (l.length : Int) ≤ t) : mayF l t a = false := by
  unfold mayF; rw [if_neg (by omega), decide_eq_false (p := t < _) (by omega)]; simp
theorem may_not (l : List Bool) (i : Nat) (a : Int) (h1 : l.getD i false = false) : mayF l (i : Int) a = false := by
  unfold mayF; rw [if_neg (by omega), show ((i : Int)).toNat = i from rfl, h1]; simp
theorem may_at (l : List Bool) (i : Nat) (a : Int) (h : i < l.length) (h1 : l.getD i false = true) : mayF l (i : Int) a = (decide (0 ≤ a) && decide (a ≤ 256)) := by
  unfold mayF; rw [if_neg (by omega), show ((i : Int)).toNat = i from rfl, h1, decide_eq_true (p := 0 ≤ (i : Int)) (by omega), decide_eq_true (p := (i : Int) < _) (by omega)]; simp
def MayGot (w : World) (l : List Bool) (t a : Int) (e : Ending) (w' : World) : Prop := e = .returned (.bool (mayF l t a)) ∧ w.grownBy w' none
set_option maxRecDepth 100000 in
set_option maxHeartbeats 1000000 in
theorem mayBe_any (v : Value) (l : List Bool) (t a : Int) (w : World) (hv : Bls w v l) : Calls Tryd.prog 32 #[.agg #[v, .int .i64 t, .int .i64 a]] w (MayGot w l t a) := by
  obtain ⟨ao, cap, rfl, hnil, hcells⟩ := bls_parts hv
  have HN := Lib.hid hnil
  have HC := Lib.hid hcells
  clear hnil hcells hv
  have g0 := gb_alloc w (.cells #[.slice ao l.length cap, .int .i64 t, .int .i64 a] 25) none
  by_cases ht : t = -1
  · subst ht
    have H := Lib.hid (may_minus l a)
    go_enter Tryd.func32, Tryd.ntmps32
    go_wp2
    go_ret
    exact ⟨by rw [H.out]; simp; exact Bool.eq_iff_iff.2 (by simp), g0⟩
  · have ht1 : (t == -1) = false := beq_eq_false_iff_ne.2 ht
    rcases Int.lt_or_le t 0 with h0 | h0
    · have H := Lib.hid (may_low l a ht h0)
      have hd : decide (t < 0) = true := decide_eq_true h0
      go_enter Tryd.func32, Tryd.ntmps32
      go_wp2
      go_ret
      exact ⟨by rw [H.out]; rfl, g0⟩
    · have hd : decide (t < 0) = false := decide_eq_false (by omega)
      rcases Int.lt_or_le t (l.length : Int) with h1 | h1
      · obtain ⟨i, rfl⟩ := Int.eq_ofNat_of_zero_le h0
        have hil : i < l.length := by omega
        have hd2 : decide ((l.length : Int) ≤ (i : Int)) = false := decide_eq_false (by omega)
        cases ao with
        | none => have := HN.out rfl; omega
        | some x =>
          have d0 := g0.cell (HC.out x rfl i _ (bools_at hil)) (by simp)
          have hgd : l.getD i false = l[i] := by simp [List.getD, hil]
          cases hb : l[i] with
          | false =>
            rw [hb] at d0 hgd
            have H := Lib.hid (may_not l i a hgd)
            clear hb hgd
            go_enter Tryd.func32, Tryd.ntmps32
            go_wp2
            go_ret
            exact ⟨by rw [H.out]; rfl, g0⟩
          | true =>
            rw [hb] at d0 hgd
            have H := Lib.hid (may_at l i a hil hgd)
            clear hb hgd
            rcases Int.lt_or_le a 0 with h2 | h2
            · have hd3 : decide (0 ≤ a) = false := decide_eq_false (by omega)
              go_enter Tryd.func32, Tryd.ntmps32
              go_wp2
              go_ret
              exact ⟨by rw [H.out, hd3]; simp, g0⟩
            · have hd3 : decide (0 ≤ a) = true := decide_eq_true h2
              go_enter Tryd.func32, Tryd.ntmps32
              go_wp2
              go_ret
              exact ⟨by rw [H.out, hd3]; simp, g0⟩
      · have H := Lib.hid (may_high l a h0 h1)
        have hd2 : decide ((l.length : Int) ≤ t) = true := decide_eq_true h1
        go_enter Tryd.func32, Tryd.ntmps32
        go_wp2
        go_ret
        exact ⟨by rw [H.out]; rfl, g0⟩
end Go.Proofs.YtcoegaipojnndaaDoor

