/-
  The chapter's examples all hold (works), over this seat's translation; condition: the table of math/bits reads as the library lays it.
-/
import Derived.Test.YtaihcbkdbdhihaaDoorMh
import Derived.Test.YtaihcbkdbdhihaaDoorMc
namespace Go.Proofs.YtaihcbkdbdhihaaDoor
open Go.RowKit

theorem part_pair (X : Array Value) (k : Nat) (z : Int) (h : X[k]? = some (.int .i64 z)) (w : World) : (part 3 X (k * Tryd.prog.cellsOf 3)).run Tryd.prog w = .ok (.int .i64 z) w := by
  have hc : Tryd.prog.cellsOf 3 = 1 := by kernel_rfl
  rw [hc, Nat.mul_one]
  simp [part, Tryd.isAgg3, Sem.run_bind, h]
theorem equal_pair (a b c d : Int) (w : World) : (Op.equalIn 10000 53 (.agg #[.int .i64 a, .int .i64 b]) (.agg #[.int .i64 c, .int .i64 d])).run Tryd.prog w = .ok (a == c && b == d) w := by
  cases hi : Tryd.prog.info? 3 with
  | none => exact absurd hi (by have h : (Tryd.prog.info? 3).isSome = true := by kernel_rfl
                                intro e; rw [e] at h; cases h)
  | some i =>
    rw [show (10000 : Nat) = 9998 + 1 + 1 from rfl, run_equalIn_array w (9998 + 1) _ _ Tryd.underlying53 hi]
    have e1 := run_equalIn_int (P := Tryd.prog) (w := w) 9998 3 .i64 .i64 a c Tryd.underlying3
    have e2 := run_equalIn_int (P := Tryd.prog) (w := w) 9998 3 .i64 .i64 b d Tryd.underlying3
    rw [show List.range 2 = [0, 1] from rfl]
    simp only [Op.eqItems, Sem.run_bind, part_pair #[.int .i64 a, .int .i64 b] 0 a rfl, part_pair #[.int .i64 c, .int .i64 d] 0 c rfl, Result.andThen_ok, e1]
    cases a == c
    · simp
    · simp only [Bool.not_true, Bool.false_eq_true, if_false, Sem.run_bind, part_pair #[.int .i64 a, .int .i64 b] 1 b rfl, part_pair #[.int .i64 c, .int .i64 d] 1 d rfl, Result.andThen_ok, e2, Bool.true_and]
      cases b == d <;> simp
theorem pair_guard : Tryd.prog.eqGuardType Tryd.prog.depth 53 = false := by kernel_rfl
/-- What a list of pairs lays at each of its places. -/
theorem prs_at {w : World} {v : Value} {l : List (Nat × Nat)} (h : Prs w v l) (hl : 0 < l.length) : ∃ x cap, v = .slice (some x) l.length cap ∧ l.length ≤ cap ∧ ∀ k (hk : k < l.length), w.cell? (x.add (k * 2)) = some (.int .i64 (l[k].1 : Nat)) ∧ w.cell? (x.add (k * 2 + 1)) = some (.int .i64 (l[k].2 : Nat)) := by
  obtain ⟨x, cap, hv, hc, hx⟩ := Sl.some h hl
  refine ⟨x, cap, hv, hc, fun k hk => ?_⟩
  have hp : ∀ (l : List (Nat × Nat)) (k : Nat) (hk : k < l.length), (pairsC l)[k * 2]? = some (.int .i64 (l[k].1 : Nat)) ∧ (pairsC l)[k * 2 + 1]? = some (.int .i64 (l[k].2 : Nat)) := by
    intro l
    induction l with
    | nil => intro k hk; cases hk
    | cons p l ih =>
      intro k hk
      cases k with
      | zero => exact ⟨rfl, rfl⟩
      | succ k =>
        have := ih k (by simpa using hk)
        rw [show (k + 1) * 2 = k * 2 + 1 + 1 from by omega]
        exact this
  exact ⟨hx _ _ (hp l k hk).1, hx _ _ (hp l k hk).2⟩
def u0 : List Bool := [false, false, false, false, false, false, false, false, false, false]
def u1 : List Bool := [true, false, false, false, false, false, false, false, false, false]
def u2 : List Bool := [true, false, true, false, false, false, false, false, false, false]
def u3 : List Bool := [true, true, true, false, false, false, false, false, false, false]
def u4 : List Bool := [true, true, true, true, false, false, false, false, false, false]
def u5 : List Bool := [false, true, true, true, false, false, false, false, false, false]
theorem ex_new (w : World) : Calls Tryd.prog 8 #[.int .i64 10] w fun e w' => e = .returned (.pointer (some ⟨w.heap.size, 0, none⟩)) ∧ PM w' w.heap.size u0 ∧ w.grownBy w' none := new_yes 10 w (by decide) (by decide)
theorem ex_use {us us' : List Bool} {i z : Int} (h1 : useE us i = z) (h2 : useS us i = us') (h3 : us.length = 10) (p : Nat) (w : World) (h : PM w p us) :
    Calls Tryd.prog 11 #[.pointer (some ⟨p, 0, none⟩), .int .i64 i] w fun e w' => e = .returned (.int .i64 z) ∧ PM w' p us' ∧ w.grownBy w' (some p) := by
  subst h1 h2; exact use_any p us i w h (by omega)
theorem ex_give {us us' : List Bool} {i z : Int} (h1 : giveE us i = z) (h2 : giveS us i = us') (h3 : us.length = 10) (p : Nat) (w : World) (h : PM w p us) :
    Calls Tryd.prog 13 #[.pointer (some ⟨p, 0, none⟩), .int .i64 i] w fun e w' => e = .returned (.int .i64 z) ∧ PM w' p us' ∧ w.grownBy w' (some p) := by
  subst h1 h2; exact give_any p us i w h (by omega)
theorem ex_take {us us' : List Bool} {x z : Int} (h0 : lowF us = x) (h1 : takeE us = z) (h2 : takeS us = us') (h3 : us.length = 10) (p : Nat) (w : World) (h : PM w p us) (hT : Tab w) :
    Calls Tryd.prog 15 #[.pointer (some ⟨p, 0, none⟩)] w fun e w' => e = .returned (.tuple #[.int .i64 x, .int .i64 z]) ∧ PM w' p us' ∧ w.grownBy w' (some p) := by
  subst h0 h1 h2; exact take_any p us w h hT (by omega)
theorem ex_runs {us : List Bool} {l : List (Nat × Nat)} (h1 : runsF us = l) (h3 : us.length = 10) (p : Nat) (w : World) (h : PM w p us) (hT : Tab w) :
    Calls Tryd.prog 25 #[.pointer (some ⟨p, 0, none⟩)] w (RunsGot w l) := by
  subst h1; exact runs_any p us w h hT (by omega)
theorem ex_put {us : List Bool} {B : ByteArray} (h1 : putB us = B) (h3 : us.length = 10) (p : Nat) (w : World) (h : PM w p us) :
    Calls Tryd.prog 26 #[.pointer (some ⟨p, 0, none⟩)] w fun e w' => e = .returned (.string B) ∧ w.grownBy w' none := by
  subst h1; exact put_any p us w h (by omega)
theorem ex_left {us : List Bool} {z : Int} (h1 : ((leftF us : Nat) : Int) = z) (h3 : us.length = 10) (p : Nat) (w : World) (h : PM w p us) :
    Calls Tryd.prog 21 #[.pointer (some ⟨p, 0, none⟩)] w fun e w' => e = .returned (.int .i64 z) ∧ w = w' := by
  subst h1; exact left_any p us w h (by omega)
theorem put_u5 : putB u5 = ⟨#[14, 0]⟩ := by rfl
set_option maxRecDepth 100000 in
set_option maxHeartbeats 2000000 in
theorem works_any (w : World) (hT : Tab w) : Calls Tryd.prog 10 #[] w fun e w' => e = .returned (.bool true) ∧ w.grownBy w' none := by
  have HT := Lib.hid hT
  clear hT
  go_enter Tryd.func10, Tryd.ntmps10
  go_wp2_with fail
  go_at_call 8
  (with_reducible refine (ex_new _).mono ?_)
  rintro e w1 ⟨rfl, P1, g1⟩
  have T1 := HT.out.keep0 g1
  go_wp2_with fail
  go_at_call 11
  (with_reducible refine (ex_use (us' := u1) (z := 0) (by decide) (by decide) rfl _ _ P1).mono ?_)
  rintro e w2 ⟨rfl, P2, g2⟩
  have T2 := T1.keepP P1 g2
  go_wp2_with fail
  go_at_call 11
  (with_reducible refine (ex_use (us' := u2) (z := 0) (by decide) (by decide) rfl _ _ P2).mono ?_)
  rintro e w3 ⟨rfl, P3, g3⟩
  have T3 := T2.keepP P2 g3
  go_wp2_with fail
  go_at_call 15
  (with_reducible refine (ex_take (x := 1) (z := 0) (us' := u3) (by decide) (by decide) (by decide) rfl _ _ P3 T3).mono ?_)
  rintro e w4 ⟨rfl, P4, g4⟩
  have T4 := T3.keepP P3 g4
  go_wp2_with fail
  go_at_call 15
  (with_reducible refine (ex_take (x := 3) (z := 0) (us' := u4) (by decide) (by decide) (by decide) rfl _ _ P4 T4).mono ?_)
  rintro e w5 ⟨rfl, P5, g5⟩
  have T5 := T4.keepP P4 g5
  go_wp2_with fail
  go_at_call 13
  (with_reducible refine (ex_give (z := 0) (us' := u5) (by decide) (by decide) rfl _ _ P5).mono ?_)
  rintro e w6 ⟨rfl, P6, g6⟩
  have T6 := T5.keepP P5 g6
  go_wp2_with fail
  go_at_call 13
  (with_reducible refine (ex_give (z := 13) (us' := u5) (by decide) (by decide) rfl _ _ P6).mono ?_)
  rintro e w7 ⟨rfl, P7, g7⟩
  have T7 := T6.keepP P6 g7
  have G7 : w.grownBy w7 none := gb_step (gb_step (gb_step (gb_step (gb_step (gb_step g1 g2 (Nat.le_refl _)) g3 (Nat.le_refl _)) g4 (Nat.le_refl _)) g5 (Nat.le_refl _)) g6 (Nat.le_refl _)) g7 (Nat.le_refl _)
  clear P1 P2 P3 P4 P5 P6 T1 T2 T3 T4 T5 T6 g1 g2 g3 g4 g5 g6 g7
  go_wp2_with fail
  go_at_call 25
  (with_reducible refine (ex_runs (l := [(0, 1), (4, 6)]) (by decide) rfl _ _ P7 T7).mono ?_)
  rintro e w8 ⟨v, rfl, hv, g8⟩
  obtain ⟨x, cap, rfl, hcap, hx⟩ := prs_at hv (by decide)
  have c0 := hx 0 (by decide)
  have c1 := hx 1 (by decide)
  have G8 := gb_trans G7 g8
  have P8 := P7.keep0 g8
  clear hx hv P7 T7 g8 G7
  have HC := Lib.hid (And.intro c0 c1)
  clear c0 c1
  go_wp2_with fail
  go_at_call 26
  (with_reducible refine (ex_put put_u5 rfl _ _ P8).mono ?_)
  rintro e w9 ⟨rfl, g9⟩
  have P9 := P8.keep0 g9
  have G9 := gb_trans G8 g9
  have c00 : w9.cell? x = some (.int .i64 0) := g9.cell HC.out.1.1 (by simp)
  have c01 : w9.cell? ⟨x.block, x.off + 1, none⟩ = some (.int .i64 1) := g9.cell HC.out.1.2 (by simp)
  have c10 : w9.cell? ⟨x.block, x.off + 2, none⟩ = some (.int .i64 4) := g9.cell HC.out.2.1 (by simp)
  have c11 : w9.cell? ⟨x.block, x.off + 3, none⟩ = some (.int .i64 6) := g9.cell HC.out.2.2 (by simp)
  have HH := Lib.hid (And.intro P9 G9)
  clear P8 P9 G8 G9 g9
  have q1 := equal_pair 0 1 0 1
  have q2 := equal_pair 4 6 4 6
  have qg := pair_guard
  go_wp2_with (go_at_call 21; (with_reducible refine (ex_left (us := u5) (z := 7) (by decide) rfl _ _ HH.out.1).mono ?_); rintro e w' ⟨rfl, rfl⟩)
  trace_state
  go_ret
  exact ⟨rfl, HH.out.2⟩
end Go.Proofs.YtaihcbkdbdhihaaDoor
