/-
  What the statements' own 'is' answers: true of nil and a Fault of OK, and of a *api.Fault that is the one asked for; conditions: the variable errors.errorType holds its type's handle, the Fault's block is there.
-/
import Derived.Test.YthemolnhncjlmaaDoorLawIs
namespace Go.Proofs.YthemolnhncjlmaaDoor
open Go.RowKit

theorem law_is_nil (p : Int) (w : World) :
    Calls Tryd.prog 19 #[.nilIface, .agg #[.int .i64 0, .int .i64 p]] w fun e w' => e = .returned (.bool true) ∧ w.grownBy w' none := by
  go_enter Tryd.func19, Tryd.ntmps19
  go_wp2
  go_ret
  exact ⟨rfl, gb_alloc _ _ _⟩

set_option maxHeartbeats 1000000 in
theorem law_is_fault (a : Nat) (c p : Int) (w : World) (hd : Hd w) (hf : Ft w a c p) (hc : (c == 0) = false) :
    Calls Tryd.prog 19 #[.iface 66 (.pointer (some ⟨a, 0, none⟩)), .agg #[.int .i64 c, .int .i64 p]] w fun e w' => e = .returned (.bool true) ∧ w.grownBy w' none := by
  have q := Tryd.eqlFault
  have hl := hf.lt
  go_enter Tryd.func19, Tryd.ntmps19
  go_wp2
  obtain ⟨w0, hw0⟩ : ∃ w0 : World, w0 = (w.alloc (.cells #[.int .i64 c, .int .i64 p] 51)).alloc (.cells #[.pointer none] 66) := ⟨_, rfl⟩
  have g0 : w.grownBy w0 none := by rw [hw0]; exact gb_trans (gb_alloc _ _ _) (gb_alloc _ _ _)
  have d0 := hd.keep0 g0
  have f0 := hf.keep0 g0
  have k0 : Blk w0 w.heap.size 51 #[.int .i64 c, .int .i64 p] := by rw [hw0]; exact (Blk.mk _ _ _).keep0 (gb_alloc _ _ _)
  have t0 : Blk w0 (w.heap.size + 1) 66 #[.pointer none] := by
    rw [hw0]; have := Blk.mk (w.alloc (.cells #[.int .i64 c, .int .i64 p] 51)) 66 #[.pointer none]; simpa using this
  rw [← hw0]
  clear hw0
  have e0 := gb_drew w0 none
  replace d0 := d0.keep0 e0
  replace f0 := f0.keep0 e0
  replace k0 := k0.keep0 e0
  replace t0 := t0.keep0 e0
  replace g0 := gb_trans g0 e0
  clear e0
  go_region_with (first | (go_at_call 32; refine (as_hit2 ⟨a, 0, none⟩ (w.heap.size + 1) (.pointer none) _ d0 t0).mono ?_; rintro e w1 ⟨rfl, t1, g1⟩; have f1 := f0.keep g1 (ne_some (by omega)); have k1 := k0.keep g1 (ne_some (by omega)); have tc := Blk.cell t1 0 rfl; have fc := Blk.cell f1 0 rfl; have fp := Blk.cell f1 1 rfl; have kc := Blk.cell k1 0 rfl; have kp := Blk.cell k1 1 rfl) | (go_at_call 33; refine (is_hit ⟨a, 0, none⟩ c _ fc).mono ?_; rintro e w2 ⟨rfl, rfl⟩))
  all_goals
    go_wp2
    go_ret
    exact ⟨rfl, gb_step g0 g1 (by omega)⟩
end Go.Proofs.YthemolnhncjlmaaDoor
