/-
  The program's Open and the document's beside each other: alike of any text; and what 'fails' answers; condition: the variable errors.errorType holds its type's handle.
-/
import Derived.Test.YthemolnhncjlmaaDoorCq
import Derived.Test.YthemolnhncjlmaaDoorCi
namespace Go.Proofs.YthemolnhncjlmaaDoor
open Go.RowKit

/-- An error that is this fault, or none. -/
def ErrIs (w : World) (v : Value) (c d : Nat) : Prop :=
  (c = 0 ∧ v = .nilIface) ∨ (c ≠ 0 ∧ ∃ a : Nat, v = .iface 66 (.pointer (some ⟨a, 0, none⟩)) ∧ Ft w a (c : Nat) (d : Nat))
theorem ErrIs.keep0 {w w' : World} {v : Value} {c d : Nat} (h : ErrIs w v c d) (g : w.grownBy w' none) : ErrIs w' v c d := by
  rcases h with h | ⟨h1, a, h2, h3⟩
  · exact Or.inl h
  · exact Or.inr ⟨h1, a, h2, h3.keep0 g⟩
def OpenGot (w : World) (l : List UInt8) (e : Ending) (w' : World) : Prop :=
  ∃ v, e = .returned (.tuple #[.int .i64 (okK l : Nat), .string ⟨(okB l).toArray⟩, v]) ∧ ErrIs w' v (openF l).1 (openF l).2 ∧ w.grownBy w' none
theorem open_got (s : ByteArray) (w : World) : Calls Tryd.prog 13 #[.string s] w (OpenGot w s.data.toList) :=
  (open_any s w).mono fun e w' h => by
    by_cases hz : (openF s.data.toList).1 = 0
    · obtain ⟨rfl, g⟩ := h.1 hz
      refine ⟨_, ?_, Or.inl ⟨hz, rfl⟩, g⟩
      unfold okK okB
      rw [if_pos hz, if_pos hz]
    · obtain ⟨a, rfl, ha, f, g⟩ := h.2 hz
      refine ⟨_, ?_, Or.inr ⟨hz, a, rfl, f⟩, g⟩
      unfold okK okB
      rw [if_neg hz, if_neg hz]
      rfl
/-- The answer is true; nothing that was there has turned. -/
def TrueGot (w : World) (e : Ending) (w' : World) : Prop := e = .returned (.bool true) ∧ w.grownBy w' none
theorem is_any (v : Value) (c d : Nat) (w : World) (hd : Hd w) (h : ErrIs w v c d) :
    Calls Tryd.prog 19 #[v, .agg #[.int .i64 (c : Nat), .int .i64 (d : Nat)]] w (TrueGot w) := by
  rcases h with ⟨rfl, rfl⟩ | ⟨h1, a, rfl, h3⟩
  · exact law_is_nil (d : Nat) w
  · exact law_is_fault a (c : Nat) (d : Nat) w hd h3 (by simp [h1])
set_option maxHeartbeats 1000000 in
theorem alike_any (s : ByteArray) (w : World) (hd : Hd w) :
    Calls Tryd.prog 10 #[.string s] w (TrueGot w) := by
  have HD := Lib.hid hd
  clear hd
  go_enter Tryd.func10, Tryd.ntmps10
  go_wp2_with (first
    | (go_at_call 13; (with_reducible refine (open_got s _).mono ?_); rintro e w1 ⟨v, rfl, hv, g1⟩)
    | (go_at_call 18; (with_reducible refine (refOpen_any s _).mono ?_); rintro e w2 ⟨rfl, g2⟩)
    | (go_at_call 19; have gz := gb_trans (gb_trans g1 g2) (gb_alloc w2 (.cells #[.int .i64 ((openF s.data.toList).1 : Nat), .int .i64 ((openF s.data.toList).2 : Nat)] 51) none); (with_reducible refine (is_any v _ _ _ (HD.out.keep0 gz) (hv.keep0 (gb_trans g2 (gb_alloc _ _ _)))).mono ?_); rintro e w3 ⟨rfl, g3⟩)
    | fail)
  go_ret
  exact ⟨rfl, gb_trans gz g3⟩
set_option maxHeartbeats 1000000 in
theorem fails_any (s : ByteArray) (x y : Int) (c d : Nat) (w : World) (hd : Hd w) (hx : x = (c : Nat)) (hy : y = (d : Nat)) (ho : openF s.data.toList = (c, d)) (hc : c ≠ 0) :
    Calls Tryd.prog 14 #[.string s, .int .i64 x, .int .i64 y] w (TrueGot w) := by
  subst hx hy
  have HD := Lib.hid hd
  have hk : okK s.data.toList = 0 := by unfold okK; rw [ho, if_neg hc]
  have hb : okB s.data.toList = [] := by unfold okB; rw [ho, if_neg hc]
  have HG := Lib.hid (show ∀ W, Calls Tryd.prog 13 #[.string s] W (fun e w' => ∃ v, e = .returned (.tuple #[.int .i64 0, .string ⟨#[]⟩, v]) ∧ ErrIs w' v c d ∧ W.grownBy w' none) from fun W => (open_got s W).mono fun e w' ⟨v, h1, h2, h3⟩ => ⟨v, by rw [h1, hk, hb]; rfl, by rw [ho] at h2; exact h2, h3⟩)
  clear hd hk hb ho hc
  go_enter Tryd.func14, Tryd.ntmps14
  go_wp2_with (first
    | (go_at_call 13; (with_reducible refine (HG.out _).mono ?_); rintro e w1 ⟨v, rfl, hv, g1⟩)
    | (go_at_call 19; (with_reducible refine (is_any v _ _ _ (HD.out.keep0 g1) hv).mono ?_); rintro e w3 ⟨rfl, g3⟩)
    | fail)
  go_ret
  exact ⟨rfl, gb_trans g1 g3⟩
end Go.Proofs.YthemolnhncjlmaaDoor
