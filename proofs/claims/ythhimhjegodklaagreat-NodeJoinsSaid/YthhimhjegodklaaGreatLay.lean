/-
  What P8, P16, P32, P64 lay, over this seat's translation: behind the bytes of the slice that is handed in the digits of the number, in a slice of the call's own; conditions: the slice reads as bytes, at most a million of them.
-/
import Derived.Test.YthhimhjegodklaaGreatBs
namespace Go.Proofs.YthhimhjegodklaaGreat
open Go.RowKit

set_option maxRecDepth 100000 in
set_option maxHeartbeats 1000000 in
theorem lay8_any (v : Value) (l : List UInt8) (n : Nat) (w : World) (hv : Bs w v l) (hn : n < 256) (hl : l.length ≤ 1000000) :
    Calls Tryz.prog 109 #[v, .int .u8 n] w (Laid w (l ++ digits n 1)) := by
  obtain ⟨ao, cap, rfl, hcap, hnil, hcell⟩ := hv
  have HC := Lib.hid hcell
  have HN := Lib.hid hnil
  clear hcell hnil
  go_enter Tryz.func109, Tryz.ntmps109
  go_wp2_with (go_at_call 56; refine (width8 _).mono ?_; rintro e w' ⟨rfl, rfl⟩)
  refine wp_loop_rounds 2 ?_
  rw [rounds_succ]
  go_wp2_with (at_builtin; go_must (refine app_first w _ _ _ l ao rfl rfl rfl rfl (fun e => (HN.out e).1) HC.out hl ?_; intro v1 w1 o1 g1))
  rw [rounds_succ]
  go_wp2
  go_ret
  refine ⟨v1, rfl, owns_cast o1 (by simp [digits_length]) ?_, g1⟩
  simp [digits, bcells]
  omega
theorem p8_any (v : Value) (l : List UInt8) (n : Nat) (w : World) (hv : Bs w v l) (hn : n < 256) (hl : l.length ≤ 1000000) :
    Calls Tryz.prog 100 #[v, .int .u8 n] w (Laid w (l ++ digits n 1)) := by
  go_enter Tryz.func100, Tryz.ntmps100
  go_wp2_with (go_at_call 109; refine (lay8_any v l n _ hv hn hl).mono ?_; rintro e w' ⟨v', rfl, o1, g1⟩)
  go_ret
  exact ⟨v', rfl, o1, g1⟩

set_option maxRecDepth 100000 in
set_option maxHeartbeats 1000000 in
theorem lay16_any (v : Value) (l : List UInt8) (n : Nat) (w : World) (hv : Bs w v l) (hn : n < 65536) (hl : l.length ≤ 1000000) :
    Calls Tryz.prog 112 #[v, .int .u16 n] w (Laid w (l ++ digits n 2)) := by
  obtain ⟨ao, cap, rfl, hcap, hnil, hcell⟩ := hv
  have HC := Lib.hid hcell
  have HN := Lib.hid hnil
  clear hcell hnil
  go_enter Tryz.func112, Tryz.ntmps112
  go_wp2_with (go_at_call 71; refine (width16 _).mono ?_; rintro e w' ⟨rfl, rfl⟩)
  refine wp_loop_rounds 3 ?_
  rw [rounds_succ]
  go_wp2_with (at_builtin; go_must (refine app_first w _ _ _ l ao rfl rfl rfl rfl (fun e => (HN.out e).1) HC.out hl ?_; intro v1 w1 o1 g1))
  rw [rounds_succ]
  go_wp2_with (at_builtin; go_must (refine app_more w _ _ _ _ _ _ _ rfl rfl rfl rfl o1 g1 (by omega) ?_; intro v2 w2 o2 g2))
  rw [rounds_succ]
  go_wp2
  go_ret
  refine ⟨v2, rfl, owns_cast o2 (by simp [digits_length]) ?_, g2⟩
  simp [digits, bcells]
  omega
theorem p16_any (v : Value) (l : List UInt8) (n : Nat) (w : World) (hv : Bs w v l) (hn : n < 65536) (hl : l.length ≤ 1000000) :
    Calls Tryz.prog 110 #[v, .int .u16 n] w (Laid w (l ++ digits n 2)) := by
  go_enter Tryz.func110, Tryz.ntmps110
  go_wp2_with (go_at_call 112; refine (lay16_any v l n _ hv hn hl).mono ?_; rintro e w' ⟨v', rfl, o1, g1⟩)
  go_ret
  exact ⟨v', rfl, o1, g1⟩

end Go.Proofs.YthhimhjegodklaaGreat

