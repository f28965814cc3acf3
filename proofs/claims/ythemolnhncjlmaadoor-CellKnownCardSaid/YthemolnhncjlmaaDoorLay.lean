/-
  What P8, P16, P32, P64 lay, over this seat's translation: behind the bytes of the slice that is handed in the digits of the number, in a slice of the call's own; conditions: the slice reads as bytes, at most a million of them.
-/
import Derived.Test.YthemolnhncjlmaaDoorBs
namespace Go.Proofs.YthemolnhncjlmaaDoor
open Go.RowKit

set_option maxRecDepth 100000 in
set_option maxHeartbeats 1000000 in
theorem lay8_any (v : Value) (l : List UInt8) (n : Nat) (w : World) (hv : Bs w v l) (hn : n < 256) (hl : l.length ≤ 1000000) :
    Calls Tryd.prog 43 #[v, .int .u8 n] w (Laid w (l ++ digits n 1)) := by
  obtain ⟨ao, cap, rfl, hcap, hnil, hcell⟩ := hv
  have HC := Lib.hid hcell
  have HN := Lib.hid hnil
  clear hcell hnil
  go_enter Tryd.func43, Tryd.ntmps43
  go_wp2_with (go_at_call 52; refine (width8 _).mono ?_; rintro e w' ⟨rfl, rfl⟩)
  refine wp_loop_rounds 2 ?_
  rw [rounds_succ]
  go_wp2_with (at_builtin; go_must (refine app_first w _ _ _ l ao rfl rfl rfl rfl (fun e => (HN.out e).1) HC.out hl ?_; intro v1 w1 o1 g1))
  rw [rounds_succ]
  go_wp2
  go_ret
  refine ⟨v1, rfl, owns_cast o1 (by simp [digits_length]) ?_, g1⟩
  simp [digits, bcells]
  omega
theorem p8_any (v : Value) (l : List UInt8) (n : Nat) (w : World) (hv : Bs w v l) (hn : n < 256) (hl : l.length ≤ 1000000) :
    Calls Tryd.prog 30 #[v, .int .u8 n] w (Laid w (l ++ digits n 1)) := by
  go_enter Tryd.func30, Tryd.ntmps30
  go_wp2_with (go_at_call 43; refine (lay8_any v l n _ hv hn hl).mono ?_; rintro e w' ⟨v', rfl, o1, g1⟩)
  go_ret
  exact ⟨v', rfl, o1, g1⟩

set_option maxRecDepth 100000 in
set_option maxHeartbeats 1000000 in
theorem lay32_any (v : Value) (l : List UInt8) (n : Nat) (w : World) (hv : Bs w v l) (hn : n < 4294967296) (hl : l.length ≤ 1000000) :
    Calls Tryd.prog 44 #[v, .int .u32 n] w (Laid w (l ++ digits n 4)) := by
  obtain ⟨ao, cap, rfl, hcap, hnil, hcell⟩ := hv
  have HC := Lib.hid hcell
  have HN := Lib.hid hnil
  clear hcell hnil
  go_enter Tryd.func44, Tryd.ntmps44
  go_wp2_with (go_at_call 53; refine (width32 _).mono ?_; rintro e w' ⟨rfl, rfl⟩)
  refine wp_loop_rounds 5 ?_
  rw [rounds_succ]
  go_wp2_with (at_builtin; go_must (refine app_first w _ _ _ l ao rfl rfl rfl rfl (fun e => (HN.out e).1) HC.out hl ?_; intro v1 w1 o1 g1))
  rw [rounds_succ]
  go_wp2_with (at_builtin; go_must (refine app_more w _ _ _ _ _ _ _ rfl rfl rfl rfl o1 g1 (by omega) ?_; intro v2 w2 o2 g2))
  rw [rounds_succ]
  go_wp2_with (at_builtin; go_must (refine app_more w _ _ _ _ _ _ _ rfl rfl rfl rfl o2 g2 (by omega) ?_; intro v3 w3 o3 g3))
  rw [rounds_succ]
  go_wp2_with (at_builtin; go_must (refine app_more w _ _ _ _ _ _ _ rfl rfl rfl rfl o3 g3 (by omega) ?_; intro v4 w4 o4 g4))
  rw [rounds_succ]
  go_wp2
  go_ret
  refine ⟨v4, rfl, owns_cast o4 (by simp [digits_length]) ?_, g4⟩
  simp [digits, bcells]
  omega
theorem p32_any (v : Value) (l : List UInt8) (n : Nat) (w : World) (hv : Bs w v l) (hn : n < 4294967296) (hl : l.length ≤ 1000000) :
    Calls Tryd.prog 31 #[v, .int .u32 n] w (Laid w (l ++ digits n 4)) := by
  go_enter Tryd.func31, Tryd.ntmps31
  go_wp2_with (go_at_call 44; refine (lay32_any v l n _ hv hn hl).mono ?_; rintro e w' ⟨v', rfl, o1, g1⟩)
  go_ret
  exact ⟨v', rfl, o1, g1⟩

end Go.Proofs.YthemolnhncjlmaaDoor

