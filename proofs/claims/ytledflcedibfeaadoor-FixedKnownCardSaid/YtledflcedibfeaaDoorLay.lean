/-
  What P8, P16, P32, P64 lay, over this seat's translation: behind the bytes of the slice that is handed in the digits of the number, in a slice of the call's own; conditions: the slice reads as bytes, at most a million of them.
-/
import Derived.Test.YtledflcedibfeaaDoorBs
namespace Go.Proofs.YtledflcedibfeaaDoor
open Go.RowKit

set_option maxRecDepth 100000 in
set_option maxHeartbeats 1000000 in
theorem lay8_any (v : Value) (l : List UInt8) (n : Nat) (w : World) (hv : Bs w v l) (hn : n < 256) (hl : l.length ≤ 1000000) :
    Calls Tryd.prog 39 #[v, .int .u8 n] w (Laid w (l ++ digits n 1)) := by
  obtain ⟨ao, cap, rfl, hcap, hnil, hcell⟩ := hv
  have HC := Lib.hid hcell
  have HN := Lib.hid hnil
  clear hcell hnil
  go_enter Tryd.func39, Tryd.ntmps39
  go_wp2_with (go_at_call 51; refine (width8 _).mono ?_; rintro e w' ⟨rfl, rfl⟩)
  refine wp_loop_rounds 2 ?_
  rw [rounds_succ]
  go_wp2_with (at_builtin; go_must (refine app_first w _ _ _ l ao rfl rfl rfl rfl (fun e => (HN.out e).1) HC.out hl ?_; intro v1 w1 o1 g1))
  rw [rounds_succ]
  go_wp2
  go_ret
  refine ⟨v1, rfl, owns_cast o1 (by simp [digits_length]) ?_, g1⟩
  simp [digits, bcells]
  omega
theorem p8_any (v : Value) (l : List UInt8) (n : Nat) (w : World) (hv : Bs w v l) (hn : n < 256) (hl : l.length ≤ 1000000) :
    Calls Tryd.prog 25 #[v, .int .u8 n] w (Laid w (l ++ digits n 1)) := by
  go_enter Tryd.func25, Tryd.ntmps25
  go_wp2_with (go_at_call 39; refine (lay8_any v l n _ hv hn hl).mono ?_; rintro e w' ⟨v', rfl, o1, g1⟩)
  go_ret
  exact ⟨v', rfl, o1, g1⟩

set_option maxRecDepth 100000 in
set_option maxHeartbeats 1000000 in
theorem lay16_any (v : Value) (l : List UInt8) (n : Nat) (w : World) (hv : Bs w v l) (hn : n < 65536) (hl : l.length ≤ 1000000) :
    Calls Tryd.prog 49 #[v, .int .u16 n] w (Laid w (l ++ digits n 2)) := by
  obtain ⟨ao, cap, rfl, hcap, hnil, hcell⟩ := hv
  have HC := Lib.hid hcell
  have HN := Lib.hid hnil
  clear hcell hnil
  go_enter Tryd.func49, Tryd.ntmps49
  go_wp2_with (go_at_call 53; refine (width16 _).mono ?_; rintro e w' ⟨rfl, rfl⟩)
  refine wp_loop_rounds 3 ?_
  rw [rounds_succ]
  go_wp2_with (at_builtin; go_must (refine app_first w _ _ _ l ao rfl rfl rfl rfl (fun e => (HN.out e).1) HC.out hl ?_; intro v1 w1 o1 g1))
  rw [rounds_succ]
  go_wp2_with (at_builtin; go_must (refine app_more w _ _ _ _ _ _ _ rfl rfl rfl rfl o1 g1 (by omega) ?_; intro v2 w2 o2 g2))
  rw [rounds_succ]
  go_wp2
  go_ret
  refine ⟨v2, rfl, owns_cast o2 (by simp [digits_length]) ?_, g2⟩
  simp [digits, bcells]
  omega
theorem p16_any (v : Value) (l : List UInt8) (n : Nat) (w : World) (hv : Bs w v l) (hn : n < 65536) (hl : l.length ≤ 1000000) :
    Calls Tryd.prog 34 #[v, .int .u16 n] w (Laid w (l ++ digits n 2)) := by
  go_enter Tryd.func34, Tryd.ntmps34
  go_wp2_with (go_at_call 49; refine (lay16_any v l n _ hv hn hl).mono ?_; rintro e w' ⟨v', rfl, o1, g1⟩)
  go_ret
  exact ⟨v', rfl, o1, g1⟩

set_option maxRecDepth 100000 in
set_option maxHeartbeats 1000000 in
theorem lay32_any (v : Value) (l : List UInt8) (n : Nat) (w : World) (hv : Bs w v l) (hn : n < 4294967296) (hl : l.length ≤ 1000000) :
    Calls Tryd.prog 50 #[v, .int .u32 n] w (Laid w (l ++ digits n 4)) := by
  obtain ⟨ao, cap, rfl, hcap, hnil, hcell⟩ := hv
  have HC := Lib.hid hcell
  have HN := Lib.hid hnil
  clear hcell hnil
  go_enter Tryd.func50, Tryd.ntmps50
  go_wp2_with (go_at_call 54; refine (width32 _).mono ?_; rintro e w' ⟨rfl, rfl⟩)
  refine wp_loop_rounds 5 ?_
  rw [rounds_succ]
  go_wp2_with (at_builtin; go_must (refine app_first w _ _ _ l ao rfl rfl rfl rfl (fun e => (HN.out e).1) HC.out hl ?_; intro v1 w1 o1 g1))
  rw [rounds_succ]
  go_wp2_with (at_builtin; go_must (refine app_more w _ _ _ _ _ _ _ rfl rfl rfl rfl o1 g1 (by omega) ?_; intro v2 w2 o2 g2))
  rw [rounds_succ]
  go_wp2_with (at_builtin; go_must (refine app_more w _ _ _ _ _ _ _ rfl rfl rfl rfl o2 g2 (by omega) ?_; intro v3 w3 o3 g3))
  rw [rounds_succ]
  go_wp2_with (at_builtin; go_must (refine app_more w _ _ _ _ _ _ _ rfl rfl rfl rfl o3 g3 (by omega) ?_; intro v4 w4 o4 g4))
  rw [rounds_succ]
  go_wp2
  go_ret
  refine ⟨v4, rfl, owns_cast o4 (by simp [digits_length]) ?_, g4⟩
  simp [digits, bcells]
  omega
theorem p32_any (v : Value) (l : List UInt8) (n : Nat) (w : World) (hv : Bs w v l) (hn : n < 4294967296) (hl : l.length ≤ 1000000) :
    Calls Tryd.prog 35 #[v, .int .u32 n] w (Laid w (l ++ digits n 4)) := by
  go_enter Tryd.func35, Tryd.ntmps35
  go_wp2_with (go_at_call 50; refine (lay32_any v l n _ hv hn hl).mono ?_; rintro e w' ⟨v', rfl, o1, g1⟩)
  go_ret
  exact ⟨v', rfl, o1, g1⟩

set_option maxRecDepth 100000 in
set_option maxHeartbeats 1000000 in
theorem lay64_any (v : Value) (l : List UInt8) (n : Nat) (w : World) (hv : Bs w v l) (hn : n < 18446744073709551616) (hl : l.length ≤ 1000000) :
    Calls Tryd.prog 40 #[v, .int .u64 n] w (Laid w (l ++ digits n 8)) := by
  obtain ⟨ao, cap, rfl, hcap, hnil, hcell⟩ := hv
  have HC := Lib.hid hcell
  have HN := Lib.hid hnil
  clear hcell hnil
  go_enter Tryd.func40, Tryd.ntmps40
  go_wp2_with (go_at_call 52; refine (width64 _).mono ?_; rintro e w' ⟨rfl, rfl⟩)
  refine wp_loop_rounds 9 ?_
  rw [rounds_succ]
  go_wp2_with (at_builtin; go_must (refine app_first w _ _ _ l ao rfl rfl rfl rfl (fun e => (HN.out e).1) HC.out hl ?_; intro v1 w1 o1 g1))
  rw [rounds_succ]
  go_wp2_with (at_builtin; go_must (refine app_more w _ _ _ _ _ _ _ rfl rfl rfl rfl o1 g1 (by omega) ?_; intro v2 w2 o2 g2))
  rw [rounds_succ]
  go_wp2_with (at_builtin; go_must (refine app_more w _ _ _ _ _ _ _ rfl rfl rfl rfl o2 g2 (by omega) ?_; intro v3 w3 o3 g3))
  rw [rounds_succ]
  go_wp2_with (at_builtin; go_must (refine app_more w _ _ _ _ _ _ _ rfl rfl rfl rfl o3 g3 (by omega) ?_; intro v4 w4 o4 g4))
  rw [rounds_succ]
  go_wp2_with (at_builtin; go_must (refine app_more w _ _ _ _ _ _ _ rfl rfl rfl rfl o4 g4 (by omega) ?_; intro v5 w5 o5 g5))
  rw [rounds_succ]
  go_wp2_with (at_builtin; go_must (refine app_more w _ _ _ _ _ _ _ rfl rfl rfl rfl o5 g5 (by omega) ?_; intro v6 w6 o6 g6))
  rw [rounds_succ]
  go_wp2_with (at_builtin; go_must (refine app_more w _ _ _ _ _ _ _ rfl rfl rfl rfl o6 g6 (by omega) ?_; intro v7 w7 o7 g7))
  rw [rounds_succ]
  go_wp2_with (at_builtin; go_must (refine app_more w _ _ _ _ _ _ _ rfl rfl rfl rfl o7 g7 (by omega) ?_; intro v8 w8 o8 g8))
  rw [rounds_succ]
  go_wp2
  go_ret
  refine ⟨v8, rfl, owns_cast o8 (by simp [digits_length]) ?_, g8⟩
  simp [digits, bcells]
  omega
theorem p64_any (v : Value) (l : List UInt8) (n : Nat) (w : World) (hv : Bs w v l) (hn : n < 18446744073709551616) (hl : l.length ≤ 1000000) :
    Calls Tryd.prog 26 #[v, .int .u64 n] w (Laid w (l ++ digits n 8)) := by
  go_enter Tryd.func26, Tryd.ntmps26
  go_wp2_with (go_at_call 40; refine (lay64_any v l n _ hv hn hl).mono ?_; rintro e w' ⟨v', rfl, o1, g1⟩)
  go_ret
  exact ⟨v', rfl, o1, g1⟩
end Go.Proofs.YtledflcedibfeaaDoor
