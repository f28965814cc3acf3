/-
  What Get, Set and Drop answer and leave, over this seat's translation; conditions: the table's block is there, or there is no table.
-/
import Derived.Test.YtfkkdhgggocgjaaDoorTw
import Derived.Laws.BitsAllLaws
namespace Go.Proofs.YtfkkdhgggocgjaaDoor
open Go.RowKit

theorem isPage_any (i : Int) (w : World) : Calls Tryd.prog 29 #[.int .i64 i] w fun e w' => e = .returned (.bool (decide (IsPage i))) ∧ w = w' := by
  by_cases h1 : 1 ≤ i
  · by_cases h2 : i ≤ 960
    · rw [decide_eq_true (show IsPage i from ⟨h1, h2⟩)]
      go_enter Tryd.func29, Tryd.ntmps29
      go_wp2
      go_ret
      exact ⟨rfl, rfl⟩
    · rw [decide_eq_false (show ¬ IsPage i from fun h => h2 h.2)]
      go_enter Tryd.func29, Tryd.ntmps29
      go_wp2
      go_ret
      exact ⟨rfl, rfl⟩
  · rw [decide_eq_false (show ¬ IsPage i from fun h => h1 h.1)]
    go_enter Tryd.func29, Tryd.ntmps29
    go_wp2
    go_ret
    exact ⟨rfl, rfl⟩
theorem isSect_any (i : Int) (w : World) : Calls Tryd.prog 30 #[.int .i64 i] w fun e w' => e = .returned (.bool (decide (IsSect i))) ∧ w = w' := by
  by_cases h1 : 2 ≤ i
  · by_cases h2 : i ≤ 1023
    · rw [decide_eq_true (show IsSect i from ⟨h1, h2⟩)]
      go_enter Tryd.func30, Tryd.ntmps30
      go_wp2
      go_ret
      exact ⟨rfl, rfl⟩
    · rw [decide_eq_false (show ¬ IsSect i from fun h => h2 h.2)]
      go_enter Tryd.func30, Tryd.ntmps30
      go_wp2
      go_ret
      exact ⟨rfl, rfl⟩
  · rw [decide_eq_false (show ¬ IsSect i from fun h => h1 h.1)]
    go_enter Tryd.func30, Tryd.ntmps30
    go_wp2
    go_ret
    exact ⟨rfl, rfl⟩
theorem isPage_is {b : Bool} {i : Int} (w : World) (h : decide (IsPage i) = b) : Calls Tryd.prog 29 #[.int .i64 i] w fun e w' => e = .returned (.bool b) ∧ w = w' := h ▸ isPage_any i w
theorem isSect_is {b : Bool} {i : Int} (w : World) (h : decide (IsSect i) = b) : Calls Tryd.prog 30 #[.int .i64 i] w fun e w' => e = .returned (.bool b) ∧ w = w' := h ▸ isSect_any i w
theorem get_nil (i : Int) (w : World) : Calls Tryd.prog 20 #[.pointer none, .int .i64 i] w fun e w' => e = .returned (.int .i64 0) ∧ w = w' := by
  go_enter Tryd.func20, Tryd.ntmps20
  go_wp2
  go_ret
  exact ⟨rfl, rfl⟩
set_option maxRecDepth 100000 in
set_option maxHeartbeats 400000 in
theorem get_any (p : Nat) (s : TB) (i : Int) (w : World) (h : PT w p s) : Calls Tryd.prog 20 #[.pointer (some ⟨p, 0, none⟩), .int .i64 i] w fun e w' => e = .returned (.int .i64 (getF s i : Nat)) ∧ w = w' := by
  by_cases hi : IsPage i
  · have hg : getF s i = s.P.getD (i - 1).toNat 0 := if_pos hi
    have HI := Lib.hid hi
    obtain ⟨k, rfl, hk⟩ : ∃ k : Nat, i = (k : Int) + 1 ∧ k < 960 := ⟨(i - 1).toNat, by unfold IsPage at hi; omega, by unfold IsPage at hi; omega⟩
    rw [getF_nat s k hk]
    have hc := h.page hk
    have hv := h.fit.lt k
    generalize s.P.getD k 0 = v at hc hv
    have hd : (k : Int) + 1 - 1 = (k : Int) := by omega
    have hkw : IntKind.i64.wrap (k : Int) = (k : Int) := IntWalk.i64_in _ (by omega)
    have hvw : IntKind.i64.wrap (v : Int) = (v : Int) := IntWalk.i64_in _ (by omega)
    clear hg hi h
    go_enter Tryd.func20, Tryd.ntmps20
    go_wp2_with (go_at_call 29; (with_reducible refine (isPage_is _ (decide_eq_true HI.out)).mono ?_); rintro e w' ⟨rfl, rfl⟩)
    go_ret
    exact ⟨rfl, rfl⟩
  · rw [getF_no hi]
    have HI := Lib.hid hi
    clear hi h
    go_enter Tryd.func20, Tryd.ntmps20
    go_wp2_with (go_at_call 29; (with_reducible refine (isPage_is _ (decide_eq_false HI.out)).mono ?_); rintro e w' ⟨rfl, rfl⟩)
    go_ret
    exact ⟨rfl, rfl⟩
set_option maxRecDepth 100000 in
set_option maxHeartbeats 400000 in
theorem put_any (p : Nat) (s : TB) (k v : Nat) (w : World) (h : PT w p s) (hk : k < 960) (hv : v < 1024) : Calls Tryd.prog 31 #[.pointer (some ⟨p, 0, none⟩), .int .i64 ((k : Int) + 1), .int .i64 (v : Nat)] w fun e w' => e = .returned (.tuple #[]) ∧ PT w' p (putF s k v) ∧ w.grownBy w' (some p) := by
  have HG := Lib.hid (get_any p s ((k : Int) + 1) w h)
  rw [getF_nat s k hk] at HG
  by_cases he : s.P.getD k 0 = v
  · have hs : putF s k v = s := if_pos he
    rw [hs]
    rw [he] at HG
    have HP := Lib.hid h
    clear he hs h
    go_enter Tryd.func31, Tryd.ntmps31
    go_wp2_with (go_at_call 20; (with_reducible refine HG.out.mono ?_); rintro e w' ⟨rfl, rfl⟩)
    refine bodyPost_ret (results_none rfl _ _ _) rfl ?_
    exact ⟨rfl, HP.out, gb_refl _ _⟩
  · have hs : putF s k v = ⟨s.P.set k v, s.D.set (k / 120) true⟩ := if_neg he
    rw [hs]
    have hfin := (h.setPage hk hv).setDirt (k / 120) true
    have c1 := h.page hk
    have f1 := h.free k
    have f2 := (h.setPage hk hv).free (960 + k / 120)
    have c2 := (h.setPage hk hv).dirt (k := k / 120) (by omega)
    have HF := Lib.hid hfin
    generalize s.P.getD k 0 = u at HG c1 he
    have hne : ((u : Int) == (v : Int)) = false := by simp; omega
    have hd : (k : Int) + 1 - 1 = (k : Int) := by omega
    have hkw : IntKind.i64.wrap (k : Int) = (k : Int) := IntWalk.i64_in _ (by omega)
    have hvw : IntKind.u16.wrap (v : Int) = (v : Int) := by rw [IntKind.wrap_u16]; omega
    have hq : IntKind.i64.wrap ((k : Int) / 120) = ((k / 120 : Nat) : Int) := by rw [show (k : Int) / 120 = ((k / 120 : Nat) : Int) from by omega]; exact IntWalk.i64_in _ (by omega)
    clear hfin h he hs
    go_enter Tryd.func31, Tryd.ntmps31
    go_wp2_with (go_at_call 20; (with_reducible refine HG.out.mono ?_); rintro e w' ⟨rfl, rfl⟩)
    go_end0
    exact ⟨rfl, HF.out, gb_trans (gb_set _ _ _ _ _) (gb_set _ _ _ _ _)⟩
end Go.Proofs.YtfkkdhgggocgjaaDoor

