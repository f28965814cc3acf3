/-
  What Set, Drop, Clean and Dirty answer and leave, over this seat's translation; conditions: the table's block is there, or there is no table.
-/
import Derived.Test.YtfkkdhgggocgjaaDoorTx
import Derived.Laws.CopyRow
namespace Go.Proofs.YtfkkdhgggocgjaaDoor
open Go.RowKit

theorem set_nil (i v : Int) (w : World) : Calls Tryd.prog 8 #[.pointer none, .int .i64 i, .int .i64 v] w fun e w' => e = .returned (.int .i64 1) ∧ w = w' := by
  go_enter Tryd.func8, Tryd.ntmps8
  go_wp2
  go_ret
  exact ⟨rfl, rfl⟩
/-- What a Set leaves. -/
def SetGot (w : World) (p : Nat) (s : TB) (i v : Int) (e : Ending) (w' : World) : Prop := e = .returned (.int .i64 (setE i v)) ∧ PT w' p (setF s i v) ∧ w.grownBy w' (some p)
set_option maxRecDepth 100000 in
set_option maxHeartbeats 400000 in
theorem set_any (p : Nat) (s : TB) (i v : Int) (w : World) (h : PT w p s) : Calls Tryd.prog 8 #[.pointer (some ⟨p, 0, none⟩), .int .i64 i, .int .i64 v] w (SetGot w p s i v) := by
  unfold SetGot
  by_cases hi : IsPage i
  · by_cases hv : IsSect v
    · have he : setE i v = 0 := if_pos ⟨hi, hv⟩
      have hs : setF s i v = putF s (i - 1).toNat v.toNat := if_pos ⟨hi, hv⟩
      rw [he, hs]
      have HI := Lib.hid hi
      have HV := Lib.hid hv
      obtain ⟨k, rfl, hk⟩ : ∃ k : Nat, i = (k : Int) + 1 ∧ k < 960 := ⟨(i - 1).toNat, by unfold IsPage at hi; omega, by unfold IsPage at hi; omega⟩
      obtain ⟨n, rfl, hn⟩ : ∃ n : Nat, v = (n : Int) ∧ n < 1024 := ⟨v.toNat, by unfold IsSect at hv; omega, by unfold IsSect at hv; omega⟩
      have hk1 : ((k : Int) + 1 - 1).toNat = k := by omega
      rw [hk1, Int.toNat_natCast]
      have HP := Lib.hid (put_any p s k n w h hk hn)
      clear hi hv h he hs hk1
      go_enter Tryd.func8, Tryd.ntmps8
      go_wp2_with (first
        | (go_at_call 29; (with_reducible refine (isPage_is _ (decide_eq_true HI.out)).mono ?_); rintro e w' ⟨rfl, rfl⟩)
        | (go_at_call 30; (with_reducible refine (isSect_is _ (decide_eq_true HV.out)).mono ?_); rintro e w' ⟨rfl, rfl⟩)
        | (go_at_call 31; (with_reducible refine HP.out.mono ?_); rintro e w' ⟨rfl, h1, g1⟩))
      go_ret
      exact ⟨rfl, h1, g1⟩
    · have he : setE i v = 2 := if_neg (fun x => hv x.2)
      have hs : setF s i v = s := if_neg (fun x => hv x.2)
      rw [he, hs]
      have HI := Lib.hid hi
      have HV := Lib.hid hv
      have HP := Lib.hid h
      clear hi hv h he hs
      go_enter Tryd.func8, Tryd.ntmps8
      go_wp2_with (first
        | (go_at_call 29; (with_reducible refine (isPage_is _ (decide_eq_true HI.out)).mono ?_); rintro e w' ⟨rfl, rfl⟩)
        | (go_at_call 30; (with_reducible refine (isSect_is _ (decide_eq_false HV.out)).mono ?_); rintro e w' ⟨rfl, rfl⟩))
      go_ret
      exact ⟨rfl, HP.out, gb_refl _ _⟩
  · have he : setE i v = 2 := if_neg (fun x => hi x.1)
    have hs : setF s i v = s := if_neg (fun x => hi x.1)
    rw [he, hs]
    have HI := Lib.hid hi
    have HP := Lib.hid h
    clear hi h he hs
    go_enter Tryd.func8, Tryd.ntmps8
    go_wp2_with (go_at_call 29; (with_reducible refine (isPage_is _ (decide_eq_false HI.out)).mono ?_); rintro e w' ⟨rfl, rfl⟩)
    go_ret
    exact ⟨rfl, HP.out, gb_refl _ _⟩
theorem drop_nil (i : Int) (w : World) : Calls Tryd.prog 10 #[.pointer none, .int .i64 i] w fun e w' => e = .returned (.int .i64 1) ∧ w = w' := by
  go_enter Tryd.func10, Tryd.ntmps10
  go_wp2
  go_ret
  exact ⟨rfl, rfl⟩
/-- What a Drop leaves. -/
def DropGot (w : World) (p : Nat) (s : TB) (i : Int) (e : Ending) (w' : World) : Prop := e = .returned (.int .i64 (dropE s i)) ∧ PT w' p (dropF s i) ∧ w.grownBy w' (some p)
set_option maxRecDepth 100000 in
set_option maxHeartbeats 400000 in
theorem drop_any (p : Nat) (s : TB) (i : Int) (w : World) (h : PT w p s) : Calls Tryd.prog 10 #[.pointer (some ⟨p, 0, none⟩), .int .i64 i] w (DropGot w p s i) := by
  unfold DropGot
  have HG := Lib.hid (get_any p s i w h)
  by_cases h0 : getF s i = 0
  · have he : dropE s i = 13 := if_pos h0
    have hs : dropF s i = s := if_pos h0
    rw [he, hs]
    rw [h0] at HG
    have HP := Lib.hid h
    clear h0 h he hs
    go_enter Tryd.func10, Tryd.ntmps10
    go_wp2_with (go_at_call 20; (with_reducible refine HG.out.mono ?_); rintro e w' ⟨rfl, rfl⟩)
    go_ret
    exact ⟨rfl, HP.out, gb_refl _ _⟩
  · have he : dropE s i = 0 := if_neg h0
    have hs : dropF s i = putF s (i - 1).toNat 0 := if_neg h0
    rw [he, hs]
    have hi : IsPage i := Decidable.byContradiction fun hn => h0 (getF_no hn)
    obtain ⟨k, rfl, hk⟩ : ∃ k : Nat, i = (k : Int) + 1 ∧ k < 960 := ⟨(i - 1).toNat, by unfold IsPage at hi; omega, by unfold IsPage at hi; omega⟩
    have hk1 : ((k : Int) + 1 - 1).toNat = k := by omega
    rw [hk1]
    have HP := Lib.hid (put_any p s k 0 w h hk (by omega))
    generalize getF s ((k : Int) + 1) = u at HG h0
    have hne : ((u : Int) == 0) = false := by simp; omega
    clear h0 h he hs hi hk1
    go_enter Tryd.func10, Tryd.ntmps10
    go_wp2_with (first
      | (go_at_call 20; (with_reducible refine HG.out.mono ?_); rintro e w' ⟨rfl, rfl⟩)
      | (go_at_call 31; refine HP.out.mono ?_; rintro e w' ⟨rfl, h1, g1⟩))
    go_ret
    exact ⟨rfl, h1, g1⟩
theorem clean_nil (w : World) : Calls Tryd.prog 16 #[.pointer none] w fun e w' => e = .returned (.tuple #[]) ∧ w = w' := by
  go_enter Tryd.func16, Tryd.ntmps16
  go_wp2
  refine bodyPost_ret (results_none rfl _ _ _) rfl ?_
  exact ⟨rfl, rfl⟩
def CleanGot (w : World) (p : Nat) (s : TB) (e : Ending) (w' : World) : Prop := e = .returned (.tuple #[]) ∧ PT w' p (cleanF s) ∧ w.grownBy w' (some p)
theorem gb_setRow (w : World) (g : Nat) (cs : Array Value) : w.grownBy (w.setRow g cs) (some g) := by
  refine ⟨rfl, rfl, rfl, by simp, fun k _ hk => ?_⟩
  exact setRow_other w g k cs (fun e => hk (by rw [e]))
theorem offs8 : bools (offs 8) = [.bool false, .bool false, .bool false, .bool false, .bool false, .bool false, .bool false, .bool false] := rfl
theorem tabC_off {s : TB} (h : s.Fit) : ((tabC s).toArray.toList.take (960 + 0) ++ bools (offs 8) ++ (tabC s).toArray.toList.drop (960 + 0 + (bools (offs 8)).length)).toArray = (tabC (cleanF s)).toArray := by
  congr 1
  show (tabC s).take 960 ++ bools (offs 8) ++ (tabC s).drop (960 + (bools (offs 8)).length) = _
  have h1 : (u16C s.P).length = 960 := by rw [u16C_length]; exact h.1
  rw [List.drop_eq_nil_of_le (by rw [tabC_length h, bools_length, offs_length]; omega), List.append_nil]
  unfold tabC cleanF
  rw [List.take_append_of_le_length (by omega), List.take_of_length_le (by omega)]
theorem clear_tab {p : Nat} {s : TB} {w : World} (h : PT w p s) (ty : TypeId) :
    (Builtin.clear_ #[77] ty #[.slice (some ⟨p, 960, none⟩) 8 8]).run Tryd.prog w = .ok (.tuple #[]) (w.setRow p (tabC (cleanF s)).toArray) := by
  have hst := run_storeCells_at Tryd.prog p 960 62 (bools (offs 8)) 0 (tabC s).toArray w h.1 (by rw [List.size_toArray, tabC_length h.2, bools_length, offs_length]; omega) (by
    intro v hv; unfold bools at hv; obtain ⟨b, _, rfl⟩ := List.mem_map.1 hv; rfl)
  rw [tabC_off h.2, offs8] at hst
  have hc : (Go.Builtin.zeroCells (Value.bool false).cells 8).toList = [Value.bool false, .bool false, .bool false, .bool false, .bool false, .bool false, .bool false, .bool false] := by kernel_rfl
  simp [Builtin.clear_, run_underlying Tryd.underlying77, Tryd.zeroValue4, hc, hst, Result.andThen]
theorem clean_any (p : Nat) (s : TB) (w : World) (h : PT w p s) : Calls Tryd.prog 16 #[.pointer (some ⟨p, 0, none⟩)] w (CleanGot w p s) := by
  have hc := clear_tab h
  have hfin : CleanGot w p s (.returned (.tuple #[])) (w.setRow p (tabC (cleanF s)).toArray) := ⟨rfl, ⟨setRow_heap w p _ _ _ _ h.1, cleanF_fit h.2⟩, gb_setRow _ _ _⟩
  have HF := Lib.hid hfin
  clear h hfin
  generalize w.setRow p (tabC (cleanF s)).toArray = W at hc HF
  go_enter Tryd.func16, Tryd.ntmps16
  go_wp2
  go_end0
  exact HF.out
end Go.Proofs.YtfkkdhgggocgjaaDoor

