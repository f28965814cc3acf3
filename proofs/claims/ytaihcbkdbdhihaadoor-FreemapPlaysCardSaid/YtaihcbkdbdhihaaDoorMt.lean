/-
  FreemapPlays' walk: whatever is used, given and taken, over this seat's translation; conditions: the table of math/bits reads as the library lays it, the acts read as a list.
-/
import Derived.Test.YtaihcbkdbdhihaaDoorMs
namespace Go.Proofs.YtaihcbkdbdhihaaDoor
open Go.RowKit

set_option maxRecDepth 100000 in
theorem plays_none (n : Int) (v : Value) (w : World) (hT : Tab w) (h : n < 1 ∨ 1024 < n) (h1 : -9223372036854775808 ≤ n) (h2 : n ≤ 9223372036854775807) :
    Calls Tryd.prog 3 #[.int .i64 n, v] w fun e w' => e = .returned (.bool true) ∧ w.grownBy w' none := by
  have HN := Lib.hid (fun W => new_no n W h h1 h2)
  have HR := Lib.hid (fun W => rnew_no n W h h1 h2)
  clear h
  go_enter Tryd.func3, Tryd.ntmps3
  go_wp2_with (first
    | (go_at_call 8; (with_reducible refine (HN.out _).mono ?_); rintro e w' ⟨rfl, rfl⟩)
    | (go_at_call 9; (with_reducible refine (HR.out _).mono ?_); rintro e w' ⟨rfl, rfl⟩)
    | (go_at_call 10; (with_reducible refine (works_any _ hT).mono ?_); rintro e w' ⟨rfl, g⟩))
  go_ret
  exact ⟨rfl, g⟩
set_option maxRecDepth 100000 in
set_option maxHeartbeats 4000000 in
theorem plays_some (n : Nat) (v : Value) (l : List Ac) (w : World) (hT : Tab w) (hA : Acs w v l) (h1 : 1 ≤ n) (h2 : n ≤ 1024) :
    Calls Tryd.prog 3 #[.int .i64 (n : Nat), v] w fun e w' => e = .returned (.bool true) ∧ w.grownBy w' none := by
  obtain ⟨hS, hBd⟩ := hA
  obtain ⟨ao, cap, rfl, _, _, hna, hxa⟩ := hS
  have HX := Lib.hid (And.intro hna (And.intro hxa hBd))
  have HT := Lib.hid hT
  clear hna hxa hBd hT
  have HN := Lib.hid (fun W => new_yes n W h1 h2)
  have HR := Lib.hid (fun W => rnew_yes n W h1 h2)
  go_enter Tryd.func3, Tryd.ntmps3
  go_wp2_with (first
    | (go_at_call 8; (with_reducible refine (HN.out _).mono ?_); rintro e w1 ⟨rfl, P1, g1⟩)
    | (go_at_call 9; (with_reducible refine (HR.out _).mono ?_); rintro e w2 ⟨rfl, R2, g2⟩))
  have hB0 : Both w n w.heap.size (w1.heap.size + 1) w1.heap.size (List.replicate n false) (List.replicate n false) w2 :=
    ⟨P1.keep0 g2, R2, Nat.le_refl _, g1.size, List.length_replicate, List.length_replicate, h2, gb_trans g1 g2, HT.out⟩
  obtain ⟨rp, hrp⟩ : ∃ rp, w1.heap.size + 1 = rp := ⟨_, rfl⟩
  rw [hrp] at hB0 ⊢
  have HB0 := Lib.hid hB0
  clear hB0 P1 R2 g1 g2 HN HR hrp
  go_loopw [5, 7] (fun v5 v7 wr => ∃ (k pa : Nat) (us : List Bool), k ≤ l.length ∧ v7 = .int .i64 k ∧ v5 = .pointer (some ⟨pa, 0, none⟩) ∧ Both w n pa rp w1.heap.size us us wr) (fun _ v7 _ => l.length - (intOf v7).toNat)
  case atStart => exact ⟨0, w.heap.size, _, by omega, rfl, rfl, HB0.out⟩
  case round =>
    obtain ⟨k, pa, us, hk, rfl, rfl, hB⟩ := hrel
    have HB := Lib.hid hB
    clear hB HB0
    by_cases hin : k < l.length ∧ k < 60
    · obtain ⟨hlt, h60⟩ := hin
      cases ao with
      | none => have := (HX.out.1 rfl).1; omega
      | some x =>
        have hat := acC_at l k hlt
        have c0 := HB.out.grown.cell (HX.out.2.1 x rfl _ _ hat.1) (by simp)
        have c1 := HB.out.grown.cell (HX.out.2.1 x rfl _ _ hat.2) (by simp)
        have hbd := HX.out.2.2 l[k] (List.getElem_mem hlt)
        rw [show x.add (k * 2 + 1) = (x.add (k * 2)).add 1 from (add_add _ _ _).symm] at c1
        replace c1 : wr.cell? ⟨(x.add (k * 2)).block, (x.add (k * 2)).off + 1, none⟩ = some (.int .i16 l[k].i) := c1
        obtain ⟨hwl, hz1, hz2⟩ := hbd
        generalize l[k].what = wh at c0 hwl
        generalize l[k].i = z at c1 hz1 hz2
        have hzw : IntKind.i64.wrap z = z := IntWalk.i64_in _ (by omega)
        clear hat
        have hr : wh % 5 = 0 ∨ wh % 5 = 1 ∨ wh % 5 = 2 ∨ wh % 5 = 3 ∨ wh % 5 = 4 := by omega
        rcases hr with hr | hr | hr | hr | hr
        · have hm1 : ((wh : Nat) : Int) % 5 = 0 := by omega
          clear hwl hr
          go_wp2_with fail
          go_at_call 11
          (with_reducible refine (t_use z HB.out).mono ?_)
          rintro e W' ⟨rfl, hB⟩
          replace HB := Lib.hid hB; clear hB
          go_wp2_with fail
          go_at_call 12
          (with_reducible refine (t_ruse z HB.out).mono ?_)
          rintro e W' ⟨rfl, hB⟩
          replace HB := Lib.hid hB; clear hB
          generalize useE us z = ue
          go_wp2_with fail
          go_at_call 19
          (with_reducible refine (t_has z HB.out).mono ?_)
          rintro e w' ⟨rfl, rfl⟩
          go_wp2_with fail
          go_at_call 20
          (with_reducible refine (t_rhas z HB.out).mono ?_)
          rintro e w' ⟨rfl, rfl⟩
          generalize hasF (useS us z) z = hb
          go_wp2_with (first
            | (go_at_call 21; (with_reducible refine (t_left HB.out).mono ?_); rintro e w' ⟨rfl, rfl⟩)
            | (go_at_call 22; (with_reducible refine (t_rleft HB.out).mono ?_); rintro e w' ⟨rfl, rfl⟩))
          go_roundw
          case rel => exact ⟨k + 1, pa, (useS us z), by omega, by go_num, rfl, HB.out⟩
          case measure => simp [intOf]; omega
        · have hm1 : ((wh : Nat) : Int) % 5 = 1 := by omega
          clear hwl hr
          go_wp2_with fail
          go_at_call 13
          (with_reducible refine (t_give z HB.out).mono ?_)
          rintro e W' ⟨rfl, hB⟩
          replace HB := Lib.hid hB; clear hB
          go_wp2_with fail
          go_at_call 14
          (with_reducible refine (t_rgive z HB.out).mono ?_)
          rintro e W' ⟨rfl, hB⟩
          replace HB := Lib.hid hB; clear hB
          generalize giveE us z = ue
          go_wp2_with fail
          go_at_call 19
          (with_reducible refine (t_has z HB.out).mono ?_)
          rintro e w' ⟨rfl, rfl⟩
          go_wp2_with fail
          go_at_call 20
          (with_reducible refine (t_rhas z HB.out).mono ?_)
          rintro e w' ⟨rfl, rfl⟩
          generalize hasF (giveS us z) z = hb
          go_wp2_with (first
            | (go_at_call 21; (with_reducible refine (t_left HB.out).mono ?_); rintro e w' ⟨rfl, rfl⟩)
            | (go_at_call 22; (with_reducible refine (t_rleft HB.out).mono ?_); rintro e w' ⟨rfl, rfl⟩))
          go_roundw
          case rel => exact ⟨k + 1, pa, (giveS us z), by omega, by go_num, rfl, HB.out⟩
          case measure => simp [intOf]; omega
        · have hm1 : ((wh : Nat) : Int) % 5 = 2 := by omega
          clear hwl hr
          go_wp2_with fail
          go_at_call 15
          (with_reducible refine (t_take HB.out).mono ?_)
          rintro e W' ⟨rfl, hB⟩
          replace HB := Lib.hid hB; clear hB
          go_wp2_with fail
          go_at_call 16
          (with_reducible refine (t_rtake HB.out).mono ?_)
          rintro e W' ⟨rfl, hB⟩
          replace HB := Lib.hid hB; clear hB
          generalize lowF us = ue
          generalize takeE us = ve
          go_wp2_with fail
          go_at_call 19
          (with_reducible refine (t_has z HB.out).mono ?_)
          rintro e w' ⟨rfl, rfl⟩
          go_wp2_with fail
          go_at_call 20
          (with_reducible refine (t_rhas z HB.out).mono ?_)
          rintro e w' ⟨rfl, rfl⟩
          generalize hasF (takeS us) z = hb
          go_wp2_with (first
            | (go_at_call 21; (with_reducible refine (t_left HB.out).mono ?_); rintro e w' ⟨rfl, rfl⟩)
            | (go_at_call 22; (with_reducible refine (t_rleft HB.out).mono ?_); rintro e w' ⟨rfl, rfl⟩))
          go_roundw
          case rel => exact ⟨k + 1, pa, (takeS us), by omega, by go_num, rfl, HB.out⟩
          case measure => simp [intOf]; omega
        · have hm1 : ((wh : Nat) : Int) % 5 = 3 := by omega
          clear hwl hr
          go_wp2_with fail
          go_at_call 17
          (with_reducible refine (t_copy HB.out).mono ?_)
          rintro e W' ⟨c, rfl, hc, hB, hO⟩
          replace HB := Lib.hid hB; have HO := Lib.hid hO; have HC := Lib.hid hc; clear hB hO hc
          go_wp2_with fail
          go_at_call 15
          (with_reducible refine (t_take2 HC.out HB.out HO.out).mono ?_)
          rintro e W' ⟨rfl, hB, hO⟩
          replace HB := Lib.hid hB; replace HO := Lib.hid hO; clear hB hO
          go_wp2_with fail
          go_at_call 13
          (with_reducible refine (t_give2 z HC.out HB.out HO.out).mono ?_)
          rintro e W' ⟨rfl, hB, hO⟩
          replace HB := Lib.hid hB; clear hB hO
          go_wp2_with fail
          go_at_call 19
          (with_reducible refine (t_has z HB.out).mono ?_)
          rintro e w' ⟨rfl, rfl⟩
          go_wp2_with fail
          go_at_call 20
          (with_reducible refine (t_rhas z HB.out).mono ?_)
          rintro e w' ⟨rfl, rfl⟩
          generalize hasF us z = hb
          go_wp2_with (first
            | (go_at_call 21; (with_reducible refine (t_left HB.out).mono ?_); rintro e w' ⟨rfl, rfl⟩)
            | (go_at_call 22; (with_reducible refine (t_rleft HB.out).mono ?_); rintro e w' ⟨rfl, rfl⟩))
          go_roundw
          case rel => exact ⟨k + 1, c, us, by omega, by go_num, rfl, HB.out⟩
          case measure => simp [intOf]; omega
        · have hm1 : ((wh : Nat) : Int) % 5 = 4 := by omega
          clear hwl hr
          go_wp2_with fail
          go_at_call 17
          (with_reducible refine (t_copy HB.out).mono ?_)
          rintro e W' ⟨c, rfl, hc, hO, hB⟩
          replace HB := Lib.hid hB; have HO := Lib.hid hO; have HC := Lib.hid hc.symm; clear hB hO hc
          go_wp2_with fail
          go_at_call 18
          (with_reducible refine (t_alike HO.out).mono ?_)
          rintro e W' ⟨rfl, g⟩
          replace HB := Lib.hid (HB.out.keep0 g); replace HO := Lib.hid (HO.out.keep0 g); clear g
          go_wp2_with fail
          go_at_call 11
          (with_reducible refine (t_use2 z HC.out HB.out HO.out).mono ?_)
          rintro e W' ⟨rfl, hB, hO⟩
          replace HB := Lib.hid hB; replace HO := Lib.hid hO; clear hB hO
          go_wp2_with fail
          go_at_call 15
          (with_reducible refine (t_take2 HC.out HB.out HO.out).mono ?_)
          rintro e W' ⟨rfl, hB, hO⟩
          replace HB := Lib.hid hB; clear hB hO
          go_wp2_with fail
          go_at_call 19
          (with_reducible refine (t_has z HB.out).mono ?_)
          rintro e w' ⟨rfl, rfl⟩
          go_wp2_with fail
          go_at_call 20
          (with_reducible refine (t_rhas z HB.out).mono ?_)
          rintro e w' ⟨rfl, rfl⟩
          generalize hasF us z = hb
          go_wp2_with (first
            | (go_at_call 21; (with_reducible refine (t_left HB.out).mono ?_); rintro e w' ⟨rfl, rfl⟩)
            | (go_at_call 22; (with_reducible refine (t_rleft HB.out).mono ?_); rintro e w' ⟨rfl, rfl⟩))
          go_roundw
          case rel => exact ⟨k + 1, pa, us, by omega, by go_num, rfl, HB.out⟩
          case measure => simp [intOf]; omega
    · by_cases hlt : k < l.length
      · have h60 : ¬ ((k : Int) < 60) := by omega
        clear hin
        go_wp2_with (first
          | (go_at_call 18; (with_reducible refine (t_alike HB.out).mono ?_); rintro e w3 ⟨rfl, g3⟩; have HB3 := Lib.hid (HB.out.keep0 g3); clear g3)
          | (go_at_call 10; (with_reducible refine (works_any _ HB3.out.tabW).mono ?_); rintro e w4 ⟨rfl, g4⟩))
        go_ret
        exact ⟨rfl, gb_trans HB3.out.grown g4⟩
      · clear hin
        go_wp2_with (first
          | (go_at_call 18; (with_reducible refine (t_alike HB.out).mono ?_); rintro e w3 ⟨rfl, g3⟩; have HB3 := Lib.hid (HB.out.keep0 g3); clear g3)
          | (go_at_call 10; (with_reducible refine (works_any _ HB3.out.tabW).mono ?_); rintro e w4 ⟨rfl, g4⟩))
        go_ret
        exact ⟨rfl, gb_trans HB3.out.grown g4⟩
theorem plays_walk (n : Int) (v : Value) (l : List Ac) (w : World) (hT : Tab w) (hA : Acs w v l) (h1 : -9223372036854775808 ≤ n) (h2 : n ≤ 9223372036854775807) :
    Calls Tryd.prog 3 #[.int .i64 n, v] w fun e w' => e = .returned (.bool true) ∧ w.grownBy w' none := by
  by_cases h : n < 1 ∨ 1024 < n
  · exact plays_none n v w hT h h1 h2
  · obtain ⟨m, rfl⟩ := Int.eq_ofNat_of_zero_le (a := n) (by omega)
    exact plays_some m v l w hT hA (by omega) (by omega)
end Go.Proofs.YtaihcbkdbdhihaaDoor
