/-
  OverSpace's walk, over this seat's translation; conditions: the listed variables are laid, acts that came in read as a list.
-/
import Derived.Test.YtliiooldlooagaaGreatDoorZO3
set_option linter.unusedSimpArgs false
set_option linter.unusedVariables false
namespace Go.Proofs.YtliiooldlooagaaGreatDoor.O12
open Go.RowKit Go.Maps Go.Shelf J10
/-- What stands between two rounds. -/
def Vs (w : World) (base p : Nat) (F : Nat → Prop) (y : Bx) (g0 : Pg) (j z : Nat) (wr : World) : Prop :=
  ∃ n V', n ≤ 30 * j ∧ Live wr base p F y n g0 V0 V' 10 z ∧ z + cntV V' = 62 ∧ (∀ i, F i → i < wr.heap.size) ∧ w.grownBy wr none
set_option maxRecDepth 100000 in
set_option maxHeartbeats 8000000 in
theorem space_walk {w : World} (hE : Env w) (h5 : 4 ≤ w.heap.size) {vl : Value} {l : List Wx} (hL : Wxs w vl l) :
    Calls Tryz.prog 4 #[vl] w fun e w' => e = .returned (.bool true) ∧ w.grownBy w' none := by
  obtain ⟨ao, cap, rfl, hcp, _, hna, hxa⟩ := id hL
  have HX := Lib.hid hL
  have HNa := Lib.hid hna
  have HE := Lib.hid hE
  have HWk := Lib.hid (works_any hE h5)
  clear hna hxa hL
  obtain ⟨LL, hLL⟩ : ∃ LL, l.length = LL := ⟨_, rfl⟩
  have HLL := Lib.hid hLL
  rw [hLL]
  rw [hLL] at HX
  clear hLL hcp
  clear hE
  go_enter Tryz.func4, Tryz.ntmps4
  go_wp2_with (first
    | (go_at_call 6; (with_reducible refine HWk.out.mono ?_); rintro e w1 ⟨rfl, g1⟩; have g1 := Lib.hid g1; have HFr := Lib.hid (show Calls Tryz.prog 7 #[.int .i64 64] w1 (FreshG w1 64) from fresh_live (env_gb HE.out g1.out) (Nat.le_trans h5 g1.out.size) (m := 64) (by omega) (by omega)); unfold FreshG at HFr)
    | (go_at_call 7; (with_reducible refine HFr.out.mono ?_); rintro e w2 ⟨p, F, y, g0, rfl, hL, har, hsl, hre, hlf, hF, g2⟩; have hL := Lib.hid hL; have har := Lib.hid har; have hlf := Lib.hid hlf; have hF := Lib.hid hF; have g2 := Lib.hid g2)
    | fail)
  have z1 := g1.out.size
  have z2 := g2.out.size
  have G2 := Lib.hid (gb_trans g1.out g2.out)
  obtain ⟨base, hb⟩ : ∃ b, w1.heap.size = b := ⟨_, rfl⟩
  rw [hb] at hL hF z1
  have hW0 : Vs w base p F y g0 0 62 w2 := ⟨0, V0, by omega, hL.out, by rw [show cntV V0 = 0 from cntV_nil], fun i hi => (hF.out i hi).2, G2.out⟩
  have HW0 := Lib.hid hW0
  clear hW0 hsl hre HFr HWk
  go_loopw [5, 6] (fun v5 v6 wr => ∃ (j z : Nat), j ≤ LL ∧ j ≤ 100 ∧ z ≤ 62 ∧ v6 = .int .i64 (j : Nat) ∧ v5 = .int .i64 (z : Nat) ∧ Vs w base p F y g0 j z wr) (fun _ v6 _ => LL - (intOf v6).toNat)
  case atStart => exact ⟨0, 62, by omega, by omega, by omega, rfl, rfl, HW0.out⟩
  case round =>
    obtain ⟨j, z, hj, hj10, hz62, rfl, rfl, n, V', hn, hLv, hzc, hFr, hg⟩ := hrel
    have HFr := Lib.hid hFr
    have HLv := Lib.hid hLv
    have Hg := Lib.hid hg
    have HZc := Lib.hid hzc
    clear hLv hg HW0 hzc hFr
    have zr := Hg.out.size
    by_cases hin : j < LL ∧ j < 100
    · obtain ⟨hlt, h10⟩ := hin
      cases ao with
      | none => have := (HNa.out rfl).1; rw [HLL.out] at this; omega
      | some ad =>
        have hlt' : j < l.length := by rw [HLL.out]; exact hlt
        obtain ⟨xx, hxx⟩ : ∃ xx, l[j] = xx := ⟨_, rfl⟩
        obtain ⟨c0, c1, c2⟩ := wx_cells HX.out Hg.out hlt' hxx
        have HTx := Lib.hid (text_any xx.what xx.of_ xx.long wr)
        unfold actW at HTx
        clear hlt' hxx
        go_wp2_with (first
          | (go_at_call 8; (with_reducible refine HTx.out.mono ?_); rintro e w3 ⟨s0, rfl, hs0, g3⟩; have g3 := Lib.hid g3)
          | fail)
        obtain ⟨s, hs⟩ : ∃ s, (s0 ++ (⟨#[120]⟩ : ByteArray)).extract 0 (min ((s0.size : Int) + 1) 2000).toNat = s := ⟨_, rfl⟩
        rw [hs]
        have hsz : s.size = min (s0.size + 1) 2000 := by
          rw [← hs, ByteArray.size_extract, ByteArray.size_append]
          show min (min ((s0.size : Int) + 1) 2000).toNat (s0.size + 1) - 0 = _
          omega
        have z3 := g3.out.size
        have HL3 := Lib.hid (HLv.out.keep0 g3.out)
        have Hg3 := Lib.hid (gb_trans Hg.out g3.out)
        obtain ⟨c, hc⟩ : ∃ c, cntV V' = c := ⟨_, rfl⟩
        have HC := Lib.hid hc
        have hzc : z + c = 62 := by rw [← hc]; exact HZc.out
        have HP1 := Lib.hid (txp_row HL3.out hc)
        have hF3 : ∀ i, F i → i < w3.heap.size := fun i hi => Nat.lt_of_lt_of_le (HFr.out i hi) z3
        have HF3 := Lib.hid hF3
        obtain ⟨nd, hnd⟩ : ∃ nd, need s.size = nd := ⟨_, rfl⟩
        have hnd9 : nd ≤ 9 := by rw [← hnd]; exact need_le (by omega)
        have HNd := Lib.hid (fun W => show Calls Tryz.prog 10 #[.int .i64 (s.size : Nat)] W (fun e w' => e = .returned (.int .i64 (nd : Nat)) ∧ W = w') from by have := need_any (s.size : Int) (in64 (by omega) (by omega)) W; rwa [needZ_nat (by omega), hnd] at this)
        have HNN := Lib.hid hnd
        have HS := Lib.hid hs
        clear c0 c1 c2 hc hF3 hs hnd
        have s1 : 1 ≤ s.size := by omega
        have s2 : s.size ≤ 2000 := by omega
        clear hsz hs0
        by_cases hroom : nd ≤ z
        · go_wp2_with (first
            | (go_at_call 12; (with_reducible refine HP1.out.mono ?_); rintro e w4 ⟨ao4, cap4, rfl, hr4, g4⟩; have hr4 := Lib.hid hr4; have g4 := Lib.hid g4; have z4 := g4.out.size; have HL4 := Lib.hid (HL3.out.keep0 g4.out); have Hg4 := Lib.hid (gb_trans Hg3.out g4.out); have HPt := Lib.hid (put_room HL4.out (fun i hi => Nat.lt_of_lt_of_le (HF3.out i hi) z4) (env_gb HE.out Hg4.out) (Nat.le_trans h5 z1) (by omega) s1 s2 (by rw [HNN.out]; exact hroom) (by rw [HNN.out, HC.out]; omega)); unfold PutR at HPt)
            | (go_at_call 9; (with_reducible refine HPt.out.mono ?_); rintro e w5 ⟨ps, rfl, n5, V5, hn5, k5, -, -, -, L5, hcn⟩; have k5 := Lib.hid k5; have L5 := Lib.hid L5; have HP2 := Lib.hid (txp_row L5.out (c := c + nd) (by rw [hcn, HC.out, HNN.out])); have hcn := Lib.hid hcn)
            | fail)
          have hndz : ((nd : Nat) : Int) ≤ ((z : Nat) : Int) := by omega
          have hw1 : IntKind.i64.wrap ((z : Int) - (nd : Nat)) = ((z - nd : Nat) : Int) := by rw [IntWalk.i64_in _ (by omega)]; omega
          have hcs : ((c + nd : Nat) : Int) = (c : Int) + (nd : Nat) := by omega
          go_wp2_with (first
            | (go_at_call 12; (with_reducible refine HP2.out.mono ?_); rintro e w6 ⟨ao6, cap6, rfl, -, g6⟩; have g6 := Lib.hid g6)
            | (go_at_call 10; (with_reducible refine (HNd.out _).mono ?_); rintro e w' ⟨rfl, rfl⟩)
            | fail)
          have hcn2 := hcn.out
          rw [HC.out, HNN.out] at hcn2
          have HL6 := Lib.hid (L5.out.keep0 g6.out)
          rw [HNN.out] at HL6
          have z5 := k5.out.size
          have z6 := g6.out.size
          have G6 := Lib.hid (gb_trans (gb_kp Hg4.out k5.out (fun i hi => Nat.le_trans z1 (HL4.out.base_le i hi))) g6.out)
          go_roundw
          case rel => exact ⟨j + 1, z - nd, by omega, by omega, by omega, by go_num, rfl, n5, V5, by omega, HL6.out, by omega, fun i hi => by have := HF3.out i hi; omega, G6.out⟩
          case measure => simp [intOf]; omega
        · have hroom2 : z < nd := by omega
          have hndz : ((z : Nat) : Int) < ((nd : Nat) : Int) := by omega
          go_wp2_with (first
            | (go_at_call 12; (with_reducible refine HP1.out.mono ?_); rintro e w4 ⟨ao4, cap4, rfl, hr4, g4⟩; have hr4 := Lib.hid hr4; have g4 := Lib.hid g4; have z4 := g4.out.size; have HL4 := Lib.hid (HL3.out.keep0 g4.out); have Hg4 := Lib.hid (gb_trans Hg3.out g4.out); have HPt := Lib.hid (put_noroom HL4.out (fun i hi => Nat.lt_of_lt_of_le (HF3.out i hi) z4) (env_gb HE.out Hg4.out) (Nat.le_trans h5 z1) (by omega) s1 s2 (by rw [HNN.out]; exact hroom2) (by rw [HNN.out, HC.out]; omega)))
            | (go_at_call 9; (with_reducible refine HPt.out.mono ?_); rintro e w5 ⟨rfl, n5, z5', hn5, k5, L5⟩; have k5 := Lib.hid k5; have L5 := Lib.hid L5; have HP2 := Lib.hid (txp_row L5.out HC.out))
            | fail)
          have hz5 : z5' = z := by
            have a := live_left L5.out
            have b := live_left HLv.out
            omega
          subst hz5
          go_wp2_with (first
            | (go_at_call 12; (with_reducible refine HP2.out.mono ?_); rintro e w6 ⟨ao6, cap6, rfl, hr6, g6⟩; have hr6 := Lib.hid hr6; have g6 := Lib.hid g6)
            | (go_at_call 10; (with_reducible refine (HNd.out _).mono ?_); rintro e w' ⟨rfl, rfl⟩)
            | fail)
          have z5 := k5.out.size
          have z6 := g6.out.size
          have hfT : ∀ i, footT y i → i < w3.heap.size := fun i hi => by
            have := HL3.out.lt
            rcases hi with rfl | rfl | rfl <;> omega
          have HR4 := Lib.hid (own_kp (own_kp hr4.out k5.out hfT) (D5.Kp.of0 (F := fun _ => False) g6.out) (fun _ h => h.elim))
          have HL6 := Lib.hid (L5.out.keep0 g6.out)
          have G6 := Lib.hid (gb_trans (gb_kp Hg4.out k5.out (fun i hi => Nat.le_trans z1 (HL4.out.base_le i hi))) g6.out)
          have HPl := Lib.hid (show (pagesV V').length = c from (pagesV_length V').trans HC.out)
          clear hfT HPt HP1 HP2
          go_loopw [12] (fun v wq => ∃ m : Nat, m ≤ c ∧ v = .int .i64 (m : Nat) ∧ w6.grownBy wq none) (fun v _ => c - (intOf v).toNat)
          case atStart => exact ⟨0, by omega, rfl, gb_refl _ _⟩
          case round =>
            obtain ⟨m, hm, rfl, gq⟩ := hrel
            have HGq := Lib.hid gq
            clear gq
            by_cases hmc : m < c
            · obtain ⟨x, hx⟩ : ∃ x, (pagesV V')[m]? = some x := ⟨_, List.getElem?_eq_getElem (by rw [HPl.out]; exact hmc)⟩
              obtain ⟨ga, ea, ca⟩ := own_at HR4.out hx
              obtain ⟨gb, eb, cb⟩ := own_at hr6.out hx
              subst ea eb
              have ca := HGq.out.cell ca (by simp)
              have cb := HGq.out.cell cb (by simp)
              have hw7 : IntKind.i64.wrap (m : Int) = (m : Int) := IntWalk.i64_in _ (by omega)
              clear hx
              go_wp2
              refine wp_region_noPanic ?_
              refine wp_region_held_drew (S := fun w' => wr.grownBy w' none) (by kernel_rfl) (gb_drew _ _) (fun hHeld => ?_)
              refine wpAnyH_take (i := 0) (v := ?_) (List.getElem?_toArray.trans rfl) (by kernel_rfl) (by kernel_rfl) (by kernel_rfl) (fun _ _ _ h => h) (Or.inl ⟨by rfl, ?_⟩) hHeld ?_
              rotate_left
              · intro w' hSw; have d0 := hSw.cell ca (by simp); have d1 := hSw.cell cb (by simp); go_simp; try with_reducible rfl
              try simp only [Act.put, List.setIfInBounds_toArray, List.set_cons_zero, List.set_cons_succ]
              refine wpAnyH_take (i := 1) (v := ?_) (List.getElem?_toArray.trans rfl) (by kernel_rfl) (by kernel_rfl) (by kernel_rfl) (fun _ _ _ h => h) (Or.inl ⟨by rfl, ?_⟩) hHeld ?_
              rotate_left
              · intro w' hSw; have d0 := hSw.cell ca (by simp); have d1 := hSw.cell cb (by simp); go_simp; try with_reducible rfl
              try simp only [Act.put, List.setIfInBounds_toArray, List.set_cons_zero, List.set_cons_succ]
              refine wpAnyH_take (i := 2) (v := ?_) (List.getElem?_toArray.trans rfl) (by kernel_rfl) (by kernel_rfl) (by kernel_rfl) (fun _ _ _ h => h) (Or.inl ⟨by rfl, ?_⟩) hHeld ?_
              rotate_left
              · intro w' hSw; have d0 := hSw.cell ca (by simp); have d1 := hSw.cell cb (by simp); go_simp; try with_reducible rfl
              try simp only [Act.put, List.setIfInBounds_toArray, List.set_cons_zero, List.set_cons_succ]
              refine wpAnyH_take (i := 4) (v := ?_) (List.getElem?_toArray.trans rfl) (by kernel_rfl) (by kernel_rfl) (by kernel_rfl) (fun _ _ _ h => h) (Or.inl ⟨by rfl, ?_⟩) hHeld ?_
              rotate_left
              · intro w' hSw; have d0 := hSw.cell ca (by simp); have d1 := hSw.cell cb (by simp); go_simp; try with_reducible rfl
              try simp only [Act.put, List.setIfInBounds_toArray, List.set_cons_zero, List.set_cons_succ]
              refine wpAnyH_take (i := 5) (v := ?_) (List.getElem?_toArray.trans rfl) (by kernel_rfl) (by kernel_rfl) (by kernel_rfl) (fun _ _ _ h => h) (Or.inl ⟨by rfl, ?_⟩) hHeld ?_
              rotate_left
              · intro w' hSw; have d0 := hSw.cell ca (by simp); have d1 := hSw.cell cb (by simp); go_simp; try with_reducible rfl
              try simp only [Act.put, List.setIfInBounds_toArray, List.set_cons_zero, List.set_cons_succ]
              refine wpAnyH_take (i := 6) (v := ?_) (List.getElem?_toArray.trans rfl) (by kernel_rfl) (by kernel_rfl) (by kernel_rfl) (fun _ _ _ h => h) (Or.inl ⟨by rfl, ?_⟩) hHeld ?_
              rotate_left
              · intro w' hSw; have d0 := hSw.cell ca (by simp); have d1 := hSw.cell cb (by simp); go_simp; try with_reducible rfl
              try simp only [Act.put, List.setIfInBounds_toArray, List.set_cons_zero, List.set_cons_succ]
              refine wpAnyH_take (i := 3) (v := ?_) (List.getElem?_toArray.trans rfl) (by kernel_rfl) (by kernel_rfl) (by kernel_rfl) (fun _ _ _ h => h) (Or.inl ⟨by rfl, ?_⟩) hHeld ?_
              rotate_left
              · intro w' hSw; have d0 := hSw.cell ca (by simp); have d1 := hSw.cell cb (by simp); go_simp; try with_reducible rfl
              try simp only [Act.put, List.setIfInBounds_toArray, List.set_cons_zero, List.set_cons_succ]
              refine wpAnyH_take (i := 7) (v := ?_) (List.getElem?_toArray.trans rfl) (by kernel_rfl) (by kernel_rfl) (by kernel_rfl) (fun _ _ _ h => h) (Or.inl ⟨by rfl, ?_⟩) hHeld ?_
              rotate_left
              · intro w' hSw; have d0 := hSw.cell ca (by simp); have d1 := hSw.cell cb (by simp); go_simp; try with_reducible rfl
              try simp only [Act.put, List.setIfInBounds_toArray, List.set_cons_zero, List.set_cons_succ]
              refine wpAnyH_take (i := 8) (v := ?_) (List.getElem?_toArray.trans rfl) (by kernel_rfl) (by kernel_rfl) (by kernel_rfl) (fun _ _ _ h => h) (Or.inl ⟨by rfl, ?_⟩) hHeld ?_
              rotate_left
              · intro w' hSw; have d0 := hSw.cell ca (by simp); have d1 := hSw.cell cb (by simp); go_simp; try with_reducible rfl
              try simp only [Act.put, List.setIfInBounds_toArray, List.set_cons_zero, List.set_cons_succ]
              refine wpAnyH_done (by kernel_rfl) ?_ _
              refine NoPanic.normal ?_
              go_wp2
              go_roundw
              case rel => exact ⟨m + 1, by omega, by go_num, gb_trans HGq.out hHeld⟩
              case measure => simp [intOf]; omega
            · obtain rfl : m = c := by omega
              go_wp2
              go_roundw
              case rel => exact ⟨j + 1, z5', by omega, by omega, by omega, by go_num, rfl, n5, V', by omega, HL6.out.keep0 HGq.out, HZc.out, fun i hi => by have := HF3.out i hi; have := HGq.out.size; omega, gb_trans G6.out HGq.out⟩
              case measure => simp [intOf]; omega
    · have hin2 : ¬ ((j : Int) < (LL : Int)) ∨ ¬ ((j : Int) < 100) := by omega
      by_cases hlt : (j : Int) < (LL : Int)
      · have h10 : ¬ ((j : Int) < 100) := by omega
        clear hin hin2
        go_wp2
        go_ret
        exact ⟨rfl, Hg.out⟩
      · clear hin hin2
        go_wp2
        go_ret
        exact ⟨rfl, Hg.out⟩
end Go.Proofs.YtliiooldlooagaaGreatDoor.O12
