/-
  OverBack's walk, over this seat's translation; conditions: the listed variables are laid, acts that came in read as a list.
-/
import Derived.Test.YtliiooldlooagaaGreatDoorWOw
import Derived.Test.YtliiooldlooagaaGreatDoorWOx
import Derived.Test.YtliiooldlooagaaGreatDoorZO3
set_option linter.unusedSimpArgs false
set_option linter.unusedVariables false
namespace Go.Proofs.YtliiooldlooagaaGreatDoor.O12
open Go.RowKit Go.Maps Go.Shelf J10
/-- What stands between two rounds. -/
def Vb (w : World) (base p : Nat) (F : Nat → Prop) (y : Bx) (g0 : Pg) (j : Nat) (V : Pgs) (H : List (List Int × ByteArray)) (wr : World) : Prop :=
  ∃ n z, n ≤ 60 * j ∧ Live wr base p F y n g0 V0 V (10 + 9 * j) z ∧ z + cntV V = 198 ∧ Hs V H ∧ H.length ≤ j ∧ w.grownBy wr none
set_option maxRecDepth 100000 in
set_option maxHeartbeats 16000000 in
theorem back_walk {w : World} (hE : Env w) (h5 : 4 ≤ w.heap.size) {vl : Value} {l : List Wx} (hL : Wxs w vl l) {dr : Nat} (hdr : dr < 65536) :
    Calls Tryz.prog 3 #[vl, .int .u16 (dr : Nat)] w fun e w' => e = .returned (.bool true) ∧ w.grownBy w' none := by
  obtain ⟨ao, cap, rfl, hcp, _, hna, hxa⟩ := id hL
  have HX := Lib.hid hL
  have HNa := Lib.hid hna
  have HE := Lib.hid hE
  have HWk := Lib.hid (works_any hE h5)
  clear hna hxa hL
  obtain ⟨LL, hLL⟩ : ∃ LL, l.length = LL := ⟨_, rfl⟩
  have HLL := Lib.hid hLL
  rw [hLL]
  rw [hLL] at HX
  clear hLL hcp
  clear hE
  go_enter Tryz.func3, Tryz.ntmps3
  go_wp2_with (first
    | (go_at_call 6; (with_reducible refine HWk.out.mono ?_); rintro e w1 ⟨rfl, g1⟩; have g1 := Lib.hid g1; have HFr := Lib.hid (show Calls Tryz.prog 7 #[.int .i64 200] w1 (FreshG w1 200) from fresh_live (env_gb HE.out g1.out) (Nat.le_trans h5 g1.out.size) (m := 200) (by omega) (by omega)); unfold FreshG at HFr)
    | (go_at_call 7; (with_reducible refine HFr.out.mono ?_); rintro e w2 ⟨p, F, y, g0, rfl, hL, har, hsl, hre, hlf, hF, g2⟩; have hL := Lib.hid hL; have har := Lib.hid har; have hlf := Lib.hid hlf; have hsl := Lib.hid hsl; have hre := Lib.hid hre; have hF := Lib.hid hF; have g2 := Lib.hid g2)
    | fail)
  have z1 := g1.out.size
  have z2 := g2.out.size
  have G2 := Lib.hid (gb_trans g1.out g2.out)
  obtain ⟨base, hb⟩ : ∃ b, w1.heap.size = b := ⟨_, rfl⟩
  rw [hb] at hL hF z1
  have hfx : ∀ i, FX F y i → i < w2.heap.size := fun i hi => by
    have := hL.out.lt
    rcases hi with hi | rfl | rfl | rfl | rfl
    · exact (hF.out i hi).2
    all_goals omega
  have HFX := Lib.hid hfx
  have hge : ∀ i, FX F y i → base ≤ i := fun i hi => FX.ge hL.out (fun i hi => (hF.out i hi).1) hi
  have HGe := Lib.hid hge
  have hW0 : Vb w base p F y g0 0 V0 [] w2 := ⟨0, 198, by omega, hL.out, by rw [show cntV V0 = 0 from cntV_nil], Hs.nil, by simp, G2.out⟩
  have HW0 := Lib.hid hW0
  obtain ⟨B0, hB0⟩ : ∃ B0, w2.heap.size = B0 := ⟨_, rfl⟩
  rw [hB0] at HFX z2
  have hzB : base ≤ B0 := by omega
  have HB0 := Lib.hid hB0
  clear hW0 HFr HWk hfx hge hB0
  go_loopw [7, 8, 9] (fun v7 v8 v9 wr => ∃ (j : Nat) (V : Pgs) (H : List (List Int × ByteArray)), j ≤ LL ∧ j ≤ 12 ∧ v9 = .int .i64 (j : Nat) ∧ v8 = .int .i64 (cntV V : Nat) ∧ HRow wr B0 v7 H ∧ B0 ≤ wr.heap.size ∧ Vb w base p F y g0 j V H wr) (fun _ _ v9 _ => LL - (intOf v9).toNat)
  case atStart => exact ⟨0, V0, [], by omega, by omega, rfl, by rw [show cntV V0 = 0 from cntV_nil]; rfl, .inl ⟨rfl, rfl⟩, by rw [HB0.out]; omega, HW0.out⟩
  case round =>
    obtain ⟨j, V, H, hj, hj12, rfl, rfl, hR, hBw, n, z, hn, hLv, hzc, hH, hHj, hg⟩ := hrel
    have HLv := Lib.hid hLv
    have Hg := Lib.hid hg
    have HZc := Lib.hid hzc
    have HHs := Lib.hid hH
    have HR := Lib.hid hR
    have hc108 : cntV V ≤ 108 := by have := hH.len; omega
    obtain ⟨c, hc⟩ : ∃ c, cntV V = c := ⟨_, rfl⟩
    have hzc2 : z + c = 198 := by rw [← hc]; exact hzc
    rw [hc] at hc108 ⊢
    have HC := Lib.hid hc
    clear hLv hg HW0 hzc hH hR hc
    have zr := Hg.out.size
    by_cases hin : j < LL ∧ j < 12
    · obtain ⟨hlt, h12⟩ := hin
      cases ao with
      | none => have := (HNa.out rfl).1; rw [HLL.out] at this; omega
      | some ad =>
        have hlt' : j < l.length := by rw [HLL.out]; exact hlt
        obtain ⟨xx, hxx⟩ : ∃ xx, l[j] = xx := ⟨_, rfl⟩
        obtain ⟨c0, c1, c2⟩ := wx_cells HX.out Hg.out hlt' hxx
        have HTx := Lib.hid (text_any xx.what xx.of_ xx.long wr)
        unfold actW at HTx
        clear hlt' hxx
        go_wp2_with (first
          | (go_at_call 8; (with_reducible refine HTx.out.mono ?_); rintro e w3 ⟨s0, rfl, hs0, g3⟩; have g3 := Lib.hid g3)
          | (go_at_call 9; refine hold ?_)
          | fail)
        obtain ⟨s, hs⟩ : ∃ s, s0.extract 0 (min (s0.size : Int) 2000).toNat = s := ⟨_, rfl⟩
        rw [hs]
        have hsz : s.size = min s0.size 2000 := by
          rw [← hs, ByteArray.size_extract]
          show min (min (s0.size : Int) 2000).toNat s0.size - 0 = _
          omega
        have z3 := g3.out.size
        have HL3 := Lib.hid (HLv.out.keep0 g3.out)
        have Hg3 := Lib.hid (gb_trans Hg.out g3.out)
        have HR3 := Lib.hid (HR.out.kept g3.out (.inr rfl))
        have HS := Lib.hid hs
        clear c0 c1 c2 hs
        have s2 : s.size ≤ 2000 := by omega
        clear hsz hs0
        unfold Hold
        by_cases hs1 : s.size = 0
        · obtain rfl : s = ⟨#[]⟩ := by
            obtain ⟨⟨d⟩⟩ := s
            have : d.length = 0 := hs1
            rw [List.eq_nil_of_length_eq_zero this]
          go_wp2_with (first
            | (go_at_call 9; (with_reducible refine (put_empty _).mono ?_); rintro e w5 ⟨rfl, g5⟩; have g5 := Lib.hid g5)
            | fail)
          have z5 := g5.out.size
          go_roundw
          case rel => exact ⟨j + 1, V, H, by omega, by omega, by go_num, by rw [HC.out], HR3.out.kept g5.out (.inr rfl), by omega, n, z, by omega, (HL3.out.keep0 g5.out).more (by omega), HZc.out, HHs.out, by omega, gb_trans Hg3.out g5.out⟩
          case measure => simp [intOf]; omega
        · obtain ⟨nd, hnd⟩ : ∃ nd, need s.size = nd := ⟨_, rfl⟩
          have hnd9 : nd ≤ 9 := by rw [← hnd]; exact need_le s2
          have HNd := Lib.hid (fun W => show Calls Tryz.prog 10 #[.int .i64 (s.size : Nat)] W (fun e w' => e = .returned (.int .i64 (nd : Nat)) ∧ W = w') from by have := need_any (s.size : Int) (in64 (by omega) (by omega)) W; rwa [needZ_nat (by omega), hnd] at this)
          have HNN := Lib.hid hnd
          have s1 : 1 ≤ s.size := by omega
          have hne := not_empty (s := s) s1
          clear hnd hs1
          have HPt := Lib.hid (put_room HL3.out (fun i hi => Nat.lt_of_lt_of_le (HFX.out i (.inl hi)) (Nat.le_trans hBw z3)) (env_gb HE.out Hg3.out) (Nat.le_trans h5 z1) (by omega) s1 s2 (by rw [HNN.out]; omega) (by rw [HNN.out, HC.out]; omega))
          unfold PutR at HPt
          go_wp2_with (first
            | (go_at_call 9; (with_reducible refine HPt.out.mono ?_); rintro e w5 ⟨ps, rfl, n5, V5, hn5, k5, ⟨hMd, hLw⟩, hCh, hpl, L5, hcn⟩; have k5 := Lib.hid k5; have L5 := Lib.hid L5; have HMd := Lib.hid hMd; have HLw := Lib.hid hLw; have HCh := Lib.hid hCh; have HPl := Lib.hid hpl; have HCn := Lib.hid hcn; have hhd : ¬ ((hd ps : Nat) : Int) < 1 := (by have := (ch_first hCh s1 s2).2.2.1; omega); clear hMd hLw hCh hpl hcn)
            | (at_builtin; refine hold ?_)
            | fail)
          have z5 := k5.out.size
          have hR5 : HRow w5 B0 u7 H := HR3.out.kp k5.out (fun k hk hf => by have := (HR3.out.lt k hk).1; have := HFX.out k (FX.foot hf); omega)
          have gA := gb_alloc w5 (.cells #[.int .i64 (hd ps : Nat), .string s] 37) none
          have bA := Blk.mk w5 37 #[.int .i64 (hd ps : Nat), .string s]
          obtain ⟨ao6, cap6, w6, hap, hR6, g6⟩ := HRow.append (hR5.kept gA (.inr rfl)) ⟨w5.heap.size, 0, none⟩ (ps, s) (bA.cell 0 rfl) (bA.cell 1 rfl) (by simp; omega) (by omega) 29
          have HA := Lib.hid hap
          have HR6 := Lib.hid hR6
          have hown : ∀ k, u7.ownBlock = some k → B0 ≤ k := fun k hk => (hR5.lt k hk).1
          have k56 : D5.Kp (fun i => B0 ≤ i) w5 w6 := (D5.Kp.of0 gA).trans (D5.Kp.of g6 (fun k e => hown k e))
          have HK56 := Lib.hid k56
          have z6 := k56.size
          have hL6 := L5.out.kp k56 (fun i hi hh => by have := HFX.out i hi; omega)
          have HL6 := Lib.hid hL6
          have G6 := Lib.hid (gb_kp (gb_kp Hg3.out k5.out (fun i hi => Nat.le_trans z1 (HL3.out.base_le i hi))) k56 (fun i hi => by omega))
          clear gA bA hap hR6 hown k56 hL6 hR5 g6
          have hcs : ((c + nd : Nat) : Int) = (c : Int) + (nd : Nat) := by omega
          unfold Hold
          have hc5 : cntV V5 = c + nd := by rw [HCn.out, HC.out, HNN.out]
          have HHs5 := Lib.hid (HHs.out.put HMd.out HLw.out HCh.out s1 s2 (by omega))
          have HC5 := Lib.hid hc5
          have hzn : z - need s.size + cntV V5 = 198 := by rw [hc5, HNN.out]; omega
          have HZn := Lib.hid hzn
          clear hc5 hzn
          cases hbit : (bits BinOp.and IntKind.u16 ((dr : Int) / 2 ^ j) 1 == 1) with
          | false =>
            have HP6 := Lib.hid (txp_row HL6.out HC5.out)
            go_wp2_with (first
              | (at_builtin; go_must (refine D5.list_append_run rfl _ _ 29 rfl _ _ rfl rfl _ _ HA.out rfl ?_))
              | (go_at_call 10; (with_reducible refine (HNd.out _).mono ?_); rintro e w' ⟨rfl, rfl⟩)
              | (go_at_call 12; (with_reducible refine HP6.out.mono ?_); rintro e w7 ⟨ao7, cap7, rfl, -, g7⟩; have g7 := Lib.hid g7)
              | fail)
            have z7 := g7.out.size
            go_roundw
            case rel => exact ⟨j + 1, V5, H ++ [(ps, s)], by omega, by omega, by go_num, by rw [HC5.out, hcs], by rw [show H.length + 1 = (H ++ [(ps, s)]).length by simp]; simpa using HR6.out.kept g7.out (.inr rfl), by omega, n5, _, by omega, (HL6.out.keep0 g7.out).more (by omega), HZn.out, HHs5.out, by simp; omega, gb_trans G6.out g7.out⟩
            case measure => simp [intOf]; omega
          | true =>
            obtain ⟨x, T, hxT⟩ : ∃ x T, H ++ [(ps, s)] = x :: T := by
              cases H with
              | nil => exact ⟨_, _, rfl⟩
              | cons a b => exact ⟨_, _, rfl⟩
            rw [hxT] at HR6 HHs5
            have hTl : T.length = H.length := by have := congrArg List.length hxT; simpa using this.symm
            obtain ⟨g, off, rfl, d0, d1⟩ := HR6.out.at_ (k := 0) (x := x) rfl
            rw [Nat.zero_mul, Nat.add_zero] at d0 d1
            obtain ⟨hxc, hx1, hx2⟩ := HHs5.out.ch x List.mem_cons_self
            obtain ⟨nx, hnx⟩ : ∃ nx, need x.2.size = nx := ⟨_, rfl⟩
            have HNx := Lib.hid (fun W => show Calls Tryz.prog 10 #[.int .i64 (x.2.size : Nat)] W (fun e w' => e = .returned (.int .i64 (nx : Nat)) ∧ W = w') from by have := need_any (x.2.size : Int) (in64 (by omega) (by omega)) W; rwa [needZ_nat (by omega), hnx] at this)
            obtain ⟨_, hxp, hxf1, hxf2⟩ := ch_first hxc hx1 hx2
            have hc8 : cntV (delL V5 x.1) = c + nd - nx := by
              have a := HHs5.out.cnt
              have b := HHs5.out.drop.cnt
              rw [allP_cons, List.length_append, ch_len hxc, hnx, HC5.out] at a
              omega
            have hnc : nx ≤ c + nd := by
              have a := HHs5.out.cnt
              rw [allP_cons, List.length_append, ch_len hxc, hnx, HC5.out] at a
              omega
            have HC8 := Lib.hid hc8
            have hcs2 : ((c + nd - nx : Nat) : Int) = (c : Int) + (nd : Nat) - (nx : Nat) := by omega
            clear hxc hc8 hnx
            by_cases hcap : cap6 = 1
            · subst hcap
              have gA := gb_alloc w6 (.cells #[.int .i64 (hd x.1 : Nat), .string x.2] 37) none
              have bA := Blk.mk w6 37 #[.int .i64 (hd x.1 : Nat), .string x.2]
              have e0 := bA.cell 0 rfl
              have e1 := bA.cell 1 rfl
              have hR7 := HRow.tail HR6.out (off) (.inr ⟨rfl, rfl⟩)
              rw [hTl] at hR7
              have HR7 := Lib.hid (hR7.kept gA (.inr rfl))
              have HL7 := Lib.hid (HL6.out.keep0 gA)
              have HDr := Lib.hid (drop_ok HL7.out (fun i hi => by have := HFX.out i (.inl hi); have := gA.size; omega) har.out (by omega) (first := ((hd x.1 : Nat) : Int)) (in64 (by omega) (by omega)) hxp)
              have G7 := Lib.hid (gb_trans G6.out gA)
              have z7 := gA.size
              clear gA bA hR7
              go_wp2_with (first
                | (at_builtin; go_must (refine D5.list_append_run rfl _ _ 29 rfl _ _ rfl rfl _ _ HA.out rfl ?_))
                | (go_at_call 10; (with_reducible refine (HNd.out _).mono ?_); rintro e w' ⟨rfl, rfl⟩)
                | (go_at_call 10; (with_reducible refine (HNx.out _).mono ?_); rintro e w' ⟨rfl, rfl⟩)
                | (go_at_call 11; (with_reducible refine HDr.out.mono ?_); rintro e w8 ⟨rfl, n8, z8, hn8, k8, L8⟩; have k8 := Lib.hid k8; have L8 := Lib.hid L8; have HP8 := Lib.hid (txp_row L8.out HC8.out))
                | (go_at_call 12; (with_reducible refine HP8.out.mono ?_); rintro e w9 ⟨ao9, cap9, rfl, -, g9⟩; have g9 := Lib.hid g9)
                | fail)
              have z8s := k8.out.size
              have z9 := g9.out.size
              have hR9 := (HR7.out.kp k8.out (fun k hk hf => by have := (HR7.out.lt k hk).1; have := HFX.out k hf; omega)).kept g9.out (.inr rfl)
              have G9 := gb_trans (gb_kp G7.out k8.out (fun i hi => Nat.le_trans z1 (HGe.out i hi))) g9.out
              have hz8 : z8 + cntV (delL V5 x.1) = 198 := by rw [live_left L8.out, hlf.out]
              go_roundw
              case rel => exact ⟨j + 1, delL V5 x.1, T, by omega, by omega, by go_num, by rw [HC8.out, hcs2], hR9, Nat.le_trans (show B0 ≤ w6.heap.size by omega) (Nat.le_trans (gb_alloc w6 _ none).size (Nat.le_trans z8s z9)), n8, z8, by omega, (L8.out.keep0 g9.out).more (by omega), hz8, HHs5.out.drop, by omega, G9⟩
              case measure => simp [intOf]; omega
            · have hcap2 : ¬ (cap6 : Int) = 1 := by omega
              have gA := gb_alloc w6 (.cells #[.int .i64 (hd x.1 : Nat), .string x.2] 37) none
              have bA := Blk.mk w6 37 #[.int .i64 (hd x.1 : Nat), .string x.2]
              have e0 := bA.cell 0 rfl
              have e1 := bA.cell 1 rfl
              have hR7 := HRow.tail HR6.out (off + 2) (.inl rfl)
              rw [hTl] at hR7
              have HR7 := Lib.hid (hR7.kept gA (.inr rfl))
              have HL7 := Lib.hid (HL6.out.keep0 gA)
              have HDr := Lib.hid (drop_ok HL7.out (fun i hi => by have := HFX.out i (.inl hi); have := gA.size; omega) har.out (by omega) (first := ((hd x.1 : Nat) : Int)) (in64 (by omega) (by omega)) hxp)
              have G7 := Lib.hid (gb_trans G6.out gA)
              have z7 := gA.size
              clear gA bA hR7
              go_wp2_with (first
                | (at_builtin; go_must (refine D5.list_append_run rfl _ _ 29 rfl _ _ rfl rfl _ _ HA.out rfl ?_))
                | (go_at_call 10; (with_reducible refine (HNd.out _).mono ?_); rintro e w' ⟨rfl, rfl⟩)
                | (go_at_call 10; (with_reducible refine (HNx.out _).mono ?_); rintro e w' ⟨rfl, rfl⟩)
                | (go_at_call 11; (with_reducible refine HDr.out.mono ?_); rintro e w8 ⟨rfl, n8, z8, hn8, k8, L8⟩; have k8 := Lib.hid k8; have L8 := Lib.hid L8; have HP8 := Lib.hid (txp_row L8.out HC8.out))
                | (go_at_call 12; (with_reducible refine HP8.out.mono ?_); rintro e w9 ⟨ao9, cap9, rfl, -, g9⟩; have g9 := Lib.hid g9)
                | fail)
              have z8s := k8.out.size
              have z9 := g9.out.size
              have hR9 := (HR7.out.kp k8.out (fun k hk hf => by have := (HR7.out.lt k hk).1; have := HFX.out k hf; omega)).kept g9.out (.inr rfl)
              have G9 := gb_trans (gb_kp G7.out k8.out (fun i hi => Nat.le_trans z1 (HGe.out i hi))) g9.out
              have hz8 : z8 + cntV (delL V5 x.1) = 198 := by rw [live_left L8.out, hlf.out]
              go_roundw
              case rel => exact ⟨j + 1, delL V5 x.1, T, by omega, by omega, by go_num, by rw [HC8.out, hcs2], hR9, Nat.le_trans (show B0 ≤ w6.heap.size by omega) (Nat.le_trans (gb_alloc w6 _ none).size (Nat.le_trans z8s z9)), n8, z8, by omega, (L8.out.keep0 g9.out).more (by omega), hz8, HHs5.out.drop, by omega, G9⟩
              case measure => simp [intOf]; omega
    · have hzr : base ≤ wr.heap.size := by omega
      obtain ⟨k, gk, T, e1, e2, ⟨st, egk, hsecs, harm⟩, hT, hO, hz⟩ := HLv.out
      subst e1 egk
      have HCm := Lib.hid (com_ok hT hO (env_gb HE.out Hg.out) (Nat.le_trans h5 z1) hzr (by omega) (by show g0.r.e < 999999; rw [hre.out]; omega) (harm.trans har.out) (by rw [HC.out]; show c + 8 ≤ M6.leftF g0.m; rw [hlf.out]; omega))
      unfold ComK at HCm
      have HE2 := Lib.hid e2
      have HSc := Lib.hid (show st.secs.length = 200 from by rw [hsecs]; exact hsl.out)
      have HRe := Lib.hid hre.out
      obtain ⟨ao3, cap3, hsh⟩ : ∃ ao3 cap3, u7 = .slice ao3 H.length cap3 := by
        obtain ⟨a, b, h | h⟩ := HR.out.shape
        · exact ⟨a, b, h.1⟩
        · exact ⟨none, 0, by rw [h.1, h.2]; rfl⟩
      subst hsh
      clear hT hO hz e2 hsecs harm
      rcases (show ¬ (j : Int) < (LL : Int) ∨ ((j : Int) < (LL : Int) ∧ ¬ (j : Int) < 12) by omega) with hq | ⟨hq, hq2⟩
      all_goals
        clear hin
        go_wp2_with (first
          | (go_at_call 13; (with_reducible refine HCm.out.mono ?_); rintro e w4 ⟨rfl, k4, g4, e4, -, hP4, hb4, hO4, hf4, kp4, hS4, he4, ha4, hl4⟩; have hP4 := Lib.hid hP4; have hb4 := Lib.hid hb4; have hf4 := Lib.hid hf4; have kp4 := Lib.hid kp4; have hS4 := Lib.hid hS4; have he4 := Lib.hid he4; have ha4 := Lib.hid ha4; have hl4 := Lib.hid hl4; have G4 := Lib.hid (gb_kp Hg.out kp4.out (fun i hi => Nat.le_trans z1 (FX.ge HLv.out (fun i hi => HGe.out i (.inl hi)) (hi.imp (HE2.out i) id)))); have z4 := kp4.out.size; have HBg := Lib.hid (begin_any hP4.out hS4.out.dead hb4.out (Nat.le_trans hzr z4)); rw [e4] at HBg; unfold BeginGot at HBg)
          | (go_at_call 14; (with_reducible refine HBg.out.mono ?_); rintro e w5 ⟨y2, rfl, h5x, k5, lx, ltb, lmb, lbm⟩; have h5x := Lib.hid h5x; have k5 := Lib.hid k5)
          | fail)
        have z5 := k5.out.size
        obtain ⟨F2, hF2⟩ : ∃ F2, footG k4 = F2 := ⟨_, rfl⟩
        obtain ⟨g5, hg5⟩ : ∃ g5, ({ g4 with busy := true } : Pg) = g5 := ⟨_, rfl⟩
        have hL5 : Live w5 base k.p (footG k4) y2 0 { g4 with busy := true } V V (10 + 9 * j + 1100) (M6.leftF g4.m) := ⟨k4, _, _, e4, fun _ h => h, Gd.refl _, h5x.out, Over.new (hS4.out.busy true), rfl⟩
        have hlt5 : ∀ i, FX (footG k4) y2 i → i < w5.heap.size := fun i hi => by
          have := hL5.lt
          rcases hi with hi | rfl | rfl | rfl | rfl
          · exact Nat.lt_of_lt_of_le (hP4.out.lt i hi) z5
          all_goals omega
        have hfa : ∀ i, FX (footG k4) y2 i → i < B0 ∨ wr.heap.size ≤ i := fun i hi => by
          rcases hi with hi | rfl | rfl | rfl | rfl
          · rcases hf4.out i hi with h | h
            · exact .inl (HFX.out i (h.imp (HE2.out i) id))
            · exact .inr h
          all_goals exact .inr (by omega)
        have hgeb : ∀ i, FX (footG k4) y2 i → base ≤ i := fun i hi => FX.ge hL5 (fun i hi => hP4.out.ge i hi) hi
        have hR5 : HRow w5 B0 (.slice ao3 H.length cap3) H := (HR.out.kp kp4.out (fun q hq hf => by have := (HR.out.lt q hq).1; have := HFX.out q (hf.imp (HE2.out q) id); omega)).kp k5.out (fun q hq hf => by
          have h1 := HR.out.lt q hq
          rcases hfa q (.inl (.inl hf)) with h | h <;> omega)
        have ha5 : g5.d.armed = false := by rw [← hg5]; exact ha4.out
        have hl5 : g5.d.secs.length = 200 := by rw [← hg5]; exact hl4.out.trans HSc.out
        have hre5 : g5.r.e ≤ 1 := by
          rw [← hg5]
          have h0 : g0.r.e = 0 := HRe.out
          rcases he4.out with ⟨h, _⟩ | h
          · show g4.r.e ≤ 1; rw [h]; show g0.r.e ≤ 1; omega
          · show g4.r.e ≤ 1; rw [h]; show g0.r.e + 1 ≤ 1; omega
        have hlf5 : 8 ≤ M6.leftF g5.m := by
          have h := hS4.out.left HHs.out.low
          rw [HC.out, hl4.out.trans HSc.out] at h
          rw [← hg5]
          show 8 ≤ M6.leftF g4.m
          split at h <;> omega
        rw [hF2, hg5] at hL5
        rw [hF2] at hlt5 hfa hgeb
        have hzz : M6.leftF g4.m = M6.leftF g5.m := by rw [← hg5]
        rw [hzz] at hL5
        have HL5 := Lib.hid hL5
        have HLt5 := Lib.hid hlt5
        have HFa := Lib.hid hfa
        have HGb := Lib.hid hgeb
        have HR5 := Lib.hid hR5
        have HA5 := Lib.hid ha5
        have HSl5 := Lib.hid hl5
        have HRe5 := Lib.hid hre5
        have HLf5 := Lib.hid hlf5
        have G5 := Lib.hid (gb_kp G4.out k5.out (fun i hi => by subst hi; rw [e4]; exact Nat.le_trans z1 (HGe.out _ (.inl (HE2.out _ (.inl rfl))))))
        have HOw := Lib.hid HR.out.lt
        have hHl : H.length ≤ 12 := by omega
        obtain ⟨M, hM⟩ : ∃ M, 10 + 9 * j + 1100 = M := ⟨_, rfl⟩
        rw [hM] at HL5
        have hMle : M ≤ 1300 := by omega
        clear hL5 hlt5 hfa hgeb hR5 ha5 hl5 hre5 hlf5 hF2 hg5 hzz hM HCm HBg hP4 hb4 hf4 kp4 hS4 he4 ha4 hl4 h5x
        go_loopw [16] (fun v16 wr => ∃ i : Nat, i ≤ H.length ∧ v16 = .int .i64 (i : Nat) ∧ Live wr base k.p F2 y2 0 g5 V V (M + 9 * i) (M6.leftF g5.m) ∧ HRow wr B0 (.slice ao3 H.length cap3) H ∧ w.grownBy wr none ∧ w5.heap.size ≤ wr.heap.size) (fun v16 _ => H.length - (intOf v16).toNat)
        case atStart => exact ⟨0, by omega, rfl, HL5.out, HR5.out, G5.out, Nat.le_refl _⟩
        case round =>
          obtain ⟨i, hi, rfl, hLi, hRi, gi, hwi⟩ := hrel
          have HLi := Lib.hid hLi
          have HRi := Lib.hid hRi
          have Gi := Lib.hid gi
          clear hLi hRi gi
          by_cases hil : i < H.length
          · obtain ⟨x, hx⟩ : ∃ x, H[i]? = some x := ⟨_, List.getElem?_eq_getElem hil⟩
            obtain ⟨ga, oa, ea, d0, d1⟩ := HRi.out.at_ hx
            subst ea
            obtain ⟨hxc, hx1, hx2⟩ := HHs.out.ch x (List.mem_of_getElem? hx)
            obtain ⟨hxg, -, hxf1, hxf2⟩ := ch_first hxc hx1 hx2
            have HGt := Lib.hid (get_ok (HLi.out.keep0 (gb_drew wr none)) (fun q hq => Nat.lt_of_lt_of_le (HLt5.out q (.inl hq)) (by simpa using hwi)) HA5.out (by omega) (first := ((hd x.1 : Nat) : Int)) (in64 (by omega) (by omega)) hx1 hx2 (zl := (x.2.size : Nat)) rfl (s := x.2) hxg)
            have hx0 := Lib.hid hx
            have e0 := gb_drew wr none
            have e1 := e0.cell d0 (by simp)
            have e2 := e0.cell d1 (by simp)
            clear hxc hxg hx
            go_wp2
            refine wp_region_noPanic ?_
            refine wp_region_held_drew (S := fun w' => w'.cell? ⟨ga, oa + i * 2, none⟩ = some (.int .i64 ((hd x.1 : Nat) : Int)) ∧ w'.cell? ⟨ga, oa + i * 2 + 1, none⟩ = some (.string x.2)) (by kernel_rfl) ⟨e1, e2⟩ (fun hHeld => ?_)
            refine wpAnyH_take (i := 0) (v := ?_) (List.getElem?_toArray.trans rfl) (by kernel_rfl) (by kernel_rfl) (by kernel_rfl) (fun _ _ _ h => h) (Or.inl ⟨by rfl, ?_⟩) hHeld ?_
            rotate_left
            · intro w' hSw; have q1 := hSw.1; have q2 := hSw.2; go_simp; try with_reducible rfl
            try simp only [Act.put, List.setIfInBounds_toArray, List.set_cons_zero, List.set_cons_succ]
            refine wpAnyH_take (i := 1) (v := ?_) (List.getElem?_toArray.trans rfl) (by kernel_rfl) (by kernel_rfl) (by kernel_rfl) (fun _ _ _ h => h) (Or.inl ⟨by rfl, ?_⟩) hHeld ?_
            rotate_left
            · intro w' hSw; have q1 := hSw.1; have q2 := hSw.2; go_simp; try with_reducible rfl
            try simp only [Act.put, List.setIfInBounds_toArray, List.set_cons_zero, List.set_cons_succ]
            refine wpAnyH_take (i := 2) (v := ?_) (List.getElem?_toArray.trans rfl) (by kernel_rfl) (by kernel_rfl) (by kernel_rfl) (fun _ _ _ h => h) (Or.inl ⟨by rfl, ?_⟩) hHeld ?_
            rotate_left
            · intro w' hSw; have q1 := hSw.1; have q2 := hSw.2; go_simp; try with_reducible rfl
            try simp only [Act.put, List.setIfInBounds_toArray, List.set_cons_zero, List.set_cons_succ]
            refine wpAnyH_take (i := 3) (v := ?_) (List.getElem?_toArray.trans rfl) (by kernel_rfl) (by kernel_rfl) (by kernel_rfl) (fun _ _ _ h => h) (Or.inl ⟨by rfl, ?_⟩) hHeld ?_
            rotate_left
            · intro w' hSw; have q1 := hSw.1; have q2 := hSw.2; go_simp; try with_reducible rfl
            try simp only [Act.put, List.setIfInBounds_toArray, List.set_cons_zero, List.set_cons_succ]
            refine wpAnyH_take (i := 4) (v := ?_) (List.getElem?_toArray.trans rfl) (by kernel_rfl) (by kernel_rfl) (by kernel_rfl) (fun _ _ _ h => h) (Or.inl ⟨by rfl, ?_⟩) hHeld ?_
            rotate_left
            · intro w' hSw; have q1 := hSw.1; have q2 := hSw.2; go_simp; try with_reducible rfl
            try simp only [Act.put, List.setIfInBounds_toArray, List.set_cons_zero, List.set_cons_succ]
            refine wpAnyH_take (i := 5) (v := ?_) (List.getElem?_toArray.trans rfl) (by kernel_rfl) (by kernel_rfl) (by kernel_rfl) (fun _ _ _ h => h) (Or.inl ⟨by rfl, ?_⟩) hHeld ?_
            rotate_left
            · intro w' hSw; have q1 := hSw.1; have q2 := hSw.2; go_simp; try with_reducible rfl
            try simp only [Act.put, List.setIfInBounds_toArray, List.set_cons_zero, List.set_cons_succ]
            refine wpAnyH_take (i := 6) (v := ?_) (List.getElem?_toArray.trans rfl) (by kernel_rfl) (by kernel_rfl) (by kernel_rfl) (fun _ _ _ h => h) (Or.inl ⟨by rfl, ?_⟩) hHeld ?_
            rotate_left
            · intro w' hSw; have q1 := hSw.1; have q2 := hSw.2; go_simp; try with_reducible rfl
            try simp only [Act.put, List.setIfInBounds_toArray, List.set_cons_zero, List.set_cons_succ]
            refine wpAnyH_take (i := 7) (v := ?_) (List.getElem?_toArray.trans rfl) (by kernel_rfl) (by kernel_rfl) (by kernel_rfl) (fun _ _ _ h => h) (Or.inl ⟨by rfl, ?_⟩) hHeld ?_
            rotate_left
            · intro w' hSw; have q1 := hSw.1; have q2 := hSw.2; go_simp; try with_reducible rfl
            try simp only [Act.put, List.setIfInBounds_toArray, List.set_cons_zero, List.set_cons_succ]
            refine wpAnyH_take (i := 8) (v := ?_) (List.getElem?_toArray.trans rfl) (by kernel_rfl) (by kernel_rfl) (by kernel_rfl) (fun _ _ _ h => h) (Or.inl ⟨by rfl, ?_⟩) hHeld ?_
            rotate_left
            · intro w' hSw; have q1 := hSw.1; have q2 := hSw.2; go_simp; try with_reducible rfl
            try simp only [Act.put, List.setIfInBounds_toArray, List.set_cons_zero, List.set_cons_succ]
            refine wpAnyH_take (i := 9) (v := ?_) (List.getElem?_toArray.trans rfl) (by kernel_rfl) (by kernel_rfl) (by kernel_rfl) (fun _ _ _ h => h) (Or.inl ⟨by rfl, ?_⟩) hHeld ?_
            rotate_left
            · intro w' hSw; have q1 := hSw.1; have q2 := hSw.2; go_simp; try with_reducible rfl
            try simp only [Act.put, List.setIfInBounds_toArray, List.set_cons_zero, List.set_cons_succ]
            refine wpAnyH_take (i := 10) (v := ?_) (List.getElem?_toArray.trans rfl) (by kernel_rfl) (by kernel_rfl) (by kernel_rfl) (fun _ _ _ h => h) (Or.inl ⟨by rfl, ?_⟩) hHeld ?_
            rotate_left
            · intro w' hSw; have q1 := hSw.1; have q2 := hSw.2; go_simp; try with_reducible rfl
            try simp only [Act.put, List.setIfInBounds_toArray, List.set_cons_zero, List.set_cons_succ]
            refine wpAnyH_take (i := 11) (v := ?_) (List.getElem?_toArray.trans rfl) (by kernel_rfl) (by kernel_rfl) (by kernel_rfl) (fun _ _ _ h => h) (Or.inl ⟨by rfl, ?_⟩) hHeld ?_
            rotate_left
            · intro w' hSw; have q1 := hSw.1; have q2 := hSw.2; go_simp; try with_reducible rfl
            try simp only [Act.put, List.setIfInBounds_toArray, List.set_cons_zero, List.set_cons_succ]
            refine wpAnyH_ready (rs := [12]) (by kernel_rfl) (by simp) ?_
            refine AllReadyH.cons (List.getElem?_toArray.trans rfl) (fun K hK => ?_) AllReadyH.nil
            go_simp
            go_at_call 15
            (with_reducible refine HGt.out.mono ?_)
            rintro e w8 ⟨rfl, k8, L8⟩
            refine hK.out _ _ ((by have hr8 := (HRi.out.kept e0 (.inr rfl)).kp k8 (fun q hq hf => by have h1 := HOw.out q hq; rcases HFa.out q (.inl hf) with h | h <;> omega); obtain ⟨ga', oa', ea', f0, f1⟩ := hr8.at_ hx0.out; cases ea'; exact ⟨f0, f1⟩)) (fun hHeld => ?_)
            clear hK K
            try simp only [Act.put, List.setIfInBounds_toArray, List.set_cons_zero, List.set_cons_succ]
            refine wpAnyH_take (i := 13) (v := ?_) (List.getElem?_toArray.trans rfl) (by kernel_rfl) (by kernel_rfl) (by kernel_rfl) (fun _ _ _ h => h) (Or.inl ⟨by rfl, ?_⟩) hHeld ?_
            rotate_left
            · intro w' hSw; have q1 := hSw.1; have q2 := hSw.2; go_simp; try with_reducible rfl
            try simp only [Act.put, List.setIfInBounds_toArray, List.set_cons_zero, List.set_cons_succ]
            refine wpAnyH_take (i := 14) (v := ?_) (List.getElem?_toArray.trans rfl) (by kernel_rfl) (by kernel_rfl) (by kernel_rfl) (fun _ _ _ h => h) (Or.inl ⟨by rfl, ?_⟩) hHeld ?_
            rotate_left
            · intro w' hSw; have q1 := hSw.1; have q2 := hSw.2; go_simp; try with_reducible rfl
            try simp only [Act.put, List.setIfInBounds_toArray, List.set_cons_zero, List.set_cons_succ]
            refine wpAnyH_take (i := 15) (v := ?_) (List.getElem?_toArray.trans rfl) (by kernel_rfl) (by kernel_rfl) (by kernel_rfl) (fun _ _ _ h => h) (Or.inl ⟨by rfl, ?_⟩) hHeld ?_
            rotate_left
            · intro w' hSw; have q1 := hSw.1; have q2 := hSw.2; go_simp; try with_reducible rfl
            try simp only [Act.put, List.setIfInBounds_toArray, List.set_cons_zero, List.set_cons_succ]
            refine wpAnyH_take (i := 16) (v := ?_) (List.getElem?_toArray.trans rfl) (by kernel_rfl) (by kernel_rfl) (by kernel_rfl) (fun _ _ _ h => h) (Or.inl ⟨by rfl, ?_⟩) hHeld ?_
            rotate_left
            · intro w' hSw; have q1 := hSw.1; have q2 := hSw.2; go_simp; try with_reducible rfl
            try simp only [Act.put, List.setIfInBounds_toArray, List.set_cons_zero, List.set_cons_succ]
            refine wpAnyH_take (i := 17) (v := ?_) (List.getElem?_toArray.trans rfl) (by kernel_rfl) (by kernel_rfl) (by kernel_rfl) (fun _ _ _ h => h) (Or.inl ⟨by rfl, ?_⟩) hHeld ?_
            rotate_left
            · intro w' hSw; have q1 := hSw.1; have q2 := hSw.2; go_simp; try with_reducible rfl
            try simp only [Act.put, List.setIfInBounds_toArray, List.set_cons_zero, List.set_cons_succ]
            refine wpAnyH_done (by kernel_rfl) ?_ _
            refine NoPanic.normal ?_
            have hr8 := (HRi.out.kept e0 (.inr rfl)).kp k8 (fun q hq hf => by have h1 := HOw.out q hq; rcases HFa.out q (.inl hf) with h | h <;> omega)
            obtain ⟨ga', oa', ea', f0, f1⟩ := hr8.at_ hx0.out
            cases ea'
            have HR8 := Lib.hid hr8
            have K8 := Lib.hid k8
            have L8 := Lib.hid L8
            have z8 := k8.size
            have z8' : wr.heap.size ≤ w8.heap.size := by simpa using z8
            have G8 := Lib.hid (gb_kp (gb_trans Gi.out e0) k8 (fun q hq => Nat.le_trans z1 (HGb.out q (.inl hq))))
            clear hr8 k8 e0 e1 e2 hHeld z8
            go_wp2
            go_roundw
            case rel => exact ⟨i + 1, by omega, by go_num, L8.out.more (by omega), HR8.out, G8.out, by omega⟩
            case measure => simp [intOf]; omega
          · obtain rfl : i = H.length := by omega
            go_wp2
            obtain ⟨Mb, hMb⟩ : ∃ Mb, M + 9 * H.length = Mb := ⟨_, rfl⟩
            rw [hMb] at HLi
            have hMb2 : Mb ≤ 1500 := by omega
            have hHs0 : Hs V (H.drop 0) := HHs.out
            have HHs0 := Lib.hid hHs0
            clear hMb hHs0
            go_loopw [19] (fun v19 wr => ∃ (i n2 z2 : Nat) (Vi : Pgs), i ≤ H.length ∧ v19 = .int .i64 (i : Nat) ∧ n2 ≤ 9 * i ∧ Live wr base k.p F2 y2 n2 g5 V Vi (Mb + 9 * i) z2 ∧ Hs Vi (H.drop i) ∧ HRow wr B0 (.slice ao3 H.length cap3) H ∧ w.grownBy wr none ∧ w5.heap.size ≤ wr.heap.size) (fun v19 _ => H.length - (intOf v19).toNat)
            case atStart => exact ⟨0, 0, _, V, by omega, rfl, by omega, HLi.out, HHs0.out, HRi.out, Gi.out, hwi⟩
            case round =>
              clear HLi HRi Gi HHs0 hwi
              obtain ⟨i, n2, z2, Vi, hi, rfl, hn2, hLi, hHi, hRi, gi, hwi⟩ := hrel
              have HLi := Lib.hid hLi
              have HRi := Lib.hid hRi
              have HHi := Lib.hid hHi
              have Gi := Lib.hid gi
              clear hLi hRi gi hHi
              by_cases hil : i < H.length
              · obtain ⟨x, hx⟩ : ∃ x, H[i]? = some x := ⟨_, List.getElem?_eq_getElem hil⟩
                obtain ⟨ga, oa, ea, d0, d1⟩ := HRi.out.at_ hx
                subst ea
                have hdr : H.drop i = x :: H.drop (i + 1) := by
                  rw [List.drop_eq_getElem_cons hil]
                  rw [List.getElem?_eq_getElem hil] at hx
                  cases hx; rfl
                rw [hdr] at HHi
                obtain ⟨hxc, hx1, hx2⟩ := HHi.out.ch x List.mem_cons_self
                obtain ⟨-, hxp, hxf1, hxf2⟩ := ch_first hxc hx1 hx2
                have HDr := Lib.hid (drop_ok HLi.out (fun q hq => Nat.lt_of_lt_of_le (HLt5.out q (.inl hq)) hwi) HA5.out (by omega) (first := ((hd x.1 : Nat) : Int)) (in64 (by omega) (by omega)) hxp)
                clear hxc hxp hx hdr
                go_wp2_with (first
                  | (go_at_call 11; (with_reducible refine HDr.out.mono ?_); rintro e w8 ⟨rfl, n8, z8, hn8, k8, L8⟩; have k8 := Lib.hid k8; have L8 := Lib.hid L8)
                  | fail)
                have hr8 := HRi.out.kp k8.out (fun q hq hf => by have h1 := HOw.out q hq; rcases HFa.out q hf with h | h <;> omega)
                have z8s := k8.out.size
                have G8 := Lib.hid (gb_kp Gi.out k8.out (fun q hq => Nat.le_trans z1 (HGb.out q hq)))
                go_roundw
                case rel => exact ⟨i + 1, n8, z8, delL Vi x.1, by omega, by go_num, by omega, L8.out.more (by omega), HHi.out.drop, hr8, G8.out, by omega⟩
                case measure => simp [intOf]; omega
              · obtain rfl : i = H.length := by omega
                rw [List.drop_length] at HHi
                obtain rfl : Vi = V0 := HHi.out.none
                have HP9 := Lib.hid (txp_row HLi.out (c := 0) cntV_nil)
                go_wp2_with (first
                  | (go_at_call 12; (with_reducible refine HP9.out.mono ?_); rintro e w9 ⟨ao9, cap9, rfl, -, g9⟩; have g9 := Lib.hid g9)
                  | fail)
                have z9 := g9.out.size
                have hL9 := HLi.out.keep0 g9.out
                have G9 := Lib.hid (gb_trans Gi.out g9.out)
                have HL9 := Lib.hid hL9
                obtain ⟨kb, gb, Tb, eb1, eb2, ⟨sb, egb, hsb, harb⟩, hTb, hOb, -⟩ := hL9
                subst egb
                have HCm := Lib.hid (com_ok hTb hOb (env_gb HE.out G9.out) (Nat.le_trans h5 z1) (by omega) (by omega) (by have := HRe5.out; show g5.r.e < 999999; omega) (harb.trans HA5.out) (by rw [show cntV V0 = 0 from cntV_nil]; have := HLf5.out; show 0 + 8 ≤ M6.leftF g5.m; omega))
                unfold ComK at HCm
                have HEb := Lib.hid eb2
                have hsb2 : sb.secs.length = 200 := by rw [hsb]; exact HSl5.out
                have HSb := Lib.hid hsb2
                clear hTb hOb eb2 hsb harb hsb2
                go_wp2_with (first
                  | (go_at_call 13; (with_reducible refine HCm.out.mono ?_); rintro e wa ⟨rfl, ka, ga, e4, -, hPa, -, -, -, kpa, hSa, -, -, hla⟩; have hPa := Lib.hid hPa; have kpa := Lib.hid kpa; have hSa := Lib.hid hSa; have hla := Lib.hid hla)
                  | (go_at_call 16; refine hold ?_)
                  | fail)
                have hle : Calls Tryz.prog 16 #[.pointer (some ⟨k.p, 0, none⟩)] wa (fun e w' => e = .returned (.int .i64 198) ∧ wa = w') := by
                  rw [← eb1, ← e4]
                  refine left_is hPa.out hSa.out.len 198 ?_
                  have h := hSa.out.left low_nil
                  rw [show cntV V0 = 0 from cntV_nil, hla.out.trans HSb.out] at h
                  simp at h
                  omega
                have HLe := Lib.hid hle
                unfold Hold
                go_wp2_with (first
                  | (go_at_call 16; (with_reducible refine HLe.out.mono ?_); rintro e w' ⟨rfl, rfl⟩)
                  | fail)
                go_ret
                exact ⟨rfl, gb_kp G9.out kpa.out (fun q hq => Nat.le_trans z1 (HGb.out q (hq.imp (HEb.out q) id)))⟩
end Go.Proofs.YtliiooldlooagaaGreatDoor.O12
