/-
  PagerSpace's walk, over this seat's translation; conditions: the listed variables are laid, rounds read as a list.
-/
import Derived.Test.YtjbfooaembpdfaaGreatDoorWJaq
set_option linter.unusedSimpArgs false
set_option linter.unusedVariables false
namespace Go.Proofs.YtjbfooaembpdfaaGreatDoor.J10
open Go.RowKit Go.Maps
/-- The walk is held here. -/
def Hold (p : Prop) : Prop := p
theorem hold {p : Prop} (h : Hold p) : p := h
/-- What stands between two rounds. -/
def Ws (w : World) (base p0 j b1 : Nat) (V : Pgs) (wr : World) : Prop :=
  ∃ k g N m1, k.p = p0 ∧ PgV wr base k g ∧ g.busy = false ∧ Stands g V N ∧ N ≤ 10 + 300 * j ∧ g.d.armed = false ∧ g.d.secs.length = 64 ∧ g.r.e ≤ j ∧ Mp wr b1 m1 V ∧ m1 ≤ 30 * j ∧ ¬ footG k b1 ∧ w.heap.size ≤ b1 ∧ Low V ∧ w.grownBy wr none
set_option maxRecDepth 100000 in
set_option maxHeartbeats 8000000 in
theorem space_walk {w : World} (hE : Env w) (h5 : 5 ≤ w.heap.size) {vl : Value} {l : List Rnd} (hL : Rds w vl l) :
    Calls Tryz.prog 4 #[vl] w fun e w' => e = .returned (.bool true) ∧ w.grownBy w' none := by
  obtain ⟨⟨ao, cap, rfl, _, _, hna, hxa⟩, hAc⟩ := hL
  have HX := Lib.hid (And.intro hna (And.intro hxa hAc))
  have HE := Lib.hid hE
  clear hna hxa hAc hE
  obtain ⟨LL, hLL⟩ : ∃ LL, l.length = LL := ⟨_, rfl⟩
  have HLL := Lib.hid hLL
  rw [hLL]
  clear hLL
  have HWk := Lib.hid (works_any HE.out h5)
  have hmm := @run_makeMap Tryz.prog
  go_enter Tryz.func4, Tryz.ntmps4
  go_wp2_with (first
    | (go_at_call 6; (with_reducible refine HWk.out.mono ?_); rintro e w1 ⟨rfl, g1⟩; have g1 := Lib.hid g1)
    | (go_at_call 7; (with_reducible refine (dnew64 w1).mono ?_); rintro e w2 ⟨p, rfl, hP, g2⟩; have hP := Lib.hid hP; have g2 := Lib.hid g2)
    | fail)
  have z1 := g1.out.size
  have z2 := g2.out.size
  have G2 := Lib.hid (gb_trans g1.out g2.out)
  have HO := Lib.hid (ov_fresh hP.out (by omega) (by omega) (env_gb HE.out G2.out) z2 (fun i hi => ⟨by have := hi.1; omega, hi.2⟩))
  go_wp2_with (first
    | (go_at_call 8; (with_reducible refine HO.out.mono ?_); rintro e w3 ⟨k, g, rfl, hG, hS, hbz, har, hsc, hre, -, -, -, hdp, hft, hk3⟩; have hG := Lib.hid hG; have hS := Lib.hid hS; have hbz := Lib.hid hbz; have har := Lib.hid har; have hsc := Lib.hid hsc; have hre := Lib.hid hre; have hk3 := Lib.hid hk3)
    | fail)
  have G3 := Lib.hid (gb_kp G2.out hk3.out (fun i hi => by have := hi.1; omega))
  have gA := gb_alloc w3 (.map #[] 0) none
  have hW0 : Ws w w1.heap.size k.p 0 w3.heap.size (fun _ => none) (w3.alloc (.map #[] 0)) :=
    ⟨k, g, 10, 0, rfl, hG.out.keep0 gA, hbz.out, hS.out, by omega, har.out, by rw [hsc.out]; exact List.length_replicate, by rw [hre.out]; exact Nat.le_refl _, Mp.made w3, by omega, fun e => by have := hG.out.lt _ e; omega, G3.out.size, low_nil, gb_trans G3.out gA⟩
  have HW0 := Lib.hid hW0
  obtain ⟨p0, hp0⟩ : ∃ p0, k.p = p0 := ⟨_, rfl⟩
  rw [hp0] at HW0 ⊢
  obtain ⟨base, hbase⟩ : ∃ base, w1.heap.size = base := ⟨_, rfl⟩
  rw [hbase] at HW0 z1
  clear hW0 gA hdp hp0 hbase hP g2 z2 HWk HO hft
  go_loopw [6, 7] (fun v6 v7 wr => ∃ (j b1 : Nat) (V : Pgs), j ≤ LL ∧ j ≤ 10 ∧ v7 = .int .i64 (j : Nat) ∧ v6 = .map (some b1) ∧ Ws w base p0 j b1 V wr) (fun _ v7 _ => LL - (intOf v7).toNat)
  case atStart => exact ⟨0, _, _, by omega, by omega, rfl, rfl, HW0.out⟩
  case round =>
    obtain ⟨j, b1, V, hj, hj10, rfl, rfl, k, g, N, m1, e1, hG, hbz, hS, hN, har, hsl, hre, hM, hm1, hnb, hb1, hlo, hg⟩ := hrel
    subst e1
    have HG := Lib.hid hG
    have HBz := Lib.hid hbz
    have HS := Lib.hid hS
    have HAr := Lib.hid har
    have HSl := Lib.hid hsl
    have HM := Lib.hid hM
    have HNb := Lib.hid hnb
    have HLo := Lib.hid hlo
    have Hg := Lib.hid hg
    clear hG hbz hS hM hnb hlo hg HW0 har hsl
    have zr := Hg.out.size
    by_cases hin : j < LL ∧ j < 10
    · obtain ⟨hlt, h10⟩ := hin
      cases ao with
      | none => have := (HX.out.1 rfl).1; rw [HLL.out] at this; omega
      | some x =>
        have hlt' : j < l.length := by rw [HLL.out]; exact hlt
        obtain ⟨ao2, cap2, hv2, -⟩ := HX.out.2.2 l[j] (List.getElem_mem hlt')
        have hA := HX.out.2.2 l[j] (List.getElem_mem hlt')
        have c0 := HX.out.2.1 x rfl _ _ (rdsC_at l j hlt' 0 (by omega))
        have c1 := HX.out.2.1 x rfl _ _ (rdsC_at l j hlt' 1 (by omega))
        rw [Nat.add_zero] at c0
        rw [show x.add (j * 2 + 1) = (x.add (j * 2)).add 1 from (add_add _ _ _).symm] at c1
        replace c0 : w.cell? (x.add (j * 2)) = some l[j].v := c0
        replace c1 : w.cell? ⟨(x.add (j * 2)).block, (x.add (j * 2)).off + 1, none⟩ = some (.int .u8 (l[j].lets.toNat : Nat)) := c1
        obtain ⟨AL, hAL⟩ : ∃ AL, l[j].acts.length = AL := ⟨_, rfl⟩
        rw [hAL] at hv2
        rw [hv2] at c0 hA
        generalize l[j].acts = al at hA hAL
        generalize l[j].lets = le at c1
        have C0 := Lib.hid c0
        have C1 := Lib.hid c1
        have HA := Lib.hid hA
        clear hlt' hv2 c0 c1 hA hAL
        have zb : base ≤ wr.heap.size := Nat.le_of_lt (Nat.lt_of_le_of_lt HG.out.bp (HG.out.lt _ (.inl rfl)))
        have HBg := Lib.hid (begin_any HG.out HS.out.dead HBz.out zb)
        unfold BeginGot at HBg
        obtain ⟨Lf, hLf⟩ : ∃ Lf, M6.leftF g.m = Lf := ⟨_, rfl⟩
        have HLf := Lib.hid hLf
        obtain ⟨ep, hep⟩ : ∃ ep, g.r.e = ep := ⟨_, rfl⟩
        have HEp := Lib.hid hep
        have hee : ep ≤ 10 := by omega
        clear hLf hep
        have HS7 := Lib.hid (HS.out.busy true)
        go_wp2_with (first
          | (go_at_call 10; (with_reducible refine HBg.out.mono ?_); rintro e w6 ⟨y, rfl, h6, k6, lx, ltb, lmb, lbm⟩; have h6 := Lib.hid h6; have k6 := Lib.hid k6)
          | (go_at_call 18; (with_reducible refine (left_is h6.out.pg HS7.out.len ((Lf : Nat) : Int) (by rw [← HLf.out])).mono ?_); rintro e w' ⟨rfl, rfl⟩)
          | (go_at_call 19; (with_reducible refine (epoch_is h6.out.pg ((ep : Nat) : Int) (by rw [← HEp.out])).mono ?_); rintro e w' ⟨rfl, rfl⟩)
          | fail)
        have hM6 : Mp w6 b1 m1 V := HM.out.kp k6.out (fun e => HNb.out (.inl e))
        have HM6 := Lib.hid hM6
        have HCp := Lib.hid (copied_map hM6 (by omega))
        have zp : w.heap.size ≤ k.p := Nat.le_trans z1 HG.out.bp
        have G6 := Lib.hid (gb_kp Hg.out k6.out (fun i hi => by rw [hi]; exact zp))
        clear hM6 HBg
        go_wp2_with (first
          | (go_at_call 11; (with_reducible refine HCp.out.mono ?_); rintro e w7 ⟨b2, rfl, hb2, hM7, g7⟩; have hM7 := Lib.hid hM7; have cw7 := (gb_trans G6.out g7).cell C0.out (by simp); have g7 := Lib.hid g7)
          | fail)
        have z6 := G6.out.size
        have z67 := g7.out.size
        have G7 := Lib.hid (gb_trans G6.out g7.out)
        have h7 := h6.out.keep0 g7.out
        have hx7 : ¬ footX k y b2 := fun e => by have := h6.out.lt _ e; omega
        have HX7 := Lib.hid hx7
        have H7 := Lib.hid h7
        have hE7 := env_gb HE.out G7.out
        have HLy := Lib.hid (lawLay_any (w0 := w) (m := m1) h7 (Over.new HS7.out) hE7.tab (by omega) hM7.out (by omega) hx7 HLo.out (by omega) z1 h5 G7.out HA.out)
        clear h7 hx7 hE7 HCp
        by_cases hle : le.toNat % 5 = 0
        · have hm5 : ((le.toNat : Nat) : Int) % 5 = 0 := by omega
          clear hle
          go_wp2_with (first
            | (go_at_call 12; (with_reducible refine HLy.out.mono ?_); rintro e w8 ⟨rfl, hLd⟩; obtain ⟨n8, m8, T8, V8, hn8, hm8, hMd, hLo8⟩ := hLd; have hMd := Lib.hid hMd; have hLo8 := Lib.hid hLo8; have G8 := Lib.hid (hMd.out.gb G7.out z1 (by omega)); have cw8 := G8.out.cell C1.out (by simp))
            | (go_at_call 18; (with_reducible refine (left_is hMd.out.tx.pg HS7.out.len ((Lf : Nat) : Int) (by rw [← HLf.out])).mono ?_); rintro e w' ⟨rfl, rfl⟩)
            | fail)
          have zb1 := HM.out.lt
          have z6r := k6.out.size
          have HM8 := Lib.hid ((HM6.out.keep0 g7.out).kp hMd.out.kp (fun e => by rcases e with (e | e | e) | e <;> omega))
          clear HLy C0 C1 cw7 cw8 HA
          have HAb := Lib.hid (abort_any hMd.out.tx)
          unfold AbortGot at HAb
          obtain ⟨gn, hgn⟩ : ∃ gn : Pg, gn = { g with busy := false } := ⟨_, rfl⟩
          obtain ⟨kn, hkn⟩ : ∃ kn : Bk, kn = k := ⟨_, rfl⟩
          go_wp2_with (first
            | (go_at_call 13; (with_reducible refine HAb.out.mono ?_); rintro e w9 ⟨rfl, h9, -, k9⟩; have h9 := Lib.hid h9; have k9 := Lib.hid k9)
            | (at_len; refine hold ?_)
            | fail)
          have PGn := Lib.hid (show PgV w9 base kn gn from by rw [hgn, hkn]; exact h9.out)
          have STn := Lib.hid (show Stands gn V N from by rw [hgn]; exact HS.out.busy false)
          have ARn := Lib.hid (show gn.d.armed = false from by rw [hgn]; exact HAr.out)
          have SLn := Lib.hid (show gn.d.secs.length = 64 from by rw [hgn]; exact HSl.out)
          have BZn := Lib.hid (show gn.busy = false from by rw [hgn])
          have MPn := Lib.hid (show Mp w9 b1 m1 V from HM8.out.kp k9.out (fun e => by rcases e with e | e; exact HNb.out (.inl e); omega))
          have NBn := Lib.hid (show ¬ footG kn b1 from by rw [hkn]; exact HNb.out)
          have LOn := Lib.hid (show Low V from HLo.out)
          have GUn := Lib.hid (show w.grownBy w9 none from gb_kp G8.out k9.out (fun i hi => by rcases hi with rfl | rfl <;> omega))
          have DPn := Lib.hid (show kn.p = k.p from by rw [hkn])
          have REn : gn.r.e ≤ j + 1 := by rw [hgn]; show g.r.e ≤ j + 1; omega
          clear hgn hkn
          have zu : base ≤ w9.heap.size := Nat.le_of_lt (Nat.lt_of_le_of_lt PGn.out.bp (PGn.out.lt _ (.inl rfl)))
          obtain ⟨c, hcn⟩ : ∃ c, cntV V = c := ⟨_, rfl⟩
          have hlf := STn.out.left LOn.out
          rw [hcn, SLn.out] at hlf
          obtain ⟨Lg, hLg⟩ : ∃ Lg, M6.leftF gn.m = Lg := ⟨_, rfl⟩
          rw [hLg] at hlf
          have HCn := Lib.hid hcn
          have HLg := Lib.hid hLg
          have zbn := MPn.out.lt
          clear hcn hLg
          have hSt := state_any PGn.out (STn.out.shows ARn.out) BZn.out (by omega) zu
          rw [DPn.out] at hSt
          have HSt := Lib.hid hSt
          unfold StateG at HSt
          clear hSt
          by_cases hc0 : c = 0
          · rw [if_pos hc0] at hlf
            subst hc0
            have hlen := MPn.out.len pairP STn.out.sto.outV 0 (by rw [HCn.out]; rfl)
            obtain rfl : Lg = 62 := by omega
            unfold Hold
            go_wp2_with (first
              | (go_at_call 16; (with_reducible refine HSt.out.mono ?_); rintro e u3 ⟨bs, ms, kS, qS, rfl, lbs, hms, hMS, eS, -, hqS, hPS, hokS, hfS, kpS⟩; have hMS := Lib.hid hMS; have kpS := Lib.hid kpS; have eS := Lib.hid eS; have hPS := Lib.hid hPS; have hokS := Lib.hid hokS; have hfS := Lib.hid hfS; have hqS := Lib.hid hqS)
              | fail)
            have GS := Lib.hid (gb_kp GUn.out kpS.out (fun i hi => Nat.le_trans z1 (PGn.out.ge i hi)))
            have hq9 : qS = 0 := by rw [hqS.out, pagesN_len STn.out.sto, HCn.out]
            have HM3 := Lib.hid (MPn.out.kp kpS.out NBn.out)
            have HSm := Lib.hid (same_any hMS.out HM3.out (by omega))
            go_wp2_with (first
              | (go_at_call 17; (with_reducible refine HSm.out.mono ?_); rintro e u4 ⟨t, rfl, ht, g4⟩; obtain rfl : t = true := ht (by first | exact rfl | trivial); have g4 := Lib.hid g4)
              | fail)
            have hlen4 := (HM3.out.keep0 g4.out).len pairP STn.out.sto.outV 0 (by rw [HCn.out]; rfl)
            have hLS : Calls Tryz.prog 18 #[.pointer (some ⟨k.p, 0, none⟩)] u4 (fun e w' => e = .returned (.int .i64 62) ∧ u4 = w') := by rw [← DPn.out, ← eS.out]; exact left_is (hPS.out.keep0 g4.out) STn.out.len _ (by show ((M6.leftF gn.m : Nat) : Int) = _; rw [HLg.out]; rfl)
            have hDS : Calls Tryz.prog 20 #[.pointer (some ⟨k.p, 0, none⟩)] u4 (fun e w' => e = .returned (.bool false) ∧ u4 = w') := by rw [← DPn.out, ← eS.out]; exact dead_is (hPS.out.keep0 g4.out) STn.out.dead
            have HLS := Lib.hid hLS
            have HDS := Lib.hid hDS
            clear hLS hDS hlen
            go_wp2_with (first
              | (go_at_call 18; (with_reducible refine HLS.out.mono ?_); rintro e w' ⟨rfl, rfl⟩)
              | (go_at_call 20; (with_reducible refine HDS.out.mono ?_); rintro e w' ⟨rfl, rfl⟩)
              | fail)
            go_roundw
            case rel => exact ⟨j + 1, b1, V, by omega, by omega, by go_num, rfl, kS, _, N + qS, m1, eS.out.trans DPn.out, hPS.out.keep0 g4.out, rfl, STn.out.looked qS hokS.out false, by omega, ARn.out, SLn.out, REn, HM3.out.keep0 g4.out, by omega, fun e => NBn.out (hfS.out _ e), by omega, LOn.out, gb_trans GS.out g4.out⟩
            case measure => simp [intOf]; omega
          · rw [if_neg hc0] at hlf
            have hlen := MPn.out.len pairP STn.out.sto.outV ((c : Nat) : Int) (by rw [HCn.out])
            have hc1 : (0 : Int) < ((c : Nat) : Int) := by omega
            have hd1 : (61 : Int) - ((c : Nat) : Int) = ((Lg : Nat) : Int) := by omega
            have hd2 : IntKind.i64.wrap ((Lg : Nat) : Int) = ((Lg : Nat) : Int) := IntWalk.i64_in _ (by omega)
            unfold Hold
            go_wp2_with (first
              | (go_at_call 16; (with_reducible refine HSt.out.mono ?_); rintro e u3 ⟨bs, ms, kS, qS, rfl, lbs, hms, hMS, eS, -, hqS, hPS, hokS, hfS, kpS⟩; have hMS := Lib.hid hMS; have kpS := Lib.hid kpS; have eS := Lib.hid eS; have hPS := Lib.hid hPS; have hokS := Lib.hid hokS; have hfS := Lib.hid hfS; have hqS := Lib.hid hqS)
              | fail)
            have GS := Lib.hid (gb_kp GUn.out kpS.out (fun i hi => Nat.le_trans z1 (PGn.out.ge i hi)))
            have hq9 : qS = c := by rw [hqS.out, pagesN_len STn.out.sto, HCn.out]
            have HM3 := Lib.hid (MPn.out.kp kpS.out NBn.out)
            have HSm := Lib.hid (same_any hMS.out HM3.out (by omega))
            go_wp2_with (first
              | (go_at_call 17; (with_reducible refine HSm.out.mono ?_); rintro e u4 ⟨t, rfl, ht, g4⟩; obtain rfl : t = true := ht (by first | exact rfl | trivial); have g4 := Lib.hid g4)
              | fail)
            have hlen4 := (HM3.out.keep0 g4.out).len pairP STn.out.sto.outV ((c : Nat) : Int) (by rw [HCn.out])
            have hLS : Calls Tryz.prog 18 #[.pointer (some ⟨k.p, 0, none⟩)] u4 (fun e w' => e = .returned (.int .i64 ((Lg : Nat) : Int)) ∧ u4 = w') := by rw [← DPn.out, ← eS.out]; exact left_is (hPS.out.keep0 g4.out) STn.out.len _ (by show ((M6.leftF gn.m : Nat) : Int) = _; rw [HLg.out])
            have hDS : Calls Tryz.prog 20 #[.pointer (some ⟨k.p, 0, none⟩)] u4 (fun e w' => e = .returned (.bool false) ∧ u4 = w') := by rw [← DPn.out, ← eS.out]; exact dead_is (hPS.out.keep0 g4.out) STn.out.dead
            have HLS := Lib.hid hLS
            have HDS := Lib.hid hDS
            clear hLS hDS hlen
            go_wp2_with (first
              | (go_at_call 18; (with_reducible refine HLS.out.mono ?_); rintro e w' ⟨rfl, rfl⟩)
              | (go_at_call 20; (with_reducible refine HDS.out.mono ?_); rintro e w' ⟨rfl, rfl⟩)
              | fail)
            go_roundw
            case rel => exact ⟨j + 1, b1, V, by omega, by omega, by go_num, rfl, kS, _, N + qS, m1, eS.out.trans DPn.out, hPS.out.keep0 g4.out, rfl, STn.out.looked qS hokS.out false, by omega, ARn.out, SLn.out, REn, HM3.out.keep0 g4.out, by omega, fun e => NBn.out (hfS.out _ e), by omega, LOn.out, gb_trans GS.out g4.out⟩
            case measure => simp [intOf]; omega
        · have hm5 : (((le.toNat : Nat) : Int) % 5 == 0) = false := by simp; omega
          clear hle
          go_wp2_with (first
            | (go_at_call 12; (with_reducible refine HLy.out.mono ?_); rintro e w8 ⟨rfl, hLd⟩; obtain ⟨n8, m8, T8, V8, hn8, hm8, hMd, hLo8⟩ := hLd; have hMd := Lib.hid hMd; have hLo8 := Lib.hid hLo8; have G8 := Lib.hid (hMd.out.gb G7.out z1 (by omega)); have cw8 := G8.out.cell C1.out (by simp))
            | (go_at_call 18; (with_reducible refine (left_is hMd.out.tx.pg HS7.out.len ((Lf : Nat) : Int) (by rw [← HLf.out])).mono ?_); rintro e w' ⟨rfl, rfl⟩)
            | fail)
          have zb1 := HM.out.lt
          have z6r := k6.out.size
          have HM8 := Lib.hid ((HM6.out.keep0 g7.out).kp hMd.out.kp (fun e => by rcases e with (e | e | e) | e <;> omega))
          clear HLy C0 C1 cw7 cw8 HA
          have z8 := hMd.out.kp.size
          have HCo := Lib.hid (ov_commit hMd.out.tx hMd.out.ov (env_gb HE.out G8.out) (by omega) (by omega) (by omega) (by show g.r.e < 999999; omega))
          unfold ComO at HCo
          have hx1 : ¬ footX k y b1 := fun e => by
            rcases e with e | e | e | e | e
            · exact HNb.out e
            · omega
            · omega
            · omega
            · omega
          have HX1 := Lib.hid hx1
          clear hx1
          go_wp2_with (first
            | (go_at_call 14; (with_reducible refine HCo.out.mono ?_); rintro e w9 ⟨c, k9, g9, rfl, q1, q2, q3, q4, -, q6, q7, hco⟩; have q1 := Lib.hid q1; have q3 := Lib.hid q3; have q4 := Lib.hid q4; have q6 := Lib.hid q6; have q7 := Lib.hid q7; have hco := Lib.hid hco; refine hold ?_)
            | fail)
          have GU9 := Lib.hid (gb_kp G8.out q7.out (fun i hi => Nat.le_trans z1 (hMd.out.tx.ge i hi)))
          have M91 := Lib.hid (HM8.out.kp q7.out HX1.out)
          have M92 := Lib.hid (hMd.out.mp.kp q7.out HX7.out)
          have N91 := Lib.hid (show ¬ footG k9 b1 from fun e => by rcases q6.out _ e with e | e; exact HX1.out e; have := HM8.out.lt; omega)
          have N92 := Lib.hid (show ¬ footG k9 b2 from fun e => by rcases q6.out _ e with e | e; exact HX7.out e; have := hMd.out.mp.lt; omega)
          have hEp : ∀ z : Int, ((g9.r.e : Nat) : Int) = z → Calls Tryz.prog 19 #[.pointer (some ⟨k.p, 0, none⟩)] w9 (fun e w' => e = .returned (.int .u64 z) ∧ w9 = w') := fun z hz => by rw [← q1.out]; exact epoch_is q3.out z hz
          have HEp9 := Lib.hid hEp
          clear hEp HCo
          rcases hco.out with ⟨rfl, r1, r2, -, r4, r5⟩ | ⟨rfl, r1, r2, -, r5⟩ | ⟨-, r2, -⟩
          · have hre9 := r2
            have HST := Lib.hid r1
            have HAR := Lib.hid (r4 HAr.out)
            have HSL := Lib.hid (show g9.d.secs.length = 64 from r5.trans HSl.out)
            clear r1 r2 r4 r5 hco
            rcases hre9 with ⟨e9, hVV⟩ | e9
            · have HE9 := Lib.hid (HEp9.out ((ep : Nat) : Int) (by rw [e9]; show ((g.r.e : Nat) : Int) = _; rw [HEp.out]))
              have HSm9 := Lib.hid (same_any M92.out M91.out (by have := HM8.out.lt; omega))
              have HVV := Lib.hid hVV
              have hrE : g9.r.e ≤ j + 1 := by rw [e9]; show g.r.e ≤ j + 1; omega
              clear hVV e9
              unfold Hold
              go_wp2_with (first
                | (go_at_call 19; (with_reducible refine HE9.out.mono ?_); rintro e w' ⟨rfl, rfl⟩)
                | (go_at_call 17; (with_reducible refine HSm9.out.mono ?_); rintro e w10 ⟨t, rfl, ht, g10⟩; obtain rfl : t = true := ht HVV.out; have g10 := Lib.hid g10)
                | (at_len; refine hold ?_)
                | fail)
              have PGn := Lib.hid (show PgV w10 base k9 g9 from q3.out.keep0 g10.out)
              have STn := Lib.hid (show Stands g9 V8 (N + 110) from HST.out)
              have ARn := Lib.hid (show g9.d.armed = false from HAR.out)
              have SLn := Lib.hid (show g9.d.secs.length = 64 from HSL.out)
              have BZn := Lib.hid (show g9.busy = false from q4.out)
              have LOn := Lib.hid (show Low V8 from hLo8.out)
              have MPn := Lib.hid (show Mp w10 b2 m8 V8 from M92.out.keep0 g10.out)
              have NBn := Lib.hid (show ¬ footG k9 b2 from N92.out)
              have GUn := Lib.hid (show w.grownBy w10 none from gb_trans GU9.out g10.out)
              have DPn := Lib.hid (show k9.p = k.p from q1.out)
              have REn : g9.r.e ≤ j + 1 := hrE
              have zu : base ≤ w10.heap.size := Nat.le_of_lt (Nat.lt_of_le_of_lt PGn.out.bp (PGn.out.lt _ (.inl rfl)))
              obtain ⟨c, hcn⟩ : ∃ c, cntV V8 = c := ⟨_, rfl⟩
              have hlf := STn.out.left LOn.out
              rw [hcn, SLn.out] at hlf
              obtain ⟨Lg, hLg⟩ : ∃ Lg, M6.leftF g9.m = Lg := ⟨_, rfl⟩
              rw [hLg] at hlf
              have HCn := Lib.hid hcn
              have HLg := Lib.hid hLg
              have zbn := MPn.out.lt
              clear hcn hLg
              have hSt := state_any PGn.out (STn.out.shows ARn.out) BZn.out (by omega) zu
              rw [DPn.out] at hSt
              have HSt := Lib.hid hSt
              unfold StateG at HSt
              clear hSt
              by_cases hc0 : c = 0
              · rw [if_pos hc0] at hlf
                subst hc0
                have hlen := MPn.out.len pairP STn.out.sto.outV 0 (by rw [HCn.out]; rfl)
                obtain rfl : Lg = 62 := by omega
                unfold Hold
                go_wp2_with (first
                  | (go_at_call 16; (with_reducible refine HSt.out.mono ?_); rintro e u3 ⟨bs, ms, kS, qS, rfl, lbs, hms, hMS, eS, -, hqS, hPS, hokS, hfS, kpS⟩; have hMS := Lib.hid hMS; have kpS := Lib.hid kpS; have eS := Lib.hid eS; have hPS := Lib.hid hPS; have hokS := Lib.hid hokS; have hfS := Lib.hid hfS; have hqS := Lib.hid hqS)
                  | fail)
                have GS := Lib.hid (gb_kp GUn.out kpS.out (fun i hi => Nat.le_trans z1 (PGn.out.ge i hi)))
                have hq9 : qS = 0 := by rw [hqS.out, pagesN_len STn.out.sto, HCn.out]
                have HM3 := Lib.hid (MPn.out.kp kpS.out NBn.out)
                have HSm := Lib.hid (same_any hMS.out HM3.out (by omega))
                go_wp2_with (first
                  | (go_at_call 17; (with_reducible refine HSm.out.mono ?_); rintro e u4 ⟨t, rfl, ht, g4⟩; obtain rfl : t = true := ht (by first | exact rfl | trivial); have g4 := Lib.hid g4)
                  | fail)
                have hlen4 := (HM3.out.keep0 g4.out).len pairP STn.out.sto.outV 0 (by rw [HCn.out]; rfl)
                have hLS : Calls Tryz.prog 18 #[.pointer (some ⟨k.p, 0, none⟩)] u4 (fun e w' => e = .returned (.int .i64 62) ∧ u4 = w') := by rw [← DPn.out, ← eS.out]; exact left_is (hPS.out.keep0 g4.out) STn.out.len _ (by show ((M6.leftF g9.m : Nat) : Int) = _; rw [HLg.out]; rfl)
                have hDS : Calls Tryz.prog 20 #[.pointer (some ⟨k.p, 0, none⟩)] u4 (fun e w' => e = .returned (.bool false) ∧ u4 = w') := by rw [← DPn.out, ← eS.out]; exact dead_is (hPS.out.keep0 g4.out) STn.out.dead
                have HLS := Lib.hid hLS
                have HDS := Lib.hid hDS
                clear hLS hDS hlen
                go_wp2_with (first
                  | (go_at_call 18; (with_reducible refine HLS.out.mono ?_); rintro e w' ⟨rfl, rfl⟩)
                  | (go_at_call 20; (with_reducible refine HDS.out.mono ?_); rintro e w' ⟨rfl, rfl⟩)
                  | fail)
                go_roundw
                case rel => exact ⟨j + 1, b2, V8, by omega, by omega, by go_num, rfl, kS, _, N + 110 + qS, m8, eS.out.trans DPn.out, hPS.out.keep0 g4.out, rfl, STn.out.looked qS hokS.out false, by omega, ARn.out, SLn.out, REn, HM3.out.keep0 g4.out, by omega, fun e => NBn.out (hfS.out _ e), by omega, LOn.out, gb_trans GS.out g4.out⟩
                case measure => simp [intOf]; omega
              · rw [if_neg hc0] at hlf
                have hlen := MPn.out.len pairP STn.out.sto.outV ((c : Nat) : Int) (by rw [HCn.out])
                have hc1 : (0 : Int) < ((c : Nat) : Int) := by omega
                have hd1 : (61 : Int) - ((c : Nat) : Int) = ((Lg : Nat) : Int) := by omega
                have hd2 : IntKind.i64.wrap ((Lg : Nat) : Int) = ((Lg : Nat) : Int) := IntWalk.i64_in _ (by omega)
                unfold Hold
                go_wp2_with (first
                  | (go_at_call 16; (with_reducible refine HSt.out.mono ?_); rintro e u3 ⟨bs, ms, kS, qS, rfl, lbs, hms, hMS, eS, -, hqS, hPS, hokS, hfS, kpS⟩; have hMS := Lib.hid hMS; have kpS := Lib.hid kpS; have eS := Lib.hid eS; have hPS := Lib.hid hPS; have hokS := Lib.hid hokS; have hfS := Lib.hid hfS; have hqS := Lib.hid hqS)
                  | fail)
                have GS := Lib.hid (gb_kp GUn.out kpS.out (fun i hi => Nat.le_trans z1 (PGn.out.ge i hi)))
                have hq9 : qS = c := by rw [hqS.out, pagesN_len STn.out.sto, HCn.out]
                have HM3 := Lib.hid (MPn.out.kp kpS.out NBn.out)
                have HSm := Lib.hid (same_any hMS.out HM3.out (by omega))
                go_wp2_with (first
                  | (go_at_call 17; (with_reducible refine HSm.out.mono ?_); rintro e u4 ⟨t, rfl, ht, g4⟩; obtain rfl : t = true := ht (by first | exact rfl | trivial); have g4 := Lib.hid g4)
                  | fail)
                have hlen4 := (HM3.out.keep0 g4.out).len pairP STn.out.sto.outV ((c : Nat) : Int) (by rw [HCn.out])
                have hLS : Calls Tryz.prog 18 #[.pointer (some ⟨k.p, 0, none⟩)] u4 (fun e w' => e = .returned (.int .i64 ((Lg : Nat) : Int)) ∧ u4 = w') := by rw [← DPn.out, ← eS.out]; exact left_is (hPS.out.keep0 g4.out) STn.out.len _ (by show ((M6.leftF g9.m : Nat) : Int) = _; rw [HLg.out])
                have hDS : Calls Tryz.prog 20 #[.pointer (some ⟨k.p, 0, none⟩)] u4 (fun e w' => e = .returned (.bool false) ∧ u4 = w') := by rw [← DPn.out, ← eS.out]; exact dead_is (hPS.out.keep0 g4.out) STn.out.dead
                have HLS := Lib.hid hLS
                have HDS := Lib.hid hDS
                clear hLS hDS hlen
                go_wp2_with (first
                  | (go_at_call 18; (with_reducible refine HLS.out.mono ?_); rintro e w' ⟨rfl, rfl⟩)
                  | (go_at_call 20; (with_reducible refine HDS.out.mono ?_); rintro e w' ⟨rfl, rfl⟩)
                  | fail)
                go_roundw
                case rel => exact ⟨j + 1, b2, V8, by omega, by omega, by go_num, rfl, kS, _, N + 110 + qS, m8, eS.out.trans DPn.out, hPS.out.keep0 g4.out, rfl, STn.out.looked qS hokS.out false, by omega, ARn.out, SLn.out, REn, HM3.out.keep0 g4.out, by omega, fun e => NBn.out (hfS.out _ e), by omega, LOn.out, gb_trans GS.out g4.out⟩
                case measure => simp [intOf]; omega
            · obtain ⟨ep1, hep1⟩ : ∃ ep1 : Nat, ep1 = ep + 1 := ⟨_, rfl⟩
              have HE9 := Lib.hid (HEp9.out ((ep1 : Nat) : Int) (by rw [e9]; show ((g.r.e + 1 : Nat) : Int) = _; rw [HEp.out, hep1]))
              have hs1 : ((ep : Nat) : Int) + 1 = ((ep1 : Nat) : Int) := by omega
              have hs2 : IntKind.u64.wrap ((ep1 : Nat) : Int) = ((ep1 : Nat) : Int) := IntWalk.u64_in _ (by omega)
              have hs3 : (((ep1 : Nat) : Int) == ((ep : Nat) : Int)) = false := by simp; omega
              have hrE : g9.r.e ≤ j + 1 := by rw [e9]; show g.r.e + 1 ≤ j + 1; omega
              clear e9 hep1
              unfold Hold
              go_wp2_with (first
                | (go_at_call 19; (with_reducible refine HE9.out.mono ?_); rintro e w' ⟨rfl, rfl⟩)
                | (at_len; refine hold ?_)
                | fail)
              have PGn := Lib.hid (show PgV w9 base k9 g9 from q3.out)
              have STn := Lib.hid (show Stands g9 V8 (N + 110) from HST.out)
              have ARn := Lib.hid (show g9.d.armed = false from HAR.out)
              have SLn := Lib.hid (show g9.d.secs.length = 64 from HSL.out)
              have BZn := Lib.hid (show g9.busy = false from q4.out)
              have LOn := Lib.hid (show Low V8 from hLo8.out)
              have MPn := Lib.hid (show Mp w9 b2 m8 V8 from M92.out)
              have NBn := Lib.hid (show ¬ footG k9 b2 from N92.out)
              have GUn := Lib.hid (show w.grownBy w9 none from GU9.out)
              have DPn := Lib.hid (show k9.p = k.p from q1.out)
              have REn : g9.r.e ≤ j + 1 := hrE
              have zu : base ≤ w9.heap.size := Nat.le_of_lt (Nat.lt_of_le_of_lt PGn.out.bp (PGn.out.lt _ (.inl rfl)))
              obtain ⟨c, hcn⟩ : ∃ c, cntV V8 = c := ⟨_, rfl⟩
              have hlf := STn.out.left LOn.out
              rw [hcn, SLn.out] at hlf
              obtain ⟨Lg, hLg⟩ : ∃ Lg, M6.leftF g9.m = Lg := ⟨_, rfl⟩
              rw [hLg] at hlf
              have HCn := Lib.hid hcn
              have HLg := Lib.hid hLg
              have zbn := MPn.out.lt
              clear hcn hLg
              have hSt := state_any PGn.out (STn.out.shows ARn.out) BZn.out (by omega) zu
              rw [DPn.out] at hSt
              have HSt := Lib.hid hSt
              unfold StateG at HSt
              clear hSt
              by_cases hc0 : c = 0
              · rw [if_pos hc0] at hlf
                subst hc0
                have hlen := MPn.out.len pairP STn.out.sto.outV 0 (by rw [HCn.out]; rfl)
                obtain rfl : Lg = 62 := by omega
                unfold Hold
                go_wp2_with (first
                  | (go_at_call 16; (with_reducible refine HSt.out.mono ?_); rintro e u3 ⟨bs, ms, kS, qS, rfl, lbs, hms, hMS, eS, -, hqS, hPS, hokS, hfS, kpS⟩; have hMS := Lib.hid hMS; have kpS := Lib.hid kpS; have eS := Lib.hid eS; have hPS := Lib.hid hPS; have hokS := Lib.hid hokS; have hfS := Lib.hid hfS; have hqS := Lib.hid hqS)
                  | fail)
                have GS := Lib.hid (gb_kp GUn.out kpS.out (fun i hi => Nat.le_trans z1 (PGn.out.ge i hi)))
                have hq9 : qS = 0 := by rw [hqS.out, pagesN_len STn.out.sto, HCn.out]
                have HM3 := Lib.hid (MPn.out.kp kpS.out NBn.out)
                have HSm := Lib.hid (same_any hMS.out HM3.out (by omega))
                go_wp2_with (first
                  | (go_at_call 17; (with_reducible refine HSm.out.mono ?_); rintro e u4 ⟨t, rfl, ht, g4⟩; obtain rfl : t = true := ht (by first | exact rfl | trivial); have g4 := Lib.hid g4)
                  | fail)
                have hlen4 := (HM3.out.keep0 g4.out).len pairP STn.out.sto.outV 0 (by rw [HCn.out]; rfl)
                have hLS : Calls Tryz.prog 18 #[.pointer (some ⟨k.p, 0, none⟩)] u4 (fun e w' => e = .returned (.int .i64 62) ∧ u4 = w') := by rw [← DPn.out, ← eS.out]; exact left_is (hPS.out.keep0 g4.out) STn.out.len _ (by show ((M6.leftF g9.m : Nat) : Int) = _; rw [HLg.out]; rfl)
                have hDS : Calls Tryz.prog 20 #[.pointer (some ⟨k.p, 0, none⟩)] u4 (fun e w' => e = .returned (.bool false) ∧ u4 = w') := by rw [← DPn.out, ← eS.out]; exact dead_is (hPS.out.keep0 g4.out) STn.out.dead
                have HLS := Lib.hid hLS
                have HDS := Lib.hid hDS
                clear hLS hDS hlen
                go_wp2_with (first
                  | (go_at_call 18; (with_reducible refine HLS.out.mono ?_); rintro e w' ⟨rfl, rfl⟩)
                  | (go_at_call 20; (with_reducible refine HDS.out.mono ?_); rintro e w' ⟨rfl, rfl⟩)
                  | fail)
                go_roundw
                case rel => exact ⟨j + 1, b2, V8, by omega, by omega, by go_num, rfl, kS, _, N + 110 + qS, m8, eS.out.trans DPn.out, hPS.out.keep0 g4.out, rfl, STn.out.looked qS hokS.out false, by omega, ARn.out, SLn.out, REn, HM3.out.keep0 g4.out, by omega, fun e => NBn.out (hfS.out _ e), by omega, LOn.out, gb_trans GS.out g4.out⟩
                case measure => simp [intOf]; omega
              · rw [if_neg hc0] at hlf
                have hlen := MPn.out.len pairP STn.out.sto.outV ((c : Nat) : Int) (by rw [HCn.out])
                have hc1 : (0 : Int) < ((c : Nat) : Int) := by omega
                have hd1 : (61 : Int) - ((c : Nat) : Int) = ((Lg : Nat) : Int) := by omega
                have hd2 : IntKind.i64.wrap ((Lg : Nat) : Int) = ((Lg : Nat) : Int) := IntWalk.i64_in _ (by omega)
                unfold Hold
                go_wp2_with (first
                  | (go_at_call 16; (with_reducible refine HSt.out.mono ?_); rintro e u3 ⟨bs, ms, kS, qS, rfl, lbs, hms, hMS, eS, -, hqS, hPS, hokS, hfS, kpS⟩; have hMS := Lib.hid hMS; have kpS := Lib.hid kpS; have eS := Lib.hid eS; have hPS := Lib.hid hPS; have hokS := Lib.hid hokS; have hfS := Lib.hid hfS; have hqS := Lib.hid hqS)
                  | fail)
                have GS := Lib.hid (gb_kp GUn.out kpS.out (fun i hi => Nat.le_trans z1 (PGn.out.ge i hi)))
                have hq9 : qS = c := by rw [hqS.out, pagesN_len STn.out.sto, HCn.out]
                have HM3 := Lib.hid (MPn.out.kp kpS.out NBn.out)
                have HSm := Lib.hid (same_any hMS.out HM3.out (by omega))
                go_wp2_with (first
                  | (go_at_call 17; (with_reducible refine HSm.out.mono ?_); rintro e u4 ⟨t, rfl, ht, g4⟩; obtain rfl : t = true := ht (by first | exact rfl | trivial); have g4 := Lib.hid g4)
                  | fail)
                have hlen4 := (HM3.out.keep0 g4.out).len pairP STn.out.sto.outV ((c : Nat) : Int) (by rw [HCn.out])
                have hLS : Calls Tryz.prog 18 #[.pointer (some ⟨k.p, 0, none⟩)] u4 (fun e w' => e = .returned (.int .i64 ((Lg : Nat) : Int)) ∧ u4 = w') := by rw [← DPn.out, ← eS.out]; exact left_is (hPS.out.keep0 g4.out) STn.out.len _ (by show ((M6.leftF g9.m : Nat) : Int) = _; rw [HLg.out])
                have hDS : Calls Tryz.prog 20 #[.pointer (some ⟨k.p, 0, none⟩)] u4 (fun e w' => e = .returned (.bool false) ∧ u4 = w') := by rw [← DPn.out, ← eS.out]; exact dead_is (hPS.out.keep0 g4.out) STn.out.dead
                have HLS := Lib.hid hLS
                have HDS := Lib.hid hDS
                clear hLS hDS hlen
                go_wp2_with (first
                  | (go_at_call 18; (with_reducible refine HLS.out.mono ?_); rintro e w' ⟨rfl, rfl⟩)
                  | (go_at_call 20; (with_reducible refine HDS.out.mono ?_); rintro e w' ⟨rfl, rfl⟩)
                  | fail)
                go_roundw
                case rel => exact ⟨j + 1, b2, V8, by omega, by omega, by go_num, rfl, kS, _, N + 110 + qS, m8, eS.out.trans DPn.out, hPS.out.keep0 g4.out, rfl, STn.out.looked qS hokS.out false, by omega, ARn.out, SLn.out, REn, HM3.out.keep0 g4.out, by omega, fun e => NBn.out (hfS.out _ e), by omega, LOn.out, gb_trans GS.out g4.out⟩
                case measure => simp [intOf]; omega
          · have HST := Lib.hid r1
            have HAR := Lib.hid (show g9.d.armed = false from by rw [r5]; exact HAr.out)
            have HSL := Lib.hid (show g9.d.secs.length = 64 from by rw [r5]; exact HSl.out)
            have HE9 := Lib.hid (HEp9.out ((ep : Nat) : Int) (by rw [r2]; show ((g.r.e : Nat) : Int) = _; rw [HEp.out]))
            have hrE : g9.r.e ≤ j + 1 := by rw [r2]; show g.r.e ≤ j + 1; omega
            clear r1 r2 r5 hco
            unfold Hold
            go_wp2_with (first
              | (go_at_call 19; (with_reducible refine HE9.out.mono ?_); rintro e w' ⟨rfl, rfl⟩)
              | (at_len; refine hold ?_)
              | fail)
            have PGn := Lib.hid (show PgV w9 base k9 g9 from q3.out)
            have STn := Lib.hid (show Stands g9 V N from HST.out)
            have ARn := Lib.hid (show g9.d.armed = false from HAR.out)
            have SLn := Lib.hid (show g9.d.secs.length = 64 from HSL.out)
            have BZn := Lib.hid (show g9.busy = false from q4.out)
            have LOn := Lib.hid (show Low V from HLo.out)
            have MPn := Lib.hid (show Mp w9 b1 m1 V from M91.out)
            have NBn := Lib.hid (show ¬ footG k9 b1 from N91.out)
            have GUn := Lib.hid (show w.grownBy w9 none from GU9.out)
            have DPn := Lib.hid (show k9.p = k.p from q1.out)
            have REn : g9.r.e ≤ j + 1 := hrE
            have zu : base ≤ w9.heap.size := Nat.le_of_lt (Nat.lt_of_le_of_lt PGn.out.bp (PGn.out.lt _ (.inl rfl)))
            obtain ⟨c, hcn⟩ : ∃ c, cntV V = c := ⟨_, rfl⟩
            have hlf := STn.out.left LOn.out
            rw [hcn, SLn.out] at hlf
            obtain ⟨Lg, hLg⟩ : ∃ Lg, M6.leftF g9.m = Lg := ⟨_, rfl⟩
            rw [hLg] at hlf
            have HCn := Lib.hid hcn
            have HLg := Lib.hid hLg
            have zbn := MPn.out.lt
            clear hcn hLg
            have hSt := state_any PGn.out (STn.out.shows ARn.out) BZn.out (by omega) zu
            rw [DPn.out] at hSt
            have HSt := Lib.hid hSt
            unfold StateG at HSt
            clear hSt
            by_cases hc0 : c = 0
            · rw [if_pos hc0] at hlf
              subst hc0
              have hlen := MPn.out.len pairP STn.out.sto.outV 0 (by rw [HCn.out]; rfl)
              obtain rfl : Lg = 62 := by omega
              unfold Hold
              go_wp2_with (first
                | (go_at_call 16; (with_reducible refine HSt.out.mono ?_); rintro e u3 ⟨bs, ms, kS, qS, rfl, lbs, hms, hMS, eS, -, hqS, hPS, hokS, hfS, kpS⟩; have hMS := Lib.hid hMS; have kpS := Lib.hid kpS; have eS := Lib.hid eS; have hPS := Lib.hid hPS; have hokS := Lib.hid hokS; have hfS := Lib.hid hfS; have hqS := Lib.hid hqS)
                | fail)
              have GS := Lib.hid (gb_kp GUn.out kpS.out (fun i hi => Nat.le_trans z1 (PGn.out.ge i hi)))
              have hq9 : qS = 0 := by rw [hqS.out, pagesN_len STn.out.sto, HCn.out]
              have HM3 := Lib.hid (MPn.out.kp kpS.out NBn.out)
              have HSm := Lib.hid (same_any hMS.out HM3.out (by omega))
              go_wp2_with (first
                | (go_at_call 17; (with_reducible refine HSm.out.mono ?_); rintro e u4 ⟨t, rfl, ht, g4⟩; obtain rfl : t = true := ht (by first | exact rfl | trivial); have g4 := Lib.hid g4)
                | fail)
              have hlen4 := (HM3.out.keep0 g4.out).len pairP STn.out.sto.outV 0 (by rw [HCn.out]; rfl)
              have hLS : Calls Tryz.prog 18 #[.pointer (some ⟨k.p, 0, none⟩)] u4 (fun e w' => e = .returned (.int .i64 62) ∧ u4 = w') := by rw [← DPn.out, ← eS.out]; exact left_is (hPS.out.keep0 g4.out) STn.out.len _ (by show ((M6.leftF g9.m : Nat) : Int) = _; rw [HLg.out]; rfl)
              have hDS : Calls Tryz.prog 20 #[.pointer (some ⟨k.p, 0, none⟩)] u4 (fun e w' => e = .returned (.bool false) ∧ u4 = w') := by rw [← DPn.out, ← eS.out]; exact dead_is (hPS.out.keep0 g4.out) STn.out.dead
              have HLS := Lib.hid hLS
              have HDS := Lib.hid hDS
              clear hLS hDS hlen
              go_wp2_with (first
                | (go_at_call 18; (with_reducible refine HLS.out.mono ?_); rintro e w' ⟨rfl, rfl⟩)
                | (go_at_call 20; (with_reducible refine HDS.out.mono ?_); rintro e w' ⟨rfl, rfl⟩)
                | fail)
              go_roundw
              case rel => exact ⟨j + 1, b1, V, by omega, by omega, by go_num, rfl, kS, _, N + qS, m1, eS.out.trans DPn.out, hPS.out.keep0 g4.out, rfl, STn.out.looked qS hokS.out false, by omega, ARn.out, SLn.out, REn, HM3.out.keep0 g4.out, by omega, fun e => NBn.out (hfS.out _ e), by omega, LOn.out, gb_trans GS.out g4.out⟩
              case measure => simp [intOf]; omega
            · rw [if_neg hc0] at hlf
              have hlen := MPn.out.len pairP STn.out.sto.outV ((c : Nat) : Int) (by rw [HCn.out])
              have hc1 : (0 : Int) < ((c : Nat) : Int) := by omega
              have hd1 : (61 : Int) - ((c : Nat) : Int) = ((Lg : Nat) : Int) := by omega
              have hd2 : IntKind.i64.wrap ((Lg : Nat) : Int) = ((Lg : Nat) : Int) := IntWalk.i64_in _ (by omega)
              unfold Hold
              go_wp2_with (first
                | (go_at_call 16; (with_reducible refine HSt.out.mono ?_); rintro e u3 ⟨bs, ms, kS, qS, rfl, lbs, hms, hMS, eS, -, hqS, hPS, hokS, hfS, kpS⟩; have hMS := Lib.hid hMS; have kpS := Lib.hid kpS; have eS := Lib.hid eS; have hPS := Lib.hid hPS; have hokS := Lib.hid hokS; have hfS := Lib.hid hfS; have hqS := Lib.hid hqS)
                | fail)
              have GS := Lib.hid (gb_kp GUn.out kpS.out (fun i hi => Nat.le_trans z1 (PGn.out.ge i hi)))
              have hq9 : qS = c := by rw [hqS.out, pagesN_len STn.out.sto, HCn.out]
              have HM3 := Lib.hid (MPn.out.kp kpS.out NBn.out)
              have HSm := Lib.hid (same_any hMS.out HM3.out (by omega))
              go_wp2_with (first
                | (go_at_call 17; (with_reducible refine HSm.out.mono ?_); rintro e u4 ⟨t, rfl, ht, g4⟩; obtain rfl : t = true := ht (by first | exact rfl | trivial); have g4 := Lib.hid g4)
                | fail)
              have hlen4 := (HM3.out.keep0 g4.out).len pairP STn.out.sto.outV ((c : Nat) : Int) (by rw [HCn.out])
              have hLS : Calls Tryz.prog 18 #[.pointer (some ⟨k.p, 0, none⟩)] u4 (fun e w' => e = .returned (.int .i64 ((Lg : Nat) : Int)) ∧ u4 = w') := by rw [← DPn.out, ← eS.out]; exact left_is (hPS.out.keep0 g4.out) STn.out.len _ (by show ((M6.leftF g9.m : Nat) : Int) = _; rw [HLg.out])
              have hDS : Calls Tryz.prog 20 #[.pointer (some ⟨k.p, 0, none⟩)] u4 (fun e w' => e = .returned (.bool false) ∧ u4 = w') := by rw [← DPn.out, ← eS.out]; exact dead_is (hPS.out.keep0 g4.out) STn.out.dead
              have HLS := Lib.hid hLS
              have HDS := Lib.hid hDS
              clear hLS hDS hlen
              go_wp2_with (first
                | (go_at_call 18; (with_reducible refine HLS.out.mono ?_); rintro e w' ⟨rfl, rfl⟩)
                | (go_at_call 20; (with_reducible refine HDS.out.mono ?_); rintro e w' ⟨rfl, rfl⟩)
                | fail)
              go_roundw
              case rel => exact ⟨j + 1, b1, V, by omega, by omega, by go_num, rfl, kS, _, N + qS, m1, eS.out.trans DPn.out, hPS.out.keep0 g4.out, rfl, STn.out.looked qS hokS.out false, by omega, ARn.out, SLn.out, REn, HM3.out.keep0 g4.out, by omega, fun e => NBn.out (hfS.out _ e), by omega, LOn.out, gb_trans GS.out g4.out⟩
              case measure => simp [intOf]; omega
          · have h1 : g.d.armed = true := r2
            rw [HAr.out] at h1; cases h1
    · by_cases hlt : j < LL
      · have h10 : ¬ j < 10 := fun e => hin ⟨hlt, e⟩
        clear hin
        go_wp2
        go_ret
        exact ⟨rfl, Hg.out⟩
      · clear hin
        go_wp2
        go_ret
        exact ⟨rfl, Hg.out⟩
end Go.Proofs.YtjbfooaembpdfaaGreatDoor.J10
