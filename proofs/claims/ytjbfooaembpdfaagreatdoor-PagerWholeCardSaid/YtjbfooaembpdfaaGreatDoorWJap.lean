/-
  PagerWhole's walk: the stage's theorem, over this seat's translation; conditions: the listed variables are laid, rounds and choices read as lists.
-/
import Derived.Test.YtjbfooaembpdfaaGreatDoorZJ6
set_option linter.unusedSimpArgs false
set_option linter.unusedVariables false
namespace Go.Proofs.YtjbfooaembpdfaaGreatDoor.J10
open Go.RowKit Go.Maps
/-- What stands between two rounds. -/
def Wh (w : World) (base dp p0 j b1 : Nat) (V : Pgs) (wr : World) : Prop :=
  ∃ k g N m1, k.p = p0 ∧ k.dp = dp ∧ PgV wr base k g ∧ g.busy = false ∧ Stands g V N ∧ N ≤ 10 + 110 * j ∧ g.r.e ≤ j ∧ Mp wr b1 m1 V ∧ m1 ≤ 30 * j ∧ ¬ footG k b1 ∧ w.heap.size ≤ b1 ∧ Low V ∧ w.grownBy wr none
set_option maxRecDepth 100000 in
set_option maxHeartbeats 8000000 in
theorem whole_walk {w : World} (hE : Env w) (hMs : D5.Masks w) (h5 : 5 ≤ w.heap.size) {vl : Value} {l : List Rnd} (hL : Rds w vl l) {when : Nat} (hw : when < 65536) {vc : Value} {cs : List UInt8} (hc : Bts w vc cs) :
    Calls Tryz.prog 3 #[vl, .int .u16 (when : Nat), vc] w fun e w' => e = .returned (.bool true) ∧ w.grownBy w' none := by
  obtain ⟨⟨ao, cap, rfl, _, _, hna, hxa⟩, hAc⟩ := hL
  have HX := Lib.hid (And.intro hna (And.intro hxa hAc))
  have HE := Lib.hid hE
  have HMs := Lib.hid hMs
  have HC := Lib.hid hc
  obtain ⟨co, ccap, rfl, -⟩ := hc
  obtain ⟨CL, hCL⟩ : ∃ CL, cs.length = CL := ⟨_, rfl⟩
  rw [hCL] at HC ⊢
  clear hna hxa hAc hE hMs hCL
  obtain ⟨LL, hLL⟩ : ∃ LL, l.length = LL := ⟨_, rfl⟩
  have HLL := Lib.hid hLL
  rw [hLL]
  clear hLL
  obtain ⟨n0, hn0⟩ : ∃ n0 : Nat, n0 = 64 + when % 9 := ⟨_, rfl⟩
  obtain ⟨t0, ht0⟩ : ∃ t0 : Nat, t0 = when % 300 := ⟨_, rfl⟩
  have a1 : IntKind.i64.wrap ((when : Nat) : Int) = ((when : Nat) : Int) := IntWalk.i64_in _ (by omega)
  have a2 : 64 + ((when : Nat) : Int) % 9 = ((n0 : Nat) : Int) := by omega
  have a2t : 64 + ((when : Nat) : Int).tmod 9 = ((n0 : Nat) : Int) := by rw [Int.tmod_eq_emod_of_nonneg (by omega)]; omega
  have a3 : IntKind.i64.wrap ((n0 : Nat) : Int) = ((n0 : Nat) : Int) := IntWalk.i64_in _ (by omega)
  have a4 : ((when : Nat) : Int) % 300 = ((t0 : Nat) : Int) := by omega
  have a4t : ((when : Nat) : Int).tmod 300 = ((t0 : Nat) : Int) := by rw [Int.tmod_eq_emod_of_nonneg (by omega)]; omega
  have hn1 : 64 ≤ n0 := by omega
  have hn2 : n0 ≤ 72 := by omega
  have ht3 : t0 ≤ 300 := by omega
  clear hn0 ht0
  have HWk := Lib.hid (works_any HE.out h5)
  have hmm := @run_makeMap Tryz.prog
  go_enter Tryz.func3, Tryz.ntmps3
  go_wp2_with (first
    | (go_at_call 6; (with_reducible refine HWk.out.mono ?_); rintro e w1 ⟨rfl, g1⟩; have g1 := Lib.hid g1)
    | (go_at_call 7; (with_reducible refine (D5.dnew_any n0 w1 hn1 (by omega)).mono ?_); rintro e w2 ⟨p, rfl, hP, g2⟩; have hP := Lib.hid hP; have g2 := Lib.hid g2)
    | fail)
  have z1 := g1.out.size
  have z2 := g2.out.size
  have G2 := Lib.hid (gb_trans g1.out g2.out)
  have HO := Lib.hid (ov_fresh hP.out hn1 (by omega) (env_gb HE.out G2.out) z2 (fun i hi => ⟨by have := hi.1; omega, hi.2⟩))
  go_wp2_with (first
    | (go_at_call 8; (with_reducible refine HO.out.mono ?_); rintro e w3 ⟨k, g, rfl, hG, hS, hbz, -, -, hre, -, -, -, hdp, hft, hk3⟩; have hG := Lib.hid hG; have hS := Lib.hid hS; have hbz := Lib.hid hbz; have hre := Lib.hid hre; have hk3 := Lib.hid hk3)
    | fail)
  have G3 := Lib.hid (gb_kp G2.out hk3.out (fun i hi => by have := hi.1; omega))
  have HAr := arm_pg hG.out ((t0 : Nat) : Int)
  rw [hdp] at HAr
  have HAr := Lib.hid HAr
  clear HO hft a1 a2 a2t a3
  go_wp2_with (first
    | (go_at_call 9; (with_reducible refine HAr.out.mono ?_); rintro e w4 ⟨rfl, k4, e1, e2, h4, f4, kp4⟩; have h4 := Lib.hid h4; have f4 := Lib.hid f4; have kp4 := Lib.hid kp4; have E1 := Lib.hid e1; have E2 := Lib.hid e2; clear e1 e2)
    | fail)
  have bk : ∀ i, footG k i → w.heap.size ≤ i := fun i hi => Nat.le_trans z1 (hG.out.ge i hi)
  have G4 := Lib.hid (gb_kp G3.out kp4.out bk)
  have gA := gb_alloc w4 (.map #[] 0) none
  have gB := gb_alloc (w4.alloc (.map #[] 0)) (.map #[] 0) none
  have hM5 : Mp ((w4.alloc (.map #[] 0)).alloc (.map #[] 0)) w4.heap.size 0 (fun _ => none) := (Mp.made w4).keep0 gB
  have hW0 : Wh w w1.heap.size p k.p 0 w4.heap.size (fun _ => none) ((w4.alloc (.map #[] 0)).alloc (.map #[] 0)) :=
    ⟨k4, _, 10, 0, E1.out, E2.out, h4.out.keep0 (gb_trans gA gB), hbz.out, hS.out.arm (by omega), by omega, by show g.r.e ≤ 0; rw [hre.out]; exact Nat.le_refl _, hM5, by omega, fun e => by have := h4.out.lt _ e; omega, G4.out.size, low_nil, gb_trans G4.out (gb_trans gA gB)⟩
  have HW0 := Lib.hid hW0
  obtain ⟨p0, hp0⟩ : ∃ p0, k.p = p0 := ⟨_, rfl⟩
  rw [hp0] at HW0 ⊢
  obtain ⟨base, hbase⟩ : ∃ base, w1.heap.size = base := ⟨_, rfl⟩
  rw [hbase] at HW0 z1
  clear hW0 hM5 gA gB bk HAr hdp hp0 hbase hP g2 z2 HWk a4 a4t
  go_loopw [10, 12] (fun v10 v12 wr => ∃ (j b1 : Nat) (V : Pgs), j ≤ LL ∧ j ≤ 12 ∧ v12 = .int .i64 (j : Nat) ∧ v10 = .map (some b1) ∧ Wh w base p p0 j b1 V wr) (fun _ v12 _ => LL - (intOf v12).toNat)
  case atStart => exact ⟨0, _, _, by omega, by omega, rfl, rfl, HW0.out⟩
  case round =>
    obtain ⟨j, b1, V, hj, hj12, rfl, rfl, k, g, N, m1, e1, e2, hG, hbz, hS, hN, hre, hM, hm1, hnb, hb1, hlo, hg⟩ := hrel
    subst e1
    subst e2
    have HG := Lib.hid hG
    have HBz := Lib.hid hbz
    have HS := Lib.hid hS
    have HM := Lib.hid hM
    have HNb := Lib.hid hnb
    have HLo := Lib.hid hlo
    have Hg := Lib.hid hg
    clear hG hbz hS hM hnb hlo hg HW0
    have zr := Hg.out.size
    by_cases hin : j < LL ∧ j < 12
    · obtain ⟨hlt, h12⟩ := hin
      cases ao with
      | none => have := (HX.out.1 rfl).1; rw [HLL.out] at this; omega
      | some x =>
        have hlt' : j < l.length := by rw [HLL.out]; exact hlt
        obtain ⟨ao2, cap2, hv2, -⟩ := HX.out.2.2 l[j] (List.getElem_mem hlt')
        have hA := HX.out.2.2 l[j] (List.getElem_mem hlt')
        have c0 := HX.out.2.1 x rfl _ _ (rdsC_at l j hlt' 0 (by omega))
        have c1 := HX.out.2.1 x rfl _ _ (rdsC_at l j hlt' 1 (by omega))
        rw [Nat.add_zero] at c0
        rw [show x.add (j * 2 + 1) = (x.add (j * 2)).add 1 from (add_add _ _ _).symm] at c1
        replace c0 : w.cell? (x.add (j * 2)) = some l[j].v := c0
        replace c1 : w.cell? ⟨(x.add (j * 2)).block, (x.add (j * 2)).off + 1, none⟩ = some (.int .u8 (l[j].lets.toNat : Nat)) := c1
        obtain ⟨AL, hAL⟩ : ∃ AL, l[j].acts.length = AL := ⟨_, rfl⟩
        rw [hAL] at hv2
        rw [hv2] at c0 hA
        generalize l[j].acts = al at hA hAL
        generalize l[j].lets = le at c1
        have C0 := Lib.hid c0
        have C1 := Lib.hid c1
        have HA := Lib.hid hA
        clear hlt' hv2 c0 c1 hA hAL
        have zb : base ≤ wr.heap.size := Nat.le_of_lt (Nat.lt_of_le_of_lt HG.out.bp (HG.out.lt _ (.inl rfl)))
        have HBg := Lib.hid (begin_any HG.out HS.out.dead HBz.out zb)
        unfold BeginGot at HBg
        go_wp2_with (first
          | (go_at_call 10; (with_reducible refine HBg.out.mono ?_); rintro e w6 ⟨y, rfl, h6, k6, lx, ltb, lmb, lbm⟩; have h6 := Lib.hid h6; have k6 := Lib.hid k6)
          | fail)
        have hM6 : Mp w6 b1 m1 V := HM.out.kp k6.out (fun e => HNb.out (.inl e))
        have HM6 := Lib.hid hM6
        have HCp := Lib.hid (copied_map hM6 (by omega))
        have zp : w.heap.size ≤ k.p := Nat.le_trans z1 HG.out.bp
        have G6 := Lib.hid (gb_kp Hg.out k6.out (fun i hi => by rw [hi]; exact zp))
        clear hM6 HBg
        go_wp2_with (first
          | (go_at_call 11; (with_reducible refine HCp.out.mono ?_); rintro e w7 ⟨b2, rfl, hb2, hM7, g7⟩; have hM7 := Lib.hid hM7; have cw7 := (gb_trans G6.out g7).cell C0.out (by simp); have g7 := Lib.hid g7)
          | fail)
        have z6 := G6.out.size
        have z67 := g7.out.size
        have G7 := Lib.hid (gb_trans G6.out g7.out)
        have h7 := h6.out.keep0 g7.out
        have hx7 : ¬ footX k y b2 := fun e => by have := h6.out.lt _ e; omega
        have HX7 := Lib.hid hx7
        have H7 := Lib.hid h7
        have hE7 := env_gb HE.out G7.out
        have HS7 := Lib.hid (HS.out.busy true)
        have HLy := Lib.hid (lawLay_any (w0 := w) (m := m1) h7 (Over.new HS7.out) hE7.tab (by omega) hM7.out (by omega) hx7 HLo.out (by omega) z1 h5 G7.out HA.out)
        clear h7 hx7 hE7 HCp
        by_cases hle : le.toNat % 5 = 0
        · have hm5 : ((le.toNat : Nat) : Int) % 5 = 0 := by omega
          clear hle
          go_wp2_with (first
            | (go_at_call 12; (with_reducible refine HLy.out.mono ?_); rintro e w8 ⟨rfl, hLd⟩; obtain ⟨n8, m8, T8, V8, hn8, hm8, hMd, hLo8⟩ := hLd; have hMd := Lib.hid hMd; have hLo8 := Lib.hid hLo8; have G8 := Lib.hid (hMd.out.gb G7.out z1 (by omega)); have cw8 := G8.out.cell C1.out (by simp))
            | fail)
          have zb1 := HM.out.lt
          have z6r := k6.out.size
          have HM8 := Lib.hid ((HM6.out.keep0 g7.out).kp hMd.out.kp (fun e => by rcases e with (e | e | e) | e <;> omega))
          clear HLy C0 C1 cw7 cw8 HA
          have HAb := Lib.hid (abort_any hMd.out.tx)
          unfold AbortGot at HAb
          go_wp2_with (first
            | (go_at_call 13; (with_reducible refine HAb.out.mono ?_); rintro e w9 ⟨rfl, h9, -, k9⟩; have h9 := Lib.hid h9; have k9 := Lib.hid k9)
            | fail)
          go_roundw
          case rel => exact ⟨j + 1, b1, V, by omega, by omega, by go_num, rfl, k, _, N, m1, rfl, rfl, h9.out, rfl, HS.out.busy false, by omega, by show g.r.e ≤ j + 1; omega, HM8.out.kp k9.out (fun e => by rcases e with e | e; exact HNb.out (.inl e); omega), by omega, HNb.out, hb1, HLo.out, gb_kp G8.out k9.out (fun i hi => by rcases hi with rfl | rfl <;> omega)⟩
          case measure => simp [intOf]; omega
        · have hm5 : (((le.toNat : Nat) : Int) % 5 == 0) = false := by simp; omega
          clear hle
          go_wp2_with (first
            | (go_at_call 12; (with_reducible refine HLy.out.mono ?_); rintro e w8 ⟨rfl, hLd⟩; obtain ⟨n8, m8, T8, V8, hn8, hm8, hMd, hLo8⟩ := hLd; have hMd := Lib.hid hMd; have hLo8 := Lib.hid hLo8; have G8 := Lib.hid (hMd.out.gb G7.out z1 (by omega)); have cw8 := G8.out.cell C1.out (by simp))
            | fail)
          have zb1 := HM.out.lt
          have z6r := k6.out.size
          have HM8 := Lib.hid ((HM6.out.keep0 g7.out).kp hMd.out.kp (fun e => by rcases e with (e | e | e) | e <;> omega))
          clear HLy C0 C1 cw7 cw8 HA
          have z8 := hMd.out.kp.size
          have HCo := Lib.hid (ov_commit hMd.out.tx hMd.out.ov (env_gb HE.out G8.out) (by omega) (by omega) (by omega) (by show g.r.e < 999999; omega))
          unfold ComO at HCo
          have hx1 : ¬ footX k y b1 := fun e => by
            rcases e with e | e | e | e | e
            · exact HNb.out e
            · omega
            · omega
            · omega
            · omega
          have HX1 := Lib.hid hx1
          clear hx1
          go_wp2_with (first
            | (go_at_call 14; (with_reducible refine HCo.out.mono ?_); rintro e w9 ⟨c, k9, g9, rfl, q1, q2, q3, q4, -, q6, q7, (⟨rfl, r1, r2, -, -, -⟩ | ⟨rfl, r1, r2, -, -⟩ | ⟨rfl, -, -, r1, r2, -⟩)⟩ <;> (have q3 := Lib.hid q3; have q4 := Lib.hid q4; have q6 := Lib.hid q6; have q7 := Lib.hid q7; have r1 := Lib.hid r1; have r2 := Lib.hid r2; have q1 := Lib.hid q1; have q2 := Lib.hid q2))
            | fail)
          · go_roundw
            case rel => exact ⟨j + 1, b2, V8, by omega, by omega, by go_num, rfl, k9, g9, N + 110, m8, q1.out, q2.out, q3.out, q4.out, r1.out, by omega, (by rcases r2.out with ⟨e, _⟩ | e; (rw [e]; show g.r.e ≤ j + 1; omega); (rw [e]; show g.r.e + 1 ≤ j + 1; omega)), hMd.out.mp.kp q7.out HX7.out, by omega, fun e => by rcases q6.out _ e with e | e; exact HX7.out e; have := hMd.out.mp.lt; omega, by omega, hLo8.out, gb_kp G8.out q7.out (fun i hi => Nat.le_trans z1 (hMd.out.tx.ge i hi))⟩
            case measure => simp [intOf]; omega
          · go_roundw
            case rel => exact ⟨j + 1, b1, V, by omega, by omega, by go_num, rfl, k9, g9, N, m1, q1.out, q2.out, q3.out, q4.out, r1.out, by omega, by rw [r2.out]; show g.r.e ≤ j + 1; omega, HM8.out.kp q7.out HX1.out, by omega, fun e => by rcases q6.out _ e with e | e; exact HX1.out e; have := HM8.out.lt; omega, hb1, HLo.out, gb_kp G8.out q7.out (fun i hi => Nat.le_trans z1 (hMd.out.tx.ge i hi))⟩
            case measure => simp [intOf]; omega
          · have G9 := Lib.hid (gb_kp G8.out q7.out (fun i hi => Nat.le_trans z1 (hMd.out.tx.ge i hi)))
            have HM9 := Lib.hid (HM8.out.kp q7.out HX1.out)
            have HM2 := Lib.hid (hMd.out.mp.kp q7.out HX7.out)
            have NB1 := Lib.hid (show ¬ footG k9 b1 from fun e => by rcases q6.out _ e with e | e; exact HX1.out e; have := HM8.out.lt; omega)
            have NB2 := Lib.hid (show ¬ footG k9 b2 from fun e => by rcases q6.out _ e with e | e; exact HX7.out e; have := hMd.out.mp.lt; omega)
            rcases r2.out cs with hO | hO
            · have HOO := Lib.hid hO
              clear hO
              have zu : base ≤ w9.heap.size := Nat.le_of_lt (Nat.lt_of_le_of_lt (q3.out).bp ((q3.out).lt _ (.inl rfl)))
              have zb1 := (HM9.out).lt
              have HBt := boot_pg (q3.out) (r1.out) (by omega) zu (D5.Masks.keep0 HMs.out (G9.out)) (show Bts w9 (.slice co CL ccap) cs from Sl.keep0 HC.out (G9.out))
              rw [q2.out] at HBt
              have HBt := Lib.hid HBt
              go_wp2_with (first
                | (go_at_call 15; (with_reducible refine HBt.out.mono ?_); rintro e u1 ⟨rfl, hPB, kB⟩; have hPB := Lib.hid hPB; have kB := Lib.hid kB)
                | fail)
              have GB := Lib.hid (gb_kp (G9.out) kB.out (fun i hi => Nat.le_trans z1 ((q3.out).ge i hi)))
              have zB := kB.out.size
              have hFB : ∀ i, D5.Nw (footG k9) w9 u1 i → base ≤ i ∧ i < u1.heap.size := fun i hi => by
                rcases hi with hi | hi
                · exact ⟨(q3.out).ge i hi, by have := (q3.out).lt i hi; omega⟩
                · omega
              have nFB : ¬ D5.Nw (footG k9) w9 u1 b1 := fun e => by
                rcases e with e | e
                · exact (NB1.out) e
                · omega
              have HOp := Lib.hid (ov_open hPB.out (boot_idle _ _) ((r1.out).boot cs) (by omega) (HOO.out) (env_gb HE.out GB.out) (by omega) (fun i hi => ⟨by have := (hFB i hi).1; omega, (hFB i hi).2⟩))
              unfold OpenO at HOp
              have HFB := Lib.hid hFB
              have NFB := Lib.hid nFB
              clear hFB nFB HBt
              go_wp2_with (first
                | (go_at_call 8; (with_reducible refine HOp.out.mono ?_); rintro e u2 ⟨kq, gq, rfl, hQ, shQ, bzQ, -, -, fQ, kQ⟩; have hQ := Lib.hid hQ; have shQ := Lib.hid shQ; have bzQ := Lib.hid bzQ; have fQ := Lib.hid fQ; have kQ := Lib.hid kQ)
                | fail)
              have zQ := kQ.out.size
              have GQ := Lib.hid (gb_kp GB.out kQ.out (fun i hi => Nat.le_trans z1 (HFB.out i hi).1))
              have HSt := Lib.hid (state_any hQ.out shQ.out bzQ.out (by omega) (by omega))
              unfold StateG at HSt
              clear HOp
              go_wp2_with (first
                | (go_at_call 16; (with_reducible refine HSt.out.mono ?_); rintro e u3 ⟨bs, ms, kS, qS, rfl, lbs, hms, hMS, -, -, -, -, -, -, kpS⟩; have hMS := Lib.hid hMS; have kpS := Lib.hid kpS)
                | fail)
              have GS := Lib.hid (gb_kp GQ.out kpS.out (fun i hi => Nat.le_trans z1 (hQ.out.ge i hi)))
              have hM1 := (((HM9.out).kp kB.out (NB1.out)).kp kQ.out NFB.out).kp kpS.out (fun e => by
                rcases fQ.out _ e with e | e
                · exact NFB.out e
                · omega)
              have ne1 : bs ≠ b1 := by omega
              have HSm := Lib.hid (same_any hMS.out hM1 ne1)
              clear HSt hM1
              go_wp2_with (first
                | (go_at_call 17; (with_reducible refine HSm.out.mono ?_); rintro e u4 ⟨t, rfl, ht, g4⟩; obtain rfl : t = true := ht (by first | exact rfl | trivial); have g4 := Lib.hid g4)
                | fail)
              go_ret
              exact ⟨rfl, gb_trans GS.out g4.out⟩
            · have HOO := Lib.hid hO
              clear hO
              have zu : base ≤ w9.heap.size := Nat.le_of_lt (Nat.lt_of_le_of_lt (q3.out).bp ((q3.out).lt _ (.inl rfl)))
              have zb1 := (HM9.out).lt
              have HBt := boot_pg (q3.out) (r1.out) (by omega) zu (D5.Masks.keep0 HMs.out (G9.out)) (show Bts w9 (.slice co CL ccap) cs from Sl.keep0 HC.out (G9.out))
              rw [q2.out] at HBt
              have HBt := Lib.hid HBt
              go_wp2_with (first
                | (go_at_call 15; (with_reducible refine HBt.out.mono ?_); rintro e u1 ⟨rfl, hPB, kB⟩; have hPB := Lib.hid hPB; have kB := Lib.hid kB)
                | fail)
              have GB := Lib.hid (gb_kp (G9.out) kB.out (fun i hi => Nat.le_trans z1 ((q3.out).ge i hi)))
              have zB := kB.out.size
              have hFB : ∀ i, D5.Nw (footG k9) w9 u1 i → base ≤ i ∧ i < u1.heap.size := fun i hi => by
                rcases hi with hi | hi
                · exact ⟨(q3.out).ge i hi, by have := (q3.out).lt i hi; omega⟩
                · omega
              have nFB : ¬ D5.Nw (footG k9) w9 u1 b1 := fun e => by
                rcases e with e | e
                · exact (NB1.out) e
                · omega
              have nFC : ¬ D5.Nw (footG k9) w9 u1 b2 := fun e => by
                rcases e with e | e
                · exact (NB2.out) e
                · have := (HM2.out).lt; omega
              have HOp := Lib.hid (ov_open hPB.out (boot_idle _ _) ((r1.out).boot cs) (by omega) (HOO.out) (env_gb HE.out GB.out) (by omega) (fun i hi => ⟨by have := (hFB i hi).1; omega, (hFB i hi).2⟩))
              unfold OpenO at HOp
              have HFB := Lib.hid hFB
              have NFB := Lib.hid nFB
              have NFC := Lib.hid nFC
              clear nFC
              clear hFB nFB HBt
              go_wp2_with (first
                | (go_at_call 8; (with_reducible refine HOp.out.mono ?_); rintro e u2 ⟨kq, gq, rfl, hQ, shQ, bzQ, -, -, fQ, kQ⟩; have hQ := Lib.hid hQ; have shQ := Lib.hid shQ; have bzQ := Lib.hid bzQ; have fQ := Lib.hid fQ; have kQ := Lib.hid kQ)
                | fail)
              have zQ := kQ.out.size
              have GQ := Lib.hid (gb_kp GB.out kQ.out (fun i hi => Nat.le_trans z1 (HFB.out i hi).1))
              have HSt := Lib.hid (state_any hQ.out shQ.out bzQ.out (by omega) (by omega))
              unfold StateG at HSt
              clear HOp
              go_wp2_with (first
                | (go_at_call 16; (with_reducible refine HSt.out.mono ?_); rintro e u3 ⟨bs, ms, kS, qS, rfl, lbs, hms, hMS, -, -, -, -, -, -, kpS⟩; have hMS := Lib.hid hMS; have kpS := Lib.hid kpS)
                | fail)
              have GS := Lib.hid (gb_kp GQ.out kpS.out (fun i hi => Nat.le_trans z1 (hQ.out.ge i hi)))
              have hM1 := (((HM9.out).kp kB.out (NB1.out)).kp kQ.out NFB.out).kp kpS.out (fun e => by
                rcases fQ.out _ e with e | e
                · exact NFB.out e
                · omega)
              have ne1 : bs ≠ b1 := by omega
              have HSm := Lib.hid (same_any hMS.out hM1 ne1)
              have HM3 := Lib.hid ((((HM2.out).kp kB.out (NB2.out)).kp kQ.out NFC.out).kp kpS.out (fun e => by
                rcases fQ.out _ e with e | e
                · exact NFC.out e
                · have := (HM2.out).lt; omega))
              have ne2 : bs ≠ b2 := by have := (HM2.out).lt; omega
              clear HSt hM1
              go_wp2_with (first
                | (go_at_call 17; (with_reducible refine HSm.out.mono ?_); rintro e u4 ⟨t, rfl, -, g4⟩; have HSn := Lib.hid (same_any (hMS.out.keep0 g4) (HM3.out.keep0 g4) ne2); have g4 := Lib.hid g4; cases t)
                | (go_at_call 17; (with_reducible refine HSn.out.mono ?_); rintro e u5 ⟨t, rfl, ht, g5⟩; obtain rfl : t = true := ht (by first | exact rfl | trivial); have g5 := Lib.hid g5)
                | fail)
              · go_ret
                exact ⟨rfl, gb_trans (gb_trans GS.out g4.out) g5.out⟩
              · go_ret
                exact ⟨rfl, gb_trans GS.out g4.out⟩
    · by_cases hlt : j < LL
      · have h12 : ¬ j < 12 := fun e => hin ⟨hlt, e⟩
        clear hin
        have zu : base ≤ wr.heap.size := Nat.le_of_lt (Nat.lt_of_le_of_lt (HG.out).bp ((HG.out).lt _ (.inl rfl)))
        have zb1 := (HM.out).lt
        have HBt := boot_pg (HG.out) (HS.out.ok) (by omega) zu (D5.Masks.keep0 HMs.out (Hg.out)) (show Bts wr (.slice co CL ccap) cs from Sl.keep0 HC.out (Hg.out))
        have HBt := Lib.hid HBt
        go_wp2_with (first
          | (go_at_call 15; (with_reducible refine HBt.out.mono ?_); rintro e u1 ⟨rfl, hPB, kB⟩; have hPB := Lib.hid hPB; have kB := Lib.hid kB)
          | fail)
        have GB := Lib.hid (gb_kp (Hg.out) kB.out (fun i hi => Nat.le_trans z1 ((HG.out).ge i hi)))
        have zB := kB.out.size
        have hFB : ∀ i, D5.Nw (footG k) wr u1 i → base ≤ i ∧ i < u1.heap.size := fun i hi => by
          rcases hi with hi | hi
          · exact ⟨(HG.out).ge i hi, by have := (HG.out).lt i hi; omega⟩
          · omega
        have nFB : ¬ D5.Nw (footG k) wr u1 b1 := fun e => by
          rcases e with e | e
          · exact (HNb.out) e
          · omega
        have HOp := Lib.hid (ov_open hPB.out (boot_idle _ _) ((HS.out.ok).boot cs) (by omega) (HS.out.boot cs) (env_gb HE.out GB.out) (by omega) (fun i hi => ⟨by have := (hFB i hi).1; omega, (hFB i hi).2⟩))
        unfold OpenO at HOp
        have HFB := Lib.hid hFB
        have NFB := Lib.hid nFB
        clear hFB nFB HBt
        go_wp2_with (first
          | (go_at_call 8; (with_reducible refine HOp.out.mono ?_); rintro e u2 ⟨kq, gq, rfl, hQ, shQ, bzQ, -, -, fQ, kQ⟩; have hQ := Lib.hid hQ; have shQ := Lib.hid shQ; have bzQ := Lib.hid bzQ; have fQ := Lib.hid fQ; have kQ := Lib.hid kQ)
          | fail)
        have zQ := kQ.out.size
        have GQ := Lib.hid (gb_kp GB.out kQ.out (fun i hi => Nat.le_trans z1 (HFB.out i hi).1))
        have HSt := Lib.hid (state_any hQ.out shQ.out bzQ.out (by omega) (by omega))
        unfold StateG at HSt
        clear HOp
        go_wp2_with (first
          | (go_at_call 16; (with_reducible refine HSt.out.mono ?_); rintro e u3 ⟨bs, ms, kS, qS, rfl, lbs, hms, hMS, -, -, -, -, -, -, kpS⟩; have hMS := Lib.hid hMS; have kpS := Lib.hid kpS)
          | fail)
        have GS := Lib.hid (gb_kp GQ.out kpS.out (fun i hi => Nat.le_trans z1 (hQ.out.ge i hi)))
        have hM1 := (((HM.out).kp kB.out (HNb.out)).kp kQ.out NFB.out).kp kpS.out (fun e => by
          rcases fQ.out _ e with e | e
          · exact NFB.out e
          · omega)
        have ne1 : bs ≠ b1 := by omega
        have HSm := Lib.hid (same_any hMS.out hM1 ne1)
        clear HSt hM1
        go_wp2_with (first
          | (go_at_call 17; (with_reducible refine HSm.out.mono ?_); rintro e u4 ⟨t, rfl, ht, g4⟩; obtain rfl : t = true := ht (by first | exact rfl | trivial); have g4 := Lib.hid g4)
          | fail)
        go_ret
        exact ⟨rfl, gb_trans GS.out g4.out⟩
      · clear hin
        have zu : base ≤ wr.heap.size := Nat.le_of_lt (Nat.lt_of_le_of_lt (HG.out).bp ((HG.out).lt _ (.inl rfl)))
        have zb1 := (HM.out).lt
        have HBt := boot_pg (HG.out) (HS.out.ok) (by omega) zu (D5.Masks.keep0 HMs.out (Hg.out)) (show Bts wr (.slice co CL ccap) cs from Sl.keep0 HC.out (Hg.out))
        have HBt := Lib.hid HBt
        go_wp2_with (first
          | (go_at_call 15; (with_reducible refine HBt.out.mono ?_); rintro e u1 ⟨rfl, hPB, kB⟩; have hPB := Lib.hid hPB; have kB := Lib.hid kB)
          | fail)
        have GB := Lib.hid (gb_kp (Hg.out) kB.out (fun i hi => Nat.le_trans z1 ((HG.out).ge i hi)))
        have zB := kB.out.size
        have hFB : ∀ i, D5.Nw (footG k) wr u1 i → base ≤ i ∧ i < u1.heap.size := fun i hi => by
          rcases hi with hi | hi
          · exact ⟨(HG.out).ge i hi, by have := (HG.out).lt i hi; omega⟩
          · omega
        have nFB : ¬ D5.Nw (footG k) wr u1 b1 := fun e => by
          rcases e with e | e
          · exact (HNb.out) e
          · omega
        have HOp := Lib.hid (ov_open hPB.out (boot_idle _ _) ((HS.out.ok).boot cs) (by omega) (HS.out.boot cs) (env_gb HE.out GB.out) (by omega) (fun i hi => ⟨by have := (hFB i hi).1; omega, (hFB i hi).2⟩))
        unfold OpenO at HOp
        have HFB := Lib.hid hFB
        have NFB := Lib.hid nFB
        clear hFB nFB HBt
        go_wp2_with (first
          | (go_at_call 8; (with_reducible refine HOp.out.mono ?_); rintro e u2 ⟨kq, gq, rfl, hQ, shQ, bzQ, -, -, fQ, kQ⟩; have hQ := Lib.hid hQ; have shQ := Lib.hid shQ; have bzQ := Lib.hid bzQ; have fQ := Lib.hid fQ; have kQ := Lib.hid kQ)
          | fail)
        have zQ := kQ.out.size
        have GQ := Lib.hid (gb_kp GB.out kQ.out (fun i hi => Nat.le_trans z1 (HFB.out i hi).1))
        have HSt := Lib.hid (state_any hQ.out shQ.out bzQ.out (by omega) (by omega))
        unfold StateG at HSt
        clear HOp
        go_wp2_with (first
          | (go_at_call 16; (with_reducible refine HSt.out.mono ?_); rintro e u3 ⟨bs, ms, kS, qS, rfl, lbs, hms, hMS, -, -, -, -, -, -, kpS⟩; have hMS := Lib.hid hMS; have kpS := Lib.hid kpS)
          | fail)
        have GS := Lib.hid (gb_kp GQ.out kpS.out (fun i hi => Nat.le_trans z1 (hQ.out.ge i hi)))
        have hM1 := (((HM.out).kp kB.out (HNb.out)).kp kQ.out NFB.out).kp kpS.out (fun e => by
          rcases fQ.out _ e with e | e
          · exact NFB.out e
          · omega)
        have ne1 : bs ≠ b1 := by omega
        have HSm := Lib.hid (same_any hMS.out hM1 ne1)
        clear HSt hM1
        go_wp2_with (first
          | (go_at_call 17; (with_reducible refine HSm.out.mono ?_); rintro e u4 ⟨t, rfl, ht, g4⟩; obtain rfl : t = true := ht (by first | exact rfl | trivial); have g4 := Lib.hid g4)
          | fail)
        go_ret
        exact ⟨rfl, gb_trans GS.out g4.out⟩
end Go.Proofs.YtjbfooaembpdfaaGreatDoor.J10
