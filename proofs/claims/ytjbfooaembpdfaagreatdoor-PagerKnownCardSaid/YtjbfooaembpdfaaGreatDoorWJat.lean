/-
  PagerKnown's walk: the chapter's examples, over this seat's translation; conditions: the listed variables are laid.
-/
import Derived.Test.YtjbfooaembpdfaaGreatDoorWJas
set_option linter.unusedSimpArgs false
set_option linter.unusedVariables false
namespace Go.Proofs.YtjbfooaembpdfaaGreatDoor.J10
open Go.RowKit Go.Maps
set_option maxRecDepth 100000 in
set_option maxHeartbeats 16000000 in
theorem known_walk {w : World} (hE : Env w) (hMs : D5.Masks w) (h5 : 5 ≤ w.heap.size) : Calls Tryz.prog 5 #[] w fun e w' => e = .returned (.bool true) ∧ w.grownBy w' none := by
  have HE := Lib.hid hE
  have HMs := Lib.hid hMs
  clear hE hMs
  go_enter Tryz.func5, Tryz.ntmps5
  go_wp2_with (first
    | (go_at_call 10; (with_reducible refine (begin_nil1 _).mono ?_); rintro e w' ⟨rfl, rfl⟩)
    | (go_at_call 21; (with_reducible refine (read_nil 1 _).mono ?_); rintro e w0 ⟨rfl, g0⟩; have g0 := Lib.hid g0)
    | (go_at_call 22; (with_reducible refine (new_nil 1 ⟨#[]⟩ _).mono ?_); rintro e w' ⟨rfl, rfl⟩)
    | (go_at_call 8; (with_reducible refine (open_nil _).mono ?_); rintro e w' ⟨rfl, rfl⟩)
    | (go_at_call 7; (with_reducible refine (dnew64 w0).mono ?_); rintro e w2 ⟨p, rfl, hP, g2⟩; have hP := Lib.hid hP; have g2 := Lib.hid g2)
    | fail)
  have z0 := g0.out.size
  have z2 := g2.out.size
  have G2 := Lib.hid (gb_trans g0.out g2.out)
  have HO := Lib.hid (ov_fresh hP.out (by omega) (by omega) (env_gb HE.out G2.out) z2 (fun i hi => ⟨by have := hi.1; omega, hi.2⟩))
  go_wp2_with (first
    | (go_at_call 8; (with_reducible refine HO.out.mono ?_); rintro e w3 ⟨k, g, rfl, hG, hS, hbz, har, hsc, hre, -, -, -, hdp, -, hk3⟩; have hG := Lib.hid hG; have hS := Lib.hid hS; have hbz := Lib.hid hbz; have har := Lib.hid har; have hsc := Lib.hid hsc; have hre := Lib.hid hre; have hk3 := Lib.hid hk3; have HDp := Lib.hid hdp)
    | fail)
  obtain rfl := HDp.out
  have G3 := Lib.hid (gb_kp G2.out hk3.out (fun i hi => by have := hi.1; omega))
  have HWk := Lib.hid (works_any (env_gb HE.out G3.out) (by have := G3.out.size; omega))
  obtain ⟨base, hbase⟩ : ∃ base, w0.heap.size = base := ⟨_, rfl⟩
  rw [hbase] at hG
  have HBase := Lib.hid hbase
  clear hdp HO hbase
  go_wp2_with (first
    | (go_at_call 6; (with_reducible refine HWk.out.mono ?_); rintro e w4 ⟨rfl, g4⟩; have g4 := Lib.hid g4)
    | fail)
  have G4 := Lib.hid (gb_trans G3.out g4.out)
  have hG4 := Lib.hid (hG.out.keep0 g4.out)
  have zb : w.heap.size ≤ base := by rw [← HBase.out]; exact z0
  have zb4 : base ≤ w4.heap.size := Nat.le_of_lt (Nat.lt_of_le_of_lt hG4.out.bp (hG4.out.lt _ (.inl rfl)))
  have hlen : g.d.secs.length = 64 := by rw [hsc.out]; exact List.length_replicate
  have HLn := Lib.hid hlen
  have HLf := Lib.hid (show M6.leftF g.m = 62 by have := hS.out.left low_nil; rw [cntV_nil, hlen] at this; simp at this; omega)
  have HBg := Lib.hid (begin_any hG4.out hS.out.dead hbz.out zb4)
  unfold BeginGot at HBg
  clear hlen HWk
  go_wp2_with (first
    | (go_at_call 10; (with_reducible refine HBg.out.mono ?_); rintro e w5 ⟨y, rfl, h6, k6, lx, ltb, lmb, lbm⟩; have h6 := Lib.hid h6; have k6 := Lib.hid k6)
    | fail)
  have HSb := Lib.hid (hS.out.busy true)
  have O5 := Lib.hid (Over.new HSb.out)
  have zp : base ≤ k.p := hG4.out.bp
  have G5 := Lib.hid (gb_kp G4.out k6.out (fun i hi => by rw [hi]; omega))
  have E5 := Lib.hid (env_gb HE.out G5.out)
  have H0 := Lib.hid (show ∃ n' T', n' ≤ 0 ∧ TxV w5 base k y n' { g with busy := true } T' ∧ Over { g with busy := true } T' (fun _ => none) (firstV 0 (1, ⟨#[120]⟩)) 10 ∧ D5.Kp (footT y) w5 w5 from ⟨0, _, Nat.le_refl _, h6.out, by rw [firstV_zero]; exact O5.out, D5.Kp.refl _ _⟩)
  clear HBg
  go_loopw [16] (fun v16 wr => ∃ i : Nat, i ≤ 62 ∧ v16 = .int .i64 (i : Nat) ∧ ∃ n' T', n' ≤ i ∧ TxV wr base k y n' { g with busy := true } T' ∧ Over { g with busy := true } T' (fun _ => none) (firstV i (1, ⟨#[120]⟩)) 10 ∧ D5.Kp (footT y) w5 wr) (fun v16 _ => 62 - (intOf v16).toNat)
  case atStart => exact ⟨0, by omega, rfl, H0.out⟩
  case round =>
    obtain ⟨i, hi, rfl, n', T', hn', hT, hO, hK⟩ := hrel
    have HT := Lib.hid hT
    have HO6 := Lib.hid hO
    have HK := Lib.hid hK
    clear hT hO hK H0
    by_cases hlt : i < 62
    · have hfr : ∀ j, footT y j → 5 ≤ j := fun j hj => by have := HT.out.ge j (footT_X hj); omega
      have hEr := E5.out.kp HK.out hfr
      have hlf := HO6.out.leftX
      rw [firstV_cnt (by omega)] at hlf
      have hl2 : M6.leftF ({ g with busy := true } : Pg).m = 62 := HLf.out
      have HN := Lib.hid (new_low (kd := 1) (b := ⟨#[120]⟩) HT.out HO6.out hEr.tab (by omega) (by omega) (by omega) (by decide) ((left_pos T'.m).2 (by omega)) 1 rfl ((i : Int) + 1) (by omega) (fun q q1 q2 => (firstV_has _ _ _).2 ⟨q1, by omega⟩) (firstV_no (by omega)))
      have hw1 : IntKind.i64.wrap ((i : Int) + 1) = (i : Int) + 1 := IntWalk.i64_in _ (by omega)
      clear hfr hEr hlf hl2
      go_wp2_with (first
        | (go_at_call 22; (with_reducible refine HN.out.mono ?_); rintro e w7 ⟨rfl, hc⟩; obtain ⟨n7, T7, hn7, h7, o7, k7⟩ := hc; have h7 := Lib.hid h7; have o7 := Lib.hid o7; have k7 := Lib.hid k7)
        | fail)
      go_roundw
      case rel => exact ⟨i + 1, by omega, by go_num, n7, T7, by omega, h7.out, by have := o7.out; rw [firstV_upd] at this; exact this, HK.out.trans k7.out⟩
      case measure => simp [intOf]; omega
    · obtain rfl : i = 62 := by omega
      have hfr : ∀ j, footT y j → base ≤ j := fun j hj => HT.out.ge j (footT_X hj)
      have Gr := Lib.hid (gb_kp G5.out HK.out (fun j hj => by have := hfr j hj; omega))
      have Er := Lib.hid (env_gb HE.out Gr.out)
      have hlf := HO6.out.leftX
      rw [firstV_cnt (by omega)] at hlf
      have hl2 : M6.leftF ({ g with busy := true } : Pg).m = 62 := HLf.out
      have HN := Lib.hid (show Calls Tryz.prog 22 #[.pointer (some ⟨y.x, 0, none⟩), .int .i64 1, .string ⟨#[120]⟩] wr (fun e w' => e = .returned (.tuple #[.int .i64 0, .int .i64 11]) ∧ Chg wr base k y n' { g with busy := true } (fun _ => none) 10 (firstV 62 (1, ⟨#[120]⟩)) w') from new_non (kd := 1) (b := ⟨#[120]⟩) HT.out HO6.out Er.out.tab (by omega) (by omega) (by omega) (by decide) (fun e => by have := (left_pos T'.m).1 e; omega))
      clear hfr hlf hl2
      go_wp2_with (first
        | (go_at_call 22; (with_reducible refine HN.out.mono ?_); rintro e w8 ⟨rfl, hc⟩; have hc := Lib.hid hc)
        | fail)
      obtain ⟨n8, T8, hn8, h8, o8, k8⟩ := hc.out
      have hg1 : T9.getF T8.t 1 ≠ 0 := fun e => (firstV_has 62 (1, ⟨#[120]⟩) 1).2 (by omega) ((o8.has 1).1 e)
      have hg63 : T9.getF T8.t 63 = 0 := (o8.has 63).2 (firstV_no (by omega))
      have hdd : ({ g with busy := true } : Pg).dead = false := hS.out.dead
      have HW1 := Lib.hid (show ∀ W, TxV W base k y n8 { g with busy := true } T8 → Calls Tryz.prog 23 #[.pointer (some ⟨y.x, 0, none⟩), .int .i64 1, .int .i64 0, .string ⟨#[]⟩] W (fun e w' => e = .returned (.int .i64 6) ∧ TxV w' base k y n8 { g with busy := true } T8 ∧ D5.Kp (footT y) W w') from fun W h => write_bad (c := 6) h hdd hg1 seal_0 (by decide))
      have HW2 := Lib.hid (show ∀ W, TxV W base k y n8 { g with busy := true } T8 → Calls Tryz.prog 23 #[.pointer (some ⟨y.x, 0, none⟩), .int .i64 1, .int .i64 255, .string ⟨#[]⟩] W (fun e w' => e = .returned (.int .i64 6) ∧ TxV w' base k y n8 { g with busy := true } T8 ∧ D5.Kp (footT y) W w') from fun W h => write_bad (c := 6) h hdd hg1 seal_255 (by decide))
      have HW3 := Lib.hid (show ∀ W, TxV W base k y n8 { g with busy := true } T8 → Calls Tryz.prog 23 #[.pointer (some ⟨y.x, 0, none⟩), .int .i64 1, .int .i64 254, .string z241] W (fun e w' => e = .returned (.int .i64 4) ∧ TxV w' base k y n8 { g with busy := true } T8 ∧ D5.Kp (footT y) W w') from fun W h => write_bad (c := 4) h hdd hg1 seal_long (by decide))
      have HW4 := Lib.hid (show ∀ W, TxV W base k y n8 { g with busy := true } T8 → Calls Tryz.prog 23 #[.pointer (some ⟨y.x, 0, none⟩), .int .i64 63, .int .i64 1, .string ⟨#[]⟩] W (fun e w' => e = .returned (.int .i64 13) ∧ TxV w' base k y n8 { g with busy := true } T8 ∧ D5.Kp (footT y) W w') from fun W h => write_none h hdd hg63 1 ⟨#[]⟩)
      have HLx := Lib.hid (show ∀ i, footX k y i → i < w8.heap.size from h8.lt)
      have H8 := Lib.hid h8
      have O8 := Lib.hid o8
      have K8 := Lib.hid k8
      clear h8 o8 k8 hg1 hg63 hdd hc HN
      refine wp_region_noPanic ?_
      refine wp_region_held_drew (S := fun w' => TxV w' base k y n8 { g with busy := true } T8 ∧ D5.Kp (footT y) w8 w') (by kernel_rfl) ⟨H8.out.keep0 (gb_drew w8 none), D5.Kp.of0 (gb_drew w8 none)⟩ (fun hHeld => ?_)
      refine wpAnyH_take (i := 0) (v := ?_) (List.getElem?_toArray.trans rfl) (by kernel_rfl) (by kernel_rfl) (by kernel_rfl) (fun _ _ _ h => h) (Or.inl ⟨by rfl, ?_⟩) hHeld ?_
      rotate_left
      · intro w' hSw; go_simp; try with_reducible rfl
      try simp only [Act.put, List.setIfInBounds_toArray, List.set_cons_zero, List.set_cons_succ]
      refine wpAnyH_take (i := 2) (v := ?_) (List.getElem?_toArray.trans rfl) (by kernel_rfl) (by kernel_rfl) (by kernel_rfl) (fun _ _ _ h => h) (Or.inl ⟨by rfl, ?_⟩) hHeld ?_
      rotate_left
      · intro w' hSw; go_simp; try with_reducible rfl
      try simp only [Act.put, List.setIfInBounds_toArray, List.set_cons_zero, List.set_cons_succ]
      refine wpAnyH_take (i := 4) (v := ?_) (List.getElem?_toArray.trans rfl) (by kernel_rfl) (by kernel_rfl) (by kernel_rfl) (fun _ _ _ h => h) (Or.inl ⟨by rfl, ?_⟩) hHeld ?_
      rotate_left
      · intro w' hSw; go_simp; try with_reducible rfl
      try simp only [Act.put, List.setIfInBounds_toArray, List.set_cons_zero, List.set_cons_succ]
      refine wpAnyH_take (i := 8) (v := ?_) (List.getElem?_toArray.trans rfl) (by kernel_rfl) (by kernel_rfl) (by kernel_rfl) (fun _ _ _ h => h) (Or.inl ⟨by rfl, ?_⟩) hHeld ?_
      rotate_left
      · intro w' hSw; go_simp; try with_reducible rfl
      try simp only [Act.put, List.setIfInBounds_toArray, List.set_cons_zero, List.set_cons_succ]
      refine R8.wpAnyH_inv (rs := [1, 3, 5, 6, 7, 9, 10, 11, 12]) (I := fun listed act w' => ∃ v111 v113 v115 v116 v117 v119 v120 v21 : Value, act = ⟨#[u0, .pointer none, .pointer none, .pointer none, .int .i64 1, .int .i64 0, .string { data := #[] }, .int .i64 1, .int .i64 0, .int .i64 1, .pointer none, .int .i64 1, .pointer (some { block := k.dp, off := 0 }), .pointer (some { block := k.p, off := 0 }), .int .i64 0, .pointer (some { block := y.x, off := 0 }), .int .i64 62, u17, u18, .int .i64 0, .int .i64 11, v21, undef, undef, undef, undef, undef, undef, undef, undef, undef, undef, undef, undef, undef, undef, undef, undef, undef, .tuple #[.pointer none, .int .i64 1], .pointer none, .tuple #[.pointer none, .int .i64 1], .pointer none, .int .i64 1, .tuple #[.int .i64 0, .string { data := #[] }, .int .i64 1], .pointer none, .tuple #[.int .i64 0, .string { data := #[] }, .int .i64 1], .int .i64 0, .string { data := #[] }, .int .i64 1, .tuple #[.int .i64 0, .int .i64 1], .pointer none, .tuple #[.int .i64 0, .int .i64 1], .int .i64 0, .int .i64 1, .tuple #[.pointer none, .int .i64 1], .tuple #[.pointer none, .int .i64 1], .pointer none, .int .i64 1, .pointer (some { block := k.dp, off := 0 }), .tuple #[.pointer (some { block := k.p, off := 0 }), .int .i64 0], .pointer (some { block := k.dp, off := 0 }), .tuple #[.pointer (some { block := k.p, off := 0 }), .int .i64 0], .pointer (some { block := k.p, off := 0 }), .int .i64 0, .int .i64 0, .bool false, .bool false, .pointer (some { block := k.p, off := 0 }), .bool false, .bool false, .bool false, .bool true, .bool false, .bool false, .bool false, .bool false, .tuple #[.pointer (some { block := y.x, off := 0 }), .int .i64 0], .pointer (some { block := k.p, off := 0 }), .tuple #[.pointer (some { block := y.x, off := 0 }), .int .i64 0], .pointer (some { block := y.x, off := 0 }), .int .i64 0, .int .i64 0, .bool false, .bool false, .pointer (some { block := y.x, off := 0 }), .bool false, .bool false, .int .i64 62, .bool false, u90, u91, u92, u93, u94, u95, u96, u97, u98, u99, u100, u101, u102, u103, u104, .tuple #[.int .i64 0, .int .i64 11], .pointer (some { block := y.x, off := 0 }), .tuple #[.int .i64 0, .int .i64 11], .int .i64 0, .int .i64 11, .pointer (some { block := y.x, off := 0 }), v111, .pointer (some { block := y.x, off := 0 }), v113, .pointer (some { block := y.x, off := 0 }), v115, v116, v117, .pointer (some { block := y.x, off := 0 }), v119, v120, undef, undef, undef, undef, undef, undef, undef, undef, undef, undef, undef, undef, undef, undef, undef, undef, undef, undef, undef, undef, undef, undef, undef, undef, undef, undef, undef, undef, undef, undef, undef, undef, undef, undef, undef, undef, undef, undef, undef, undef, undef, undef, undef, undef, undef, undef, undef, undef, undef, undef, undef, undef, undef, undef, undef, undef, undef, undef, undef, undef, undef, undef, undef, undef, undef, undef, undef, undef, undef, undef, undef, undef, undef, undef, undef, undef, undef, undef, undef, undef, undef, undef, undef, undef, undef, undef, undef, undef, undef, undef, undef, undef, undef, undef, undef, undef, undef, undef, undef, undef, undef, undef, undef, undef, undef, undef, undef, undef, undef, undef, undef, undef, undef, undef, undef, undef, undef, undef, undef, undef, undef, undef, undef, undef, undef, undef, undef, undef, undef, undef, undef, undef, undef, undef, undef, undef, undef, undef, undef, undef, undef, undef, undef, undef, undef, undef, undef, undef, undef, undef, undef, undef, undef, undef, undef, undef, undef, undef, undef, undef, undef, undef, undef, undef, undef, undef, undef, undef, undef, undef], []⟩ ∧ Far21 w8 listed w' v111 v113 v115 v116 v117 v119 v120 v21) (by kernel_rfl) (by kernel_rfl) (by kernel_rfl) (by kernel_rfl) hHeld ⟨_, _, _, _, _, _, _, _, rfl, ?_⟩ ?_ ?_
      · exact ⟨(fun h => by first | (cases h; done) | exact absurd h (by decide)), (fun h => by first | (cases h; done) | exact absurd h (by decide)), (fun h => by first | (cases h; done) | exact absurd h (by decide)), (fun h => by first | (cases h; done) | exact absurd h (by decide)), (fun h => by first | (cases h; done) | exact absurd h (by decide)), (fun h => by first | (cases h; done) | exact absurd h (by decide)), (fun h => by first | (cases h; done) | exact absurd h (by decide)), (fun h => by first | (cases h; done) | exact absurd h (by decide)), (fun h => by first | (cases h; done) | exact absurd h (by decide))⟩
      · skip
        refine R8.StepsI.cons (List.getElem?_toArray.trans rfl) (fun listed act w' hSw hI hlt hun hdep K hK => ?_) ?_
        · obtain ⟨v111, v113, v115, v116, v117, v119, v120, v21, rfl, hF⟩ := hI
          go_simp
          go_at_call 23
          (with_reducible refine (HW1.out _ hSw.1).mono ?_)
          rintro e u ⟨rfl, t1, kk⟩
          exact hK.out _ _ ⟨t1, hSw.2.trans kk⟩ ⟨_, _, _, _, _, _, _, _, rfl, ⟨fun _ => rfl, fun h => hF.a3 (by rw [R8.set_other (by decide)] at h; exact h), fun h => (fun ⟨b, q1, q2, q3⟩ => ⟨b, q1, q2, kk.blk q3 (fun e => by have := HLx.out _ (footT_X e); omega)⟩) (hF.a5 (by rw [R8.set_other (by decide)] at h; exact h)), fun h => hF.a6 (by rw [R8.set_other (by decide)] at h; exact h), fun h => hF.a7 (by rw [R8.set_other (by decide)] at h; exact h), fun h => hF.a9 (by rw [R8.set_other (by decide)] at h; exact h), fun h => hF.a10 (by rw [R8.set_other (by decide)] at h; exact h), fun h => (fun ⟨b, q1, q2, cs, q3, q4⟩ => ⟨b, q1, q2, cs, q3, kk.blk q4 (fun e => by have := HLx.out _ (footT_X e); omega)⟩) (hF.a11 (by rw [R8.set_other (by decide)] at h; exact h)), fun h => (fun ⟨q0, b, q1, q2, q3⟩ => ⟨by rw [R8.set_other (by decide)]; exact q0, b, q1, q2, kk.blk q3 (fun e => by have := HLx.out _ (footT_X e); omega)⟩) (hF.a12 (by rw [R8.set_other (by decide)] at h; exact h))⟩⟩
        refine R8.StepsI.cons (List.getElem?_toArray.trans rfl) (fun listed act w' hSw hI hlt hun hdep K hK => ?_) ?_
        · obtain ⟨v111, v113, v115, v116, v117, v119, v120, v21, rfl, hF⟩ := hI
          go_simp
          go_at_call 23
          (with_reducible refine (HW2.out _ hSw.1).mono ?_)
          rintro e u ⟨rfl, t1, kk⟩
          exact hK.out _ _ ⟨t1, hSw.2.trans kk⟩ ⟨_, _, _, _, _, _, _, _, rfl, ⟨fun h => hF.a1 (by rw [R8.set_other (by decide)] at h; exact h), fun _ => rfl, fun h => (fun ⟨b, q1, q2, q3⟩ => ⟨b, q1, q2, kk.blk q3 (fun e => by have := HLx.out _ (footT_X e); omega)⟩) (hF.a5 (by rw [R8.set_other (by decide)] at h; exact h)), fun h => hF.a6 (by rw [R8.set_other (by decide)] at h; exact h), fun h => hF.a7 (by rw [R8.set_other (by decide)] at h; exact h), fun h => hF.a9 (by rw [R8.set_other (by decide)] at h; exact h), fun h => hF.a10 (by rw [R8.set_other (by decide)] at h; exact h), fun h => (fun ⟨b, q1, q2, cs, q3, q4⟩ => ⟨b, q1, q2, cs, q3, kk.blk q4 (fun e => by have := HLx.out _ (footT_X e); omega)⟩) (hF.a11 (by rw [R8.set_other (by decide)] at h; exact h)), fun h => (fun ⟨q0, b, q1, q2, q3⟩ => ⟨by rw [R8.set_other (by decide)]; exact q0, b, q1, q2, kk.blk q3 (fun e => by have := HLx.out _ (footT_X e); omega)⟩) (hF.a12 (by rw [R8.set_other (by decide)] at h; exact h))⟩⟩
        refine R8.StepsI.cons (List.getElem?_toArray.trans rfl) (fun listed act w' hSw hI hlt hun hdep K hK => ?_) ?_
        · obtain ⟨v111, v113, v115, v116, v117, v119, v120, v21, rfl, hF⟩ := hI
          have mk := make241 w'
          go_simp
          exact hK.out _ _ ⟨hSw.1.keep0 (gb_alloc _ _ none), hSw.2.step0 (gb_alloc _ _ none)⟩ ⟨_, _, _, _, _, _, _, _, rfl, ⟨fun h => hF.a1 (by rw [R8.set_other (by decide)] at h; exact h), fun h => hF.a3 (by rw [R8.set_other (by decide)] at h; exact h), fun _ => ⟨_, rfl, hSw.2.size, Blk.mk _ _ _⟩, fun h => hF.a6 (by rw [R8.set_other (by decide)] at h; exact h), fun h => hF.a7 (by rw [R8.set_other (by decide)] at h; exact h), fun h => hF.a9 (by rw [R8.set_other (by decide)] at h; exact h), fun h => hF.a10 (by rw [R8.set_other (by decide)] at h; exact h), fun h => (fun ⟨b, q1, q2, cs, q3, q4⟩ => ⟨b, q1, q2, cs, q3, q4.keep0 (gb_alloc _ _ none)⟩) (hF.a11 (by rw [R8.set_other (by decide)] at h; exact h)), fun h => (fun ⟨q0, b, q1, q2, q3⟩ => ⟨by rw [R8.set_other (by decide)]; exact q0, b, q1, q2, q3.keep0 (gb_alloc _ _ none)⟩) (hF.a12 (by rw [R8.set_other (by decide)] at h; exact h))⟩⟩
        refine R8.StepsI.cons (List.getElem?_toArray.trans rfl) (fun listed act w' hSw hI hlt hun hdep K hK => ?_) ?_
        · obtain ⟨v111, v113, v115, v116, v117, v119, v120, v21, rfl, hF⟩ := hI
          obtain ⟨b5, rfl, q5, r5⟩ := hF.a5 (hdep ⟨5, .data⟩ (by simp) rfl)
          have hz := str241 r5
          go_simp
          exact hK.out _ _ hSw ⟨_, _, _, _, _, _, _, _, rfl, ⟨fun h => hF.a1 (by rw [R8.set_other (by decide)] at h; exact h), fun h => hF.a3 (by rw [R8.set_other (by decide)] at h; exact h), fun h => (fun ⟨b, q1, q2, q3⟩ => ⟨b, q1, q2, q3⟩) (hF.a5 (by rw [R8.set_other (by decide)] at h; exact h)), fun _ => rfl, fun h => hF.a7 (by rw [R8.set_other (by decide)] at h; exact h), fun h => hF.a9 (by rw [R8.set_other (by decide)] at h; exact h), fun h => hF.a10 (by rw [R8.set_other (by decide)] at h; exact h), fun h => (fun ⟨b, q1, q2, cs, q3, q4⟩ => ⟨b, q1, q2, cs, q3, q4⟩) (hF.a11 (by rw [R8.set_other (by decide)] at h; exact h)), fun h => (fun ⟨q0, b, q1, q2, q3⟩ => ⟨by rw [R8.set_other (by decide)]; exact q0, b, q1, q2, q3⟩) (hF.a12 (by rw [R8.set_other (by decide)] at h; exact h))⟩⟩
        refine R8.StepsI.cons (List.getElem?_toArray.trans rfl) (fun listed act w' hSw hI hlt hun hdep K hK => ?_) ?_
        · obtain ⟨v111, v113, v115, v116, v117, v119, v120, v21, rfl, hF⟩ := hI
          obtain rfl := hF.a6 (hdep ⟨6, .data⟩ (by simp) rfl)
          go_simp
          go_at_call 23
          (with_reducible refine (HW3.out _ hSw.1).mono ?_)
          rintro e u ⟨rfl, t1, kk⟩
          exact hK.out _ _ ⟨t1, hSw.2.trans kk⟩ ⟨_, _, _, _, _, _, _, _, rfl, ⟨fun h => hF.a1 (by rw [R8.set_other (by decide)] at h; exact h), fun h => hF.a3 (by rw [R8.set_other (by decide)] at h; exact h), fun h => (fun ⟨b, q1, q2, q3⟩ => ⟨b, q1, q2, kk.blk q3 (fun e => by have := HLx.out _ (footT_X e); omega)⟩) (hF.a5 (by rw [R8.set_other (by decide)] at h; exact h)), fun h => hF.a6 (by rw [R8.set_other (by decide)] at h; exact h), fun _ => rfl, fun h => hF.a9 (by rw [R8.set_other (by decide)] at h; exact h), fun h => hF.a10 (by rw [R8.set_other (by decide)] at h; exact h), fun h => (fun ⟨b, q1, q2, cs, q3, q4⟩ => ⟨b, q1, q2, cs, q3, kk.blk q4 (fun e => by have := HLx.out _ (footT_X e); omega)⟩) (hF.a11 (by rw [R8.set_other (by decide)] at h; exact h)), fun h => (fun ⟨q0, b, q1, q2, q3⟩ => ⟨by rw [R8.set_other (by decide)]; exact q0, b, q1, q2, kk.blk q3 (fun e => by have := HLx.out _ (footT_X e); omega)⟩) (hF.a12 (by rw [R8.set_other (by decide)] at h; exact h))⟩⟩
        refine R8.StepsI.cons (List.getElem?_toArray.trans rfl) (fun listed act w' hSw hI hlt hun hdep K hK => ?_) ?_
        · obtain ⟨v111, v113, v115, v116, v117, v119, v120, v21, rfl, hF⟩ := hI
          go_simp
          go_at_call 23
          (with_reducible refine (HW4.out _ hSw.1).mono ?_)
          rintro e u ⟨rfl, t1, kk⟩
          exact hK.out _ _ ⟨t1, hSw.2.trans kk⟩ ⟨_, _, _, _, _, _, _, _, rfl, ⟨fun h => hF.a1 (by rw [R8.set_other (by decide)] at h; exact h), fun h => hF.a3 (by rw [R8.set_other (by decide)] at h; exact h), fun h => (fun ⟨b, q1, q2, q3⟩ => ⟨b, q1, q2, kk.blk q3 (fun e => by have := HLx.out _ (footT_X e); omega)⟩) (hF.a5 (by rw [R8.set_other (by decide)] at h; exact h)), fun h => hF.a6 (by rw [R8.set_other (by decide)] at h; exact h), fun h => hF.a7 (by rw [R8.set_other (by decide)] at h; exact h), fun _ => rfl, fun h => hF.a10 (by rw [R8.set_other (by decide)] at h; exact h), fun h => (fun ⟨b, q1, q2, cs, q3, q4⟩ => ⟨b, q1, q2, cs, q3, kk.blk q4 (fun e => by have := HLx.out _ (footT_X e); omega)⟩) (hF.a11 (by rw [R8.set_other (by decide)] at h; exact h)), fun h => (fun ⟨q0, b, q1, q2, q3⟩ => ⟨by rw [R8.set_other (by decide)]; exact q0, b, q1, q2, kk.blk q3 (fun e => by have := HLx.out _ (footT_X e); omega)⟩) (hF.a12 (by rw [R8.set_other (by decide)] at h; exact h))⟩⟩
        refine R8.StepsI.cons (List.getElem?_toArray.trans rfl) (fun listed act w' hSw hI hlt hun hdep K hK => ?_) ?_
        · obtain ⟨v111, v113, v115, v116, v117, v119, v120, v21, rfl, hF⟩ := hI
          obtain rfl := hF.a1 (hdep ⟨1, .data⟩ (by simp) rfl)
          obtain rfl := hF.a3 (hdep ⟨3, .data⟩ (by simp) rfl)
          obtain rfl := hF.a7 (hdep ⟨7, .data⟩ (by simp) rfl)
          obtain rfl := hF.a9 (hdep ⟨9, .data⟩ (by simp) rfl)
          go_simp
          exact hK.out _ _ hSw ⟨_, _, _, _, _, _, _, _, rfl, ⟨fun h => hF.a1 (by rw [R8.set_other (by decide)] at h; exact h), fun h => hF.a3 (by rw [R8.set_other (by decide)] at h; exact h), fun h => (fun ⟨b, q1, q2, q3⟩ => ⟨b, q1, q2, q3⟩) (hF.a5 (by rw [R8.set_other (by decide)] at h; exact h)), fun h => hF.a6 (by rw [R8.set_other (by decide)] at h; exact h), fun h => hF.a7 (by rw [R8.set_other (by decide)] at h; exact h), fun h => hF.a9 (by rw [R8.set_other (by decide)] at h; exact h), fun _ => rfl, fun h => (fun ⟨b, q1, q2, cs, q3, q4⟩ => ⟨b, q1, q2, cs, q3, q4⟩) (hF.a11 (by rw [R8.set_other (by decide)] at h; exact h)), fun h => (fun ⟨q0, b, q1, q2, q3⟩ => ⟨by rw [R8.set_other (by decide)]; exact q0, b, q1, q2, q3⟩) (hF.a12 (by rw [R8.set_other (by decide)] at h; exact h))⟩⟩
        refine R8.StepsI.cons (List.getElem?_toArray.trans rfl) (fun listed act w' hSw hI hlt hun hdep K hK => ?_) ?_
        · obtain ⟨v111, v113, v115, v116, v117, v119, v120, v21, rfl, hF⟩ := hI
          go_simp
          exact hK.out _ _ ⟨hSw.1.keep0 (gb_alloc _ _ none), hSw.2.step0 (gb_alloc _ _ none)⟩ ⟨_, _, _, _, _, _, _, _, rfl, ⟨fun h => hF.a1 (by rw [R8.set_other (by decide)] at h; exact h), fun h => hF.a3 (by rw [R8.set_other (by decide)] at h; exact h), fun h => (fun ⟨b, q1, q2, q3⟩ => ⟨b, q1, q2, q3.keep0 (gb_alloc _ _ none)⟩) (hF.a5 (by rw [R8.set_other (by decide)] at h; exact h)), fun h => hF.a6 (by rw [R8.set_other (by decide)] at h; exact h), fun h => hF.a7 (by rw [R8.set_other (by decide)] at h; exact h), fun h => hF.a9 (by rw [R8.set_other (by decide)] at h; exact h), fun h => hF.a10 (by rw [R8.set_other (by decide)] at h; exact h), fun _ => ⟨_, rfl, hSw.2.size, _, rfl, Blk.mk _ _ _⟩, fun h => (R8.off_false hun hlt (hF.a12 (by rw [R8.set_other (by decide)] at h; exact h)).1).elim⟩⟩
        refine R8.StepsI.cons (List.getElem?_toArray.trans rfl) (fun listed act w' hSw hI hlt hun hdep K hK => ?_) ?_
        · obtain ⟨v111, v113, v115, v116, v117, v119, v120, v21, rfl, hF⟩ := hI
          obtain ⟨b0, rfl, q2, cs0, q3, q4⟩ := hF.a11 (hdep ⟨11, .data⟩ (by simp) rfl)
          obtain rfl := hF.a10 (hdep ⟨10, .data⟩ (by simp) rfl)
          refine stM 57 wrongA 21 120 b0 0 (blk_there q4 (by rw [q3]; decide)) wrong_size wrong_one ?_ ?_ ?_
          rfl
          rfl
          have gs := gb_setCells b0 wrongA.toList 0 w'
          exact hK.out _ _ ⟨hSw.1.frame (kp_one gs) (fun i hi e => by have := HLx.out i hi; omega), hSw.2.step gs (fun j e => .inr (by cases e; exact q2))⟩ ⟨_, _, _, _, _, _, _, _, rfl, ⟨fun h => hF.a1 (by rw [R8.set_other (by decide)] at h; exact h), fun h => hF.a3 (by rw [R8.set_other (by decide)] at h; exact h), fun h => (fun ⟨b, q1, q2, q3⟩ => ⟨b, q1, q2, q3.keep gs (ne_some (blk_ne q3 q4 (by decide)))⟩) (hF.a5 (by rw [R8.set_other (by decide)] at h; exact h)), fun h => hF.a6 (by rw [R8.set_other (by decide)] at h; exact h), fun h => hF.a7 (by rw [R8.set_other (by decide)] at h; exact h), fun h => hF.a9 (by rw [R8.set_other (by decide)] at h; exact h), fun h => hF.a10 (by rw [R8.set_other (by decide)] at h; exact h), fun _ => ⟨_, rfl, q2, wrongA, rfl, store4 q3 q4⟩, fun _ => ⟨by rw [R8.set_other (by decide)]; exact (hdep ⟨11, .data⟩ (by simp) rfl), ⟨_, rfl, q2, store4 q3 q4⟩⟩⟩⟩
        exact R8.StepsI.nil
      · rintro listed act w9 hSw ⟨v111, v113, v115, v116, v117, v119, v120, v21, rfl, hF⟩ hall
        refine NoPanic.normal ?_
        obtain ⟨-, b21, hv21, hb21, hB21⟩ := hF.a12 (hall 12 (of_decide_eq_true (by kernel_rfl)))
        obtain rfl := hv21
        have T9_ := Lib.hid hSw.1
        have K9_ := Lib.hid hSw.2
        have B21 := Lib.hid hB21
        clear hF hall hSw hHeld hB21
        dsimp only
        have zb8 : base ≤ w8.heap.size := Nat.le_of_lt (Nat.lt_of_le_of_lt H8.out.bx (HLx.out _ (.inr (.inl rfl))))
        have fT : ∀ i, footT y i → base ≤ i := fun i hi => H8.out.ge i (footT_X hi)
        have G8 := Lib.hid (gb_kp Gr.out K8.out (fun i hi => by have := fT i hi; omega))
        have G9 := Lib.hid (gb_kp G8.out K9_.out (fun i hi => by have := fT i hi; omega))
        have zz9 := K9_.out.size
        have HCo := Lib.hid (com_no T9_.out O8.out (env_gb HE.out G9.out) (by omega) (by omega) (by omega) (by show g.r.e < 999999; rw [hre.out]; omega) har.out (firstV_low (by omega) _) (by rw [firstV_cnt (by omega)]; show g.d.secs.length < 62 + 3; rw [HLn.out]; omega))
        have hgd := wrong_guard
        go_wp2_with (first
          | (go_at_call 14; (with_reducible refine HCo.out.mono ?_); rintro e w10 ⟨rfl, k10, g10, e10, d10, p10, b10, f10, kp10, s10, r10, dd10⟩; have hB10 := kp10.blk B21.out (fun e => by have := HLx.out _ e; omega); unfold wrongA at hB10; have q0 := hB10.cell 0 rfl; have q1 := hB10.cell 1 rfl; have q2 := hB10.cell 2 rfl; have q3 := hB10.cell 3 rfl; have hnq := neq_wrong w10; have heq := equ_wrong w10; have P10 := Lib.hid p10; have S10 := Lib.hid s10; have E10 := Lib.hid e10; have D10 := Lib.hid d10; have B10 := Lib.hid b10; have F10 := Lib.hid f10; have KP10 := Lib.hid kp10; have R10 := Lib.hid r10; have DD10 := Lib.hid dd10; clear p10 s10 e10 d10 b10 f10 kp10 r10 dd10 hB10)
          | fail)
        have zx : ∀ i, footX k y i → base ≤ i := fun i hi => H8.out.ge i hi
        have G10 := Lib.hid (gb_kp G9.out KP10.out (fun i hi => Nat.le_trans zb (zx i hi)))
        have zu10 : base ≤ w10.heap.size := Nat.le_of_lt (Nat.lt_of_le_of_lt P10.out.bp (P10.out.lt _ (.inl rfl)))
        have LF10 := Lib.hid (show M6.leftF g10.m = 62 from by have e1 := S10.out.left low_nil; rw [cntV_nil, DD10.out, HLn.out] at e1; simp at e1; omega)
        have CL := Lib.hid (show Calls Tryz.prog 18 #[.pointer (some ⟨k.p, 0, none⟩)] w10 (fun e w' => e = .returned (.int .i64 62) ∧ w10 = w') from by rw [← E10.out]; exact left_is P10.out S10.out.len 62 (by rw [LF10.out]; rfl))
        have CD := Lib.hid (show Calls Tryz.prog 20 #[.pointer (some ⟨k.p, 0, none⟩)] w10 (fun e w' => e = .returned (.bool false) ∧ w10 = w') from by rw [← E10.out]; exact dead_is P10.out S10.out.dead)
        have CB := Lib.hid (show Calls Tryz.prog 10 #[.pointer (some ⟨k.p, 0, none⟩)] w10 (BeginGot w10 base k10 g10) from by rw [← E10.out]; exact begin_any P10.out S10.out.dead B10.out zu10)
        unfold BeginGot at CB
        clear q0 q1 q2 q3 hnq heq hgd HCo
        go_wp2_with (first
          | (go_at_call 18; (with_reducible refine (CL.out).mono ?_); rintro e w' ⟨rfl, rfl⟩)
          | (go_at_call 20; (with_reducible refine (CD.out).mono ?_); rintro e w' ⟨rfl, rfl⟩)
          | (go_at_call 10; (with_reducible refine (CB.out).mono ?_); rintro e w11 ⟨y11, rfl, h11, k11, lx11, ltb11, lmb11, lbm11⟩; have h11 := Lib.hid h11; have k11 := Lib.hid k11)
          | fail)
        have G11 := Lib.hid (gb_kp G10.out k11.out (fun i hi => by rw [hi]; exact Nat.le_trans zb P10.out.bp))
        have E11 := Lib.hid (env_gb HE.out G11.out)
        have O11 := Lib.hid (Over.new (S10.out.busy true))
        have CN := Lib.hid (new_low (kd := 9) (b := ⟨#[102, 105, 114, 115, 116]⟩) h11.out O11.out E11.out.tab (by omega) (by omega) (by omega) (by decide) ((left_pos g10.m).2 (by rw [LF10.out]; omega)) 9 rfl 1 (by omega) (fun q h1 h2 => by omega) rfl)
        clear CL CD CB
        go_wp2_with (first
          | (go_at_call 22; (with_reducible refine (CN.out).mono ?_); rintro e w12 ⟨rfl, hc⟩; have hc := Lib.hid hc)
          | fail)
        obtain ⟨n12, T12, hn12, h12, o12, k12⟩ := hc.out
        have zf11 : ∀ i, footX k10 y11 i → base ≤ i := fun i hi => h12.ge i hi
        have G12 := Lib.hid (gb_kp G11.out k12 (fun i hi => Nat.le_trans zb (zf11 i (footT_X hi))))
        have zu12 : base ≤ w12.heap.size := Nat.le_of_lt (Nat.lt_of_le_of_lt h12.bx (h12.lt _ (.inr (.inl rfl))))
        have CC := Lib.hid (com_ok h12 o12 (env_gb HE.out G12.out) (by omega) zu12 (by omega) (by show g10.r.e < 999999; rw [R10.out, hre.out]; omega) (by show g10.d.armed = false; rw [DD10.out]; exact har.out) (by rw [cntV_one]; show 1 + 8 ≤ M6.leftF g10.m; rw [LF10.out]; omega))
        unfold ComK at CC
        clear hc CN h12 o12 k12
        go_wp2_with (first
          | (go_at_call 14; (with_reducible refine (CC.out).mono ?_); rintro e w13 ⟨rfl, k13, g13, e13, d13, p13, b13, ov13, f13, kp13, s13, r13, a13, l13⟩; have p13 := Lib.hid p13; have b13 := Lib.hid b13; have f13 := Lib.hid f13; have kp13 := Lib.hid kp13; have s13 := Lib.hid s13; have r13 := Lib.hid r13; have a13 := Lib.hid a13; have l13 := Lib.hid l13; have E13 := Lib.hid (e13.trans E10.out); have D13 := Lib.hid (d13.trans D10.out); clear e13 d13 ov13)
          | fail)
        have G13 := Lib.hid (gb_kp G12.out kp13.out (fun i hi => Nat.le_trans zb (zf11 i hi)))
        have zu13 : base ≤ w13.heap.size := Nat.le_of_lt (Nat.lt_of_le_of_lt p13.out.bp (p13.out.lt _ (.inl rfl)))
        have hlo1 : Low (upd (fun _ => none) 1 (9, ⟨#[102, 105, 114, 115, 116]⟩)) := low_upd low_nil (by omega) _
        have LF13 := Lib.hid (show M6.leftF g13.m = 60 from by have e1 := s13.out.left hlo1; have e2 : g13.d.secs.length = 64 := l13.out.trans ((congrArg (fun s : D5.St => s.secs.length) DD10.out).trans HLn.out); rw [cntV_one, e2] at e1; simp at e1; omega)
        have CB := Lib.hid (show Calls Tryz.prog 10 #[.pointer (some ⟨k.p, 0, none⟩)] w13 (BeginGot w13 base k13 g13) from by rw [← E13.out]; exact begin_any p13.out s13.out.dead b13.out zu13)
        unfold BeginGot at CB
        clear CC
        go_wp2_with (first
          | (go_at_call 10; (with_reducible refine (CB.out).mono ?_); rintro e w14 ⟨y14, rfl, h14, k14, lx14, ltb14, lmb14, lbm14⟩; have h14 := Lib.hid h14; have k14 := Lib.hid k14)
          | fail)
        have G14 := Lib.hid (gb_kp G13.out k14.out (fun i hi => by rw [hi]; exact Nat.le_trans zb p13.out.bp))
        have E14 := Lib.hid (env_gb HE.out G14.out)
        have O14 := Lib.hid (Over.new (s13.out.busy true))
        have CW := Lib.hid (show Calls Tryz.prog 23 #[.pointer (some ⟨y14.x, 0, none⟩), .int .i64 1, .int .i64 9, .string ⟨#[115, 101, 99, 111, 110, 100]⟩] w14 (fun e w' => e = .returned (.int .i64 0) ∧ Chg w14 base k13 y14 0 { g13 with busy := true } (upd (fun _ => none) 1 (9, ⟨#[102, 105, 114, 115, 116]⟩)) (10 + 110) (upd (upd (fun _ => none) 1 (9, ⟨#[102, 105, 114, 115, 116]⟩)) 1 (9, ⟨#[115, 101, 99, 111, 110, 100]⟩)) w') from write_room (kd := 9) (b := ⟨#[115, 101, 99, 111, 110, 100]⟩) h14.out O14.out E14.out.tab (by omega) 1 (by omega) (by omega) (by decide) (by rw [upd_same]; exact fun h => by cases h) ((left_pos g13.m).2 (by rw [LF13.out]; omega)))
        clear CB
        go_wp2_with (first
          | (go_at_call 23; (with_reducible refine (CW.out).mono ?_); rintro e w15 ⟨rfl, hc⟩; have hc := Lib.hid hc)
          | fail)
        obtain ⟨n15, T15, hn15, h15, o15, k15⟩ := hc.out
        have zf14 : ∀ i, footX k13 y14 i → base ≤ i := fun i hi => h15.ge i hi
        have G15 := Lib.hid (gb_kp G14.out k15 (fun i hi => Nat.le_trans zb (zf14 i (footT_X hi))))
        have hAr := arm_tx h15 1
        rw [D13.out] at hAr
        have CA := Lib.hid hAr
        have O15 := Lib.hid (o15.arm (z := 1) (by omega))
        clear hc CW h15 o15 k15 hAr
        go_wp2_with (first
          | (go_at_call 9; (with_reducible refine (CA.out).mono ?_); rintro e w16 ⟨rfl, k16, e16, d16, h16, f16, kp16⟩; have h16 := Lib.hid h16; have f16 := Lib.hid f16; have kp16 := Lib.hid kp16; have E16 := Lib.hid (e16.trans E13.out); have D16 := Lib.hid d16; clear e16 d16)
          | fail)
        have G16 := Lib.hid (gb_kp G15.out kp16.out (fun i hi => Nat.le_trans zb (zf14 i hi)))
        have zf16 : ∀ i, footX k16 y14 i → base ≤ i := fun i hi => h16.out.ge i hi
        have zu16 : base ≤ w16.heap.size := Nat.le_of_lt (Nat.lt_of_le_of_lt h16.out.bx (h16.out.lt _ (.inr (.inl rfl))))
        have hcv : cntV (upd (upd (fun _ => none) 1 (9, ⟨#[102, 105, 114, 115, 116]⟩)) 1 (9, ⟨#[115, 101, 99, 111, 110, 100]⟩)) = 1 := cntV_first (by omega) (fun j _ => by unfold upd; by_cases e : j = 0; subst e; simp; rw [if_neg (by omega), if_neg (by omega)]; simp; omega)
        have CC := Lib.hid (com_cut h16.out O15.out (env_gb HE.out G16.out) (by omega) zu16 (by omega) (by show g13.r.e < 999999; rcases r13.out with ⟨e, _⟩ | e; (rw [e]; show g10.r.e < 999999; rw [R10.out, hre.out]; omega); (rw [e]; show g10.r.e + 1 < 999999; rw [R10.out, hre.out]; omega)) (arm_one g13.d) (p := 1) (by rw [upd_same, upd_same]; exact fun e => absurd (congrArg (fun x : Option (Nat × ByteArray) => x.map (fun y => y.2.size)) e) (by decide)) (by rw [hcv]; show 1 + 8 ≤ M6.leftF g13.m; rw [LF13.out]; omega))
        clear CA hcv
        go_wp2_with (first
          | (go_at_call 14; (with_reducible refine (CC.out).mono ?_); rintro e w17 ⟨rfl, k17, g17, e17, d17, p17, b17, f17, kp17, dd17, ok17, op17⟩; have p17 := Lib.hid p17; have f17 := Lib.hid f17; have kp17 := Lib.hid kp17; have dd17 := Lib.hid dd17; have ok17 := Lib.hid ok17; have op17 := Lib.hid op17; have E17 := Lib.hid (e17.trans E16.out); have D17 := Lib.hid (d17.trans D16.out); clear e17 d17)
          | fail)
        have G17 := Lib.hid (gb_kp G16.out kp17.out (fun i hi => Nat.le_trans zb (zf16 i hi)))
        have zu17 : base ≤ w17.heap.size := Nat.le_of_lt (Nat.lt_of_le_of_lt p17.out.bp (p17.out.lt _ (.inl rfl)))
        have CB := Lib.hid (show Calls Tryz.prog 10 #[.pointer (some ⟨k.p, 0, none⟩)] w17 (fun e w' => e = .returned (.tuple #[.pointer none, .int .i64 30]) ∧ w17 = w') from by rw [← E17.out]; exact begin_dead p17.out dd17.out)
        have hBt := D5.dboot_any w17 base (D5.footP k17.dp k17.vs k17.vp k17.bm) k17.dp g17.d (.slice none 0 0) [] (10 + 110 + 110) ⟨k17.vs, k17.vp, k17.bm, k17.D, p17.out.disk, fun _ h => h⟩ ok17.out (by omega) zu17 (D5.Masks.keep0 HMs.out G17.out) (Sl.nil 1 w17)
        rw [D17.out] at hBt
        have CO := Lib.hid hBt
        clear CC hBt
        go_wp2_with (first
          | (go_at_call 10; (with_reducible refine (CB.out).mono ?_); rintro e w' ⟨rfl, rfl⟩)
          | (go_at_call 15; (with_reducible refine (CO.out).mono ?_); rintro e w18 ⟨rfl, hp18, kp18⟩; have hp18 := Lib.hid hp18; have kp18 := Lib.hid kp18)
          | fail)
        have z18 := kp18.out.size
        have fP17 : ∀ i, D5.footP k.dp k17.vs k17.vp k17.bm i → footG k17 i := fun i hi => .inr (.inl (by rw [D17.out]; exact hi))
        have nP17 : ¬ D5.footP k.dp k17.vs k17.vp k17.bm k17.p := by have := p17.out.ne_p.1; rw [D17.out] at this; exact this
        have lp17 := p17.out.lt k17.p (.inl rfl)
        have G18 := Lib.hid (gb_kp G17.out kp18.out (fun i hi => Nat.le_trans zb (p17.out.ge i (fP17 i hi))))
        have HF18 := Lib.hid (show ∀ i, D5.Nw (D5.footP k.dp k17.vs k17.vp k17.bm) w17 w18 i → base ≤ i ∧ i < w18.heap.size from fun i hi => by
          rcases hi with hi | hi
          · exact ⟨p17.out.ge i (fP17 i hi), by have := p17.out.lt i (fP17 i hi); omega⟩
          · exact ⟨by omega, hi.2⟩)
        have NF18 := Lib.hid (show ¬ D5.Nw (D5.footP k.dp k17.vs k17.vp k17.bm) w17 w18 k17.p from fun e => by
          rcases e with e | e
          · exact nP17 e
          · omega)
        have hb18 := kp18.out.blk p17.out.blk nP17
        have HB18 := Lib.hid hb18
        have zu18 : base ≤ w18.heap.size := by omega
        have CO2 := Lib.hid (ov_open hp18.out (boot_idle g17.d []) (ok17.out.boot []) (by omega) op17.out (env_gb HE.out G18.out) zu18 (fun i hi => ⟨by have := (HF18.out i hi).1; omega, (HF18.out i hi).2⟩))
        unfold OpenO at CO2
        clear CO CB hb18 fP17 nP17
        go_wp2_with (first
          | (go_at_call 8; (with_reducible refine (CO2.out).mono ?_); rintro e w19 ⟨kq, gq, rfl, hQ, shQ, bzQ, scQ, dpQ, fQ, kQ⟩; have hQ := Lib.hid hQ; have shQ := Lib.hid shQ; have bzQ := Lib.hid bzQ; have scQ := Lib.hid scQ; have DQ := Lib.hid dpQ; clear dpQ; have fQ := Lib.hid fQ; have kQ := Lib.hid kQ)
          | fail)
        have z19 := kQ.out.size
        have G19 := Lib.hid (gb_kp G18.out kQ.out (fun i hi => Nat.le_trans zb (HF18.out i hi).1))
        have zu19 : base ≤ w19.heap.size := by omega
        have NQ := Lib.hid (show ¬ footG kq k17.p from fun e => by
          rcases fQ.out _ e with e | e
          · exact NF18.out e
          · omega)
        have HB19 := Lib.hid (kQ.out.blk HB18.out NF18.out)
        have CS := Lib.hid (state_any hQ.out shQ.out bzQ.out (by omega) zu19)
        unfold StateG at CS
        clear CO2
        go_wp2_with (first
          | (go_at_call 16; (with_reducible refine (CS.out).mono ?_); rintro e w20 ⟨bs, ms, kS, qS, rfl, lbs, hms, hMS, eS, dS, hqS, hPS, hokS, hfS, kpS⟩; have hMS := Lib.hid hMS; have ES := Lib.hid eS; have DS := Lib.hid dS; have hqS := Lib.hid hqS; have hPS := Lib.hid hPS; have hokS := Lib.hid hokS; have hfS := Lib.hid hfS; have kpS := Lib.hid kpS; clear eS dS)
          | fail)
        have z20 := kpS.out.size
        have G20 := Lib.hid (gb_kp G19.out kpS.out (fun i hi => Nat.le_trans zb (hQ.out.ge i hi)))
        have zu20 : base ≤ w20.heap.size := by omega
        have hq1 : qS = 1 := by rw [hqS.out, pagesN_len shQ.out.sto, cntV_one]
        have HB20 := Lib.hid (kpS.out.blk HB19.out NQ.out)
        have NS := Lib.hid (show ¬ footG kS k17.p from fun e => NQ.out (hfS.out _ e))
        have MS := Lib.hid (show ¬ footG kS bs from fun e => by have := hQ.out.lt _ (hfS.out _ e); omega)
        have lbs2 := hMS.out.lt
        have CB := Lib.hid (show Calls Tryz.prog 10 #[.pointer (some ⟨kq.p, 0, none⟩)] w20 (BeginGot w20 base kS { gq with d := idD gq.d qS, busy := false }) from by rw [← ES.out]; exact begin_any hPS.out shQ.out.dead rfl zu20)
        unfold BeginGot at CB
        clear CS
        go_wp2_with (first
          | (go_at_call 10; (with_reducible refine (CB.out).mono ?_); rintro e w21 ⟨y21, rfl, h21, k21, lx21, ltb21, lmb21, lbm21⟩; have h21 := Lib.hid h21; have k21 := Lib.hid k21)
          | fail)
        have z21 := k21.out.size
        have G21 := Lib.hid (gb_kp G20.out k21.out (fun i hi => by rw [hi]; exact Nat.le_trans zb hPS.out.bp))
        have HB21 := Lib.hid (k21.out.blk HB20.out (fun e => NS.out (.inl e)))
        have HM21 := Lib.hid (hMS.out.kp k21.out (fun e => MS.out (.inl e)))
        have hPD : D5.PD w21 base (footG kS) k.dp (idD gq.d qS) := by rw [← DQ.out, ← DS.out]; exact ⟨kS.vs, kS.vp, kS.bm, kS.D, h21.out.pg.disk, fun i h => .inr (.inl h)⟩
        have hOp : Opens (idD gq.d qS).secs (upd (fun _ => none) 1 (9, ⟨#[102, 105, 114, 115, 116]⟩)) := by show Opens gq.d.secs _; rw [scQ.out]; exact op17.out
        have CO3 := Lib.hid (ov_open hPD ⟨rfl, shQ.out.idle.2.1, rfl⟩ hokS.out (by omega) hOp (env_gb HE.out G21.out) (by omega) (fun i hi => ⟨by have := hPS.out.ge i hi; omega, by have := hPS.out.lt i hi; omega⟩))
        unfold OpenO at CO3
        clear CB hPD hOp
        go_wp2_with (first
          | (go_at_call 8; (with_reducible refine (CO3.out).mono ?_); rintro e w22 ⟨kr, gr, rfl, hR, shR, bzR, scR, dpR, fR, kR⟩; have hR := Lib.hid hR; have shR := Lib.hid shR; have DR := Lib.hid dpR; have fR := Lib.hid fR; have kR := Lib.hid kR; clear dpR scR)
          | fail)
        have z22 := kR.out.size
        have G22 := Lib.hid (gb_kp G21.out kR.out (fun i hi => Nat.le_trans zb (hPS.out.ge i hi)))
        have HB22 := Lib.hid (kR.out.blk HB21.out NS.out)
        have HM22 := Lib.hid (HM21.out.kp kR.out MS.out)
        have NR := Lib.hid (show ¬ footG kr k17.p from fun e => by
          rcases fR.out _ e with e | e
          · exact NS.out e
          · omega)
        have MR := Lib.hid (show ¬ footG kr bs from fun e => by
          rcases fR.out _ e with e | e
          · exact MS.out e
          · omega)
        have hAr := arm_pg hR.out 0
        rw [DR.out] at hAr
        have CA := Lib.hid hAr
        clear CO3 hAr
        go_wp2_with (first
          | (go_at_call 9; (with_reducible refine (CA.out).mono ?_); rintro e w23 ⟨rfl, k23, e23, d23, h23, f23, kp23⟩; have h23 := Lib.hid h23; have f23 := Lib.hid f23; have kp23 := Lib.hid kp23; have D23 := Lib.hid d23; clear d23 e23)
          | fail)
        have G23 := Lib.hid (gb_kp G22.out kp23.out (fun i hi => Nat.le_trans zb (hR.out.ge i hi)))
        have HB23 := Lib.hid (kp23.out.blk HB22.out NR.out)
        have HM23 := Lib.hid (HM22.out.kp kp23.out MR.out)
        have hPD : D5.PD w23 base (footG k23) k.dp (D5.armS gr.d 0) := by rw [← D23.out]; exact ⟨k23.vs, k23.vp, k23.bm, k23.D, h23.out.disk, fun i h => .inr (.inl h)⟩
        have CF := Lib.hid (open_off hPD (shR.out.ok.arms 0 (by omega)) (by omega) (arm_none gr.d shR.out.idle.1 (by have := shR.out.sto.n1; omega)) h23.out.lt)
        have hrl := p17.out.len
        clear CA hPD
        go_wp2_with (first
          | (go_at_call 8; (with_reducible refine (CF.out).mono ?_); rintro e w24 ⟨rfl, -, kp24⟩; have G24 := Lib.hid (gb_kp G23.out kp24 (fun i hi => Nat.le_trans zb (h23.out.ge i hi))); have hB24 := kp24.blk HB23.out (fun e => NR.out (f23.out _ e)); have hM24 := HM23.out.kp kp24 (fun e => MR.out (f23.out _ e)); have hcl := pgL_cells hrl hB24; rw [dd17.out, E17.out] at hcl; have cz0 := hcl.1; have cz14 := hcl.2; have hlen := hM24.len pairP shQ.out.sto.outV 1 (by rw [cntV_one]; rfl); have hlk : (Instr.lookup 33 (.map (some bs)) (.int .i64 1) false).run Tryz.prog w24 = .ok (.agg #[.int .i64 9, .string ⟨#[102, 105, 114, 115, 116]⟩]) w24 := Mp.getYes hM24 pairP (by constructor <;> omega) (upd_same _ _ _); have hep := eql_page w24; have CZ := Lib.hid (dead_c cz0 cz14); clear hB24 hM24 hcl kp24)
          | fail)
        go_wp2_with (first
          | (go_at_call 18; (with_reducible refine (left_none _).mono ?_); rintro e w' ⟨rfl, rfl⟩)
          | (go_at_call 19; (with_reducible refine (epoch_none _).mono ?_); rintro e w' ⟨rfl, rfl⟩)
          | (go_at_call 20; (with_reducible refine (dead_none _).mono ?_); rintro e w' ⟨rfl, rfl⟩)
          | (go_at_call 20; (with_reducible refine (CZ.out).mono ?_); rintro e w' ⟨rfl, rfl⟩)
          | (go_at_call 23; (with_reducible refine (write_nil 1 1 ⟨#[]⟩ _).mono ?_); rintro e w' ⟨rfl, rfl⟩)
          | (go_at_call 24; (with_reducible refine (drop_nil 1 _).mono ?_); rintro e w' ⟨rfl, rfl⟩)
          | (go_at_call 14; (with_reducible refine (commit_nil _).mono ?_); rintro e w' ⟨rfl, rfl⟩)
          | (go_at_call 25; (with_reducible refine (pages_empty _).mono ?_); rintro e w' ⟨rfl, rfl⟩)
          | fail)
        go_ret
        exact ⟨rfl, G24.out⟩
end Go.Proofs.YtjbfooaembpdfaaGreatDoor.J10
