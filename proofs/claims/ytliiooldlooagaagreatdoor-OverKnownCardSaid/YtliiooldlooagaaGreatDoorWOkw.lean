/-
  OverKnown's walk, over this seat's translation; conditions: the listed variables are laid.
-/
import Derived.Test.YtliiooldlooagaaGreatDoorWOkn
import Derived.Test.YtliiooldlooagaaGreatDoorWOzp
import Derived.Test.YtliiooldlooagaaGreatDoorZO3
set_option linter.unusedSimpArgs false
set_option linter.unusedVariables false
namespace Go.Proofs.YtliiooldlooagaaGreatDoor.O12
open Go.RowKit Go.Maps Go.Shelf J10
/-- The lengths that are asked, and how many pages they need. -/
def askL : List Int := [1, 238, 239, 476, 477, 2000, 2001, 0, -1]
def tellL : List Int := [1, 1, 2, 2, 3, 9, 0, 0, 0]
theorem ask_tell : ∀ k, k < 9 → needZ (askL.getD k 0) = tellL.getD k 0 ∧ -1 ≤ askL.getD k 0 ∧ askL.getD k 0 ≤ 2001 := by decide
theorem ask_at {k : Nat} (h : k < 9) : (askL.map (Value.int .i64))[k]? = some (.int .i64 (askL.getD k 0)) := by
  rw [List.getElem?_map, List.getD_eq_getElem?_getD, List.getElem?_eq_getElem (show k < askL.length from h)]; rfl
theorem tell_at {k : Nat} (h : k < 9) : (tellL.map (Value.int .i64))[k]? = some (.int .i64 (tellL.getD k 0)) := by
  rw [List.getElem?_map, List.getD_eq_getElem?_getD, List.getElem?_eq_getElem (show k < tellL.length from h)]; rfl
set_option maxRecDepth 100000 in
set_option maxHeartbeats 16000000 in
theorem known_walk {w : World} (hE : Env w) (h5 : 4 ≤ w.heap.size) : Calls Tryz.prog 5 #[] w fun e w' => e = .returned (.bool true) ∧ w.grownBy w' none := by
  have HE := Lib.hid hE
  have HWk := Lib.hid (works_any hE h5)
  have hrep : ∀ (x : UInt8) (n : Nat) (W : World), n ≤ 100000 → Calls Tryz.prog 17 #[.string ⟨#[x]⟩, .int .i64 (n : Nat)] W (fun e w' => e = .returned (.string ⟨(List.replicate n x).toArray⟩) ∧ W.grownBy w' none) := fun x n W hn =>
    (Tryz.strings_Repeat ⟨#[x]⟩ n W (by omega) (by show 1 * n ≤ _; omega)).mono fun e w' h => ⟨h.1.trans (congrArg (fun z => Ending.returned (Value.string ⟨List.toArray z⟩)) (rep_one x n)), gb_of_below h.2⟩
  have HRep := Lib.hid hrep
  clear hE hrep
  go_enter Tryz.func5, Tryz.ntmps5
  go_wp2_with (first
    | (go_at_call 6; (with_reducible refine HWk.out.mono ?_); rintro e w1 ⟨rfl, g1⟩; have g1 := Lib.hid g1)
    | fail)
  have z1 := g1.out.size
  have hbA : Blk (w1.alloc (.cells (askL.map (Value.int .i64)).toArray 3)) w1.heap.size 3 (askL.map (Value.int .i64)).toArray := Blk.mk w1 3 _
  have HBA := Lib.hid hbA
  clear hbA
  go_loopw [34] (fun v wr => ∃ k : Nat, k ≤ 9 ∧ v = .int .i64 (k : Nat) ∧ Blk wr w1.heap.size 3 (askL.map (Value.int .i64)).toArray ∧ w.grownBy wr none) (fun v _ => 9 - (intOf v).toNat)
  case atStart => exact ⟨0, by omega, rfl, HBA.out, gb_trans g1.out (gb_alloc _ _ _)⟩
  case round =>
    obtain ⟨k, hk, rfl, hb, hg⟩ := hrel
    have HG := Lib.hid hg
    have HB := Lib.hid hb
    by_cases hlt : k < 9
    · obtain ⟨hn, hn1, hn2⟩ := ask_tell k hlt
      have c0 := hb.cell k (by rw [List.getElem?_toArray]; exact ask_at hlt)
      obtain ⟨a, ha⟩ : ∃ a, askL.getD k 0 = a := ⟨_, rfl⟩
      obtain ⟨b, hbb⟩ : ∃ b, tellL.getD k 0 = b := ⟨_, rfl⟩
      rw [ha] at hn hn1 hn2 c0
      rw [hbb] at hn
      have HN := Lib.hid (fun W => need_any a (in64 (by omega) (by omega)) W)
      rw [hn] at HN
      have hget : ([.int .i64 1, .int .i64 1, .int .i64 2, .int .i64 2, .int .i64 3, .int .i64 9, .int .i64 0, .int .i64 0, .int .i64 0] : List Value)[k]'hlt = .int .i64 b := by
        have h1 : (tellL.map (Value.int .i64))[k]? = some (.int .i64 b) := by rw [← hbb]; exact tell_at hlt
        exact (List.getElem?_eq_some_iff.1 h1).2
      have hki : (k : Int) < 9 := by omega
      clear hg hb hn ha hbb
      go_wp2
      refine wp_region_noPanic ?_
      refine wp_region_held_drew (S := fun w' => wr.grownBy w' none) (by kernel_rfl) (gb_drew _ _) (fun hHeld => ?_)
      refine wpAnyH_take (i := 0) (v := ?_) (List.getElem?_toArray.trans rfl) (by kernel_rfl) (by kernel_rfl) (by kernel_rfl) (fun _ _ _ h => h) (Or.inl ⟨by rfl, ?_⟩) hHeld ?_
      rotate_left
      · intro w' hSw; go_simp; try with_reducible rfl
      try simp only [Act.put, List.setIfInBounds_toArray, List.set_cons_zero, List.set_cons_succ]
      refine wpAnyH_take (i := 3) (v := ?_) (List.getElem?_toArray.trans rfl) (by kernel_rfl) (by kernel_rfl) (by kernel_rfl) (fun _ _ _ h => h) (Or.inl ⟨by rfl, ?_⟩) hHeld ?_
      rotate_left
      · intro w' hSw; go_simp; try with_reducible rfl
      try simp only [Act.put, List.setIfInBounds_toArray, List.set_cons_zero, List.set_cons_succ]
      refine wpAnyH_ready (rs := [1, 2]) (by kernel_rfl) (by simp) ?_
      refine AllReadyH.cons (List.getElem?_toArray.trans rfl) (fun K hK => ?_) (AllReadyH.cons (List.getElem?_toArray.trans rfl) (fun K hK => ?_) AllReadyH.nil)
      · go_simp
        go_at_call 10
        (with_reducible refine (HN.out _).mono ?_)
        rintro e u1 ⟨rfl, rfl⟩
        refine hK.out _ _ hHeld (fun hHeld => ?_)
        clear hK K
        try simp only [Act.put, List.setIfInBounds_toArray, List.set_cons_zero, List.set_cons_succ]
        refine wpAnyH_ready (rs := [2]) (by kernel_rfl) (by simp) ?_
        refine AllReadyH.cons (List.getElem?_toArray.trans rfl) (fun K hK => ?_) AllReadyH.nil
        go_simp
        refine hK.out _ _ (gb_trans hHeld (gb_alloc _ _ _)) (fun hHeld => ?_)
        clear hK K
        try simp only [Act.put, List.setIfInBounds_toArray, List.set_cons_zero, List.set_cons_succ]
        refine wpAnyH_take (i := 4) (v := ?_) (List.getElem?_toArray.trans rfl) (by kernel_rfl) (by kernel_rfl) (by kernel_rfl) (fun _ _ _ h => h) (Or.inl ⟨by rfl, ?_⟩) hHeld ?_
        rotate_left
        · intro w' hSw; go_simp; try with_reducible rfl
        try simp only [Act.put, List.setIfInBounds_toArray, List.set_cons_zero, List.set_cons_succ]
        refine wpAnyH_ready (rs := [5]) (by kernel_rfl) (by simp) ?_
        refine AllReadyH.cons (List.getElem?_toArray.trans rfl) (fun K hK => ?_) AllReadyH.nil
        go_simp
        refine hK.out _ _ (hHeld) (fun hHeld => ?_)
        clear hK K
        try simp only [Act.put, List.setIfInBounds_toArray, List.set_cons_zero, List.set_cons_succ]
        refine wpAnyH_take (i := 6) (v := ?_) (List.getElem?_toArray.trans rfl) (by kernel_rfl) (by kernel_rfl) (by kernel_rfl) (fun _ _ _ h => h) (Or.inl ⟨by rfl, ?_⟩) hHeld ?_
        rotate_left
        · intro w' hSw; go_simp; try with_reducible rfl
        try simp only [Act.put, List.setIfInBounds_toArray, List.set_cons_zero, List.set_cons_succ]
        refine wpAnyH_done (by kernel_rfl) ?_ _
        refine NoPanic.normal ?_
        go_wp2
        go_roundw
        case rel => exact ⟨k + 1, by omega, by go_num, HB.out.keep0 hHeld, gb_trans HG.out hHeld⟩
        case measure => simp [intOf]; omega
      · go_simp
        refine hK.out _ _ (gb_trans hHeld (gb_alloc _ _ _)) (fun hHeld => ?_)
        clear hK K
        try simp only [Act.put, List.setIfInBounds_toArray, List.set_cons_zero, List.set_cons_succ]
        refine wpAnyH_take (i := 4) (v := ?_) (List.getElem?_toArray.trans rfl) (by kernel_rfl) (by kernel_rfl) (by kernel_rfl) (fun _ _ _ h => h) (Or.inl ⟨by rfl, ?_⟩) hHeld ?_
        rotate_left
        · intro w' hSw; go_simp; try with_reducible rfl
        try simp only [Act.put, List.setIfInBounds_toArray, List.set_cons_zero, List.set_cons_succ]
        refine wpAnyH_ready (rs := [1, 5]) (by kernel_rfl) (by simp) ?_
        refine AllReadyH.cons (List.getElem?_toArray.trans rfl) (fun K hK => ?_) (AllReadyH.cons (List.getElem?_toArray.trans rfl) (fun K hK => ?_) AllReadyH.nil)
        · go_simp
          go_at_call 10
          (with_reducible refine (HN.out _).mono ?_)
          rintro e u1 ⟨rfl, rfl⟩
          refine hK.out _ _ hHeld (fun hHeld => ?_)
          clear hK K
          try simp only [Act.put, List.setIfInBounds_toArray, List.set_cons_zero, List.set_cons_succ]
          refine wpAnyH_ready (rs := [5]) (by kernel_rfl) (by simp) ?_
          refine AllReadyH.cons (List.getElem?_toArray.trans rfl) (fun K hK => ?_) AllReadyH.nil
          go_simp
          refine hK.out _ _ (hHeld) (fun hHeld => ?_)
          clear hK K
          try simp only [Act.put, List.setIfInBounds_toArray, List.set_cons_zero, List.set_cons_succ]
          refine wpAnyH_take (i := 6) (v := ?_) (List.getElem?_toArray.trans rfl) (by kernel_rfl) (by kernel_rfl) (by kernel_rfl) (fun _ _ _ h => h) (Or.inl ⟨by rfl, ?_⟩) hHeld ?_
          rotate_left
          · intro w' hSw; go_simp; try with_reducible rfl
          try simp only [Act.put, List.setIfInBounds_toArray, List.set_cons_zero, List.set_cons_succ]
          refine wpAnyH_done (by kernel_rfl) ?_ _
          refine NoPanic.normal ?_
          go_wp2
          go_roundw
          case rel => exact ⟨k + 1, by omega, by go_num, HB.out.keep0 hHeld, gb_trans HG.out hHeld⟩
          case measure => simp [intOf]; omega
        · go_simp
          refine hK.out _ _ hHeld (fun hHeld => ?_)
          clear hK K
          try simp only [Act.put, List.setIfInBounds_toArray, List.set_cons_zero, List.set_cons_succ]
          refine wpAnyH_ready (rs := [1]) (by kernel_rfl) (by simp) ?_
          refine AllReadyH.cons (List.getElem?_toArray.trans rfl) (fun K hK => ?_) AllReadyH.nil
          go_simp
          go_at_call 10
          (with_reducible refine (HN.out _).mono ?_)
          rintro e u1 ⟨rfl, rfl⟩
          refine hK.out _ _ (hHeld) (fun hHeld => ?_)
          clear hK K
          try simp only [Act.put, List.setIfInBounds_toArray, List.set_cons_zero, List.set_cons_succ]
          refine wpAnyH_take (i := 6) (v := ?_) (List.getElem?_toArray.trans rfl) (by kernel_rfl) (by kernel_rfl) (by kernel_rfl) (fun _ _ _ h => h) (Or.inl ⟨by rfl, ?_⟩) hHeld ?_
          rotate_left
          · intro w' hSw; go_simp; try with_reducible rfl
          try simp only [Act.put, List.setIfInBounds_toArray, List.set_cons_zero, List.set_cons_succ]
          refine wpAnyH_done (by kernel_rfl) ?_ _
          refine NoPanic.normal ?_
          go_wp2
          go_roundw
          case rel => exact ⟨k + 1, by omega, by go_num, HB.out.keep0 hHeld, gb_trans HG.out hHeld⟩
          case measure => simp [intOf]; omega
    · obtain rfl : k = 9 := by omega
      have zr := HG.out.size
      have HFr := Lib.hid (show Calls Tryz.prog 7 #[.int .i64 64] wr (FreshG wr 64) from fresh_live (env_gb HE.out HG.out) (Nat.le_trans h5 zr) (m := 64) (by omega) (by omega))
      unfold FreshG at HFr
      obtain ⟨A, hA⟩ : ∃ A : ByteArray, A = ⟨(List.replicate 2001 97).toArray⟩ := ⟨_, rfl⟩
      have hAz : 2000 < A.size := by
        have : A.size = 2001 := by rw [hA]; exact List.length_replicate
        omega
      have HRA := Lib.hid (fun W => show Calls Tryz.prog 17 #[.string ⟨#[97]⟩, .int .i64 2001] W (fun e w' => e = .returned (.string A) ∧ W.grownBy w' none) from by rw [hA]; exact HRep.out 97 2001 W (by omega))
      have HRB := Lib.hid (fun W => show Calls Tryz.prog 17 #[.string ⟨#[98]⟩, .int .i64 500] W (fun e w' => e = .returned (.string (rb 500)) ∧ W.grownBy w' none) from HRep.out 98 500 W (by omega))
      have HRC := Lib.hid (fun W => show Calls Tryz.prog 17 #[.string ⟨#[98]⟩, .int .i64 24] W (fun e w' => e = .returned (.string (rb 24)) ∧ W.grownBy w' none) from HRep.out 98 24 W (by omega))
      have HRD := Lib.hid (fun W => show Calls Tryz.prog 17 #[.string ⟨#[98]⟩, .int .i64 238] W (fun e w' => e = .returned (.string (rb 238)) ∧ W.grownBy w' none) from HRep.out 98 238 W (by omega))
      have HAz := Lib.hid hAz
      have hsz5 : (((rb 500).size : Nat) : Int) = 500 := by rw [rb_size]; rfl
      clear hA hAz HBA hb hg
      go_wp2_with (first
        | (go_at_call 7; (with_reducible refine HFr.out.mono ?_); rintro e w2 ⟨p, F, y, g0, rfl, hL, har, hsl, hre, hlf, hF, g2⟩; have hL := Lib.hid hL; have har := Lib.hid har; have hlf := Lib.hid hlf; have hF := Lib.hid hF; have g2 := Lib.hid g2)
        | (go_at_call 9; (with_reducible refine (put_empty _).mono ?_); rintro e w3 ⟨rfl, g3⟩; have g3 := Lib.hid g3)
        | (go_at_call 9; (with_reducible refine (put_long _ A HAz.out).mono ?_); rintro e w5 ⟨rfl, g5⟩; have g5 := Lib.hid g5; have HRA := Lib.hid True.intro)
        | (go_at_call 17; (with_reducible refine (HRA.out _).mono ?_); rintro e w4 ⟨rfl, g4⟩; have g4 := Lib.hid g4)
        | (go_at_call 17; (with_reducible refine (HRB.out _).mono ?_); rintro e w6 ⟨rfl, g6⟩; have g6 := Lib.hid g6)
        | (go_at_call 9; refine hold ?_)
        | fail)
      have z2 := g2.out.size
      have zF : ∀ W : World, w2.heap.size ≤ W.heap.size → ∀ i, F i → i < W.heap.size := fun W h i hi => Nat.lt_of_lt_of_le (hF.out i hi).2 h
      have ZF := Lib.hid zF
      have hb5 : 4 ≤ wr.heap.size := Nat.le_trans h5 zr
      have g36 := gb_trans (gb_trans (gb_trans g3.out g4.out) g5.out) g6.out
      have z6 : w2.heap.size ≤ w6.heap.size := g36.size
      have G6 := Lib.hid (gb_trans (gb_trans HG.out g2.out) g36)
      have L6 := Lib.hid (hL.out.keep0 g36)
      have HPt := Lib.hid (put_first L6.out (zF _ z6) (env_gb HE.out G6.out) hb5 (by omega) (s := rb 500) (by rw [rb_size]; omega) (by rw [rb_size]; omega) (by rw [rb_size]; decide) (m := 3) (by rw [rb_size]; rfl) (q := 3) rfl)
      unfold PutR at HPt
      clear zF g36 hsl hre HFr HRA HRB
      unfold Hold
      go_wp2_with (first
        | (go_at_call 9; (with_reducible refine HPt.out.mono ?_); rintro e w7 ⟨rfl, n7, V3, hn7, k7, -, hCh, -, hLv, hcn⟩; have k7 := Lib.hid k7; have HCh := Lib.hid hCh; have L7 := Lib.hid hLv; have HCn := Lib.hid hcn; clear hCh hLv hcn)
        | (go_at_call 17; (with_reducible refine (HRC.out _).mono ?_); rintro e w8 ⟨rfl, g8⟩; have g8 := Lib.hid g8)
        | (go_at_call 18; refine hold ?_)
        | fail)
      have z7 := k7.out.size
      have z8 := g8.out.size
      have hv1 : V3 1 ≠ none := (HCh.out.stands 1 (by decide)).1
      have hv2 : V3 2 ≠ none := (HCh.out.stands 2 (by decide)).1
      have hc3 : cntV V3 = 3 := by rw [HCn.out, rb_size, show cntV V0 = 0 from cntV_nil]; rfl
      have hT3 := three_of HCh.out
      have HT3 := Lib.hid hT3
      have bl := L6.out.base_le
      have HBl := Lib.hid bl
      have G8 := Lib.hid (gb_trans (gb_kp G6.out k7.out (fun i hi => Nat.le_trans zr (bl i hi))) g8.out)
      have L8 := Lib.hid (L7.out.keep0 g8.out)
      obtain ⟨V4, hV4⟩ : ∃ V4, upd V3 1 (4, (⟨#[0, 0]⟩ : ByteArray) ++ rb 24) = V4 := ⟨_, rfl⟩
      have hq1 := get_kind hT3 ((⟨#[0, 0]⟩ : ByteArray) ++ rb 24)
      have hT4 := hT3.upd1 (4, (⟨#[0, 0]⟩ : ByteArray) ++ rb 24)
      have hc4 := cnt_over hv1 (4, (⟨#[0, 0]⟩ : ByteArray) ++ rb 24)
      have hv4 : V4 1 ≠ none := by rw [← hV4, upd_same]; exact fun e => by cases e
      have hw4 : V4 2 ≠ none := by rw [← hV4, upd_off _ _ (by decide)]; exact hv2
      have sz24 : ∀ k : UInt8, ((⟨#[0, k]⟩ : ByteArray) ++ rb 24).size ≤ 240 := fun k => by rw [app_body, bodyB_size, List.length_replicate]; decide
      have hW4 := write_live L8.out (env_gb HE.out G8.out).tab (by omega) (q := 1) (kd := 4) (b := (⟨#[0, 0]⟩ : ByteArray) ++ rb 24) (by omega) (by omega) (sz24 0) hv1 (by have := live_left L8.out; rw [hc3, hlf.out] at this; omega) (kz := 4) rfl
      rw [hV4] at hq1 hT4 hc4 hW4
      rw [hc3] at hc4
      have HQ1 := Lib.hid hq1
      have HT4 := Lib.hid hT4
      have HW4 := Lib.hid hW4
      clear hq1 hT3 hT4 hW4 hV4 bl HPt
      unfold Hold
      go_wp2_with (first
        | (go_at_call 18; (with_reducible refine HW4.out.mono ?_); rintro e w9 ⟨rfl, n9, s9, hn9, k9, L9⟩; have k9 := Lib.hid k9; have L9 := Lib.hid L9; have z9 := k9.out.size; have HG9 := Lib.hid (get_no L9.out (ZF.out _ (by omega)) har.out (by omega) (first := 3) (in64 (by omega) (by omega)) (len := 500) (by omega) (by omega) (zl := 500) rfl HQ1.out))
        | (go_at_call 15; (with_reducible refine HG9.out.mono ?_); rintro e w10 ⟨rfl, k10, L10⟩; have k10 := Lib.hid k10; have L10 := Lib.hid L10)
        | (go_at_call 17; (with_reducible refine (HRC.out _).mono ?_); rintro e w11 ⟨rfl, g11⟩; have g11 := Lib.hid g11)
        | (go_at_call 18; refine hold ?_)
        | fail)
      have z10 := k10.out.size
      have z11 := g11.out.size
      have G11 := Lib.hid (gb_trans (gb_kp (gb_kp G8.out k9.out (fun i hi => Nat.le_trans zr (HBl.out i hi))) k10.out (fun i hi => Nat.le_trans zr (hF.out i hi).1)) g11.out)
      have L11 := Lib.hid (L10.out.keep0 g11.out)
      obtain ⟨V5, hV5⟩ : ∃ V5, upd V4 1 (2, (⟨#[0, 3]⟩ : ByteArray) ++ rb 24) = V5 := ⟨_, rfl⟩
      have hq1 := get_next HT4.out
      have hT5 := HT4.out.upd1 (2, (⟨#[0, 3]⟩ : ByteArray) ++ rb 24)
      have hc5 := cnt_over hv4 (2, (⟨#[0, 3]⟩ : ByteArray) ++ rb 24)
      have hv5 : V5 1 ≠ none := by rw [← hV5, upd_same]; exact fun e => by cases e
      have hw5 : V5 2 ≠ none := by rw [← hV5, upd_off _ _ (by decide)]; exact hw4
      have hW5 := write_live L11.out (env_gb HE.out G11.out).tab (by omega) (q := 1) (kd := 2) (b := (⟨#[0, 3]⟩ : ByteArray) ++ rb 24) (by omega) (by omega) (sz24 3) hv4 (by have := live_left L11.out; rw [hc4, hlf.out] at this; omega) (kz := 2) rfl
      rw [hV5] at hq1 hT5 hc5 hW5
      rw [hc4] at hc5
      have HQ2 := Lib.hid hq1
      have HT5 := Lib.hid hT5
      have HW5 := Lib.hid hW5
      clear hq1 hT5 hW5 hV5 HT4 HW4 HQ1
      unfold Hold
      go_wp2_with (first
        | (go_at_call 18; (with_reducible refine HW5.out.mono ?_); rintro e w12 ⟨rfl, n12, s12, hn12, k12, L12⟩; have k12 := Lib.hid k12; have L12 := Lib.hid L12; have z12 := k12.out.size; have HG12 := Lib.hid (get_no L12.out (ZF.out _ (by omega)) har.out (by omega) (first := 3) (in64 (by omega) (by omega)) (len := 500) (by omega) (by omega) (zl := 500) rfl HQ2.out))
        | (go_at_call 15; (with_reducible refine HG12.out.mono ?_); rintro e w13 ⟨rfl, k13, L13⟩; have k13 := Lib.hid k13; have L13 := Lib.hid L13)
        | (go_at_call 17; (with_reducible refine (HRC.out _).mono ?_); rintro e w14 ⟨rfl, g14⟩; have g14 := Lib.hid g14)
        | (go_at_call 18; refine hold ?_)
        | fail)
      have z13 := k13.out.size
      have z14 := g14.out.size
      have G14 := Lib.hid (gb_trans (gb_kp (gb_kp G11.out k12.out (fun i hi => Nat.le_trans zr (HBl.out i hi))) k13.out (fun i hi => Nat.le_trans zr (hF.out i hi).1)) g14.out)
      have L14 := Lib.hid (L13.out.keep0 g14.out)
      obtain ⟨V6, hV6⟩ : ∃ V6, upd V5 1 (2, (⟨#[0, 0]⟩ : ByteArray) ++ rb 24) = V6 := ⟨_, rfl⟩
      have hq1 := get_good HT5.out
      have hT6 := HT5.out.upd1 (2, (⟨#[0, 0]⟩ : ByteArray) ++ rb 24)
      have hc6 := cnt_over hv5 (2, (⟨#[0, 0]⟩ : ByteArray) ++ rb 24)
      have hw6 : V6 2 ≠ none := by rw [← hV6, upd_off _ _ (by decide)]; exact hw5
      have hW6 := write_live L14.out (env_gb HE.out G14.out).tab (by omega) (q := 1) (kd := 2) (b := (⟨#[0, 0]⟩ : ByteArray) ++ rb 24) (by omega) (by omega) (sz24 0) hv5 (by have := live_left L14.out; rw [hc5, hlf.out] at this; omega) (kz := 2) rfl
      rw [hV6] at hq1 hT6 hc6 hW6
      rw [hc5] at hc6
      have HQ3 := Lib.hid hq1
      have HT6 := Lib.hid hT6
      have HW6 := Lib.hid hW6
      clear hq1 hT6 hW6 hV6 HT5 HW5 HQ2
      unfold Hold
      go_wp2_with (first
        | (go_at_call 18; (with_reducible refine HW6.out.mono ?_); rintro e w15 ⟨rfl, n15, s15, hn15, k15, L15⟩; have k15 := Lib.hid k15; have L15 := Lib.hid L15; have z15 := k15.out.size; have HG15 := Lib.hid (get_ok L15.out (ZF.out _ (by omega)) har.out (by omega) (first := 3) (in64 (by omega) (by omega)) (len := 500) (by omega) (by omega) (zl := 500) rfl HQ3.out))
        | (go_at_call 15; (with_reducible refine HG15.out.mono ?_); rintro e w16 ⟨rfl, k16, L16⟩; have k16 := Lib.hid k16; have L16 := Lib.hid L16)
        | (go_at_call 17; (with_reducible refine (HRD.out _).mono ?_); rintro e w17 ⟨rfl, g17⟩; have g17 := Lib.hid g17)
        | (go_at_call 18; refine hold ?_)
        | fail)
      have z16 := k16.out.size
      have z17 := g17.out.size
      have G17 := Lib.hid (gb_trans (gb_kp (gb_kp G14.out k15.out (fun i hi => Nat.le_trans zr (HBl.out i hi))) k16.out (fun i hi => Nat.le_trans zr (hF.out i hi).1)) g17.out)
      have L17 := Lib.hid (L16.out.keep0 g17.out)
      have hqd := drop_less HT6.out (2, (⟨#[0, 0]⟩ : ByteArray) ++ rb 238)
      obtain ⟨V7, hV7⟩ : ∃ V7, upd V6 2 (2, (⟨#[0, 0]⟩ : ByteArray) ++ rb 238) = V7 := ⟨_, rfl⟩
      have hq1 := get_less HT6.out
      have hw7 : V7 2 ≠ none := by rw [← hV7, upd_same]; exact fun e => by cases e
      have hW7 := write_live L17.out (env_gb HE.out G17.out).tab (by omega) (q := 2) (kd := 2) (b := (⟨#[0, 0]⟩ : ByteArray) ++ rb 238) (by omega) (by omega) (by rw [app_body, bodyB_size, List.length_replicate]; decide) hw6 (by have := live_left L17.out; rw [hc6, hlf.out] at this; omega) (kz := 2) rfl
      rw [hV7] at hq1 hW7 hqd
      have HQ4 := Lib.hid hq1
      have HQD := Lib.hid hqd
      have HW7 := Lib.hid hW7
      clear hq1 hqd hW7 hV7 HT6 HW6 HQ3
      unfold Hold
      go_wp2_with (first
        | (go_at_call 18; (with_reducible refine HW7.out.mono ?_); rintro e w18 ⟨rfl, n18, s18, hn18, k18, L18⟩; have k18 := Lib.hid k18; have L18 := Lib.hid L18; have z18 := k18.out.size; have HG18 := Lib.hid (get_no L18.out (ZF.out _ (by omega)) har.out (by omega) (first := 3) (in64 (by omega) (by omega)) (len := 500) (by omega) (by omega) (zl := 500) rfl HQ4.out))
        | (go_at_call 15; (with_reducible refine HG18.out.mono ?_); rintro e w19 ⟨rfl, k19, L19⟩; have k19 := Lib.hid k19; have L19 := Lib.hid L19; have z19 := k19.out.size; have HD19 := Lib.hid (drop_live L19.out hw7))
        | (go_at_call 19; (with_reducible refine HD19.out.mono ?_); rintro e w20 ⟨rfl, n20, s20, hn20, L20, k20⟩; have k20 := Lib.hid k20; have L20 := Lib.hid L20; have z20 := k20.out.size; have HD20 := Lib.hid (drop_no L20.out (ZF.out _ (by omega)) har.out (by omega) (first := 3) (in64 (by omega) (by omega)) HQD.out))
        | (go_at_call 11; (with_reducible refine HD20.out.mono ?_); rintro e w21 ⟨rfl, k21, L21⟩; have k21 := Lib.hid k21; have L21 := Lib.hid L21)
        | (go_at_call 15; refine hold ?_)
        | fail)
      have z21 := k21.out.size
      have hFX : ∀ i, FX F y i → wr.heap.size ≤ i := fun i hi => FX.ge L21.out (fun i hi => (hF.out i hi).1) hi
      have G21 := Lib.hid (gb_kp (gb_kp (gb_kp (gb_kp G17.out k18.out (fun i hi => Nat.le_trans zr (HBl.out i hi))) k19.out (fun i hi => Nat.le_trans zr (hF.out i hi).1)) k20.out (fun i hi => Nat.le_trans zr (HBl.out i hi))) k21.out (fun i hi => Nat.le_trans zr (hFX i hi)))
      have HAb := Lib.hid (abort_live L21.out (fun i hi => (hF.out i hi).1))
      clear hFX HW7 HQ4 HQD
      unfold Hold
      go_wp2_with (first
        | (go_at_call 15; (with_reducible refine (get_arg 3 2001 (in64 (by omega) (by omega)) (by omega)).mono ?_); rintro e w22 ⟨rfl, rfl⟩)
        | (go_at_call 20; (with_reducible refine HAb.out.mono ?_); rintro e w23 ⟨rfl, hov, k23⟩; have k23 := Lib.hid k23; have HPg := Lib.hid (put_gone (gone_over hov) (.inr rfl) (s := ⟨#[120]⟩) (by decide) (by decide)); have HOv := Lib.hid hov)
        | (go_at_call 9; (with_reducible refine HPg.out.mono ?_); rintro e w24 ⟨rfl, g24⟩; have HGg := Lib.hid (get_gone ((gone_over HOv.out).kp (D5.Kp.of0 g24)) (.inr rfl) 3 (len := 5) (by omega) (by omega) (zl := 5) rfl); have g24 := Lib.hid g24)
        | (go_at_call 15; (with_reducible refine HGg.out.mono ?_); rintro e w25 ⟨rfl, g25⟩; have g25 := Lib.hid g25; have HPn := Lib.hid (put_gone (gone_nil w25) (.inl rfl) (s := ⟨#[120]⟩) (by decide) (by decide)))
        | (go_at_call 9; (with_reducible refine HPn.out.mono ?_); rintro e w26 ⟨rfl, g26⟩; have g26 := Lib.hid g26; have HDn := Lib.hid (chainDrop_gone (gone_nil w26) (.inl rfl) 1))
        | (go_at_call 11; (with_reducible refine HDn.out.mono ?_); rintro e w27 ⟨rfl, g27⟩; have g27 := Lib.hid g27)
        | fail)
      go_ret
      exact ⟨rfl, gb_trans (gb_trans (gb_trans (gb_trans (gb_kp G21.out k23.out (fun i hi => Nat.le_trans zr hi)) g24.out) g25.out) g26.out) g27.out⟩
end Go.Proofs.YtliiooldlooagaaGreatDoor.O12
