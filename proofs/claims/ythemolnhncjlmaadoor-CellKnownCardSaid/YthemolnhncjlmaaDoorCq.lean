/-
  What the document's own Open answers, over this seat's translation; no conditions beside the model's own.
-/
import Derived.Test.YthemolnhncjlmaaDoorCr
import Derived.Laws.Rows
import Derived.Laws.Strings
namespace Go.Proofs.YthemolnhncjlmaaDoor
open Go.RowKit

theorem beq_text (x y : ByteArray) (l r : List UInt8) (hx : x.data.toList = l) (hy : y.data.toList = r) : (x.toList == y.toList) = (l == r) := by
  rw [ByteArray.toList_eq, ByteArray.toList_eq, hx, hy]
theorem at_text (s : ByteArray) (j n : Nat) (h : j < s.size) (hn : (s.data.toList.getD j 0).toNat = n) : s[j].toNat = n := by
  rw [← hn, List.getD_eq_getElem?_getD, List.getElem?_eq_getElem (by exact h)]; rfl
def okK (l : List UInt8) : Nat := if (openF l).1 = 0 then kindF l else 0
def okB (l : List UInt8) : List UInt8 := if (openF l).1 = 0 then bodyF l else []
/-- What the document opens. -/
def RefOpened (w : World) (l : List UInt8) (e : Ending) (w' : World) : Prop :=
  e = .returned (.tuple #[.int .i64 (okK l : Nat), .string ⟨(okB l).toArray⟩, .agg #[.int .i64 ((openF l).1 : Nat), .int .i64 ((openF l).2 : Nat)]]) ∧ w.grownBy w' none
theorem results_ttc {fn : Func} {t u p : Tmp} (h : fn.results = #[.tmp t, .tmp u, .cell p 51]) (tmps : Array Value) (w : World) (b : Nat) (x y : Value)
    (hp : tmps.getD p undef = .pointer (some ⟨b, 0, none⟩)) (hb : Blk w b 51 #[x, y]) :
    (results fn tmps).run Tryd.prog w = .ok (.tuple #[tmps.getD t undef, tmps.getD u undef, .agg #[x, y]]) w := by
  have hp' : tmps[p]?.getD undef = .pointer (some ⟨b, 0, none⟩) := by simpa using hp
  simp [results, h, hp', asAddr, run_loadVar_row (P := Tryd.prog) w b 51 51 #[x, y] (0, 0) _ hb Tryd.underlying51 rfl (by show _ = some 2; kernel_rfl)]
theorem blk_two {w : World} {b : Nat} {x y : Value} (hb : Blk w b 51 #[x, y]) (x' y' : Value) : Blk ((w.setCell ⟨b, 0, none⟩ x').setCell ⟨b, 1, none⟩ y') b 51 #[x', y'] := (hb.set 0 x').set 1 y'
theorem gb_two {w w1 : World} {b : Nat} (h : w.grownBy w1 none) (hb : w.heap.size ≤ b) (x' y' : Value) : w.grownBy ((w1.setCell ⟨b, 0, none⟩ x').setCell ⟨b, 1, none⟩ y') none :=
  gb_step (gb_step h (gb_set _ _ _ _ _) hb) (gb_set _ _ _ _ _) hb
set_option maxRecDepth 100000 in
set_option maxHeartbeats 2000000 in
theorem refOpen_short (s : ByteArray) (w : World) (hs : s.size ≠ 256) :
    Calls Tryd.prog 18 #[.string s] w (RefOpened w s.data.toList) := by
  have he := openF_short s.data.toList hs
  have HE := Lib.hid he
  have hs1 : ((s.size : Int) != 256) = true := by simp; omega
  clear he
  go_enter Tryd.func18, Tryd.ntmps18
  go_wp2
  have b0 := Blk.mk w 51 #[.int .i64 2, .int .i64 0]
  refine bodyPost_ret (results_ttc rfl _ _ _ _ _ rfl b0) rfl ⟨?_, gb_alloc _ _ _⟩
  unfold okK okB
  rw [HE.out]
  rfl
set_option maxRecDepth 100000 in
set_option maxHeartbeats 2000000 in
theorem refOpen_sum (s : ByteArray) (w : World) (hs : s.size = 256) (hq : s.data.toList.drop 252 ≠ sumF (s.data.toList.take 252)) :
    Calls Tryd.prog 18 #[.string s] w (RefOpened w s.data.toList) := by
  have HE := Lib.hid (show openF s.data.toList = (8, 252) by unfold openF; rw [if_neg (by show ¬ s.size ≠ 256; omega), if_pos hq])
  have hml := moreN_lt 1 (s.data.toList.take 252)
  have hmw : IntKind.u64.wrap ((moreN 1 (s.data.toList.take 252) : Nat) : Int) = ((moreN 1 (s.data.toList.take 252) : Nat) : Int) := u64_small _ (by omega)
  have HX := Lib.hid (show (s.extract 0 252).size ≤ 140737488351232 by simp; omega)
  have HC := Lib.hid (show ∀ v : ByteArray, v.data.toList = digits (moreN 1 (s.data.toList.take 252)) 4 → ((s.extract 252 256).toList == v.toList) = false from fun v hv => by
    rw [beq_text _ _ (s.data.toList.drop 252) (sumF (s.data.toList.take 252)) (by simp; exact List.take_of_length_le (by simp; omega)) hv]
    simpa using hq)
  clear hq
  go_enter Tryd.func18, Tryd.ntmps18
  go_wp2
  have k0 := Blk.mk w 51 #[.int .i64 0, .int .i64 0]
  have g0 := gb_alloc w (.cells #[.int .i64 0, .int .i64 0] 51) none
  generalize w.alloc (.cells #[.int .i64 0, .int .i64 0] 51) = w1 at k0 g0 ⊢
  have K0 := Lib.hid k0
  have G0 := Lib.hid g0
  clear k0 g0
  go_region_with (first
    | (go_at_call 12; (with_reducible refine (refOf_any _ _ HX.out).mono ?_); rintro e w2 ⟨rfl, rfl⟩)
    | (go_at_call 11; (with_reducible refine (bytes4 _ _ hml).mono ?_); rintro e w3 ⟨v, rfl, hv, g3⟩; have hvs : v.size = 4 := (by show v.data.size = 4; rw [← Array.length_toList, hv, digits_length]); have hcmp := HC.out v hv))
  have k3 := K0.out.keep0 (gb_trans (gb_drew _ _) g3)
  have G3 := Lib.hid (gb_trans G0.out (gb_trans (gb_drew _ _) g3))
  have c0 := k3.cell 0 rfl
  have c1 := k3.cell 1 rfl
  have f0 := k3.free 0
  have f1 := k3.free 1
  have K3 := Lib.hid k3
  clear k3 g3 hv hvs hml hmw
  go_wp2
  have k4 := blk_two K3.out (.int .i64 8) (.int .i64 252)
  refine bodyPost_ret (results_ttc rfl _ _ _ _ _ rfl k4) rfl ⟨?_, gb_two G3.out (Nat.le_refl _) _ _⟩
  unfold okK okB
  rw [HE.out]
  rfl
set_option maxRecDepth 100000 in
set_option maxHeartbeats 2000000 in
theorem refOpen_kind (s : ByteArray) (w : World) (hs : s.size = 256) (hq : s.data.toList.drop 252 = sumF (s.data.toList.take 252)) (hk : kindF s.data.toList = 0) :
    Calls Tryd.prog 18 #[.string s] w (RefOpened w s.data.toList) := by
  have HE := Lib.hid (show openF s.data.toList = (6, 0) by unfold openF; rw [if_neg (by show ¬ s.size ≠ 256; omega), if_neg (fun h => h hq), if_pos hk])
  have hml := moreN_lt 1 (s.data.toList.take 252)
  have hmw : IntKind.u64.wrap ((moreN 1 (s.data.toList.take 252) : Nat) : Int) = ((moreN 1 (s.data.toList.take 252) : Nat) : Int) := u64_small _ (by omega)
  have HX := Lib.hid (show (s.extract 0 252).size ≤ 140737488351232 by simp; omega)
  have HC := Lib.hid (show ∀ v : ByteArray, v.data.toList = digits (moreN 1 (s.data.toList.take 252)) 4 → ((s.extract 252 256).toList == v.toList) = true from fun v hv => by
    rw [beq_text _ _ (s.data.toList.drop 252) (sumF (s.data.toList.take 252)) (by simp; exact List.take_of_length_le (by simp; omega)) hv]
    simpa using hq)
  clear hq
  go_enter Tryd.func18, Tryd.ntmps18
  go_wp2
  have k0 := Blk.mk w 51 #[.int .i64 0, .int .i64 0]
  have g0 := gb_alloc w (.cells #[.int .i64 0, .int .i64 0] 51) none
  generalize w.alloc (.cells #[.int .i64 0, .int .i64 0] 51) = w1 at k0 g0 ⊢
  have K0 := Lib.hid k0
  have G0 := Lib.hid g0
  clear k0 g0
  go_region_with (first
    | (go_at_call 12; (with_reducible refine (refOf_any _ _ HX.out).mono ?_); rintro e w2 ⟨rfl, rfl⟩)
    | (go_at_call 11; (with_reducible refine (bytes4 _ _ hml).mono ?_); rintro e w3 ⟨v, rfl, hv, g3⟩; have hvs : v.size = 4 := (by show v.data.size = 4; rw [← Array.length_toList, hv, digits_length]); have hcmp := HC.out v hv))
  have k3 := K0.out.keep0 (gb_trans (gb_drew _ _) g3)
  have G3 := Lib.hid (gb_trans G0.out (gb_trans (gb_drew _ _) g3))
  have c0 := k3.cell 0 rfl
  have c1 := k3.cell 1 rfl
  have f0 := k3.free 0
  have f1 := k3.free 1
  have K3 := Lib.hid k3
  clear k3 g3 hv hvs hml hmw
  obtain ⟨k, hke⟩ : ∃ k, kindF s.data.toList = k := ⟨_, rfl⟩
  obtain ⟨n, hne⟩ : ∃ n, longF s.data.toList = n := ⟨_, rfl⟩
  have i0 := at_text s 0 k (by omega) hke
  have i1 := at_text s 1 n (by omega) hne
  have hnl := longF_lt s.data.toList
  have hkl := kindF_lt s.data.toList
  rw [hke] at hkl hk
  rw [hne] at hnl
  have HN := Lib.hid hne
  have HK := Lib.hid hke
  clear hne hke
  subst hk
  go_wp2
  have k4 := blk_two K3.out (.int .i64 6) (.int .i64 0)
  refine bodyPost_ret (results_ttc rfl _ _ _ _ _ rfl k4) rfl ⟨?_, gb_two G3.out (Nat.le_refl _) _ _⟩
  unfold okK okB
  rw [HE.out]
  rfl
set_option maxRecDepth 100000 in
set_option maxHeartbeats 2000000 in
theorem refOpen_long (s : ByteArray) (w : World) (hs : s.size = 256) (hq : s.data.toList.drop 252 = sumF (s.data.toList.take 252)) (hk : kindF s.data.toList ≠ 0) (hn : 240 < longF s.data.toList) :
    Calls Tryd.prog 18 #[.string s] w (RefOpened w s.data.toList) := by
  have HE := Lib.hid (show openF s.data.toList = (4, 1) by unfold openF; rw [if_neg (by show ¬ s.size ≠ 256; omega), if_neg (fun h => h hq), if_neg hk, if_pos hn])
  have hml := moreN_lt 1 (s.data.toList.take 252)
  have hmw : IntKind.u64.wrap ((moreN 1 (s.data.toList.take 252) : Nat) : Int) = ((moreN 1 (s.data.toList.take 252) : Nat) : Int) := u64_small _ (by omega)
  have HX := Lib.hid (show (s.extract 0 252).size ≤ 140737488351232 by simp; omega)
  have HC := Lib.hid (show ∀ v : ByteArray, v.data.toList = digits (moreN 1 (s.data.toList.take 252)) 4 → ((s.extract 252 256).toList == v.toList) = true from fun v hv => by
    rw [beq_text _ _ (s.data.toList.drop 252) (sumF (s.data.toList.take 252)) (by simp; exact List.take_of_length_le (by simp; omega)) hv]
    simpa using hq)
  clear hq
  go_enter Tryd.func18, Tryd.ntmps18
  go_wp2
  have k0 := Blk.mk w 51 #[.int .i64 0, .int .i64 0]
  have g0 := gb_alloc w (.cells #[.int .i64 0, .int .i64 0] 51) none
  generalize w.alloc (.cells #[.int .i64 0, .int .i64 0] 51) = w1 at k0 g0 ⊢
  have K0 := Lib.hid k0
  have G0 := Lib.hid g0
  clear k0 g0
  go_region_with (first
    | (go_at_call 12; (with_reducible refine (refOf_any _ _ HX.out).mono ?_); rintro e w2 ⟨rfl, rfl⟩)
    | (go_at_call 11; (with_reducible refine (bytes4 _ _ hml).mono ?_); rintro e w3 ⟨v, rfl, hv, g3⟩; have hvs : v.size = 4 := (by show v.data.size = 4; rw [← Array.length_toList, hv, digits_length]); have hcmp := HC.out v hv))
  have k3 := K0.out.keep0 (gb_trans (gb_drew _ _) g3)
  have G3 := Lib.hid (gb_trans G0.out (gb_trans (gb_drew _ _) g3))
  have c0 := k3.cell 0 rfl
  have c1 := k3.cell 1 rfl
  have f0 := k3.free 0
  have f1 := k3.free 1
  have K3 := Lib.hid k3
  clear k3 g3 hv hvs hml hmw
  obtain ⟨k, hke⟩ : ∃ k, kindF s.data.toList = k := ⟨_, rfl⟩
  obtain ⟨n, hne⟩ : ∃ n, longF s.data.toList = n := ⟨_, rfl⟩
  have i0 := at_text s 0 k (by omega) hke
  have i1 := at_text s 1 n (by omega) hne
  have hnl := longF_lt s.data.toList
  have hkl := kindF_lt s.data.toList
  rw [hke] at hkl hk
  rw [hne] at hnl hn
  have HN := Lib.hid hne
  have HK := Lib.hid hke
  clear hne hke
  have hz : ((k : Int) == 0) = false := by simp; omega
  have hz2 : ((k : Int) != 0) = true := by simp; omega
  have hn1 : (240 : Int) < (n : Int) := by omega
  have hw : IntKind.i64.wrap (n : Int) = (n : Int) := IntWalk.i64_in _ (by omega)
  go_wp2
  have k4 := blk_two K3.out (.int .i64 4) (.int .i64 1)
  refine bodyPost_ret (results_ttc rfl _ _ _ _ _ rfl k4) rfl ⟨?_, gb_two G3.out (Nat.le_refl _) _ _⟩
  unfold okK okB
  rw [HE.out]
  rfl
set_option maxRecDepth 100000 in
set_option maxHeartbeats 2000000 in
theorem refOpen_rest (s : ByteArray) (w : World) (hs : s.size = 256) (hq : s.data.toList.drop 252 = sumF (s.data.toList.take 252)) (hk : kindF s.data.toList ≠ 0) (hn : longF s.data.toList ≤ 240) :
    Calls Tryd.prog 18 #[.string s] w (RefOpened w s.data.toList) := by
  have HE5 := Lib.hid (show firstAt s.data.toList (2 + longF s.data.toList) < 252 → openF s.data.toList = (5, firstAt s.data.toList (2 + longF s.data.toList)) from fun h => by unfold openF; rw [if_neg (by show ¬ s.size ≠ 256; omega), if_neg (fun h => h hq), if_neg hk, if_neg (by omega), if_pos h])
  have HE0 := Lib.hid (show ¬ firstAt s.data.toList (2 + longF s.data.toList) < 252 → openF s.data.toList = (0, 0) from fun h => by unfold openF; rw [if_neg (by show ¬ s.size ≠ 256; omega), if_neg (fun h => h hq), if_neg hk, if_neg (by omega), if_neg h])
  have hml := moreN_lt 1 (s.data.toList.take 252)
  have hmw : IntKind.u64.wrap ((moreN 1 (s.data.toList.take 252) : Nat) : Int) = ((moreN 1 (s.data.toList.take 252) : Nat) : Int) := u64_small _ (by omega)
  have HX := Lib.hid (show (s.extract 0 252).size ≤ 140737488351232 by simp; omega)
  have HC := Lib.hid (show ∀ v : ByteArray, v.data.toList = digits (moreN 1 (s.data.toList.take 252)) 4 → ((s.extract 252 256).toList == v.toList) = true from fun v hv => by
    rw [beq_text _ _ (s.data.toList.drop 252) (sumF (s.data.toList.take 252)) (by simp; exact List.take_of_length_le (by simp; omega)) hv]
    simpa using hq)
  clear hq
  go_enter Tryd.func18, Tryd.ntmps18
  go_wp2
  have k0 := Blk.mk w 51 #[.int .i64 0, .int .i64 0]
  have g0 := gb_alloc w (.cells #[.int .i64 0, .int .i64 0] 51) none
  generalize w.alloc (.cells #[.int .i64 0, .int .i64 0] 51) = w1 at k0 g0 ⊢
  have K0 := Lib.hid k0
  have G0 := Lib.hid g0
  clear k0 g0
  go_region_with (first
    | (go_at_call 12; (with_reducible refine (refOf_any _ _ HX.out).mono ?_); rintro e w2 ⟨rfl, rfl⟩)
    | (go_at_call 11; (with_reducible refine (bytes4 _ _ hml).mono ?_); rintro e w3 ⟨v, rfl, hv, g3⟩; have hvs : v.size = 4 := (by show v.data.size = 4; rw [← Array.length_toList, hv, digits_length]); have hcmp := HC.out v hv))
  have k3 := K0.out.keep0 (gb_trans (gb_drew _ _) g3)
  have G3 := Lib.hid (gb_trans G0.out (gb_trans (gb_drew _ _) g3))
  have c0 := k3.cell 0 rfl
  have c1 := k3.cell 1 rfl
  have f0 := k3.free 0
  have f1 := k3.free 1
  have K3 := Lib.hid k3
  clear k3 g3 hv hvs hml hmw
  obtain ⟨k, hke⟩ : ∃ k, kindF s.data.toList = k := ⟨_, rfl⟩
  obtain ⟨n, hne⟩ : ∃ n, longF s.data.toList = n := ⟨_, rfl⟩
  have i0 := at_text s 0 k (by omega) hke
  have i1 := at_text s 1 n (by omega) hne
  have hnl := longF_lt s.data.toList
  have hkl := kindF_lt s.data.toList
  rw [hke] at hkl hk
  rw [hne] at hnl hn HE5 HE0
  have HN := Lib.hid hne
  have HK := Lib.hid hke
  clear hne hke
  have hz : ((k : Int) == 0) = false := by simp; omega
  have hz2 : ((k : Int) != 0) = true := by simp; omega
  have hn1 : ¬ (240 : Int) < (n : Int) := by omega
  have hw : IntKind.i64.wrap (n : Int) = (n : Int) := IntWalk.i64_in _ (by omega)
  have H5 := Lib.hid HE5.out
  have HL := Lib.hid (show s.data.toList.length = 256 from hs)
  clear HE5
  go_wp2
  go_loop [6] (fun v => ∃ j : Nat, 2 + n ≤ j ∧ j ≤ 252 ∧ v = .int .i64 j ∧ Hid (firstAt s.data.toList (2 + n) = firstAt s.data.toList j)) (fun v => 300 - (intOf v).toNat)
  case atStart => exact ⟨2 + n, by omega, by omega, by go_num, Lib.hid rfl⟩
  case round =>
    obtain ⟨j, hj1, hj2, rfl, hf⟩ := hrel
    by_cases hlt : j < 252
    · obtain ⟨c, hc⟩ : ∃ c, (s.data.toList.getD j 0).toNat = c := ⟨_, rfl⟩
      have ij := at_text s j c (by omega) hc
      by_cases h0 : s.data.toList.getD j 0 = 0
      · have HN2 := Lib.hid (firstAt_on s.data.toList j hlt HL.out h0)
        have hc0 : c = 0 := by rw [← hc, h0]; rfl
        subst hc0
        clear hc h0
        go_wp2
        go_round
        case rel => exact ⟨j + 1, by omega, by omega, by go_num, Lib.hid (hf.out.trans HN2.out)⟩
        case measure => simp [intOf]; omega
      · have HN2 := Lib.hid (firstAt_hit s.data.toList j hlt HL.out h0)
        have hc1 : c ≠ 0 := by
          intro e
          rw [e] at hc
          exact h0 (UInt8.toNat_inj.1 hc)
        have hz3 : ((c : Int) != 0) = true := by simp; omega
        have hz4 : ((c : Int) == 0) = false := by simp; omega
        clear hc h0
        go_wp2
        have HE := Lib.hid (show openF s.data.toList = (5, j) by
          have e1 : firstAt s.data.toList (2 + n) = j := hf.out.trans HN2.out
          have := H5.out (by rw [e1]; exact hlt)
          rw [e1] at this
          exact this)
        have k4 := blk_two K3.out (.int .i64 5) (.int .i64 (j : Nat))
        refine bodyPost_ret (results_ttc rfl _ _ _ _ _ rfl k4) rfl ⟨?_, gb_two G3.out (Nat.le_refl _) _ _⟩
        unfold okK okB
        rw [HE.out]
        rfl
    · obtain rfl : j = 252 := by omega
      have HE := Lib.hid (show openF s.data.toList = (0, 0) by
        refine HE0.out ?_
        rw [hf.out, firstAt_end _ HL.out]
        exact Nat.lt_irrefl _)
      go_wp2
      have hkw : IntKind.i64.wrap (k : Int) = (k : Int) := IntWalk.i64_in _ (by omega)
      have hnw : IntKind.i64.wrap (2 + (n : Int)) = 2 + (n : Int) := IntWalk.i64_in _ (by omega)
      have hn3 : (2 : Int) + (n : Int) ≤ 256 := by omega
      go_region
      all_goals
        go_wp2
        have k4 := (blk_two K3.out (.int .i64 0) (.int .i64 0)).keep0 (gb_drew _ none)
        refine bodyPost_ret (results_ttc rfl _ _ _ _ _ rfl k4) rfl ⟨?_, gb_trans (gb_two G3.out (Nat.le_refl _) _ _) (gb_drew _ _)⟩
        have e1 : okK s.data.toList = k := by unfold okK; rw [HE.out, if_pos rfl]; exact HK.out
        have e2 : s.extract 2 (2 + n) = ⟨(okB s.data.toList).toArray⟩ := by
          refine text_eq _ _ ?_
          unfold okB
          rw [HE.out, if_pos rfl]
          unfold bodyF
          rw [HN.out]
          exact extract_list _ _ _
        rw [HE.out, e1, ← e2]
        rfl
theorem refOpen_any (s : ByteArray) (w : World) : Calls Tryd.prog 18 #[.string s] w (RefOpened w s.data.toList) := by
  by_cases hs : s.size = 256
  · by_cases hq : s.data.toList.drop 252 = sumF (s.data.toList.take 252)
    · by_cases hk : kindF s.data.toList = 0
      · exact refOpen_kind s w hs hq hk
      · by_cases hn : 240 < longF s.data.toList
        · exact refOpen_long s w hs hq hk hn
        · exact refOpen_rest s w hs hq hk (by omega)
    · exact refOpen_sum s w hs hq
  · exact refOpen_short s w hs
end Go.Proofs.YthemolnhncjlmaaDoor
