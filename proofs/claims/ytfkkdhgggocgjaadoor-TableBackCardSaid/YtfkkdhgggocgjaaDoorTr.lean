/-
  What the document's own Load answers and leaves, over this seat's translation; conditions: the table's block is there.
-/
import Derived.Test.YtfkkdhgggocgjaaDoorTg
namespace Go.Proofs.YtfkkdhgggocgjaaDoor
open Go.RowKit

def byteN (t : ByteArray) (k : Nat) : Nat := (t.data.toList.getD k 0).toNat
theorem byteN_lt (t : ByteArray) (k : Nat) : byteN t k < 256 := UInt8.toNat_lt _
theorem valAt_two (t : ByteArray) (k : Nat) (h : k + 2 ≤ t.size) : valAt t k 2 = 256 * byteN t k + byteN t (k + 1) := by
  have hl : t.data.toList.length = t.size := rfl
  have e : (t.data.toList.drop k).take 2 = [t.data.toList.getD k 0, t.data.toList.getD (k + 1) 0] := by
    refine List.ext_getElem? fun j => ?_
    rw [List.getElem?_take, List.getElem?_drop]
    match j with
    | 0 => rw [if_pos (by omega)]; simp only [Nat.add_zero, List.getElem?_cons_zero, List.getD_eq_getElem?_getD]; rw [List.getElem?_eq_getElem (by omega)]; rfl
    | 1 => rw [if_pos (by omega)]; simp only [List.getElem?_cons_succ, List.getElem?_cons_zero, List.getD_eq_getElem?_getD]; rw [List.getElem?_eq_getElem (by omega)]; rfl
    | j + 2 => rw [if_neg (by omega)]; rfl
  unfold valAt
  rw [e]
  show (0 * 256 + (t.data.toList.getD k 0).toNat) * 256 + (t.data.toList.getD (k + 1) 0).toNat = _
  unfold byteN
  omega
theorem index_text (t : ByteArray) (z : Int) (k : Nat) (hz : z = (k : Int)) (hk : k < t.size) (W : World) : (Instr.index 9 (.string t) (.int .i64 z)).run Tryd.prog W = .ok (.int .u8 (byteN t k : Nat)) W := by
  subst hz
  rw [run_index_string W 9 t .i64 (k : Int) Tryd.underlying9, dif_pos ⟨by omega, by omega⟩]
  have hl : t.data.toList.length = t.size := rfl
  have e : byteN t k = (t[((k : Nat) : Int).toNat]'(by omega)).toNat := by
    unfold byteN
    rw [List.getD_eq_getElem?_getD, List.getElem?_eq_getElem (by omega)]
    rfl
  rw [e]
def layTo (s : TB) (a : Nat) (r : List Nat) (k : Nat) : TB := ⟨s.P.take a ++ r.take k ++ s.P.drop (a + k), s.D⟩
theorem layTo_zero (s : TB) (a : Nat) (r : List Nat) : layTo s a r 0 = s := by
  unfold layTo; simp
theorem layTo_all (s : TB) (a : Nat) {r : List Nat} (hr : r.length = 120) : layTo s a r 120 = layF s a r := by
  unfold layTo layF; rw [List.take_of_length_le (l := r) (by omega)]
theorem layTo_set {s : TB} (hl : s.P.length = 960) {a k : Nat} (ha : a + 120 ≤ 960) (hk : k < 120) {r : List Nat} (hr : r.length = 120) : (⟨(layTo s a r k).P.set (a + k) (r.getD k 0), (layTo s a r k).D⟩ : TB) = layTo s a r (k + 1) := by
  unfold layTo
  congr 1
  have e1 : (s.P.take a ++ r.take k).length = a + k := by simp; omega
  rw [List.set_append_right _ _ (by omega), e1, Nat.sub_self, List.take_add_one, List.getElem?_eq_getElem (by omega), List.getD_eq_getElem?_getD, List.getElem?_eq_getElem (by omega)]
  rw [List.drop_eq_getElem_cons (by omega : a + k < s.P.length), List.set_cons_zero]
  simp only [List.append_assoc, List.cons_append, List.nil_append, Option.toList_some, Option.getD_some, Nat.add_assoc]
/-- What the document's Load answers and leaves. -/
def RLoadGot (w : World) (p : Nat) (s : TB) (i : Int) (t : ByteArray) (e : Ending) (w' : World) : Prop :=
  e = .returned (.agg #[.int .i64 ((loadC i t).1 : Nat), .int .i64 ((loadC i t).2 : Nat)]) ∧ RT w' p (loadF s i t) ∧ w.grownBy w' (some p)
theorem ft_info (c q : Int) : (Tryd.prog.info? 40).map (·.size) = some (#[Value.int .i64 c, .int .i64 q] : Array Value).size := by
  show _ = some 2
  kernel_rfl
theorem ft_one (c q : Int) : (#[Value.int .i64 c, .int .i64 q] : Array Value).all (·.oneCell') = true := by simp [Value.oneCell']
theorem ft_res {fn : Func} {b : Tmp} (h : fn.results = #[.cell b 40]) (tmps : Array Value) (w : World) (B : Nat) (c q : Int)
    (hp : tmps.getD b undef = .pointer (some ⟨B, 0, none⟩)) (hb : Ft w B c q) : (results fn tmps).run Tryd.prog w = .ok (.agg #[.int .i64 c, .int .i64 q]) w :=
  results_cell_row h tmps w B 40 _ (0, 0) _ hp hb Tryd.underlying40 rfl (ft_info c q)
set_option maxRecDepth 100000 in
set_option maxHeartbeats 2000000 in
theorem rload_any (p : Nat) (s : TB) (i : Int) (t : ByteArray) (w : World) (h : RT w p s) (_ht : t.size ≤ 9223372036854775807) :
    Calls Tryd.prog 15 #[.pointer (some ⟨p, 0, none⟩), .int .i64 i, .string t] w (RLoadGot w p s i t) := by
  have hpl := h.lt
  have HP := Lib.hid h
  by_cases hi : 0 ≤ i ∧ i < 8
  · have hC : loadC i t = textC t := if_pos hi
    obtain ⟨c, rfl, hc⟩ : ∃ c : Nat, i = (c : Int) ∧ c < 8 := ⟨i.toNat, by omega, by omega⟩
    by_cases hsz : t.size = 240
    · have hT : textC t = if badAt (rowF t) < 120 then (5, 2 * badAt (rowF t)) else (0, 0) := if_neg (by omega)
      have HT := Lib.hid (And.intro hC hT)
      obtain ⟨a, ha⟩ : ∃ a : Nat, 120 * c = a := ⟨_, rfl⟩
      have HCA := Lib.hid ha
      have ha2 : a + 120 ≤ 960 := by omega
      have ha3 : (c : Int) * 120 = (a : Int) := by omega
      have ha4 : IntKind.i64.wrap (a : Int) = (a : Int) := IntWalk.i64_in _ (by omega)
      have hlen := rowF_length t
      clear h hi hC hT ha
      go_enter Tryd.func15, Tryd.ntmps15
      go_wp2
      have b0 : Ft (w.alloc (.cells #[.int .i64 0, .int .i64 0] 40)) w.heap.size 0 0 := Blk.mk w _ _
      have g0 := gb_alloc w (.cells #[.int .i64 0, .int .i64 0] 40) none
      generalize w.alloc (.cells #[.int .i64 0, .int .i64 0] 40) = W0 at b0 g0 ⊢
      go_loopw [7] (fun v wr => ∃ k : Nat, k ≤ 120 ∧ v = .int .i64 k ∧ Hid (∀ j, j < k → badB ((rowF t).getD j 0) = false) ∧ Ft wr w.heap.size 0 0 ∧ w.grownBy wr none) (fun v _ => 120 - (intOf v).toNat)
      case atStart => exact ⟨0, by omega, rfl, Lib.hid (fun j hj => by omega), b0, g0⟩
      case round =>
        obtain ⟨k, hk, rfl, HN, hb, hg⟩ := hrel
        clear b0 g0
        by_cases hlt : k < 120
        · have hv := valAt_two t (2 * k) (by omega)
          obtain ⟨m, hm⟩ : ∃ m : Nat, 2 * k = m := ⟨_, rfl⟩
          have hm1 : 2 * (k : Int) = (m : Int) := by omega
          have hm2 : m + 2 ≤ 240 := by omega
          have hx1 := fun W => index_text t (m : Int) m rfl (by omega) W
          have hx2 := fun W => index_text t ((m : Int) + 1) (m + 1) (by omega) (by omega) W
          have hb1 := byteN_lt t m
          have hb2 := byteN_lt t (m + 1)
          have hrow := rowF_at t hlt
          rw [hv, hm] at hrow
          generalize byteN t m = x1 at hx1 hb1 hrow
          generalize byteN t (m + 1) = x2 at hx2 hb2 hrow
          have hyb : 256 * x1 + x2 < 65536 := by omega
          have hxw1 : IntKind.i64.wrap (x1 : Int) = (x1 : Int) := IntWalk.i64_in _ (by omega)
          have hxw2 : IntKind.i64.wrap (x2 : Int) = (x2 : Int) := IntWalk.i64_in _ (by omega)
          have hxw3 : IntKind.i64.wrap (256 * (x1 : Int)) = 256 * (x1 : Int) := IntWalk.i64_in _ (by omega)
          obtain ⟨y, hy⟩ : ∃ y : Nat, 256 * x1 + x2 = y := ⟨_, rfl⟩
          have hxy : 256 * (x1 : Int) + (x2 : Int) = (y : Int) := by omega
          have hxw4 : IntKind.i64.wrap (y : Int) = (y : Int) := IntWalk.i64_in _ (by omega)
          rw [hy] at hrow hyb
          have HRow := Lib.hid hrow
          have HB := Lib.hid (And.intro hb hg)
          have HM := Lib.hid hm
          have hmw : IntKind.i64.wrap (m : Int) = (m : Int) := IntWalk.i64_in _ (by omega)
          have hmw1 : IntKind.i64.wrap ((m : Int) + 1) = (m : Int) + 1 := IntWalk.i64_in _ (by omega)
          clear hb hg hm hrow hv hy
          by_cases hbad : badB y = true
          · have hbk := badAt_hit (l := rowF t) (k := k) (by rw [hlen]; exact hlt) (by rw [HRow.out]; exact hbad) HN.out
            have HT2 : Hid (textC t = (5, m)) := Lib.hid (by rw [HT.out.2, hbk, if_pos hlt, HM.out])
            have hft := HB.out.1.keep0 (gb_drew wr none)
            have HFT := Lib.hid hft
            have hor : y = 1 ∨ (y ≠ 1 ∧ 1024 ≤ y) := by unfold badB at hbad; simp at hbad; omega
            clear hbk hbad hft
            have key : ∀ (tmps : Array Value), tmps.getD 6 undef = .pointer (some ⟨w.heap.size, 0, none⟩) → bodyPost Tryd.prog Tryd.f15 (RLoadGot w p s (c : Nat) t) Exit.ret { tmps := tmps, defers := [] } (wr.drew.setRow w.heap.size #[.int .i64 5, .int .i64 (m : Nat)]) := by
              intro tmps htm
              have hb2 : Ft (wr.drew.setRow w.heap.size #[.int .i64 5, .int .i64 (m : Nat)]) w.heap.size 5 (m : Nat) := setRow_heap _ _ _ _ _ _ HFT.out
              refine bodyPost_ret (ft_res rfl _ _ w.heap.size _ _ htm hb2) rfl ⟨?_, ?_, ?_⟩
              · rw [HT.out.1, HT2.out]; rfl
              · have hF : loadF s (c : Nat) t = s := by unfold loadF; rw [HT.out.1, HT2.out]; rfl
                rw [hF]
                exact ((HP.out.keep0 HB.out.2).keep0 (gb_drew _ _)).keep (gb_setRow _ _ _) (ne_some (by omega))
              · exact gb_weak (gb_step (gb_trans HB.out.2 (gb_drew _ _)) (gb_setRow _ _ _) (Nat.le_refl _)) _
            have KEY := Lib.hid key
            clear key
            rcases hor with rfl | ⟨hn1, hge⟩
            · go_wp2
              go_region
              all_goals
                go_wp2_with (refine wpList_store_row rfl 40 (.tmp 6) (.tmp 48) rfl w.heap.size #[.int .i64 5, .int .i64 (m : Nat)] rfl rfl 40 _ HFT.out (ft_info _ _) rfl (ft_one _ _) ?_)
                exact KEY.out _ rfl
            · have hne : ((y : Int) == 1) = false := by simp; omega
              have hge2 : (1024 : Int) ≤ (y : Int) := by omega
              go_wp2
              go_region
              all_goals
                go_wp2_with (refine wpList_store_row rfl 40 (.tmp 6) (.tmp 48) rfl w.heap.size #[.int .i64 5, .int .i64 (m : Nat)] rfl rfl 40 _ HFT.out (ft_info _ _) rfl (ft_one _ _) ?_)
                exact KEY.out _ rfl
          · have hbf : badB y = false := by cases hb9 : badB y with | true => exact absurd hb9 hbad | false => rfl
            have hne : ((y : Int) == 1) = false := by unfold badB at hbad; simp at hbad; simp; omega
            have hlt2 : ¬ (1024 : Int) ≤ (y : Int) := by unfold badB at hbad; simp at hbad; omega
            have HBF := Lib.hid hbf
            clear hbad hbf
            go_wp2
            go_region
            all_goals
              go_wp2
              go_roundw
              case rel =>
                refine ⟨k + 1, by omega, by go_num, Lib.hid (fun j hj => ?_), HB.out.1.keep0 (gb_drew _ _), gb_trans HB.out.2 (gb_drew _ _)⟩
                rcases Nat.lt_or_ge j k with h | h
                · exact HN.out j h
                · obtain rfl : j = k := by omega
                  rw [HRow.out]; exact HBF.out
              case measure => simp [intOf]; omega
        · obtain rfl : k = 120 := by omega
          have hno := badAt_none (l := rowF t) (fun j hj => HN.out j (by rw [hlen] at hj; exact hj))
          rw [hlen] at hno
          have HT2 : Hid (textC t = (0, 0)) := Lib.hid (by rw [HT.out.2, if_neg hno])
          have hsm := (textC_ok (by rw [HT2.out])).2
          have hsm2 : ∀ k, (rowF t).getD k 0 < 1024 := fun k => by
            rw [List.getD_eq_getElem?_getD]
            cases hk9 : (rowF t)[k]? with
            | none => show (0 : Nat) < 1024; omega
            | some x => exact hsm x (List.mem_of_getElem? hk9)
          have HSM := Lib.hid hsm2
          have r0 := HP.out.keep0 hg
          rw [← layTo_zero s a (rowF t)] at r0
          have hG := gb_weak hg (some p)
          clear hno hsm hsm2 hg
          go_wp2
          go_loopw [9] (fun v W => ∃ k : Nat, k ≤ 120 ∧ v = .int .i64 k ∧ RT W p (layTo s a (rowF t) k) ∧ Ft W w.heap.size 0 0 ∧ w.grownBy W (some p)) (fun v _ => 120 - (intOf v).toNat)
          case atStart => exact ⟨0, by omega, rfl, r0, hb, hG⟩
          case round =>
            obtain ⟨k, hk, rfl, hR, hb, hg⟩ := hrel
            clear r0 hG
            by_cases hlt : k < 120
            · have hv := valAt_two t (2 * k) (by omega)
              obtain ⟨m, hm⟩ : ∃ m : Nat, 2 * k = m := ⟨_, rfl⟩
              have hm1 : 2 * (k : Int) = (m : Int) := by omega
              have hm2 : m + 2 ≤ 240 := by omega
              have hx1 := fun W => index_text t (m : Int) m rfl (by omega) W
              have hx2 := fun W => index_text t ((m : Int) + 1) (m + 1) (by omega) (by omega) W
              have hb1 := byteN_lt t m
              have hb2 := byteN_lt t (m + 1)
              have hrow := rowF_at t hlt
              have hys := HSM.out k
              rw [hv, hm] at hrow
              generalize byteN t m = x1 at hx1 hb1 hrow
              generalize byteN t (m + 1) = x2 at hx2 hb2 hrow
              have hxw1 : IntKind.i64.wrap (x1 : Int) = (x1 : Int) := IntWalk.i64_in _ (by omega)
              have hxw2 : IntKind.i64.wrap (x2 : Int) = (x2 : Int) := IntWalk.i64_in _ (by omega)
              have hxw3 : IntKind.i64.wrap (256 * (x1 : Int)) = 256 * (x1 : Int) := IntWalk.i64_in _ (by omega)
              obtain ⟨y, hy⟩ : ∃ y : Nat, 256 * x1 + x2 = y := ⟨_, rfl⟩
              have hxy : 256 * (x1 : Int) + (x2 : Int) = (y : Int) := by omega
              have hxw4 : IntKind.i64.wrap (y : Int) = (y : Int) := IntWalk.i64_in _ (by omega)
              have hmw : IntKind.i64.wrap (m : Int) = (m : Int) := IntWalk.i64_in _ (by omega)
              have hmw1 : IntKind.i64.wrap ((m : Int) + 1) = (m : Int) + 1 := IntWalk.i64_in _ (by omega)
              rw [hy] at hrow
              rw [hrow] at hys
              have hset := layTo_set (s := s) HP.out.fit.1 ha2 hlt hlen
              rw [hrow] at hset
              obtain ⟨q, hq⟩ : ∃ q : Nat, a + k = q := ⟨_, rfl⟩
              obtain ⟨r, hr⟩ : ∃ r : Nat, q + 1 = r := ⟨_, rfl⟩
              have hqi : (a : Int) + (k : Int) = (q : Int) := by omega
              have hri : (q : Int) + 1 = (r : Int) := by omega
              have hqw : IntKind.i64.wrap (q : Int) = (q : Int) := IntWalk.i64_in _ (by omega)
              have hrw : IntKind.i64.wrap (r : Int) = (r : Int) := IntWalk.i64_in _ (by omega)
              have hr9 : (r : Int) < 961 := by omega
              have hc1 := hR.page (k := q) (by omega)
              have hf1 := hR.free r
              have hR2 := hR.setPage (k := q) (v := y) (by omega) hys
              rw [hq] at hset
              rw [hset, hr] at hR2
              rw [hr] at hc1
              have HQ := Lib.hid (And.intro (hR2.keep0 (gb_drew _ _)) (And.intro ((hb.keep (gb_set wr p r none (.int .i64 (y : Nat))) (ne_some (by omega))).keep0 (gb_drew _ _)) (gb_trans (gb_trans hg (gb_set wr p r none (.int .i64 (y : Nat)))) (gb_drew _ _))))
              clear hR hb hg hset hR2 hv hy hrow hq hr
              go_wp2
              go_region
              all_goals
                go_wp2
                go_roundw
                case rel => exact ⟨k + 1, by omega, by go_num, HQ.out.1, HQ.out.2.1, HQ.out.2.2⟩
                case measure => simp [intOf]; omega
            · obtain rfl : k = 120 := by omega
              rw [layTo_all s a hlen] at hR
              have c4 := hR.dirt (k := c) hc
              have f4 := hR.free (961 + c)
              have hF : loadF s (c : Nat) t = offF (layF s a (rowF t)) c := by unfold loadF; rw [HT.out.1, HT2.out, if_pos rfl, Int.toNat_natCast, HCA.out]
              have hb2 := hb.keep (gb_set wr p (961 + c) none (.bool false)) (ne_some (by omega))
              have HQ := Lib.hid (And.intro (hR.setDirt c false) (And.intro hb2 (And.intro hF (gb_trans hg (gb_set wr p (961 + c) none (.bool false))))))
              clear hR hb hg hF hb2
              go_wp2_with (refine wpList_store_row rfl 40 (.tmp 6) (.tmp 80) rfl w.heap.size #[.int .i64 0, .int .i64 0] rfl rfl 40 _ HQ.out.2.1 (ft_info _ _) rfl (ft_one _ _) ?_)
              have hb3 : Ft ((wr.setCell ⟨p, 961 + c, none⟩ (.bool false)).setRow w.heap.size #[.int .i64 0, .int .i64 0]) w.heap.size 0 0 := setRow_heap _ _ _ _ _ _ HQ.out.2.1
              refine bodyPost_ret (ft_res rfl _ _ w.heap.size _ _ rfl hb3) rfl ⟨?_, ?_, ?_⟩
              · rw [HT.out.1, HT2.out]; rfl
              · rw [HQ.out.2.2.1]; exact HQ.out.1.keep (gb_setRow _ _ _) (ne_some (by omega))
              · exact gb_step HQ.out.2.2.2 (gb_setRow _ _ _) (Nat.le_refl _)
    · have hT : textC t = (4, t.size) := if_pos hsz
      have HT := Lib.hid (hC.trans hT)
      have hsi : ((t.size : Int) != 240) = true := by simp; omega
      have hsi2 : ((t.size : Int) == 240) = false := by simp; omega
      clear h hi hC hT
      go_enter Tryd.func15, Tryd.ntmps15
      go_wp2
      refine bodyPost_ret (ft_res rfl _ _ w.heap.size 4 (t.size : Nat) rfl (Blk.mk w _ _)) rfl ⟨?_, ?_, ?_⟩
      · rw [HT.out]; rfl
      · have hF : loadF s (c : Nat) t = s := by unfold loadF; rw [HT.out]; rfl
        rw [hF]; exact HP.out.keep0 (gb_alloc _ _ _)
      · exact gb_alloc _ _ _
  · have hC : loadC i t = (2, 0) := if_neg hi
    have HT := Lib.hid hC
    have key : ∀ (tmps : Array Value) (W : World), W = w.alloc (.cells #[.int .i64 2, .int .i64 0] 40) → tmps.getD 6 undef = .pointer (some ⟨w.heap.size, 0, none⟩) → bodyPost Tryd.prog Tryd.f15 (RLoadGot w p s i t) Exit.ret { tmps := tmps, defers := [] } W := by
      rintro tmps W rfl htm
      refine bodyPost_ret (ft_res rfl _ _ w.heap.size 2 0 htm (Blk.mk w _ _)) rfl ⟨?_, ?_, ?_⟩
      · rw [HT.out]; rfl
      · have hF : loadF s i t = s := by unfold loadF; rw [HT.out]; rfl
        rw [hF]; exact HP.out.keep0 (gb_alloc _ _ _)
      · exact gb_alloc _ _ _
    have KEY := Lib.hid key
    clear key
    by_cases h1 : i < 0
    · clear hi h hC
      go_enter Tryd.func15, Tryd.ntmps15
      go_wp2
      exact KEY.out _ _ rfl rfl
    · have h2 : (8 : Int) ≤ i := by omega
      clear hi h hC
      go_enter Tryd.func15, Tryd.ntmps15
      go_wp2
      exact KEY.out _ _ rfl rfl
end Go.Proofs.YtfkkdhgggocgjaaDoor

