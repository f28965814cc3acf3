/-
  Which root the program refuses, over this seat's translation; conditions: the root's numbers fit.
-/
import Derived.Test.YtckkbcgolphajaaDoorQs
import Derived.Maps.OwnSet
import Derived.Maps.Views
import Derived.MapKept
import Derived.Deep.MidRow
namespace Go.Proofs.YtckkbcgolphajaaDoor
open Go.RowKit Go.Maps Go.ChangeMaps

theorem lawI : Keyed Tryd.prog 3 := int_keyed Tryd.underlying3
theorem zeroI (w : World) : (zeroValue 3).run Tryd.prog w = .ok (.int .i64 0) w := by kernel_rfl
theorem i64_wf' {z : Int} (h : -9223372036854775808 ≤ z ∧ z ≤ 9223372036854775807) : (Lit.int .i64 z).wf = true := by
  show (decide (-9223372036854775808 ≤ z) && decide (z ≤ 9223372036854775807)) = true
  simpa using h
def MapN (w : World) (m n : Nat) (D : DataW Unit) : Prop := w.ownsMap Tryd.prog 3 (plainElem Tryd.prog 3) m n D
theorem map_blk {w : World} {m n b : Nat} {D : DataW Unit} {t : TypeId} {vs : Array Value} (h : MapN w m n D) (hb : Blk w b t vs) : b ≠ m := by
  obtain ⟨es, clock, h1, _⟩ := h
  rintro rfl
  unfold Blk at hb
  rw [h1] at hb
  cases hb
/-- The map of counts, of the chunks so far, all unlike. -/
def Met (D : DataW Unit) (cs : List Int) (i : Nat) : Prop :=
  ∀ k : Int, k ≠ 0 → ((∃ j, j < i ∧ cs.getD j 0 = k) ∧ D.atKey (.int .i64 k) (.lit (.int .i64 0)) = .lit (.int .i64 1)) ∨ ((∀ j, j < i → cs.getD j 0 ≠ k) ∧ D.atKey (.int .i64 k) (.lit (.int .i64 0)) = .lit (.int .i64 0))
theorem met_nil (cs : List Int) : Met (.map []) cs 0 := fun k _ => Or.inr ⟨fun j h => absurd h (Nat.not_lt_zero j), rfl⟩
theorem met_zero {D : DataW Unit} {cs : List Int} {i : Nat} (h : Met D cs i) (hz : cs.getD i 0 = 0) : Met D cs (i + 1) := by
  intro k hk
  rcases h k hk with ⟨⟨j, h1, h2⟩, h3⟩ | ⟨h1, h2⟩
  · exact Or.inl ⟨⟨j, by omega, h2⟩, h3⟩
  · refine Or.inr ⟨fun j hj => ?_, h2⟩
    rcases Nat.lt_or_ge j i with h | h
    · exact h1 j h
    · obtain rfl : j = i := by omega
      rw [hz]; exact fun e => hk e.symm
theorem met_put {D : DataW Unit} {cs : List Int} {i : Nat} {c : Int} (h : Met D cs i) (hD : IsMap D) (hc : cs.getD i 0 = c) (hz : c ≠ 0) : Met (D.put (.int .i64 c) (.lit (.int .i64 1))) cs (i + 1) := by
  intro k hk
  by_cases e : k = c
  · subst e
    exact Or.inl ⟨⟨i, by omega, hc⟩, atKey_put_same hD (show WideAt.IsKeyLit (.int .i64 k) from trivial) _ _⟩
  · have hne : (Lit.int .i64 k) ≠ (Lit.int .i64 c) := by intro e'; cases e'; exact e rfl
    rw [atKey_put_other hne]
    rcases h k hk with ⟨⟨j, h1, h2⟩, h3⟩ | ⟨h1, h2⟩
    · exact Or.inl ⟨⟨j, by omega, h2⟩, h3⟩
    · refine Or.inr ⟨fun j hj => ?_, h2⟩
      rcases Nat.lt_or_ge j i with h | h
      · exact h1 j h
      · obtain rfl : j = i := by omega
        rw [hc]; exact fun e' => e e'.symm
theorem look_int {w : World} {m n : Nat} {D : DataW Unit} (h : MapN w m n D) (k : Int) (hk : -9223372036854775808 ≤ k ∧ k ≤ 9223372036854775807) (c : Int) (hc : D.atKey (.int .i64 k) (.lit (.int .i64 0)) = .lit (.int .i64 c)) :
    (Instr.lookup 75 (.map (some m)) (.int .i64 k) false).run Tryd.prog w = .ok (.int .i64 c) w := by
  obtain ⟨c', hrun, hc', _⟩ := World.ownsMap.lookup_int h lawI Tryd.underlying75 Tryd.underlying3 (zeroI w) (keyOf_int_mk Tryd.underlying3 (i64_wf' hk))
  rw [hc] at hc'
  injection hc' with e
  injection e with _ e
  subst e
  exact hrun
theorem put_int {w : World} {m n : Nat} {D : DataW Unit} (h : MapN w m n D) (hn : n < 100) (k : Int) (hk : -9223372036854775808 ≤ k ∧ k ≤ 9223372036854775807) (c : Int) (hc : -9223372036854775808 ≤ c ∧ c ≤ 9223372036854775807) :
    ∃ w', (Instr.mapUpdate 75 (.map (some m)) (.int .i64 k) (.int .i64 c)).run Tryd.prog w = .ok () w' ∧ MapN w' m (n + 1) (D.put (.int .i64 k) (.lit (.int .i64 c))) ∧ w.grownBy w' (some m) :=
  World.ownsMap.update h lawI Tryd.underlying75 (by unfold maxLen; omega) (keyOf_int_mk Tryd.underlying3 (i64_wf' hk)) (plainElem_int (H := Unit) Tryd.underlying3 (i64_wf' hc))
def eightC (r : Rt) : List Value := r.cs.map (Value.int .i64)
theorem eight_info (r : Rt) (h : r.cs.length = 8) : (Tryd.prog.info? 23).map (·.size) = some (eightC r).length := by
  rw [show (eightC r).length = 8 by simp [eightC, h]]; kernel_rfl
theorem rb_range {W : World} {b : Nat} {r : Rt} (h : RB W b r) (hl : r.cs.length = 8) : W.rangeAt b 2 (eightC r) := by
  intro j v hj
  have hj8 : j < r.cs.length := by have := (List.getElem?_eq_some_iff.1 hj).1; simpa [eightC] using this
  rw [Nat.add_comm 2 j, h.chunk j hj8, ← hj]
  simp [eightC, List.getD_eq_getElem?_getD, hj8]
theorem index_eight (r : Rt) (i : Nat) (hi : i < 8) (hl : r.cs.length = 8) (W : World) : (Instr.index 23 (.agg (eightC r).toArray) (.int .i64 (i : Nat))).run Tryd.prog W = .ok (.int .i64 (r.cs.getD i 0)) W := by
  have h1 : (0 : Int) ≤ (i : Int) ∧ (i : Int) < 8 := by omega
  simp [Instr.index, run_underlying Tryd.underlying23, Sem.run_bind]
  rw [show (asIntOf (Value.int IntKind.i64 (i : Int))).run Tryd.prog W = .ok (IntKind.i64, (i : Int)) W from rfl]
  simp only [Result.andThen]
  rw [if_pos h1]
  simp [part, Tryd.isAgg3, Sem.run_bind, eightC, show i < r.cs.length by omega]
set_option maxRecDepth 100000 in
set_option maxHeartbeats 2000000 in
theorem chunks_may (r : Rt) (w : World) (hr : Fit r) (ok : Bool) (hok : ok = true ↔ ∀ i, i < 8 → okAt r.n r.cs i) : Calls Tryd.prog 28 #[RV r] w (YesNo w ok) := by
  obtain ⟨hl, he, hn, hc⟩ := hr
  have HO := Lib.hid hok
  have HI := Lib.hid hc
  have k0 : RB (w.alloc (.cells (rootC r).toArray 25)) w.heap.size r := Blk.mk w _ _
  have hmm := @run_makeMap Tryd.prog 75 (w.alloc (.cells (rootC r).toArray 25))
  rw [World.size_alloc] at hmm
  have HM := Lib.hid (show MapN ((w.alloc (.cells (rootC r).toArray 25)).alloc (.map #[] 0)) (w.heap.size + 1) 0 (.map []) by
    have hm := World.ownsMap_made (w.alloc (.cells (rootC r).toArray 25)) Tryd.prog 3 (plainElem (H := Unit) Tryd.prog 3)
    rw [World.size_alloc] at hm
    exact hm)
  have gA := gb_alloc (w.alloc (.cells (rootC r).toArray 25)) (.map #[] 0) none
  have HG := Lib.hid (gb_trans (gb_alloc w (.cells (rootC r).toArray 25) none) gA)
  have k1 := k0.keep0 gA
  have HK := Lib.hid k1
  have HL := Lib.hid hl
  have HR := Lib.hid (rb_range k1 hl)
  have HI8 := Lib.hid (eight_info r hl)
  unfold RV
  clear hok hc k0 gA k1
  generalize (w.alloc (.cells (rootC r).toArray 25)).alloc (.map #[] 0) = w1 at HM HG HK HR hmm
  go_enter Tryd.func28, Tryd.ntmps28
  go_wp2_with (first
    | (refine wpList_load_mid rfl 23 (.tmp 7) rfl w.heap.size 2 rfl (eightC r) _ HR.out Tryd.underlying23 rfl HI8.out ?_)
    | fail)
  have hsec := HK.out.sectors
  go_loopw [9] (fun v wr => ∃ i n : Nat, ∃ D, i ≤ 8 ∧ n ≤ i ∧ v = .int .i64 i ∧ MapN wr (w.heap.size + 1) n D ∧ Hid (Met D r.cs i) ∧ Hid (∀ j, j < i → okAt r.n r.cs j) ∧ RB wr w.heap.size r ∧ w.grownBy wr none) (fun v _ => 9 - (intOf v).toNat)
  case atStart => exact ⟨0, 0, _, by omega, by omega, rfl, HM.out, Lib.hid (met_nil _), Lib.hid (fun j h => absurd h (Nat.not_lt_zero j)), HK.out, HG.out⟩
  case round =>
    obtain ⟨i, n, D, hi, hni, rfl, hm, hmet, hall, hrb, hg⟩ := hrel
    have hsec := hrb.sectors
    by_cases hlt : i < 8
    · obtain ⟨c, hce⟩ : ∃ c, r.cs.getD i 0 = c := ⟨_, rfl⟩
      have hcb := HI.out i hlt
      rw [hce] at hcb
      have hix := index_eight r i hlt HL.out
      rw [hce] at hix
      by_cases hz : c = 0
      · subst hz
        go_wp2
        go_roundw
        case rel => exact ⟨i + 1, n, D, by omega, by omega, by go_num, hm, Lib.hid (met_zero hmet.out hce), Lib.hid (fun j hj => by
          rcases Nat.lt_or_ge j i with h | h
          · exact hall.out j h
          · obtain rfl : j = i := by omega
            exact Or.inl hce), hrb, hg⟩
        case measure => simp [intOf]; omega
      · have hz1 : (c == 0) = false := by simpa using hz
        have hbad : ¬ okAt r.n r.cs i → ok = false := fun h => by
          cases hk : ok with
          | false => rfl
          | true => exact absurd (HO.out.1 hk i hlt) h
        rcases hmet.out c hz with ⟨⟨j, hj, hjc⟩, hat⟩ | ⟨hno, hat⟩
        · have hb1 : ok = false := hbad (by
            rintro (h | ⟨_, _, h⟩)
            · rw [hce] at h; exact hz h
            · exact h j hj (hjc.trans hce.symm))
          have hlk := look_int hm c hcb 1 hat
          obtain ⟨w2, hup, hm2, g2⟩ := put_int hm (by omega) c hcb 2 (by omega)
          have hlk2 := look_int hm2 c hcb 2 (atKey_put_same (World.ownsMap.isMap hm) (show WideAt.IsKeyLit (.int .i64 c) from trivial) _ _)
          have hrb2 := RB.keepS hrb g2 (ne_some (map_blk hm hrb))
          have hsec2 := hrb2.sectors
          have gg := gb_step hg g2 (by omega)
          have HB := Lib.hid hb1
          clear hbad hb1 hat hjc hj hrb hmet hall
          by_cases h2 : c < 2
          · go_wp2
            go_ret
            exact ⟨by rw [HB.out]; rfl, gg⟩
          by_cases h3 : r.n ≤ c
          all_goals
            go_wp2
            go_ret
            exact ⟨by rw [HB.out]; rfl, gg⟩
        · have hlk := look_int hm c hcb 0 hat
          obtain ⟨w2, hup, hm2, g2⟩ := put_int hm (by omega) c hcb 1 (by omega)
          have hlk2 := look_int hm2 c hcb 1 (atKey_put_same (World.ownsMap.isMap hm) (show WideAt.IsKeyLit (.int .i64 c) from trivial) _ _)
          have hrb2 := RB.keepS hrb g2 (ne_some (map_blk hm hrb))
          have hsec2 := hrb2.sectors
          have gg := gb_step hg g2 (by omega)
          by_cases h2 : c < 2
          · have HB := Lib.hid (hbad (by
              rintro (h | ⟨h, _, _⟩)
              · rw [hce] at h; exact hz h
              · rw [hce] at h; omega))
            clear hbad hno hat hrb hmet hall
            go_wp2
            go_ret
            exact ⟨by rw [HB.out]; rfl, gg⟩
          by_cases h3 : r.n ≤ c
          · have HB := Lib.hid (hbad (by
              rintro (h | ⟨_, h, _⟩)
              · rw [hce] at h; exact hz h
              · rw [hce] at h; omega))
            clear hbad hno hat hrb hmet hall
            go_wp2
            go_ret
            exact ⟨by rw [HB.out]; rfl, gg⟩
          have HN := Lib.hid hno
          have HM2 := Lib.hid (met_put hmet.out (World.ownsMap.isMap hm) hce hz)
          clear hbad hno hat hrb
          go_wp2
          go_roundw
          case rel => exact ⟨i + 1, n + 1, _, by omega, by omega, by go_num, hm2, HM2, Lib.hid (fun j hj => by
            rcases Nat.lt_or_ge j i with h | h
            · exact hall.out j h
            · obtain rfl : j = i := by omega
              exact Or.inr ⟨by rw [hce]; omega, by rw [hce]; omega, fun k hk => by rw [hce]; exact HN.out k hk⟩), hrb2, gg⟩
          case measure => simp [intOf]; omega
    · obtain rfl : i = 8 := by omega
      have HB := Lib.hid (HO.out.2 hall.out)
      go_wp2
      go_ret
      exact ⟨by rw [HB.out]; rfl, hg⟩
set_option maxRecDepth 100000 in
set_option maxHeartbeats 2000000 in
theorem refused_any (r : Rt) (w : World) (hr : Fit r) : Calls Tryd.prog 21 #[RV r] w fun e w' => e = .returned (.int .i64 (putC r : Nat)) ∧ w.grownBy w' none := by
  have HF := Lib.hid (fun W ok hok => chunks_may r W hr ok hok)
  obtain ⟨hl, he, hn, hc⟩ := hr
  obtain ⟨w1, hw1⟩ : ∃ w1, w.alloc (.cells (rootC r).toArray 25) = w1 := ⟨_, rfl⟩
  have k0 : RB w1 w.heap.size r := by rw [← hw1]; exact Blk.mk w _ _
  have HG := Lib.hid (show w.grownBy w1 none by rw [← hw1]; exact gb_alloc _ _ _)
  have c0 := k0.epoch
  have c1 := k0.sectors
  have HK := Lib.hid k0
  have HI := Lib.hid (root_info r hl)
  have HN := Lib.hid (show ¬ MayR r → putC r = 2 from fun h => if_neg h)
  have HY := Lib.hid (show MayR r → putC r = 0 from fun h => if_pos h)
  have HR := Lib.hid (show MayR r ↔ r.e ≠ 0 ∧ 64 ≤ r.n ∧ r.n ≤ 1024 ∧ ∀ i, i < 8 → okAt r.n r.cs i from Iff.rfl)
  generalize putC r = z at HN HY ⊢
  unfold RV at HF ⊢
  clear k0 hc
  by_cases h0 : r.e = 0
  · have HZ := Lib.hid (HN.out (fun h => (HR.out.1 h).1 h0))
    have h1 : ((r.e : Int) == 0) = true := by simp [h0]
    clear h0
    go_enter Tryd.func21, Tryd.ntmps21
    go_wp2
    go_ret
    exact ⟨by rw [HZ.out]; rfl, HG.out⟩
  have h1 : ((r.e : Int) == 0) = false := by simp [h0]
  by_cases h2 : r.n < 64
  · have HZ := Lib.hid (HN.out (fun h => by have := (HR.out.1 h).2.1; omega))
    go_enter Tryd.func21, Tryd.ntmps21
    go_wp2
    go_ret
    exact ⟨by rw [HZ.out]; rfl, HG.out⟩
  by_cases h3 : 1024 < r.n
  · have HZ := Lib.hid (HN.out (fun h => by have := (HR.out.1 h).2.2.1; omega))
    go_enter Tryd.func21, Tryd.ntmps21
    go_wp2
    go_ret
    exact ⟨by rw [HZ.out]; rfl, HG.out⟩
  by_cases h4 : ∀ i, i < 8 → okAt r.n r.cs i
  · have HZ := Lib.hid (HY.out (HR.out.2 ⟨h0, by omega, by omega, h4⟩))
    have HF := Lib.hid (fun W => HF.out W true ⟨fun _ => h4, fun _ => rfl⟩)
    clear h4
    go_enter Tryd.func21, Tryd.ntmps21
    go_wp2_with (first
      | (refine wpList_load_row rfl 25 (.tmp 1) rfl w.heap.size rfl 25 (rootC r).toArray (0, 0) _ HK.out Tryd.underlying25 rfl HI.out ?_)
      | (go_at_call 28; (with_reducible refine (HF.out _).mono ?_); rintro e w2 ⟨rfl, g2⟩)
      | fail)
    go_ret
    exact ⟨by rw [HZ.out]; rfl, gb_trans HG.out g2⟩
  · have HZ := Lib.hid (HN.out (fun h => h4 (HR.out.1 h).2.2.2))
    have HF := Lib.hid (fun W => HF.out W false ⟨fun h => Bool.noConfusion h, fun h => absurd h h4⟩)
    clear h4
    go_enter Tryd.func21, Tryd.ntmps21
    go_wp2_with (first
      | (refine wpList_load_row rfl 25 (.tmp 1) rfl w.heap.size rfl 25 (rootC r).toArray (0, 0) _ HK.out Tryd.underlying25 rfl HI.out ?_)
      | (go_at_call 28; (with_reducible refine (HF.out _).mono ?_); rintro e w2 ⟨rfl, g2⟩)
      | fail)
    go_ret
    exact ⟨by rw [HZ.out]; rfl, gb_trans HG.out g2⟩
end Go.Proofs.YtckkbcgolphajaaDoor
