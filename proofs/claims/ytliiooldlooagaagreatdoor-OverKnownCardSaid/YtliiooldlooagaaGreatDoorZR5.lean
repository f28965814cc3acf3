/-
  Texts of one layer, one behind the other, each with its own sentence; conditions: those that each law states.
-/
import Derived.Maps.OwnSet
import Derived.Maps.Views
import Derived.MapKept
import Derived.Deep.MidRow
import Derived.Test.YtliiooldlooagaaGreatDoorZR4
set_option linter.unusedSimpArgs false
set_option linter.unusedVariables false

/-
  Which root the program refuses, over this seat's translation; conditions: the root's numbers fit.
-/
namespace Go.Proofs.YtliiooldlooagaaGreatDoor.R8
set_option maxRecDepth 100000
open Go.RowKit Go.Maps Go.ChangeMaps

theorem lawI : Keyed Tryz.prog 3 := int_keyed Tryz.underlying3
theorem zeroI (w : World) : (zeroValue 3).run Tryz.prog w = .ok (.int .i64 0) w := by kernel_rfl
theorem i64_wf' {z : Int} (h : -9223372036854775808 ≤ z ∧ z ≤ 9223372036854775807) : (Lit.int .i64 z).wf = true := by
  show (decide (-9223372036854775808 ≤ z) && decide (z ≤ 9223372036854775807)) = true
  simpa using h
def MapN (w : World) (m n : Nat) (D : DataW Unit) : Prop := w.ownsMap Tryz.prog 3 (plainElem Tryz.prog 3) m n D
theorem map_blk {w : World} {m n b : Nat} {D : DataW Unit} {t : TypeId} {vs : Array Value} (h : MapN w m n D) (hb : Blk w b t vs) : b ≠ m := by
  obtain ⟨es, clock, h1, _⟩ := h
  rintro rfl
  unfold Blk at hb
  rw [h1] at hb
  cases hb
/-- The map of counts, of the chunks so far, all unlike. -/
def Met (D : DataW Unit) (cs : List Int) (i : Nat) : Prop :=
  ∀ k : Int, k ≠ 0 → ((∃ j, j < i ∧ cs.getD j 0 = k) ∧ D.atKey (.int .i64 k) (.lit (.int .i64 0)) = .lit (.int .i64 1)) ∨ ((∀ j, j < i → cs.getD j 0 ≠ k) ∧ D.atKey (.int .i64 k) (.lit (.int .i64 0)) = .lit (.int .i64 0))
theorem met_nil (cs : List Int) : Met (.map []) cs 0 := fun k _ => Or.inr ⟨fun j h => absurd h (Nat.not_lt_zero j), rfl⟩
theorem met_zero {D : DataW Unit} {cs : List Int} {i : Nat} (h : Met D cs i) (hz : cs.getD i 0 = 0) : Met D cs (i + 1) := by
  intro k hk
  rcases h k hk with ⟨⟨j, h1, h2⟩, h3⟩ | ⟨h1, h2⟩
  · exact Or.inl ⟨⟨j, by omega, h2⟩, h3⟩
  · refine Or.inr ⟨fun j hj => ?_, h2⟩
    rcases Nat.lt_or_ge j i with h | h
    · exact h1 j h
    · obtain rfl : j = i := by omega
      rw [hz]; exact fun e => hk e.symm
theorem met_put {D : DataW Unit} {cs : List Int} {i : Nat} {c : Int} (h : Met D cs i) (hD : IsMap D) (hc : cs.getD i 0 = c) (hz : c ≠ 0) : Met (D.put (.int .i64 c) (.lit (.int .i64 1))) cs (i + 1) := by
  intro k hk
  by_cases e : k = c
  · subst e
    exact Or.inl ⟨⟨i, by omega, hc⟩, atKey_put_same hD (show WideAt.IsKeyLit (.int .i64 k) from trivial) _ _⟩
  · have hne : (Lit.int .i64 k) ≠ (Lit.int .i64 c) := by intro e'; cases e'; exact e rfl
    rw [atKey_put_other hne]
    rcases h k hk with ⟨⟨j, h1, h2⟩, h3⟩ | ⟨h1, h2⟩
    · exact Or.inl ⟨⟨j, by omega, h2⟩, h3⟩
    · refine Or.inr ⟨fun j hj => ?_, h2⟩
      rcases Nat.lt_or_ge j i with h | h
      · exact h1 j h
      · obtain rfl : j = i := by omega
        rw [hc]; exact fun e' => e e'.symm
theorem look_int {w : World} {m n : Nat} {D : DataW Unit} (h : MapN w m n D) (k : Int) (hk : -9223372036854775808 ≤ k ∧ k ≤ 9223372036854775807) (c : Int) (hc : D.atKey (.int .i64 k) (.lit (.int .i64 0)) = .lit (.int .i64 c)) :
    (Instr.lookup 112 (.map (some m)) (.int .i64 k) false).run Tryz.prog w = .ok (.int .i64 c) w := by
  obtain ⟨c', hrun, hc', _⟩ := World.ownsMap.lookup_int h lawI Tryz.underlying112 Tryz.underlying3 (zeroI w) (keyOf_int_mk Tryz.underlying3 (i64_wf' hk))
  rw [hc] at hc'
  injection hc' with e
  injection e with _ e
  subst e
  exact hrun
theorem put_int {w : World} {m n : Nat} {D : DataW Unit} (h : MapN w m n D) (hn : n < 100) (k : Int) (hk : -9223372036854775808 ≤ k ∧ k ≤ 9223372036854775807) (c : Int) (hc : -9223372036854775808 ≤ c ∧ c ≤ 9223372036854775807) :
    ∃ w', (Instr.mapUpdate 112 (.map (some m)) (.int .i64 k) (.int .i64 c)).run Tryz.prog w = .ok () w' ∧ MapN w' m (n + 1) (D.put (.int .i64 k) (.lit (.int .i64 c))) ∧ w.grownBy w' (some m) :=
  World.ownsMap.update h lawI Tryz.underlying112 (by unfold maxLen; omega) (keyOf_int_mk Tryz.underlying3 (i64_wf' hk)) (plainElem_int (H := Unit) Tryz.underlying3 (i64_wf' hc))
def eightC (r : Rt) : List Value := r.cs.map (Value.int .i64)
theorem eight_info (r : Rt) (h : r.cs.length = 8) : (Tryz.prog.info? 77).map (·.size) = some (eightC r).length := by
  rw [show (eightC r).length = 8 by simp [eightC, h]]; kernel_rfl
theorem rb_range {W : World} {b : Nat} {r : Rt} (h : RB W b r) (hl : r.cs.length = 8) : W.rangeAt b 2 (eightC r) := by
  intro j v hj
  have hj8 : j < r.cs.length := by have := (List.getElem?_eq_some_iff.1 hj).1; simpa [eightC] using this
  rw [Nat.add_comm 2 j, h.chunk j hj8, ← hj]
  simp [eightC, List.getD_eq_getElem?_getD, hj8]
theorem index_eight (r : Rt) (i : Nat) (hi : i < 8) (hl : r.cs.length = 8) (W : World) : (Instr.index 77 (.agg (eightC r).toArray) (.int .i64 (i : Nat))).run Tryz.prog W = .ok (.int .i64 (r.cs.getD i 0)) W := by
  have h1 : (0 : Int) ≤ (i : Int) ∧ (i : Int) < 8 := by omega
  simp [Instr.index, run_underlying Tryz.underlying77, Sem.run_bind]
  rw [show (asIntOf (Value.int IntKind.i64 (i : Int))).run Tryz.prog W = .ok (IntKind.i64, (i : Int)) W from rfl]
  simp only [Result.andThen]
  rw [if_pos h1]
  simp [part, Tryz.isAgg3, Sem.run_bind, eightC, show i < r.cs.length by omega]
set_option maxRecDepth 100000 in
set_option maxHeartbeats 2000000 in
theorem chunks_may (r : Rt) (w : World) (hr : Fit r) (ok : Bool) (hok : ok = true ↔ ∀ i, i < 8 → okAt r.n r.cs i) : Calls Tryz.prog 119 #[RV r] w (YesNo w ok) := by
  obtain ⟨hl, he, hn, hc⟩ := hr
  have HO := Lib.hid hok
  have HI := Lib.hid hc
  have k0 : RB (w.alloc (.cells (rootC r).toArray 79)) w.heap.size r := Blk.mk w _ _
  have hmm := @run_makeMap Tryz.prog 112 (w.alloc (.cells (rootC r).toArray 79))
  rw [World.size_alloc] at hmm
  have HM := Lib.hid (show MapN ((w.alloc (.cells (rootC r).toArray 79)).alloc (.map #[] 0)) (w.heap.size + 1) 0 (.map []) by
    have hm := World.ownsMap_made (w.alloc (.cells (rootC r).toArray 79)) Tryz.prog 3 (plainElem (H := Unit) Tryz.prog 3)
    rw [World.size_alloc] at hm
    exact hm)
  have gA := gb_alloc (w.alloc (.cells (rootC r).toArray 79)) (.map #[] 0) none
  have HG := Lib.hid (gb_trans (gb_alloc w (.cells (rootC r).toArray 79) none) gA)
  have k1 := k0.keep0 gA
  have HK := Lib.hid k1
  have HL := Lib.hid hl
  have HR := Lib.hid (rb_range k1 hl)
  have HI8 := Lib.hid (eight_info r hl)
  unfold RV
  clear hok hc k0 gA k1
  generalize (w.alloc (.cells (rootC r).toArray 79)).alloc (.map #[] 0) = w1 at HM HG HK HR hmm
  go_enter Tryz.func119, Tryz.ntmps119
  go_wp2_with (first
    | (refine wpList_load_mid rfl 77 (.tmp 7) rfl w.heap.size 2 rfl (eightC r) _ HR.out Tryz.underlying77 rfl HI8.out ?_)
    | fail)
  have hsec := HK.out.sectors
  go_loopw [9] (fun v wr => ∃ i n : Nat, ∃ D, i ≤ 8 ∧ n ≤ i ∧ v = .int .i64 i ∧ MapN wr (w.heap.size + 1) n D ∧ Hid (Met D r.cs i) ∧ Hid (∀ j, j < i → okAt r.n r.cs j) ∧ RB wr w.heap.size r ∧ w.grownBy wr none) (fun v _ => 9 - (intOf v).toNat)
  case atStart => exact ⟨0, 0, _, by omega, by omega, rfl, HM.out, Lib.hid (met_nil _), Lib.hid (fun j h => absurd h (Nat.not_lt_zero j)), HK.out, HG.out⟩
  case round =>
    obtain ⟨i, n, D, hi, hni, rfl, hm, hmet, hall, hrb, hg⟩ := hrel
    have hsec := hrb.sectors
    by_cases hlt : i < 8
    · obtain ⟨c, hce⟩ : ∃ c, r.cs.getD i 0 = c := ⟨_, rfl⟩
      have hcb := HI.out i hlt
      rw [hce] at hcb
      have hix := index_eight r i hlt HL.out
      rw [hce] at hix
      by_cases hz : c = 0
      · subst hz
        go_wp2
        go_roundw
        case rel => exact ⟨i + 1, n, D, by omega, by omega, by go_num, hm, Lib.hid (met_zero hmet.out hce), Lib.hid (fun j hj => by
          rcases Nat.lt_or_ge j i with h | h
          · exact hall.out j h
          · obtain rfl : j = i := by omega
            exact Or.inl hce), hrb, hg⟩
        case measure => simp [intOf]; omega
      · have hz1 : (c == 0) = false := by simpa using hz
        have hbad : ¬ okAt r.n r.cs i → ok = false := fun h => by
          cases hk : ok with
          | false => rfl
          | true => exact absurd (HO.out.1 hk i hlt) h
        rcases hmet.out c hz with ⟨⟨j, hj, hjc⟩, hat⟩ | ⟨hno, hat⟩
        · have hb1 : ok = false := hbad (by
            rintro (h | ⟨_, _, h⟩)
            · rw [hce] at h; exact hz h
            · exact h j hj (hjc.trans hce.symm))
          have hlk := look_int hm c hcb 1 hat
          obtain ⟨w2, hup, hm2, g2⟩ := put_int hm (by omega) c hcb 2 (by omega)
          have hlk2 := look_int hm2 c hcb 2 (atKey_put_same (World.ownsMap.isMap hm) (show WideAt.IsKeyLit (.int .i64 c) from trivial) _ _)
          have hrb2 := RB.keepS hrb g2 (ne_some (map_blk hm hrb))
          have hsec2 := hrb2.sectors
          have gg := gb_step hg g2 (by omega)
          have HB := Lib.hid hb1
          clear hbad hb1 hat hjc hj hrb hmet hall
          by_cases h2 : c < 2
          · go_wp2
            go_ret
            exact ⟨by rw [HB.out]; rfl, gg⟩
          by_cases h3 : r.n ≤ c
          all_goals
            go_wp2
            go_ret
            exact ⟨by rw [HB.out]; rfl, gg⟩
        · have hlk := look_int hm c hcb 0 hat
          obtain ⟨w2, hup, hm2, g2⟩ := put_int hm (by omega) c hcb 1 (by omega)
          have hlk2 := look_int hm2 c hcb 1 (atKey_put_same (World.ownsMap.isMap hm) (show WideAt.IsKeyLit (.int .i64 c) from trivial) _ _)
          have hrb2 := RB.keepS hrb g2 (ne_some (map_blk hm hrb))
          have hsec2 := hrb2.sectors
          have gg := gb_step hg g2 (by omega)
          by_cases h2 : c < 2
          · have HB := Lib.hid (hbad (by
              rintro (h | ⟨h, _, _⟩)
              · rw [hce] at h; exact hz h
              · rw [hce] at h; omega))
            clear hbad hno hat hrb hmet hall
            go_wp2
            go_ret
            exact ⟨by rw [HB.out]; rfl, gg⟩
          by_cases h3 : r.n ≤ c
          · have HB := Lib.hid (hbad (by
              rintro (h | ⟨_, h, _⟩)
              · rw [hce] at h; exact hz h
              · rw [hce] at h; omega))
            clear hbad hno hat hrb hmet hall
            go_wp2
            go_ret
            exact ⟨by rw [HB.out]; rfl, gg⟩
          have HN := Lib.hid hno
          have HM2 := Lib.hid (met_put hmet.out (World.ownsMap.isMap hm) hce hz)
          clear hbad hno hat hrb
          go_wp2
          go_roundw
          case rel => exact ⟨i + 1, n + 1, _, by omega, by omega, by go_num, hm2, HM2, Lib.hid (fun j hj => by
            rcases Nat.lt_or_ge j i with h | h
            · exact hall.out j h
            · obtain rfl : j = i := by omega
              exact Or.inr ⟨by rw [hce]; omega, by rw [hce]; omega, fun k hk => by rw [hce]; exact HN.out k hk⟩), hrb2, gg⟩
          case measure => simp [intOf]; omega
    · obtain rfl : i = 8 := by omega
      have HB := Lib.hid (HO.out.2 hall.out)
      go_wp2
      go_ret
      exact ⟨by rw [HB.out]; rfl, hg⟩
set_option maxRecDepth 100000 in
set_option maxHeartbeats 2000000 in
theorem refused_any (r : Rt) (w : World) (hr : Fit r) : Calls Tryz.prog 99 #[RV r] w fun e w' => e = .returned (.int .i64 (putC r : Nat)) ∧ w.grownBy w' none := by
  have HF := Lib.hid (fun W ok hok => chunks_may r W hr ok hok)
  obtain ⟨hl, he, hn, hc⟩ := hr
  obtain ⟨w1, hw1⟩ : ∃ w1, w.alloc (.cells (rootC r).toArray 79) = w1 := ⟨_, rfl⟩
  have k0 : RB w1 w.heap.size r := by rw [← hw1]; exact Blk.mk w _ _
  have HG := Lib.hid (show w.grownBy w1 none by rw [← hw1]; exact gb_alloc _ _ _)
  have c0 := k0.epoch
  have c1 := k0.sectors
  have HK := Lib.hid k0
  have HI := Lib.hid (root_info r hl)
  have HN := Lib.hid (show ¬ MayR r → putC r = 2 from fun h => if_neg h)
  have HY := Lib.hid (show MayR r → putC r = 0 from fun h => if_pos h)
  have HR := Lib.hid (show MayR r ↔ r.e ≠ 0 ∧ 64 ≤ r.n ∧ r.n ≤ 1024 ∧ ∀ i, i < 8 → okAt r.n r.cs i from Iff.rfl)
  generalize putC r = z at HN HY ⊢
  unfold RV at HF ⊢
  clear k0 hc
  by_cases h0 : r.e = 0
  · have HZ := Lib.hid (HN.out (fun h => (HR.out.1 h).1 h0))
    have h1 : ((r.e : Int) == 0) = true := by simp [h0]
    clear h0
    go_enter Tryz.func99, Tryz.ntmps99
    go_wp2
    go_ret
    exact ⟨by rw [HZ.out]; rfl, HG.out⟩
  have h1 : ((r.e : Int) == 0) = false := by simp [h0]
  by_cases h2 : r.n < 64
  · have HZ := Lib.hid (HN.out (fun h => by have := (HR.out.1 h).2.1; omega))
    go_enter Tryz.func99, Tryz.ntmps99
    go_wp2
    go_ret
    exact ⟨by rw [HZ.out]; rfl, HG.out⟩
  by_cases h3 : 1024 < r.n
  · have HZ := Lib.hid (HN.out (fun h => by have := (HR.out.1 h).2.2.1; omega))
    go_enter Tryz.func99, Tryz.ntmps99
    go_wp2
    go_ret
    exact ⟨by rw [HZ.out]; rfl, HG.out⟩
  by_cases h4 : ∀ i, i < 8 → okAt r.n r.cs i
  · have HZ := Lib.hid (HY.out (HR.out.2 ⟨h0, by omega, by omega, h4⟩))
    have HF := Lib.hid (fun W => HF.out W true ⟨fun _ => h4, fun _ => rfl⟩)
    clear h4
    go_enter Tryz.func99, Tryz.ntmps99
    go_wp2_with (first
      | (refine wpList_load_row rfl 79 (.tmp 1) rfl w.heap.size rfl 79 (rootC r).toArray (0, 0) _ HK.out Tryz.underlying79 rfl HI.out ?_)
      | (go_at_call 119; (with_reducible refine (HF.out _).mono ?_); rintro e w2 ⟨rfl, g2⟩)
      | fail)
    go_ret
    exact ⟨by rw [HZ.out]; rfl, gb_trans HG.out g2⟩
  · have HZ := Lib.hid (HN.out (fun h => h4 (HR.out.1 h).2.2.2))
    have HF := Lib.hid (fun W => HF.out W false ⟨fun h => Bool.noConfusion h, fun h => absurd h h4⟩)
    clear h4
    go_enter Tryz.func99, Tryz.ntmps99
    go_wp2_with (first
      | (refine wpList_load_row rfl 79 (.tmp 1) rfl w.heap.size rfl 79 (rootC r).toArray (0, 0) _ HK.out Tryz.underlying79 rfl HI.out ?_)
      | (go_at_call 119; (with_reducible refine (HF.out _).mono ?_); rintro e w2 ⟨rfl, g2⟩)
      | fail)
    go_ret
    exact ⟨by rw [HZ.out]; rfl, gb_trans HG.out g2⟩
end Go.Proofs.YtliiooldlooagaaGreatDoor.R8

/-
  What the program's own Put answers, over this seat's translation; conditions: the root's numbers fit, the table of places lies as the program's text lays it.
-/
namespace Go.Proofs.YtliiooldlooagaaGreatDoor.R8
open Go.RowKit

theorem zeroSec (w : World) : (zeroValue 171).run Tryz.prog w = .ok (.agg (bytesC (zer 256)).toArray) w := by
  have : (zeroValue 171).run Tryz.prog w = .ok (.agg (List.replicate 256 (Value.int .u8 0)).toArray) w := by kernel_rfl
  rw [this, bytes_zero]
theorem Sec.mk (w : World) : Sec (w.alloc (.cells (bytesC (zer 256)).toArray 171)) w.heap.size (zer 256) := ⟨Blk.mk _ _ _, zer_length _⟩
theorem sec_str {W : World} {b : Nat} {l : List UInt8} (h : Sec W b l) (cap : Nat) : (convert 59 9 (.slice (some ⟨b, 0, none⟩) 256 cap)).run Tryz.prog W = .ok (.string ⟨l.toArray⟩) W :=
  run_convert_bytes_back W 59 9 5 ⟨b, 0, none⟩ cap l Tryz.underlying59 Tryz.underlying5 Tryz.underlying9 (fun j hj => by
    have hj' : j < 256 := by rw [← h.2]; exact hj
    rw [add_at, Nat.zero_add, h.byte j hj']
    simp [List.getD_eq_getElem?_getD, hj]) |> fun e => by rw [h.2] at e; exact e
theorem putAt_pre (p r : List UInt8) (m n : Nat) (hm : n = p.length) (h : r.length ≤ m) : putAt (p ++ zer m) n r = (p ++ r) ++ zer (m - r.length) := by
  subst hm
  unfold putAt
  rw [take_at _ _ _ rfl, drop_at p (zer m) (p.length + r.length) r.length rfl, zer_drop]
theorem putAt_gap (p r : List UInt8) (m n k : Nat) (hn : n = p.length + k) (h : k + r.length = m) : putAt (p ++ zer m) n r = p ++ (zer k ++ r) := by
  subst hn; subst h
  unfold putAt
  rw [drop_at p _ _ (k + r.length) (by omega), zer_drop, Nat.sub_self]
  rw [List.take_append, List.take_of_length_le (by omega), show p.length + k - p.length = k by omega, zer_take k _ (by omega)]
  simp [zer]
/-- The sector as far as it is laid: the Epoch, Sectors, so many chunks. -/
def preL (r : Rt) (i : Nat) : List UInt8 := dg r.e 8 ++ (dg r.n.toNat 2 ++ chunksL (r.cs.take i))
theorem preL_length (r : Rt) (i : Nat) (h : i ≤ r.cs.length) : (preL r i).length = 10 + 2 * i := by
  unfold preL
  rw [List.length_append, List.length_append, dg_length, dg_length, chunksL_length, List.length_take]; omega
theorem lay0 (r : Rt) : putAt (zer 256) 0 (dg r.e 8) = dg r.e 8 ++ zer 248 := by
  have := putAt_pre [] (dg r.e 8) 256 0 rfl (by rw [dg_length]; decide)
  rw [dg_length] at this
  exact this
theorem lay1 (r : Rt) : putAt (dg r.e 8 ++ zer 248) 8 (dg r.n.toNat 2) = preL r 0 ++ zer 246 := by
  have := putAt_pre (dg r.e 8) (dg r.n.toNat 2) 248 8 (by rw [dg_length]) (by rw [dg_length]; decide)
  rw [dg_length] at this
  rw [this]
  unfold preL chunksL
  simp
theorem lay2 (r : Rt) (i : Nat) (hi : i < 8) (hl : r.cs.length = 8) : putAt (preL r i ++ zer (246 - 2 * i)) (10 + 2 * i) (dg (r.cs.getD i 0).toNat 2) = preL r (i + 1) ++ zer (246 - 2 * (i + 1)) := by
  have := putAt_pre (preL r i) (dg (r.cs.getD i 0).toNat 2) (246 - 2 * i) (10 + 2 * i) (preL_length r i (by omega)).symm (by rw [dg_length]; omega)
  rw [dg_length] at this
  rw [this]
  congr 1
  · unfold preL
    rw [chunks_snoc r.cs i (by omega)]
    simp
theorem lay3 (r : Rt) (hl : r.cs.length = 8) : putAt (preL r 8 ++ zer 230) 248 (dg r.e 8) = putL r := by
  rw [putAt_gap (preL r 8) (dg r.e 8) 230 248 222 (by rw [preL_length r 8 (by omega)]) (by rw [dg_length])]
  unfold preL putL
  rw [chunks_all r.cs hl]
  simp
/-- What a number laid leaves of the rest. -/
theorem after_lay {w W W1 W2 : World} {b p x a n h : Nat} {r : Rt} {l : List UInt8} {e : Ending} (hg : w.grownBy W none) (hb : w.heap.size ≤ b) (hbW : b < W.heap.size) (hh : RB W h r) (hhb : h ≠ b) (M : Made W W1 b p x a n) (L : Laid W1 b p x a n l e W2) : RB W2 h r ∧ w.grownBy W2 none := by
  obtain ⟨m1, m2, m3, m4, m5, m6⟩ := M
  obtain ⟨_, _, _, _, l5⟩ := L
  have hlt := Blk.lt hh
  have hsz := hg.size
  exact ⟨l5.blk (RB.keep0 hh m6) hhb (by omega), l5.grown (gb_trans hg m6) hb (by omega)⟩
theorem lay_made {W W1 : World} {b p x a n N : Nat} {l : List UInt8} (hbW : b < W.heap.size) (M : Made W W1 b p x a n) (hs : Sec W b l) (han : a + n ≤ 256) (hn : n ≤ 8) (hN : N < 18446744073709551616) :
    Calls Tryz.prog 120 #[.int .u64 (N : Nat), .pointer (some ⟨p, 0, none⟩), .pointer (some ⟨x, 0, none⟩)] W1 (Laid W1 b p x a n (putAt l a (dg N n))) := by
  obtain ⟨m1, m2, m3, m4, m5, m6⟩ := M
  exact lay_any b p x a n N l W1 (hs.keep0 m6) m4 m5 (by omega) (by omega) m3 han hn hN
set_option maxRecDepth 100000 in
set_option maxHeartbeats 2000000 in
theorem put_no (r : Rt) (w : World) (hr : Fit r) (hm : ¬ MayR r) : Calls Tryz.prog 67 #[RV r] w (PutGot w r) := by
  have HC := Lib.hid (show putC r = 2 from if_neg hm)
  have HS := Lib.hid (show putS r = [] from if_neg hm)
  have HI := Lib.hid (root_info r hr.1)
  have HF := Lib.hid (fun W => refused_any r W hr)
  rw [HC.out] at HF
  unfold RV at HF ⊢
  generalize (rootC r).toArray = C at HF HI ⊢
  clear hr hm
  go_enter Tryz.func67, Tryz.ntmps67
  go_wp2_with (first
    | (refine wpList_load_row rfl 79 (.tmp 1) rfl w.heap.size rfl 79 C (0, 0) _ (heap_alloc_new _ _) Tryz.underlying79 rfl HI.out ?_)
    | (go_at_call 99; (with_reducible refine (HF.out _).mono ?_); rintro e w2 ⟨rfl, g2⟩)
    | fail)
  go_ret2
  exact ⟨⟨#[]⟩, by rw [HC.out]; rfl, by rw [HS.out], gb_trans (gb_alloc _ _ _) g2⟩
set_option maxRecDepth 100000 in
set_option maxHeartbeats 4000000 in
theorem put_yes (r : Rt) (w : World) (hP : Pl w) (hr : Fit r) (hm : MayR r) : Calls Tryz.prog 67 #[RV r] w (PutGot w r) := by
  have HC := Lib.hid (show putC r = 0 from if_pos hm)
  have HS := Lib.hid (show putS r = putL r from if_pos hm)
  have HI := Lib.hid (root_info r hr.1)
  have HF := Lib.hid (fun W => refused_any r W hr)
  rw [HC.out] at HF
  have k0 : RB (w.alloc (.cells (rootC r).toArray 79)) w.heap.size r := Blk.mk w _ _
  have g0 := gb_alloc w (.cells (rootC r).toArray 79) none
  have HR := Lib.hid hr
  have HM := Lib.hid hm
  have HP := Lib.hid hP
  have hz := zeroSec
  unfold RV at HF ⊢
  clear hr hm hP
  go_enter Tryz.func67, Tryz.ntmps67
  go_wp2_with (first
    | (refine wpList_load_row rfl 79 (.tmp 1) rfl w.heap.size rfl 79 (rootC r).toArray (0, 0) _ (heap_alloc_new _ _) Tryz.underlying79 rfl HI.out ?_)
    | (go_at_call 99; (with_reducible refine (HF.out _).mono ?_); rintro e w2 ⟨rfl, g2⟩; have k2 := RB.keep0 k0 g2; have gg := gb_trans g0 g2)
    | fail)
  have s3 := Sec.mk w2
  have k3 := RB.keep0 k2 (gb_alloc w2 (.cells (bytesC (zer 256)).toArray 171) none)
  have gg := gb_trans gg (gb_alloc w2 (.cells (bytesC (zer 256)).toArray 171) none)
  have hbw := g2.size
  rw [World.size_alloc] at hbw
  have hbW : w2.heap.size < (w2.alloc (.cells (bytesC (zer 256)).toArray 171)).heap.size := by rw [World.size_alloc]; omega
  generalize w2.alloc (.cells (bytesC (zer 256)).toArray 171) = w3 at s3 k3 gg hbW ⊢
  generalize w2.heap.size = b at s3 k3 gg hbW hbw ⊢
  have hb : w.heap.size ≤ b := by omega
  have hhb : w.heap.size ≠ b := by omega
  have hcs : r.cs.length = 8 := HR.out.1
  have he : r.e < 18446744073709551616 := HR.out.2.1
  obtain ⟨n, hn⟩ : ∃ n : Nat, r.n = (n : Int) := ⟨r.n.toNat, by have := HM.out.2.1; omega⟩
  have HNN := Lib.hid (show n = r.n.toNat by rw [hn]; rfl)
  have hn1 : n ≤ 1024 := by have := HM.out.2.2.1; omega
  have hnw : IntKind.u64.wrap (n : Int) = (n : Int) := u64_small _ (by omega)
  have HB := Lib.hid (fun i (hi : i < 8) => may_chunk HM.out i hi)
  have HI8 := Lib.hid (eight_info r hcs)
  have s := s3
  have kk := k3
  clear k0 g0 k2 g2 hz s3 k3
  -- BEHIND qx.py
  have s5 := Sec.keep0 s (gb_drew w3 none)
  have k5 := RB.keep0 kk (gb_drew w3 none)
  have g5 := gb_trans gg (gb_drew w3 none)
  have b5 : b < w3.drew.heap.size := hbW
  refine wp_region_noPanic ?_
  refine wp_region_held_drew (S := fun w' => RB w' w.heap.size r) (by kernel_rfl) k5 (fun hHeld => ?_)
  generalize w3.drew = u5 at s5 k5 g5 b5 hHeld ⊢
  clear s kk gg hbW
  refine wpAnyH_take (i := 1) (v := ?_) (List.getElem?_toArray.trans rfl) (by kernel_rfl) (by kernel_rfl) (by kernel_rfl) (fun _ _ _ h => h) (Or.inl ⟨by rfl, ?_⟩) hHeld ?_
  rotate_left
  · intro w' hSw; go_simp; try with_reducible rfl
  try simp only [Act.put, List.setIfInBounds_toArray, List.set_cons_zero, List.set_cons_succ]
  refine wpAnyH_take (i := 2) (v := ?_) (List.getElem?_toArray.trans rfl) (by kernel_rfl) (by kernel_rfl) (by kernel_rfl) (fun _ _ _ h => h) (Or.inl ⟨by rfl, ?_⟩) hHeld ?_
  rotate_left
  · intro w' hSw; have hc := RB.epoch hSw; go_simp; try with_reducible rfl
  try simp only [Act.put, List.setIfInBounds_toArray, List.set_cons_zero, List.set_cons_succ]
  refine wpAnyH_ready (rs := [0]) (by kernel_rfl) (by simp) ?_
  refine AllReadyH.cons (List.getElem?_toArray.trans rfl) (fun K hK => ?_) AllReadyH.nil
  go_simp
  go_at_call 100
  (with_reducible refine (layer_any b 0 0 8 0 _ (HP.out.keep0 g5) rfl (by decide) rfl rfl).mono ?_)
  rintro e v5 ⟨p5, x5, rfl, M5⟩
  refine hK.out _ _ (RB.keep0 k5 M5.2.2.2.2.2) (fun hHeld => ?_)
  clear hK K
  try simp only [Act.put, List.setIfInBounds_toArray, List.set_cons_zero, List.set_cons_succ]
  refine wpAnyH_ready (rs := [3]) (by kernel_rfl) (by simp) ?_
  refine AllReadyH.cons (List.getElem?_toArray.trans rfl) (fun K hK => ?_) AllReadyH.nil
  go_simp
  go_at_call 120
  (with_reducible refine (lay_made b5 M5 s5 (by decide) (by decide) he).mono ?_)
  rintro e w5 L5
  obtain ⟨kk, gg⟩ := after_lay g5 hb b5 k5 hhb M5 L5
  have hbW : b < w5.heap.size := Blk.lt L5.2.1.1
  obtain ⟨rfl, s, _, _, _⟩ := L5
  rw [lay0] at s
  refine hK.out _ _ kk (fun hHeld => ?_)
  clear hK K
  try simp only [Act.put, List.setIfInBounds_toArray, List.set_cons_zero, List.set_cons_succ]
  clear s5 k5 g5 b5 M5
  refine wpAnyH_done (by kernel_rfl) ?_ _
  refine NoPanic.normal ?_
  go_wp2
  have s6 := Sec.keep0 s (gb_drew w5 none)
  have k6 := RB.keep0 kk (gb_drew w5 none)
  have g6 := gb_trans gg (gb_drew w5 none)
  have b6 : b < w5.drew.heap.size := hbW
  refine wp_region_noPanic ?_
  refine wp_region_held_drew (S := fun w' => RB w' w.heap.size r) (by kernel_rfl) k6 (fun hHeld => ?_)
  generalize w5.drew = u6 at s6 k6 g6 b6 hHeld ⊢
  clear s kk gg hbW
  refine wpAnyH_take (i := 1) (v := ?_) (List.getElem?_toArray.trans rfl) (by kernel_rfl) (by kernel_rfl) (by kernel_rfl) (fun _ _ _ h => h) (Or.inl ⟨by rfl, ?_⟩) hHeld ?_
  rotate_left
  · intro w' hSw; go_simp; try with_reducible rfl
  try simp only [Act.put, List.setIfInBounds_toArray, List.set_cons_zero, List.set_cons_succ]
  refine wpAnyH_take (i := 2) (v := ?_) (List.getElem?_toArray.trans rfl) (by kernel_rfl) (by kernel_rfl) (by kernel_rfl) (fun _ _ _ h => h) (Or.inl ⟨by rfl, ?_⟩) hHeld ?_
  rotate_left
  · intro w' hSw; have hc := RB.sectors hSw; rw [hn] at hc; go_simp; try with_reducible rfl
  try simp only [Act.put, List.setIfInBounds_toArray, List.set_cons_zero, List.set_cons_succ]
  refine wpAnyH_take (i := 3) (v := ?_) (List.getElem?_toArray.trans rfl) (by kernel_rfl) (by kernel_rfl) (by kernel_rfl) (fun _ _ _ h => h) (Or.inl ⟨by rfl, ?_⟩) hHeld ?_
  rotate_left
  · intro w' hSw; go_simp; try with_reducible rfl
  try simp only [Act.put, List.setIfInBounds_toArray, List.set_cons_zero, List.set_cons_succ]
  refine wpAnyH_ready (rs := [0]) (by kernel_rfl) (by simp) ?_
  refine AllReadyH.cons (List.getElem?_toArray.trans rfl) (fun K hK => ?_) AllReadyH.nil
  go_simp
  go_at_call 100
  (with_reducible refine (layer_any b 1 8 2 1 _ (HP.out.keep0 g6) rfl (by decide) rfl rfl).mono ?_)
  rintro e v6 ⟨p6, x6, rfl, M6⟩
  refine hK.out _ _ (RB.keep0 k6 M6.2.2.2.2.2) (fun hHeld => ?_)
  clear hK K
  try simp only [Act.put, List.setIfInBounds_toArray, List.set_cons_zero, List.set_cons_succ]
  refine wpAnyH_ready (rs := [4]) (by kernel_rfl) (by simp) ?_
  refine AllReadyH.cons (List.getElem?_toArray.trans rfl) (fun K hK => ?_) AllReadyH.nil
  go_simp
  go_at_call 120
  (with_reducible refine (lay_made b6 M6 s6 (by decide) (by decide) (by omega)).mono ?_)
  rintro e w6 L6
  obtain ⟨kk, gg⟩ := after_lay g6 hb b6 k6 hhb M6 L6
  have hbW : b < w6.heap.size := Blk.lt L6.2.1.1
  obtain ⟨rfl, s, _, _, _⟩ := L6
  rw [HNN.out, lay1] at s
  refine hK.out _ _ kk (fun hHeld => ?_)
  clear hK K
  try simp only [Act.put, List.setIfInBounds_toArray, List.set_cons_zero, List.set_cons_succ]
  clear s6 k6 g6 b6 M6
  refine wpAnyH_done (by kernel_rfl) ?_ _
  refine NoPanic.normal ?_
  go_wp2_with (first
    | (go_at_call 100; (with_reducible refine (layer_any b 2 10 2 2 _ (HP.out.keep0 gg) rfl (by decide) rfl rfl).mono ?_); rintro e w7 ⟨p, x, rfl, M7⟩; have kk := RB.keep0 kk M7.2.2.2.2.2; have s := Sec.keep0 s M7.2.2.2.2.2; have hR8 := rb_range kk hcs; have hpx := And.intro M7.1 M7.2.1; have hxp := M7.2.2.1; have mp := M7.2.2.2.1; have mx := M7.2.2.2.2.1; have gg := gb_trans gg M7.2.2.2.2.2; have hbW7 := hbW; have hbW : b < w7.heap.size := Blk.lt s.1)
    | (refine wpList_load_mid rfl 77 (.tmp 24) rfl w.heap.size 2 rfl (eightC r) _ hR8 Tryz.underlying77 rfl HI8.out ?_)
    | fail)
  have hbp : b < p := by have := hpx.1; omega
  have hbx : b < x := by have := hpx.2; omega
  clear M7 hR8
  have HP7 := Lib.hid gg
  go_loopw [26] (fun v wr => ∃ i : Nat, i ≤ 8 ∧ v = .int .i64 i ∧ Sec wr b (preL r i ++ zer (246 - 2 * i)) ∧ Plc wr p (10 + 2 * i) 2 ∧ Box wr x b ∧ RB wr w.heap.size r ∧ w.grownBy wr none) (fun v _ => 9 - (intOf v).toNat)
  case atStart => exact ⟨0, by omega, rfl, s, mp, mx, kk, gg⟩
  case round =>
    obtain ⟨i, hi, rfl, s, mp, mx, kk, gg⟩ := hrel
    by_cases hlt : i < 8
    · have hix := index_eight r i hlt hcs
      have hcb := HB.out i hlt
      obtain ⟨c, hc⟩ : ∃ c : Nat, r.cs.getD i 0 = (c : Int) := ⟨(r.cs.getD i 0).toNat, by omega⟩
      rw [hc] at hix hcb
      have hcw : IntKind.u64.wrap (c : Int) = (c : Int) := u64_small _ (by omega)
      have HC2 := Lib.hid (show c = (r.cs.getD i 0).toNat by rw [hc]; rfl)
      clear hc
      go_wp2_with (first
        | (go_at_call 120; (with_reducible refine (lay_any b p x (10 + 2 * i) 2 c _ _ s mp mx (by omega) (by omega) hxp (by omega) (by decide) (by omega)).mono ?_); rintro e w8 ⟨rfl, s8, m8, x8, ch⟩)
        | fail)
      rw [HC2.out, lay2 r i hlt hcs] at s8
      have k8 := ch.blk kk hhb (by omega)
      have g8 := ch.grown gg hb (by omega)
      go_roundw
      case rel => exact ⟨i + 1, by omega, by go_num, s8, m8, x8, k8, g8⟩
      case measure => simp [intOf]; omega
    · obtain rfl : i = 8 := by omega
      have hbW : b < wr.heap.size := Blk.lt s.1
      clear mp mx
      go_wp2
      have s13 := Sec.keep0 s (gb_drew wr none)
      have k13 := RB.keep0 kk (gb_drew wr none)
      have g13 := gb_trans gg (gb_drew wr none)
      have b13 : b < wr.drew.heap.size := hbW
      refine wp_region_noPanic ?_
      refine wp_region_held_drew (S := fun w' => RB w' w.heap.size r) (by kernel_rfl) k13 (fun hHeld => ?_)
      generalize wr.drew = u13 at s13 k13 g13 b13 hHeld ⊢
      clear s kk gg hbW
      refine wpAnyH_take (i := 1) (v := ?_) (List.getElem?_toArray.trans rfl) (by kernel_rfl) (by kernel_rfl) (by kernel_rfl) (fun _ _ _ h => h) (Or.inl ⟨by rfl, ?_⟩) hHeld ?_
      rotate_left
      · intro w' hSw; go_simp; try with_reducible rfl
      try simp only [Act.put, List.setIfInBounds_toArray, List.set_cons_zero, List.set_cons_succ]
      refine wpAnyH_take (i := 2) (v := ?_) (List.getElem?_toArray.trans rfl) (by kernel_rfl) (by kernel_rfl) (by kernel_rfl) (fun _ _ _ h => h) (Or.inl ⟨by rfl, ?_⟩) hHeld ?_
      rotate_left
      · intro w' hSw; have hc := RB.epoch hSw; go_simp; try with_reducible rfl
      try simp only [Act.put, List.setIfInBounds_toArray, List.set_cons_zero, List.set_cons_succ]
      refine wpAnyH_ready (rs := [0]) (by kernel_rfl) (by simp) ?_
      refine AllReadyH.cons (List.getElem?_toArray.trans rfl) (fun K hK => ?_) AllReadyH.nil
      go_simp
      go_at_call 100
      (with_reducible refine (layer_any b 3 248 8 3 _ (HP.out.keep0 g13) rfl (by decide) rfl rfl).mono ?_)
      rintro e v13 ⟨p13, x13, rfl, M13⟩
      refine hK.out _ _ (RB.keep0 k13 M13.2.2.2.2.2) (fun hHeld => ?_)
      clear hK K
      try simp only [Act.put, List.setIfInBounds_toArray, List.set_cons_zero, List.set_cons_succ]
      refine wpAnyH_ready (rs := [3]) (by kernel_rfl) (by simp) ?_
      refine AllReadyH.cons (List.getElem?_toArray.trans rfl) (fun K hK => ?_) AllReadyH.nil
      go_simp
      go_at_call 120
      (with_reducible refine (lay_made b13 M13 s13 (by decide) (by decide) he).mono ?_)
      rintro e w13 L13
      obtain ⟨kk, gg⟩ := after_lay g13 hb b13 k13 hhb M13 L13
      have hbW : b < w13.heap.size := Blk.lt L13.2.1.1
      obtain ⟨rfl, s, _, _, _⟩ := L13
      rw [lay3 r hcs] at s
      refine hK.out _ _ kk (fun hHeld => ?_)
      clear hK K
      try simp only [Act.put, List.setIfInBounds_toArray, List.set_cons_zero, List.set_cons_succ]
      clear s13 k13 g13 b13 M13
      refine wpAnyH_done (by kernel_rfl) ?_ _
      refine NoPanic.normal ?_
      have hst := sec_str s 256
      go_wp2
      go_ret2
      exact ⟨⟨(putL r).toArray⟩, by rw [HC.out]; rfl, by rw [HS.out], gg⟩
theorem put_any (r : Rt) (w : World) (hP : Pl w) (hr : Fit r) : Calls Tryz.prog 67 #[RV r] w (PutGot w r) := by
  by_cases hm : MayR r
  · exact put_yes r w hP hr hm
  · exact put_no r w hr hm
end Go.Proofs.YtliiooldlooagaaGreatDoor.R8

/-
  What the program's own Get answers, over this seat's translation; conditions: the text is not too long, the table of places lies as the program's text lays it.
-/
namespace Go.Proofs.YtliiooldlooagaaGreatDoor.R8
open Go.RowKit

theorem results_c1 {fn : Func} {p : Tmp} (h : fn.results = #[.cell p 79]) (tmps : Array Value) (w : World) (b : Nat) (r : Rt)
    (hp : tmps.getD p undef = .pointer (some ⟨b, 0, none⟩)) (hb : RB w b r) (hr : r.cs.length = 8) :
    (results fn tmps).run Tryz.prog w = .ok (RV r) w := by
  have hp' : tmps[p]?.getD undef = .pointer (some ⟨b, 0, none⟩) := by simpa using hp
  simp [results, h, hp', asAddr, hb.load hr]
theorem Sec.lt {W : World} {b : Nat} {l : List UInt8} (h : Sec W b l) : b < W.heap.size := Blk.lt h.1
/-- A reader that was made, asked later. -/
theorem read_made {W W1 : World} {b p x a n : Nat} {l : List UInt8} (hs : Sec W b l) (hbW : b < W.heap.size) (M : Made W W1 b p x a n) (han : a + n ≤ 256) (ha : a < 256) (hn : n ≤ 8) :
    Calls Tryz.prog 157 #[.pointer (some ⟨x, 0, none⟩), .pointer (some ⟨p, 0, none⟩)] W1 (Told W1 p a n (vl ((l.take (a + n)).drop a))) := by
  obtain ⟨m1, m2, m3, m4, m5, m6⟩ := M
  exact read_any b p x a n l W1 (hs.keep0 m6) m4 m5 (by omega) m3 han ha hn
theorem part0_fit (l : List UInt8) (v1 v2 : Nat) (h1 : vl ((l.take (0 + 8)).drop 0) = v1) (h2 : vl ((l.take (8 + 2)).drop 8) = v2) : partR l 0 = ⟨v1, (v2 : Nat), [0, 0, 0, 0, 0, 0, 0, 0]⟩ := part_zero l v1 v2 h1 h2
set_option maxRecDepth 100000 in
set_option maxHeartbeats 2000000 in
theorem told_any (b : Nat) (l : List UInt8) (w : World) (hP : Pl w) (hs : Sec w b l) : Calls Tryz.prog 133 #[.pointer (some ⟨b, 0, none⟩)] w fun e w' => e = .returned (RV (readR l)) ∧ w.grownBy w' none := by
  have hll := hs.2
  have hbw : b < w.heap.size := Blk.lt hs.1
  obtain ⟨v1, hv1⟩ : ∃ v, vl ((l.take (0 + 8)).drop 0) = v := ⟨_, rfl⟩
  obtain ⟨v2, hv2⟩ : ∃ v, vl ((l.take (8 + 2)).drop 8) = v := ⟨_, rfl⟩
  have hv2b : v2 < 65536 := by rw [← hv2]; exact vl_two _ _ (by rw [List.length_take]; omega)
  have hw2 : IntKind.i64.wrap (v2 : Int) = (v2 : Int) := IntWalk.i64_in _ (by omega)
  have H1 := Lib.hid hv1
  have H2 := Lib.hid hv2
  have HP := Lib.hid hP
  have HS := Lib.hid hs
  have g0 := gb_alloc w (.cells #[.int .u64 0, .int .i64 0, .int .i64 0, .int .i64 0, .int .i64 0, .int .i64 0, .int .i64 0, .int .i64 0, .int .i64 0, .int .i64 0] 79) none
  have z0 : RB (w.alloc (.cells #[.int .u64 0, .int .i64 0, .int .i64 0, .int .i64 0, .int .i64 0, .int .i64 0, .int .i64 0, .int .i64 0, .int .i64 0, .int .i64 0] 79)) w.heap.size zeroR := Blk.mk w _ _
  clear hv1 hv2 hP hs
  go_enter Tryz.func133, Tryz.ntmps133
  go_wp2_with (first
    | (go_at_call 146; (with_reducible refine (reader_any b 0 0 8 0 _ (HP.out.keep0 g0) rfl (by decide) rfl rfl).mono ?_); rintro e w1 ⟨p1, x1, rfl, M1⟩; have s0 := HS.out.keep0 g0)
    | (go_at_call 157; (with_reducible refine (read_made s0 s0.lt M1 (by decide) (by decide) (by decide)).mono ?_); rintro e w2 ⟨rfl, m2, g2⟩; rw [H1.out]; have gg := gb_step (gb_trans g0 M1.2.2.2.2.2) g2 (Nat.le_trans g0.size M1.1); have zz := RB.keepS (RB.keep0 z0 M1.2.2.2.2.2) g2 (ne_some (by have := M1.1; have := Blk.lt z0; omega)))
    | (go_at_call 146; (with_reducible refine (reader_any b 1 8 2 1 _ (HP.out.keep0 gg) rfl (by decide) rfl rfl).mono ?_); rintro e w3 ⟨p3, x3, rfl, M3⟩; have s2 := HS.out.keep0 gg)
    | (go_at_call 157; (with_reducible refine (read_made s2 s2.lt M3 (by decide) (by decide) (by decide)).mono ?_); rintro e w4 ⟨rfl, m4, g4⟩; rw [H2.out]; have gg4 := gb_step (gb_trans gg M3.2.2.2.2.2) g4 (Nat.le_trans gg.size M3.1); have zz4 := RB.keepS (RB.keep0 zz M3.2.2.2.2.2) g4 (ne_some (by have := M3.1; have := Blk.lt zz; omega)))
    | ((with_reducible refine stN 3 13 ⟨v1, (v2 : Nat), [0, 0, 0, 0, 0, 0, 0, 0]⟩ rfl ?_ ?_ ?_); rfl; rfl; rw [← part0_fit l v1 v2 H1.out H2.out]; have q5 : RB (w4.alloc (.cells (rootC (partR l 0)).toArray 79)) w4.heap.size (partR l 0) := Blk.mk w4 _ _; have zz5 := RB.keep0 zz4 (gb_alloc w4 (.cells (rootC (partR l 0)).toArray 79) none); have gg5 := gb_trans gg4 (gb_alloc w4 (.cells (rootC (partR l 0)).toArray 79) none); generalize w4.alloc (.cells (rootC (partR l 0)).toArray 79) = w5 at q5 zz5 gg5 ⊢)
    | (go_at_call 146; (with_reducible refine (reader_any b 2 10 2 2 _ (HP.out.keep0 gg5) rfl (by decide) rfl rfl).mono ?_); rintro e w6 ⟨p, x, rfl, M6⟩)
    | fail)
  have hpq : w4.heap.size ≠ p := by have := M6.1; have := Blk.lt q5; omega
  have hzp : w.heap.size ≠ p := by have := M6.1; have := Blk.lt zz5; omega
  have hzq : w.heap.size ≠ w4.heap.size := by have := Blk.lt zz4; omega
  have hwp : w.heap.size ≤ p := Nat.le_trans gg5.size M6.1
  have hwq : w.heap.size ≤ w4.heap.size := gg4.size
  have hbp : b ≠ p := by omega
  have hxp := M6.2.2.1
  have q6 := RB.keep0 q5 M6.2.2.2.2.2
  have zz6 := RB.keep0 zz5 M6.2.2.2.2.2
  have gg6 := gb_trans gg5 M6.2.2.2.2.2
  have m6 := M6.2.2.2.1
  have x6 := M6.2.2.2.2.1
  have hxq : x ≠ w4.heap.size := by have := M6.2.1; have := Blk.lt q5; omega
  generalize w4.heap.size = q at q6 hpq hzq hwq hxq ⊢
  clear M6 q5 zz5 gg5 zz4 gg4 m4 g4 M3 s2 gg zz m2 g2 M1 s0 g0 z0
  go_wp2
  go_loopw [16] (fun v wr => ∃ j : Nat, j ≤ 8 ∧ v = .int .i64 j ∧ RB wr q (partR l j) ∧ RB wr w.heap.size zeroR ∧ Plc wr p (10 + 2 * j) 2 ∧ Box wr x b ∧ w.grownBy wr none) (fun v _ => 9 - (intOf v).toNat)
  case atStart => exact ⟨0, by omega, rfl, q6, zz6, m6, x6, gg6⟩
  case round =>
    obtain ⟨j, hj, rfl, r1, b1, m1, x1, g1⟩ := hrel
    by_cases hlt : j < 8
    · have s1 := HS.out.keep0 g1
      obtain ⟨v, hv⟩ : ∃ v, vl ((l.take (12 + 2 * j)).drop (10 + 2 * j)) = v := ⟨_, rfl⟩
      have hvb : v < 65536 := by rw [← hv]; exact vl_two _ _ (by rw [List.length_take]; omega)
      have hvw : IntKind.i64.wrap (v : Int) = (v : Int) := IntWalk.i64_in _ (by omega)
      have HV := Lib.hid (show vl ((l.take (10 + 2 * j + 2)).drop (10 + 2 * j)) = v by rw [← hv]; congr 3; omega)
      have HV2 := Lib.hid hv
      clear hv
      go_wp2_with (first
        | (go_at_call 157; (with_reducible refine (read_any b p x (10 + 2 * j) 2 l _ s1 m1 x1 hbp hxp (by omega) (by omega) (by decide)).mono ?_); rintro e w8 ⟨rfl, m8, g8⟩; rw [HV.out]; have r8 := RB.keepS r1 g8 (ne_some hpq); have b8 := RB.keepS b1 g8 (ne_some hzp); have x8 : Box w8 x b := Blk.keep x1 g8 (ne_some hxp); have gg8 := gb_step g1 g8 hwp; have hcell := r8.chunk j (by rw [part_len]; exact hlt); rw [Nat.add_comm] at hcell; have hfree := Blk.free r8 (2 + j))
        | fail)
      have gs := gb_set w8 q (2 + j) none (.int .i64 (v : Nat))
      have r9 := part_store r8 v HV2.out
      go_roundw
      case rel => exact ⟨j + 1, by omega, by go_num, r9, Blk.keep b8 gs (ne_some hzq), Blk.keep m8 gs (ne_some (fun e => hpq e.symm)), Blk.keep x8 gs (ne_some hxq), gb_step gg8 gs hwq⟩
      case measure => simp [intOf]; omega
    · obtain rfl : j = 8 := by omega
      rw [part_all] at r1
      go_wp2_with (first
        | ((with_reducible refine ld 3 q (readR l) (read_len l) r1 ?_ ?_); rfl)
        | (refine wpList_store_row rfl 79 (.tmp 2) (.tmp 26) rfl w.heap.size (rootC (readR l)).toArray rfl rfl 79 _ b1 (root_info _ (read_len l)) (root_size _ (read_len l)) (root_one _) ?_)
        | fail)
      refine bodyPost_ret (results_c1 rfl _ _ _ (readR l) rfl (set_root b1 _) (read_len l)) rfl ⟨rfl, gb_step g1 (gb_setRow _ _ _) (Nat.le_refl _)⟩
end Go.Proofs.YtliiooldlooagaaGreatDoor.R8

/-
  What the program's own Get answers, over this seat's translation; conditions: the table of places lies as the program's text lays it.
-/
namespace Go.Proofs.YtliiooldlooagaaGreatDoor.R8
open Go.RowKit

theorem bytes_one (l : List UInt8) : ∀ v ∈ bytesC l, v.oneCell' = true := by
  intro v hv
  simp only [bytesC, List.mem_map] at hv
  obtain ⟨b, _, rfl⟩ := hv
  rfl
theorem bytesC_length (l : List UInt8) : (bytesC l).length = l.length := by simp [bytesC]
theorem copy_whole {W : World} {b : Nat} {l : List UInt8} (h : Sec W b l) (s : ByteArray) (hs : s.size = 256) (ty : TypeId) :
    (Builtin.copy_ #[59, 9] ty #[.slice (some ⟨b, 0, none⟩) 256 256, .string s]).run Tryz.prog W = .ok (goInt 256) (W.setRow b (bytesC s.data.toList).toArray) := by
  obtain ⟨cs, hcs⟩ : ∃ cs, cs = bytesC s.data.toList := ⟨_, rfl⟩
  have hsl : s.data.toList.length = 256 := hs
  have hl : cs.length = 256 := by rw [hcs, bytesC_length]; exact hsl
  have hbl : (bytesC l).length = 256 := by rw [bytesC_length]; exact h.2
  have hst := run_storeCells_at Tryz.prog b 0 171 cs 0 (bytesC l).toArray W h.1 (by rw [List.size_toArray, hbl]; omega) (by rw [hcs]; exact bytes_one _)
  have hput : ((bytesC l).toArray.toList.take (0 + 0) ++ cs ++ (bytesC l).toArray.toList.drop (0 + 0 + cs.length)).toArray = (bytesC s.data.toList).toArray := by
    congr 1
    rw [List.drop_of_length_le (by rw [hl]; simp [hbl])]
    simp [hcs]
  rw [hput] at hst
  have htk : List.take (Nat.min s.size 256) (List.map (fun b : UInt8 => Value.int IntKind.u8 (b.toNat : Int)) s.data.toList) = cs := by
    rw [hcs, hs]
    exact List.take_of_length_le (by rw [List.length_map, hsl]; decide)
  have hq : (Tryz.prog.info? 5).map (·.size) = some 1 := by kernel_rfl
  cases hq2 : Tryz.prog.info? 5 with
  | none => simp [hq2] at hq
  | some i =>
    simp [Builtin.copy_, run_underlying Tryz.underlying59, Builtin.lenOf, Builtin.firstCells, sizeOf, typeInfo, hq2]
    rw [htk, hst, hs]
    simp [Result.andThen]
theorem part_byte (l : List UInt8) (k : Nat) (hk : k < l.length) (w : World) : (part 5 (bytesC l).toArray (k * Tryz.prog.cellsOf 5)).run Tryz.prog w = .ok (.int .u8 ((l.getD k 0).toNat : Nat)) w := by
  have h := bytes_at hk
  have hc : Tryz.prog.cellsOf 5 = 1 := by kernel_rfl
  rw [hc, Nat.mul_one]
  simp [part, Tryz.isAgg5, Sem.run_bind, h]
theorem eqItems_bytes (d : Nat) (l r : List UInt8) (hl : l.length = 256) (hr : r.length = 256) (w : World) : ∀ is : List Nat, (∀ k ∈ is, k < 256) → (Op.eqItems (d + 1) 5 (Tryz.prog.cellsOf 5) (bytesC l).toArray (bytesC r).toArray is).run Tryz.prog w = .ok (is.all fun k => l.getD k 0 == r.getD k 0) w
  | [], _ => by simp [Op.eqItems]
  | k :: is, h => by
    have ih := eqItems_bytes d l r hl hr w is (fun x hx => h x (List.mem_cons_of_mem _ hx))
    have hk := h k (List.mem_cons_self ..)
    have he := run_equalIn_int (P := Tryz.prog) (w := w) d 5 .u8 .u8 ((l.getD k 0).toNat : Nat) ((r.getD k 0).toNat : Nat) Tryz.underlying5
    have hb : ((((l.getD k 0).toNat : Nat) : Int) == (((r.getD k 0).toNat : Nat) : Int)) = (l.getD k 0 == r.getD k 0) := by
      rw [Bool.eq_iff_iff, beq_iff_eq, beq_iff_eq, Int.ofNat_inj, UInt8.toNat_inj]
    rw [hb] at he
    simp only [Op.eqItems, Sem.run_bind, part_byte l k (by omega), part_byte r k (by omega), Result.andThen_ok, he, List.all_cons]
    cases l.getD k 0 == r.getD k 0
    · simp
    · simpa using ih
theorem same_bytes (l r : List UInt8) (hl : l.length = 256) (hr : r.length = 256) : ((List.range 256).all fun k => l.getD k 0 == r.getD k 0) = (l == r) := by
  rw [Bool.eq_iff_iff, List.all_eq_true, beq_iff_eq]
  constructor
  · intro h
    refine List.ext_getElem (by omega) fun i h1 h2 => ?_
    have := h i (List.mem_range.2 (by omega))
    rw [beq_iff_eq, List.getD_eq_getElem?_getD, List.getD_eq_getElem?_getD, List.getElem?_eq_getElem h1, List.getElem?_eq_getElem h2] at this
    exact this
  · rintro rfl k _
    exact beq_self_eq_true _
theorem equal_secs (l r : List UInt8) (hl : l.length = 256) (hr : r.length = 256) (w : World) : (Op.equalIn 10000 171 (.agg (bytesC l).toArray) (.agg (bytesC r).toArray)).run Tryz.prog w = .ok (l == r) w := by
  cases hi : Tryz.prog.info? 5 with
  | none => exact absurd hi (by have h : (Tryz.prog.info? 5).isSome = true := by kernel_rfl
                                intro e; rw [e] at h; cases h)
  | some i =>
    rw [show (10000 : Nat) = 9998 + 1 + 1 from rfl, run_equalIn_array w (9998 + 1) _ _ Tryz.underlying171 hi, ← same_bytes l r hl hr]
    exact eqItems_bytes 9998 l r hl hr w _ (fun k hk => List.mem_range.1 hk)
theorem sec_info (l : List UInt8) (h : l.length = 256) : (Tryz.prog.info? 171).map (·.size) = some (bytesC l).toArray.size := by
  rw [List.size_toArray, bytesC_length, h]; kernel_rfl
set_option maxRecDepth 100000 in
set_option maxHeartbeats 2000000 in
theorem get_short (s : ByteArray) (w : World) (hs : s.size ≠ 256) : Calls Tryz.prog 109 #[.string s] w (RootGot w (getF s.data.toList)) := by
  have hne : s.data.toList ≠ zer 256 := fun e => hs (by have := congrArg List.length e; rw [zer_length] at this; exact this)
  have HE := Lib.hid (show getF s.data.toList = (zeroR, 5) by unfold getF; rw [if_neg hne, if_pos (by exact hs)])
  have hs1 : ((s.size : Int) != 256) = true := by simp; omega
  have hb : RB (w.alloc (.cells #[.int .u64 0, .int .i64 0, .int .i64 0, .int .i64 0, .int .i64 0, .int .i64 0, .int .i64 0, .int .i64 0, .int .i64 0, .int .i64 0] 79)) w.heap.size zeroR := Blk.mk w _ _
  clear hs hne
  go_enter Tryz.func109, Tryz.ntmps109
  go_wp2_with (refine wpList_store_row rfl 79 (.tmp 2) (.tmp 11) rfl w.heap.size (rootC zeroR).toArray rfl rfl 79 _ hb (root_info _ zero_len) rfl (root_one _) ?_)
  refine bodyPost_ret (results_ct rfl _ _ _ zeroR rfl (set_root hb _) zero_len) rfl ⟨by rw [HE.out]; rfl, gb_step (gb_alloc _ _ _) (gb_setRow _ _ _) (Nat.le_refl _)⟩
/-- The sector that a text was copied to. -/
theorem copied (w : World) (s : ByteArray) (hs : s.size = 256) : ∃ W b, b = w.heap.size + 1 ∧ (∀ ty, (Builtin.copy_ #[59, 9] ty #[.slice (some ⟨w.heap.size + 1, 0, none⟩) 256 256, .string s]).run Tryz.prog ((w.alloc (.cells #[.int .u64 0, .int .i64 0, .int .i64 0, .int .i64 0, .int .i64 0, .int .i64 0, .int .i64 0, .int .i64 0, .int .i64 0, .int .i64 0] 79)).alloc (.cells (bytesC (zer 256)).toArray 171)) = .ok (goInt 256) W) ∧ Sec W b s.data.toList ∧ RB W w.heap.size zeroR ∧ w.grownBy W none := by
  have k0 : RB (w.alloc (.cells #[.int .u64 0, .int .i64 0, .int .i64 0, .int .i64 0, .int .i64 0, .int .i64 0, .int .i64 0, .int .i64 0, .int .i64 0, .int .i64 0] 79)) w.heap.size zeroR := Blk.mk w _ _
  have g0 := gb_alloc w (.cells #[.int .u64 0, .int .i64 0, .int .i64 0, .int .i64 0, .int .i64 0, .int .i64 0, .int .i64 0, .int .i64 0, .int .i64 0, .int .i64 0] 79) none
  have hsz := World.size_alloc w (.cells #[.int .u64 0, .int .i64 0, .int .i64 0, .int .i64 0, .int .i64 0, .int .i64 0, .int .i64 0, .int .i64 0, .int .i64 0, .int .i64 0] 79)
  generalize w.alloc (.cells #[.int .u64 0, .int .i64 0, .int .i64 0, .int .i64 0, .int .i64 0, .int .i64 0, .int .i64 0, .int .i64 0, .int .i64 0, .int .i64 0] 79) = w1 at k0 g0 hsz ⊢
  have s1 := Sec.mk w1
  have g1 := gb_alloc w1 (.cells (bytesC (zer 256)).toArray 171) none
  rw [hsz] at s1
  refine ⟨_, w.heap.size + 1, rfl, fun ty => copy_whole s1 s hs ty, ⟨setRow_heap _ _ _ _ _ _ s1.1, hs⟩, Blk.keep (RB.keep0 k0 g1) (gb_setRow _ _ _) (ne_some (by omega)), gb_step (gb_trans g0 g1) (gb_setRow _ _ _) (by omega)⟩
set_option maxRecDepth 100000 in
set_option maxHeartbeats 2000000 in
theorem get_blank_any (s : ByteArray) (w : World) (hs : s.data.toList = zer 256) : Calls Tryz.prog 109 #[.string s] w (RootGot w (getF s.data.toList)) := by
  have HE := Lib.hid (show getF s.data.toList = (zeroR, 9) by rw [hs]; rfl)
  have hsz : s.size = 256 := by show s.data.size = 256; rw [← Array.length_toList, hs, zer_length]
  have hs1 : ((s.size : Int) != 256) = false := by simp; omega
  obtain ⟨W, b, hbw, hcp, hsec, hb, hg⟩ := copied w s hsz
  subst hbw
  have hz := zeroSec
  have HI := Lib.hid (sec_info s.data.toList hsec.2)
  have he := fun W => equal_secs s.data.toList (zer 256) hsec.2 (zer_length _) W
  rw [show (s.data.toList == zer 256) = true from by rw [hs]; exact beq_self_eq_true _] at he
  have HB := Lib.hid hsec.1
  have HG := Lib.hid (And.intro hb hg)
  clear hsec hb hg hs
  generalize (bytesC s.data.toList).toArray = C at HI HB he
  go_enter Tryz.func109, Tryz.ntmps109
  go_wp2_with (first
    | (refine wpList_load_row rfl 171 (.tmp 4) rfl (w.heap.size + 1) rfl 171 C (0, 0) _ HB.out Tryz.underlying171 rfl HI.out ?_)
    | (refine wpList_store_row rfl 79 (.tmp 2) (.tmp 18) rfl w.heap.size (rootC zeroR).toArray rfl rfl 79 _ HG.out.1 (root_info _ zero_len) rfl (root_one _) ?_)
    | fail)
  refine bodyPost_ret (results_ct rfl _ _ _ zeroR rfl (set_root HG.out.1 _) zero_len) rfl ⟨by rw [HE.out]; rfl, gb_step HG.out.2 (gb_setRow _ _ _) (Nat.le_refl _)⟩
set_option maxRecDepth 100000 in
set_option maxHeartbeats 4000000 in
theorem get_long (s : ByteArray) (w : World) (hP : Pl w) (hsz : s.size = 256) (hne : s.data.toList ≠ zer 256) : Calls Tryz.prog 109 #[.string s] w (RootGot w (getF s.data.toList)) := by
  have HS := Lib.hid (show getF s.data.toList = if MayR (readR s.data.toList) ∧ putL (readR s.data.toList) = s.data.toList then (readR s.data.toList, 0) else (zeroR, 5) by unfold getF; rw [if_neg hne, if_neg (by rw [show s.data.toList.length = s.size from rfl, hsz]; simp)])
  have hs1 : ((s.size : Int) != 256) = false := by simp; omega
  obtain ⟨W, b, hbw, hcp, hsec, hb, hg⟩ := copied w s hsz
  subst hbw
  have hz := zeroSec
  have HI := Lib.hid (sec_info s.data.toList hsec.2)
  have he := fun W => equal_secs s.data.toList (zer 256) hsec.2 (zer_length _) W
  rw [show (s.data.toList == zer 256) = false from by simpa using hne] at he
  have HT := Lib.hid (told_any (w.heap.size + 1) s.data.toList W (hP.keep0 hg) hsec)
  have HB := Lib.hid hsec.1
  have HG := Lib.hid (And.intro hb hg)
  have HR := Lib.hid (read_len s.data.toList)
  have HP := Lib.hid (fun W (h : Pl W) => put_any (readR s.data.toList) W h (read_fit _))
  have HW := Lib.hid hP
  have HX := Lib.hid (show MayR (readR s.data.toList) ∧ putL (readR s.data.toList) = s.data.toList → ∀ u : ByteArray, u.data.toList = putS (readR s.data.toList) → (u.toList == s.toList) = true from fun h u hu => by rw [beq_text u s _ _ hu rfl]; unfold putS; rw [if_pos h.1, h.2]; exact beq_self_eq_true _)
  have HY := Lib.hid (show ¬ (MayR (readR s.data.toList) ∧ putL (readR s.data.toList) = s.data.toList) → ∀ u : ByteArray, u.data.toList = putS (readR s.data.toList) → (u.toList == s.toList) = false from fun h u hu => by
    rw [beq_text u s _ _ hu rfl]
    unfold putS
    by_cases hm : MayR (readR s.data.toList)
    · rw [if_pos hm]; simpa using fun e => h ⟨hm, e⟩
    · rw [if_neg hm]
      have hl : s.data.toList.length = 256 := hsz
      cases hc : s.data.toList with
      | nil => rw [hc] at hl; cases hl
      | cons a l => rfl)
  clear hsec hb hg hne hP
  generalize (bytesC s.data.toList).toArray = C at HI HB he
  unfold RV at HP HT
  obtain ⟨q, hq⟩ : ∃ q, readR s.data.toList = q := ⟨_, rfl⟩
  rw [hq] at HS HT HR HP HX HY
  clear hq
  by_cases hm : MayR q ∧ putL q = s.data.toList
  · have HE := Lib.hid (show getF s.data.toList = (q, 0) by rw [HS.out, if_pos hm])
    have HQ := Lib.hid (HX.out hm)
    clear hm
    go_enter Tryz.func109, Tryz.ntmps109
    go_wp2_with (first
      | (refine wpList_load_row rfl 171 (.tmp 4) rfl (w.heap.size + 1) rfl 171 C (0, 0) _ HB.out Tryz.underlying171 rfl HI.out ?_)
      | (go_at_call 133; (with_reducible refine (HT.out).mono ?_); rintro e w2 ⟨rfl, g2⟩; have k2 := RB.keep0 HG.out.1 g2; have gg := gb_trans HG.out.2 g2)
      | ((with_reducible refine stN 5 19 q HR.out ?_ ?_ ?_); rfl; rfl; have q3 : RB (w2.alloc (.cells (rootC q).toArray 79)) w2.heap.size q := Blk.mk w2 _ _; have k3 := RB.keep0 k2 (gb_alloc w2 (.cells (rootC q).toArray 79) none); have gg3 := gb_trans gg (gb_alloc w2 (.cells (rootC q).toArray 79) none); generalize w2.alloc (.cells (rootC q).toArray 79) = w3 at q3 k3 gg3 ⊢)
      | ((with_reducible refine ld 5 (w2.heap.size) q HR.out q3 ?_ ?_); rfl)
      | (go_at_call 67; (with_reducible refine (HP.out _ (HW.out.keep0 gg3)).mono ?_); rintro e w4 ⟨u, rfl, hu, g4⟩; have hbq := HQ.out u hu; have q3 := RB.keep0 q3 g4; have k3 := RB.keep0 k3 g4; have gg3 := gb_trans gg3 g4)
      | (refine wpList_store_row rfl 79 (.tmp 2) (.tmp 29) rfl w.heap.size (rootC q).toArray rfl rfl 79 _ k3 (root_info _ HR.out) (root_size _ HR.out) (root_one _) ?_)
      | fail)
    refine bodyPost_ret (results_ct rfl _ _ _ q rfl (set_root k3 _) HR.out) rfl ⟨by rw [HE.out]; rfl, gb_step gg3 (gb_setRow _ _ _) (Nat.le_refl _)⟩
  · have HE := Lib.hid (show getF s.data.toList = (zeroR, 5) by rw [HS.out, if_neg hm])
    have HQ := Lib.hid (HY.out hm)
    clear hm
    go_enter Tryz.func109, Tryz.ntmps109
    go_wp2_with (first
      | (refine wpList_load_row rfl 171 (.tmp 4) rfl (w.heap.size + 1) rfl 171 C (0, 0) _ HB.out Tryz.underlying171 rfl HI.out ?_)
      | (go_at_call 133; (with_reducible refine (HT.out).mono ?_); rintro e w2 ⟨rfl, g2⟩; have k2 := RB.keep0 HG.out.1 g2; have gg := gb_trans HG.out.2 g2)
      | ((with_reducible refine stN 5 19 q HR.out ?_ ?_ ?_); rfl; rfl; have q3 : RB (w2.alloc (.cells (rootC q).toArray 79)) w2.heap.size q := Blk.mk w2 _ _; have k3 := RB.keep0 k2 (gb_alloc w2 (.cells (rootC q).toArray 79) none); have gg3 := gb_trans gg (gb_alloc w2 (.cells (rootC q).toArray 79) none); generalize w2.alloc (.cells (rootC q).toArray 79) = w3 at q3 k3 gg3 ⊢)
      | ((with_reducible refine ld 5 (w2.heap.size) q HR.out q3 ?_ ?_); rfl)
      | (go_at_call 67; (with_reducible refine (HP.out _ (HW.out.keep0 gg3)).mono ?_); rintro e w4 ⟨u, rfl, hu, g4⟩; have hbq := HQ.out u hu; have q3 := RB.keep0 q3 g4; have k3 := RB.keep0 k3 g4; have gg3 := gb_trans gg3 g4)
      | (refine wpList_store_row rfl 79 (.tmp 2) (.tmp 28) rfl w.heap.size (rootC zeroR).toArray rfl rfl 79 _ k3 (root_info _ zero_len) rfl (root_one _) ?_)
      | fail)
    refine bodyPost_ret (results_ct rfl _ _ _ zeroR rfl (set_root k3 _) zero_len) rfl ⟨by rw [HE.out]; rfl, gb_step gg3 (gb_setRow _ _ _) (Nat.le_refl _)⟩
theorem get_any (s : ByteArray) (w : World) (hP : Pl w) : Calls Tryz.prog 109 #[.string s] w (RootGot w (getF s.data.toList)) := by
  by_cases h1 : s.size = 256
  · by_cases h2 : s.data.toList = zer 256
    · exact get_blank_any s w h2
    · exact get_long s w hP h1 h2
  · exact get_short s w h1
end Go.Proofs.YtliiooldlooagaaGreatDoor.R8

/-
  What the program's own Pick and Next answer, over this seat's translation; conditions: the table of places lies as the program's text lays it; for Next that the root's numbers fit.
-/
namespace Go.Proofs.YtliiooldlooagaaGreatDoor.R8
open Go.RowKit

set_option maxRecDepth 100000 in
set_option maxHeartbeats 2000000 in
theorem pick_gt (a b : ByteArray) (x y : Rt) (n m : Nat) (w : World) (hP : Pl w) (ha : getF a.data.toList = (x, n)) (hb : getF b.data.toList = (y, m)) (hlx : x.cs.length = 8) (hly : y.cs.length = 8) (hgt : (x.e : Int) < (y.e : Int)) :
    Calls Tryz.prog 86 #[.string a, .string b] w (PickGot w (y, 1, 0)) := by
  have HA := Lib.hid (fun W (h : Pl W) => get_any a W h)
  have HB := Lib.hid (fun W (h : Pl W) => get_any b W h)
  rw [ha] at HA
  rw [hb] at HB
  have HP := Lib.hid hP
  unfold RootGot RV at HA HB
  have HLx := Lib.hid hlx
  have HLy := Lib.hid hly
  have g0 := gb_alloc w (.cells #[.int .u64 0, .int .i64 0, .int .i64 0, .int .i64 0, .int .i64 0, .int .i64 0, .int .i64 0, .int .i64 0, .int .i64 0, .int .i64 0] 79) none
  have rz : RB (w.alloc (.cells #[.int .u64 0, .int .i64 0, .int .i64 0, .int .i64 0, .int .i64 0, .int .i64 0, .int .i64 0, .int .i64 0, .int .i64 0, .int .i64 0] 79)) w.heap.size zeroR := Blk.mk w _ _
  clear ha hb hP hlx hly
  go_enter Tryz.func86, Tryz.ntmps86
  go_wp2_with (first
    | (go_at_call 109; (with_reducible refine (HA.out _ (HP.out.keep0 g0)).mono ?_); rintro e w1 ⟨rfl, g1⟩; have rz1 := RB.keep0 rz g1; have gz1 := gb_trans g0 g1)
    | ((with_reducible refine stN 7 14 x HLx.out ?_ ?_ ?_); rfl; rfl; have rx : RB (w1.alloc (.cells (rootC x).toArray 79)) w1.heap.size x := Blk.mk w1 _ _; have rz2 := RB.keep0 rz1 (gb_alloc w1 (.cells (rootC x).toArray 79) none); have gz2 := gb_trans gz1 (gb_alloc w1 (.cells (rootC x).toArray 79) none); generalize w1.alloc (.cells (rootC x).toArray 79) = W1 at rx rz2 gz2 ⊢)
    | (go_at_call 109; (with_reducible refine (HB.out _ (HP.out.keep0 gz2)).mono ?_); rintro e w2 ⟨rfl, g2⟩; have rx3 := rx.keep0 g2; have rz3 := rz2.keep0 g2; have gz3 := gb_trans gz2 g2)
    | ((with_reducible refine stN 9 19 y HLy.out ?_ ?_ ?_); rfl; rfl; have ry : RB (w2.alloc (.cells (rootC y).toArray 79)) w2.heap.size y := Blk.mk w2 _ _; have rx4 := RB.keep0 rx3 (gb_alloc w2 (.cells (rootC y).toArray 79) none); have rz4 := RB.keep0 rz3 (gb_alloc w2 (.cells (rootC y).toArray 79) none); have gz4 := gb_trans gz3 (gb_alloc w2 (.cells (rootC y).toArray 79) none); generalize w2.alloc (.cells (rootC y).toArray 79) = W2 at ry rx4 rz4 gz4 ⊢; have cx := rx4.epoch; have cy := ry.epoch)
    | ((with_reducible refine ld 9 (w2.heap.size) y HLy.out ry ?_ ?_); rfl)
    | (refine wpList_store_row rfl 79 (.tmp 4) (.tmp 27) rfl w.heap.size (rootC y).toArray rfl rfl 79 _ rz4 (root_info _ HLy.out) (root_size _ HLy.out) (root_one _) ?_)
    | fail)
  refine bodyPost_ret (results_ctt rfl _ _ _ y rfl (set_root rz4 _) HLy.out) rfl ⟨rfl, gb_step gz4 (gb_setRow _ _ _) (Nat.le_refl _)⟩
set_option maxRecDepth 100000 in
set_option maxHeartbeats 2000000 in
theorem pick_ok (a b : ByteArray) (x y : Rt) (m : Nat) (w : World) (hP : Pl w) (ha : getF a.data.toList = (x, 0)) (hb : getF b.data.toList = (y, m)) (hlx : x.cs.length = 8) (hly : y.cs.length = 8) (hle : ¬ (x.e : Int) < (y.e : Int)) :
    Calls Tryz.prog 86 #[.string a, .string b] w (PickGot w (x, 0, 0)) := by
  have HA := Lib.hid (fun W (h : Pl W) => get_any a W h)
  have HB := Lib.hid (fun W (h : Pl W) => get_any b W h)
  rw [ha] at HA
  rw [hb] at HB
  have HP := Lib.hid hP
  unfold RootGot RV at HA HB
  have HLx := Lib.hid hlx
  have HLy := Lib.hid hly
  have g0 := gb_alloc w (.cells #[.int .u64 0, .int .i64 0, .int .i64 0, .int .i64 0, .int .i64 0, .int .i64 0, .int .i64 0, .int .i64 0, .int .i64 0, .int .i64 0] 79) none
  have rz : RB (w.alloc (.cells #[.int .u64 0, .int .i64 0, .int .i64 0, .int .i64 0, .int .i64 0, .int .i64 0, .int .i64 0, .int .i64 0, .int .i64 0, .int .i64 0] 79)) w.heap.size zeroR := Blk.mk w _ _
  clear ha hb hP hlx hly
  go_enter Tryz.func86, Tryz.ntmps86
  go_wp2_with (first
    | (go_at_call 109; (with_reducible refine (HA.out _ (HP.out.keep0 g0)).mono ?_); rintro e w1 ⟨rfl, g1⟩; have rz1 := RB.keep0 rz g1; have gz1 := gb_trans g0 g1)
    | ((with_reducible refine stN 7 14 x HLx.out ?_ ?_ ?_); rfl; rfl; have rx : RB (w1.alloc (.cells (rootC x).toArray 79)) w1.heap.size x := Blk.mk w1 _ _; have rz2 := RB.keep0 rz1 (gb_alloc w1 (.cells (rootC x).toArray 79) none); have gz2 := gb_trans gz1 (gb_alloc w1 (.cells (rootC x).toArray 79) none); generalize w1.alloc (.cells (rootC x).toArray 79) = W1 at rx rz2 gz2 ⊢)
    | (go_at_call 109; (with_reducible refine (HB.out _ (HP.out.keep0 gz2)).mono ?_); rintro e w2 ⟨rfl, g2⟩; have rx3 := rx.keep0 g2; have rz3 := rz2.keep0 g2; have gz3 := gb_trans gz2 g2)
    | ((with_reducible refine stN 9 19 y HLy.out ?_ ?_ ?_); rfl; rfl; have ry : RB (w2.alloc (.cells (rootC y).toArray 79)) w2.heap.size y := Blk.mk w2 _ _; have rx4 := RB.keep0 rx3 (gb_alloc w2 (.cells (rootC y).toArray 79) none); have rz4 := RB.keep0 rz3 (gb_alloc w2 (.cells (rootC y).toArray 79) none); have gz4 := gb_trans gz3 (gb_alloc w2 (.cells (rootC y).toArray 79) none); generalize w2.alloc (.cells (rootC y).toArray 79) = W2 at ry rx4 rz4 gz4 ⊢; have cx := rx4.epoch; have cy := ry.epoch)
    | ((with_reducible refine ld 7 (w1.heap.size) x HLx.out rx4 ?_ ?_); rfl)
    | (refine wpList_store_row rfl 79 (.tmp 4) (.tmp 31) rfl w.heap.size (rootC x).toArray rfl rfl 79 _ rz4 (root_info _ HLx.out) (root_size _ HLx.out) (root_one _) ?_)
    | fail)
  refine bodyPost_ret (results_ctt rfl _ _ _ x rfl (set_root rz4 _) HLx.out) rfl ⟨rfl, gb_step gz4 (gb_setRow _ _ _) (Nat.le_refl _)⟩
set_option maxRecDepth 100000 in
set_option maxHeartbeats 2000000 in
theorem pick_b1 (a b : ByteArray) (x y : Rt) (m : Nat) (w : World) (hP : Pl w) (ha : getF a.data.toList = (x, 9)) (hb : getF b.data.toList = (y, m)) (hlx : x.cs.length = 8) (hly : y.cs.length = 8) (hle : ¬ (x.e : Int) < (y.e : Int)) :
    Calls Tryz.prog 86 #[.string a, .string b] w (PickGot w (zeroR, -1, 9)) := by
  have HA := Lib.hid (fun W (h : Pl W) => get_any a W h)
  have HB := Lib.hid (fun W (h : Pl W) => get_any b W h)
  rw [ha] at HA
  rw [hb] at HB
  have HP := Lib.hid hP
  unfold RootGot RV at HA HB
  have HLx := Lib.hid hlx
  have HLy := Lib.hid hly
  have g0 := gb_alloc w (.cells #[.int .u64 0, .int .i64 0, .int .i64 0, .int .i64 0, .int .i64 0, .int .i64 0, .int .i64 0, .int .i64 0, .int .i64 0, .int .i64 0] 79) none
  have rz : RB (w.alloc (.cells #[.int .u64 0, .int .i64 0, .int .i64 0, .int .i64 0, .int .i64 0, .int .i64 0, .int .i64 0, .int .i64 0, .int .i64 0, .int .i64 0] 79)) w.heap.size zeroR := Blk.mk w _ _
  clear ha hb hP hlx hly
  go_enter Tryz.func86, Tryz.ntmps86
  go_wp2_with (first
    | (go_at_call 109; (with_reducible refine (HA.out _ (HP.out.keep0 g0)).mono ?_); rintro e w1 ⟨rfl, g1⟩; have rz1 := RB.keep0 rz g1; have gz1 := gb_trans g0 g1)
    | ((with_reducible refine stN 7 14 x HLx.out ?_ ?_ ?_); rfl; rfl; have rx : RB (w1.alloc (.cells (rootC x).toArray 79)) w1.heap.size x := Blk.mk w1 _ _; have rz2 := RB.keep0 rz1 (gb_alloc w1 (.cells (rootC x).toArray 79) none); have gz2 := gb_trans gz1 (gb_alloc w1 (.cells (rootC x).toArray 79) none); generalize w1.alloc (.cells (rootC x).toArray 79) = W1 at rx rz2 gz2 ⊢)
    | (go_at_call 109; (with_reducible refine (HB.out _ (HP.out.keep0 gz2)).mono ?_); rintro e w2 ⟨rfl, g2⟩; have rx3 := rx.keep0 g2; have rz3 := rz2.keep0 g2; have gz3 := gb_trans gz2 g2)
    | ((with_reducible refine stN 9 19 y HLy.out ?_ ?_ ?_); rfl; rfl; have ry : RB (w2.alloc (.cells (rootC y).toArray 79)) w2.heap.size y := Blk.mk w2 _ _; have rx4 := RB.keep0 rx3 (gb_alloc w2 (.cells (rootC y).toArray 79) none); have rz4 := RB.keep0 rz3 (gb_alloc w2 (.cells (rootC y).toArray 79) none); have gz4 := gb_trans gz3 (gb_alloc w2 (.cells (rootC y).toArray 79) none); generalize w2.alloc (.cells (rootC y).toArray 79) = W2 at ry rx4 rz4 gz4 ⊢; have cx := rx4.epoch; have cy := ry.epoch)
    | (refine wpList_store_row rfl 79 (.tmp 4) (.tmp 39) rfl w.heap.size (rootC zeroR).toArray rfl rfl 79 _ rz4 (root_info _ zero_len) rfl (root_one _) ?_)
    | fail)
  refine bodyPost_ret (results_ctt rfl _ _ _ zeroR rfl (set_root rz4 _) zero_len) rfl ⟨rfl, gb_step gz4 (gb_setRow _ _ _) (Nat.le_refl _)⟩
set_option maxRecDepth 100000 in
set_option maxHeartbeats 2000000 in
theorem pick_b2 (a b : ByteArray) (x y : Rt) (w : World) (hP : Pl w) (ha : getF a.data.toList = (x, 5)) (hb : getF b.data.toList = (y, 9)) (hlx : x.cs.length = 8) (hly : y.cs.length = 8) (hle : ¬ (x.e : Int) < (y.e : Int)) :
    Calls Tryz.prog 86 #[.string a, .string b] w (PickGot w (zeroR, -1, 9)) := by
  have HA := Lib.hid (fun W (h : Pl W) => get_any a W h)
  have HB := Lib.hid (fun W (h : Pl W) => get_any b W h)
  rw [ha] at HA
  rw [hb] at HB
  have HP := Lib.hid hP
  unfold RootGot RV at HA HB
  have HLx := Lib.hid hlx
  have HLy := Lib.hid hly
  have g0 := gb_alloc w (.cells #[.int .u64 0, .int .i64 0, .int .i64 0, .int .i64 0, .int .i64 0, .int .i64 0, .int .i64 0, .int .i64 0, .int .i64 0, .int .i64 0] 79) none
  have rz : RB (w.alloc (.cells #[.int .u64 0, .int .i64 0, .int .i64 0, .int .i64 0, .int .i64 0, .int .i64 0, .int .i64 0, .int .i64 0, .int .i64 0, .int .i64 0] 79)) w.heap.size zeroR := Blk.mk w _ _
  clear ha hb hP hlx hly
  go_enter Tryz.func86, Tryz.ntmps86
  go_wp2_with (first
    | (go_at_call 109; (with_reducible refine (HA.out _ (HP.out.keep0 g0)).mono ?_); rintro e w1 ⟨rfl, g1⟩; have rz1 := RB.keep0 rz g1; have gz1 := gb_trans g0 g1)
    | ((with_reducible refine stN 7 14 x HLx.out ?_ ?_ ?_); rfl; rfl; have rx : RB (w1.alloc (.cells (rootC x).toArray 79)) w1.heap.size x := Blk.mk w1 _ _; have rz2 := RB.keep0 rz1 (gb_alloc w1 (.cells (rootC x).toArray 79) none); have gz2 := gb_trans gz1 (gb_alloc w1 (.cells (rootC x).toArray 79) none); generalize w1.alloc (.cells (rootC x).toArray 79) = W1 at rx rz2 gz2 ⊢)
    | (go_at_call 109; (with_reducible refine (HB.out _ (HP.out.keep0 gz2)).mono ?_); rintro e w2 ⟨rfl, g2⟩; have rx3 := rx.keep0 g2; have rz3 := rz2.keep0 g2; have gz3 := gb_trans gz2 g2)
    | ((with_reducible refine stN 9 19 y HLy.out ?_ ?_ ?_); rfl; rfl; have ry : RB (w2.alloc (.cells (rootC y).toArray 79)) w2.heap.size y := Blk.mk w2 _ _; have rx4 := RB.keep0 rx3 (gb_alloc w2 (.cells (rootC y).toArray 79) none); have rz4 := RB.keep0 rz3 (gb_alloc w2 (.cells (rootC y).toArray 79) none); have gz4 := gb_trans gz3 (gb_alloc w2 (.cells (rootC y).toArray 79) none); generalize w2.alloc (.cells (rootC y).toArray 79) = W2 at ry rx4 rz4 gz4 ⊢; have cx := rx4.epoch; have cy := ry.epoch)
    | (refine wpList_store_row rfl 79 (.tmp 4) (.tmp 39) rfl w.heap.size (rootC zeroR).toArray rfl rfl 79 _ rz4 (root_info _ zero_len) rfl (root_one _) ?_)
    | fail)
  refine bodyPost_ret (results_ctt rfl _ _ _ zeroR rfl (set_root rz4 _) zero_len) rfl ⟨rfl, gb_step gz4 (gb_setRow _ _ _) (Nat.le_refl _)⟩
set_option maxRecDepth 100000 in
set_option maxHeartbeats 2000000 in
theorem pick_br (a b : ByteArray) (x y : Rt) (w : World) (hP : Pl w) (ha : getF a.data.toList = (x, 5)) (hb : getF b.data.toList = (y, 5)) (hlx : x.cs.length = 8) (hly : y.cs.length = 8) (hle : ¬ (x.e : Int) < (y.e : Int)) :
    Calls Tryz.prog 86 #[.string a, .string b] w (PickGot w (zeroR, -1, 29)) := by
  have HA := Lib.hid (fun W (h : Pl W) => get_any a W h)
  have HB := Lib.hid (fun W (h : Pl W) => get_any b W h)
  rw [ha] at HA
  rw [hb] at HB
  have HP := Lib.hid hP
  unfold RootGot RV at HA HB
  have HLx := Lib.hid hlx
  have HLy := Lib.hid hly
  have g0 := gb_alloc w (.cells #[.int .u64 0, .int .i64 0, .int .i64 0, .int .i64 0, .int .i64 0, .int .i64 0, .int .i64 0, .int .i64 0, .int .i64 0, .int .i64 0] 79) none
  have rz : RB (w.alloc (.cells #[.int .u64 0, .int .i64 0, .int .i64 0, .int .i64 0, .int .i64 0, .int .i64 0, .int .i64 0, .int .i64 0, .int .i64 0, .int .i64 0] 79)) w.heap.size zeroR := Blk.mk w _ _
  clear ha hb hP hlx hly
  go_enter Tryz.func86, Tryz.ntmps86
  go_wp2_with (first
    | (go_at_call 109; (with_reducible refine (HA.out _ (HP.out.keep0 g0)).mono ?_); rintro e w1 ⟨rfl, g1⟩; have rz1 := RB.keep0 rz g1; have gz1 := gb_trans g0 g1)
    | ((with_reducible refine stN 7 14 x HLx.out ?_ ?_ ?_); rfl; rfl; have rx : RB (w1.alloc (.cells (rootC x).toArray 79)) w1.heap.size x := Blk.mk w1 _ _; have rz2 := RB.keep0 rz1 (gb_alloc w1 (.cells (rootC x).toArray 79) none); have gz2 := gb_trans gz1 (gb_alloc w1 (.cells (rootC x).toArray 79) none); generalize w1.alloc (.cells (rootC x).toArray 79) = W1 at rx rz2 gz2 ⊢)
    | (go_at_call 109; (with_reducible refine (HB.out _ (HP.out.keep0 gz2)).mono ?_); rintro e w2 ⟨rfl, g2⟩; have rx3 := rx.keep0 g2; have rz3 := rz2.keep0 g2; have gz3 := gb_trans gz2 g2)
    | ((with_reducible refine stN 9 19 y HLy.out ?_ ?_ ?_); rfl; rfl; have ry : RB (w2.alloc (.cells (rootC y).toArray 79)) w2.heap.size y := Blk.mk w2 _ _; have rx4 := RB.keep0 rx3 (gb_alloc w2 (.cells (rootC y).toArray 79) none); have rz4 := RB.keep0 rz3 (gb_alloc w2 (.cells (rootC y).toArray 79) none); have gz4 := gb_trans gz3 (gb_alloc w2 (.cells (rootC y).toArray 79) none); generalize w2.alloc (.cells (rootC y).toArray 79) = W2 at ry rx4 rz4 gz4 ⊢; have cx := rx4.epoch; have cy := ry.epoch)
    | (refine wpList_store_row rfl 79 (.tmp 4) (.tmp 40) rfl w.heap.size (rootC zeroR).toArray rfl rfl 79 _ rz4 (root_info _ zero_len) rfl (root_one _) ?_)
    | fail)
  refine bodyPost_ret (results_ctt rfl _ _ _ zeroR rfl (set_root rz4 _) zero_len) rfl ⟨rfl, gb_step gz4 (gb_setRow _ _ _) (Nat.le_refl _)⟩
theorem get_epoch (l : List UInt8) (x : Rt) (n : Nat) (h : getF l = (x, n)) : (n = 0 → x.e ≠ 0) ∧ (n ≠ 0 → x.e = 0) := by
  refine ⟨fun h0 => ?_, fun h0 => ?_⟩
  · have := (get_ok l (by rw [h]; exact h0)).1.1
    rw [h] at this
    exact this
  · rcases get_cases l with h1 | h1 | h1
    · rw [h] at h1; exact absurd h1 h0
    · rw [h] at h1; cases h1; rfl
    · have h1 := h1.1; rw [h] at h1; cases h1; rfl
theorem pick_any (a b : ByteArray) (w : World) (hP : Pl w) : Calls Tryz.prog 86 #[.string a, .string b] w (PickGot w (pickF a.data.toList b.data.toList)) := by
  obtain ⟨x, n, h1, h2, _, h4⟩ := get_parts a.data.toList
  obtain ⟨y, m, k1, k2, _, k4⟩ := get_parts b.data.toList
  obtain ⟨hx0, hx1⟩ := get_epoch _ _ _ h1
  obtain ⟨hy0, hy1⟩ := get_epoch _ _ _ k1
  by_cases hgt : x.e < y.e
  · have hm : m = 0 := by
      rcases Nat.eq_zero_or_pos m with h | h
      · exact h
      · have := hy1 (by omega); omega
    subst hm
    rw [show pickF a.data.toList b.data.toList = (y, 1, 0) by unfold pickF; rw [h1, k1]; simp [hgt]]
    exact pick_gt a b x y n 0 w hP h1 k1 h2 k2 (by omega)
  · have hle : ¬ (x.e : Int) < (y.e : Int) := by omega
    rcases h4 with rfl | rfl | rfl
    · rw [show pickF a.data.toList b.data.toList = (x, 0, 0) by unfold pickF; rw [h1, k1]; simp; omega]
      exact pick_ok a b x y m w hP h1 k1 h2 k2 hle
    · have hxe := hx1 (by decide)
      have hm : m ≠ 0 := fun h => by have := hy0 h; omega
      rcases k4 with rfl | rfl | rfl
      · exact absurd rfl hm
      · rw [show pickF a.data.toList b.data.toList = (zeroR, -1, 29) by unfold pickF; rw [h1, k1]; simp]
        exact pick_br a b x y w hP h1 k1 h2 k2 hle
      · rw [show pickF a.data.toList b.data.toList = (zeroR, -1, 9) by unfold pickF; rw [h1, k1]; simp]
        exact pick_b2 a b x y w hP h1 k1 h2 k2 hle
    · have hxe := hx1 (by decide)
      have hm : m ≠ 0 := fun h => by have := hy0 h; omega
      rw [show pickF a.data.toList b.data.toList = (zeroR, -1, 9) by unfold pickF; rw [h1, k1]; simp [hm]]
      exact pick_b1 a b x y m w hP h1 k1 h2 k2 hle
set_option maxRecDepth 100000 in
set_option maxHeartbeats 2000000 in
theorem next_any (r : Rt) (which : Int) (w : World) (hr : Fit r) : Calls Tryz.prog 56 #[RV r, .int .i64 which] w (NextGot w r which) := by
  have hl := hr.1
  have he := hr.2.1
  have HI := Lib.hid (root_info (nextR r) hl)
  have HO := Lib.hid (root_one (nextR r))
  have HS := Lib.hid (show 10 = (rootC (nextR r)).toArray.size by rw [List.size_toArray, rootC_length (nextR r) hl])
  obtain ⟨v, hv⟩ : ∃ v : Int, ((r.e : Int) + 1) % 18446744073709551616 = v := ⟨_, rfl⟩
  have hv1 : IntKind.u64.wrap ((r.e : Int) + 1) = v := by rw [← hv, IntKind.wrap_u64]
  have hv2 : v = ((r.e + 1) % 18446744073709551616 : Nat) := by rw [← hv]; omega
  have k0 : RB (w.alloc (.cells (rootC r).toArray 79)) w.heap.size r := Blk.mk w _ _
  have HL := Lib.hid hl
  unfold RV
  obtain ⟨C, hC⟩ : ∃ C, (rootC r).toArray = C := ⟨_, rfl⟩
  rw [hC] at k0 ⊢
  clear hr hl hC
  obtain ⟨w1, hw1⟩ : ∃ w1, (w.alloc (.cells C 79)).alloc (.cells #[.int .u64 0, .int .i64 0, .int .i64 0, .int .i64 0, .int .i64 0, .int .i64 0, .int .i64 0, .int .i64 0, .int .i64 0, .int .i64 0] 79) = w1 := ⟨_, rfl⟩
  have k1 : RB w1 w.heap.size r := by rw [← hw1]; exact k0.keep0 (gb_alloc _ _ none)
  have z1 : RB w1 (w.heap.size + 1) zeroR := by rw [← hw1, ← World.size_alloc w (.cells C 79)]; exact Blk.mk (w.alloc (.cells C 79)) 79 (rootC zeroR).toArray
  have g1 : w.grownBy w1 none := by rw [← hw1]; exact gb_trans (gb_alloc _ _ none) (gb_alloc _ _ none)
  have c0 := k1.epoch
  have f0 : w1.frozen? ⟨w.heap.size, 0, none⟩ = false := Blk.free k1 0
  clear k0
  have n1 := next_store k1 v hv2
  have z2 : RB (w1.setCell ⟨w.heap.size, 0, none⟩ (.int .u64 v)) (w.heap.size + 1) zeroR := Blk.keep z1 (gb_set _ _ _ _ _) (ne_some (by omega))
  have g2 : w.grownBy (w1.setCell ⟨w.heap.size, 0, none⟩ (.int .u64 v)) none := gb_step g1 (gb_set _ _ _ _ _) (Nat.le_refl _)
  have HR := Lib.hid (And.intro n1 (And.intro z2 g2))
  obtain ⟨D, hD⟩ : ∃ D, (rootC (nextR r)).toArray = D := ⟨_, rfl⟩
  have HD := Lib.hid hD
  rw [hD] at HI HO HS
  have hn : (w1.setCell ⟨w.heap.size, 0, none⟩ (.int .u64 v)).heap[w.heap.size]? = some (.cells D 79 (0, 0)) := by rw [← hD]; exact n1
  have hz : (w1.setCell ⟨w.heap.size, 0, none⟩ (.int .u64 v)).heap[w.heap.size + 1]? = some (.cells (rootC zeroR).toArray 79 (0, 0)) := z2
  obtain ⟨W2, hW⟩ : ∃ W2, w1.setCell ⟨w.heap.size, 0, none⟩ (.int .u64 v) = W2 := ⟨_, rfl⟩
  rw [hW] at hn hz HR
  clear n1 z2 g2 k1 z1 g1 hD hv2
  have hset := fun (h : RB W2 (w.heap.size + 1) zeroR) => set_root h (nextR r)
  rw [HD.out] at hset
  by_cases h1 : which = 1
  · have HW := Lib.hid (show nextW which = 0 from if_pos (Or.inl h1))
    go_enter Tryz.func56, Tryz.ntmps56
    go_wp2_with (first
      | (refine wpList_load_row rfl 79 (.tmp 2) rfl w.heap.size rfl 79 D (0, 0) _ hn Tryz.underlying79 rfl HI.out ?_)
      | (refine wpList_store_row rfl 79 (.tmp 4) (.tmp 16) rfl (w.heap.size + 1) D rfl rfl 79 _ hz HI.out HS.out HO.out ?_)
      | fail)
    refine bodyPost_ret (results_ct rfl _ _ _ (nextR r) rfl (hset HR.out.2.1) HL.out) rfl ⟨by rw [HW.out]; rfl, gb_step HR.out.2.2 (gb_setRow _ _ _) (by omega)⟩
  by_cases h2 : which = -1
  · have HW := Lib.hid (show nextW which = 0 from if_pos (Or.inr h2))
    go_enter Tryz.func56, Tryz.ntmps56
    go_wp2_with (first
      | (refine wpList_load_row rfl 79 (.tmp 2) rfl w.heap.size rfl 79 D (0, 0) _ hn Tryz.underlying79 rfl HI.out ?_)
      | (refine wpList_store_row rfl 79 (.tmp 4) (.tmp 16) rfl (w.heap.size + 1) D rfl rfl 79 _ hz HI.out HS.out HO.out ?_)
      | fail)
    refine bodyPost_ret (results_ct rfl _ _ _ (nextR r) rfl (hset HR.out.2.1) HL.out) rfl ⟨by rw [HW.out]; rfl, gb_step HR.out.2.2 (gb_setRow _ _ _) (by omega)⟩
  have HW := Lib.hid (show nextW which = 1 from if_neg (fun h => h.elim h1 h2))
  have q1 : (which == 1) = false := by simpa using h1
  have q2 : (which == -1) = false := by simpa using h2
  go_enter Tryz.func56, Tryz.ntmps56
  go_wp2_with (first
    | (refine wpList_load_row rfl 79 (.tmp 2) rfl w.heap.size rfl 79 D (0, 0) _ hn Tryz.underlying79 rfl HI.out ?_)
    | (refine wpList_store_row rfl 79 (.tmp 4) (.tmp 17) rfl (w.heap.size + 1) D rfl rfl 79 _ hz HI.out HS.out HO.out ?_)
    | fail)
  refine bodyPost_ret (results_ct rfl _ _ _ (nextR r) rfl (hset HR.out.2.1) HL.out) rfl ⟨by rw [HW.out]; rfl, gb_step HR.out.2.2 (gb_setRow _ _ _) (by omega)⟩
end Go.Proofs.YtliiooldlooagaaGreatDoor.R8
