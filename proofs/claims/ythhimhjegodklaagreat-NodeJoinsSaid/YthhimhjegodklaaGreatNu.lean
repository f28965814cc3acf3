/-
  What the calls of a reading for all cells, and for all keys and Kids, answer and leave (cells, keys), over this seat's translation: what plain mathematics reads, or they give up; conditions: the reading lies as it is told, a count of at most 255.
-/
import Derived.Test.YthhimhjegodklaaGreatNt
namespace Go.Proofs.YthhimhjegodklaaGreat.N11
set_option linter.unusedSimpArgs false
set_option linter.unusedVariables false
open Go.RowKit
theorem Kq.row {b g : Nat} {x y : World} {base : Nat} {e : TypeId} {size : Nat} {v : Value} {n : Nat} {xs : List Value} (h : Kq b g x y) (o : x.ownsRow base e size v n xs) (h1 : b < base) (h2 : g < base) : y.ownsRow base e size v n xs := by
  refine ⟨o.1, ?_⟩
  rcases o.2 with h3 | ⟨j, cap, cur, hv, hb, hh, hr⟩
  · exact .inl h3
  · refine .inr ⟨j, cap, cur, hv, hb, ?_, hr⟩
    have hlt : j < x.heap.size := by
      rcases Nat.lt_or_ge j x.heap.size with h4 | h4
      · exact h4
      · rw [Array.getElem?_eq_none h4] at hh; cases hh
    rw [h.block j hlt (by omega) (by omega)]; exact hh
theorem ces_one {w : World} {b : Nat} {t : TypeId} {k v : ByteArray} {f o : Int} (h : Blk w b t #[.string k, .string v, .int .i64 f, .int .i64 o]) : Ces w (.slice (some ⟨b, 0, none⟩) 1 1) [⟨k, v, f, o⟩] := by
  refine ⟨_, 1, rfl, Nat.le_refl _, rfl, fun e => (by cases e), fun a e j u hj => ?_⟩
  cases e
  match j, hj with
  | 0, hj => cases hj; exact h.cell 0 rfl
  | 1, hj => cases hj; exact h.cell 1 rfl
  | 2, hj => cases hj; exact h.cell 2 rfl
  | 3, hj => cases hj; exact h.cell 3 rfl
theorem Kq.stepR {b g : Nat} {x y z : World} {r : Option Nat} (h : Kq b g x y) (k : y.grownBy z r) (hr : ∀ j, r = some j → x.heap.size ≤ j) : Kq b g x z :=
  ⟨k.os.trans h.os, k.tape.trans h.tape, k.output.trans h.output, Nat.le_trans h.size k.size, fun i hi h1 h2 => (k.block i (Nat.lt_of_lt_of_le hi h.size) (fun e => by have := hr i e.symm; omega)).trans (h.block i hi h1 h2)⟩
theorem RG.keepR {w w' : World} {b g : Nat} {r : Option Nat} {s : ByteArray} {l : List UInt8} (h : RG w b g s l) (k : w.grownBy w' r) (hb : some b ≠ r) (hg : some g ≠ r) : RG w' b g s l := by
  obtain ⟨p, bg, h1, h2, h3, h4, h5⟩ := h
  exact ⟨p, bg, h1.keep k hb, h2, h3, h4.keep k hg, h5⟩
def NodeR (b g : Nat) (s : ByteArray) (w : World) : Option (Nd × List UInt8) → Ending → World → Prop
  | some x => fun e w' => ∃ v, e = .returned v ∧ NdV w' v x.1 ∧ RG w' b g s x.2 ∧ Kq b g w w'
  | none => GaveUp b g s w
/-- While cells are read. -/
def CellsI (b g N R base n : Nat) (s : ByteArray) (l : List UInt8) (w : World) (k : Nat) (lst : ByteArray) (wr : World) : Prop :=
  ∃ (pre : List Ce) (rest : List UInt8) (v : Value), Blk wr N 26 #[.bool true, v, .slice none 0 0, .slice none 0 0] ∧ RowC wr base v pre ∧ RG wr b g s rest ∧ Kq b g w wr ∧ Blk wr R 26 #[.bool false, .slice none 0 0, .slice none 0 0, .slice none 0 0] ∧ pre.length = k ∧
    cellsR noS n l = (cellsR lst (n - k) rest).bind fun x => some (pre ++ x.1, x.2)
theorem row_ne {w : World} {base j : Nat} {e : TypeId} {size : Nat} {v : Value} {n : Nat} {xs : List Value} (o : w.ownsRow base e size v n xs) (h : j < base ∨ w.heap.size ≤ j) : some j ≠ v.ownBlock := by
  intro e
  have := o.lt j e.symm
  omega
set_option maxRecDepth 100000 in
set_option maxHeartbeats 2000000 in
theorem cells_any (b g n : Nat) (s : ByteArray) (l : List UInt8) (w : World) (h : RG w b g s l) (hs : s.size ≤ 9223372036854775807) (hn : n ≤ 255) : Calls Tryz.prog 47 #[.pointer (some ⟨g, 0, none⟩), .int .i64 (n : Nat)] w (NodeR b g s w (leafR n l)) := by
  obtain ⟨w0, hw0, kR, kN, g0, hz0⟩ := new2 w 26 #[.bool false, .slice none 0 0, .slice none 0 0, .slice none 0 0] 26 #[.bool true, .slice none 0 0, .slice none 0 0, .slice none 0 0]
  have HW := Lib.hid hw0
  have hgb : b < w.heap.size := h.ltb
  have hgg : g < w.heap.size := h.ltg
  have HI : CellsI b g (w.heap.size + 1) w.heap.size (w.heap.size + 2) n s l w 0 noS w0 := ⟨[], l, _, kN, RowC.nil _ _, h.keep0 g0, Kq.of0 g0, kR, rfl, by rw [Nat.sub_zero]; cases cellsR noS n l <;> rfl⟩
  clear hw0 kR kN g0 h hz0
  go_enter Tryz.func47, Tryz.ntmps47
  go_wp2
  rw [← HW.out]
  go_loopw [6, 10] (fun la i wr => ∃ (k : Nat) (lst : ByteArray), k ≤ n ∧ i = .int .i64 k ∧ la = .string lst ∧ CellsI b g (w.heap.size + 1) w.heap.size (w.heap.size + 2) n s l w k lst wr) (fun _ i _ => n - (intOf i).toNat)
  case atStart => exact ⟨0, noS, Nat.zero_le _, rfl, rfl, HI⟩
  case round =>
    clear HI
    obtain ⟨k, lst, hk, rfl, rfl, hI⟩ := hrel
    obtain ⟨pre, rest, v, kN, hrow, hRG, hKq, kR, hpl, heq⟩ := hI
    obtain ⟨vo, vn, vc, rfl⟩ := shape' hrow.sl
    by_cases hlt : k < n
    · obtain ⟨m, hm⟩ : ∃ m, n - k = m + 1 := ⟨n - k - 1, by omega⟩
      rw [hm, cellsR] at heq
      have hwl : w.heap.size + 2 ≤ wr.heap.size := by have := kN.lt; omega
      have HCG := Lib.hid (cell_any b g s rest wr hRG hs)
      have hne1 : w.heap.size + 1 ≠ b := by omega
      have hne2 : w.heap.size + 1 ≠ g := by omega
      have hne3 : w.heap.size ≠ b := by omega
      have hne4 : w.heap.size ≠ g := by omega
      cases hc : cellR rest with
      | none =>
        rw [hc] at HCG heq
        have HQ : Hid (leafR n l = none) := Lib.hid (by unfold leafR; rw [heq]; rfl)
        have HKQ := Lib.hid hKq
        clear heq hc hrow hRG hKq
        go_wp2_with (go_at_call 52; (with_reducible refine HCG.out.mono ?_); rintro e w2 ⟨pv, l2, rfl, hw, h2, k2⟩)
        rw [HQ.out]
        exact ⟨rfl, pv, l2, rfl, hw, h2, HKQ.out.trans k2⟩
      | some x =>
        obtain ⟨⟨ck, cv, cf, co⟩, rest2⟩ := x
        rw [hc, Option.bind_some] at heq
        rw [hc] at HCG
        try dsimp only at heq
        rcases hb : ltS lst ck with _ | _
        · rw [hb] at heq
          have HQ : Hid (leafR n l = none) := Lib.hid (by unfold leafR; rw [heq]; rfl)
          have hq := leq_spell _ _ hb
          have HKQ := Lib.hid hKq
          clear heq hc hrow hRG hKq hb
          go_wp2_with (first
            | (go_at_call 52; (with_reducible refine HCG.out.mono ?_); rintro e w2 ⟨rfl, h2, k2⟩; try dsimp only)
            | (go_at_call 43; (with_reducible refine (must_no _ _).mono ?_); rintro e wm ⟨rfl, rfl⟩))
          rw [HQ.out]
          have ga := gb_alloc w2 (.cells #[.string ck, .string cv, .int .i64 cf, .int .i64 co] 55) none
          exact ⟨rfl, _, _, rfl, .inr ⟨_, rfl⟩, h2.keep0 ga, (HKQ.out.trans k2).trans (Kq.of0 ga)⟩
        · rw [hb, if_pos rfl] at heq
          have hq := leq_spell _ _ hb
          have HKQ := Lib.hid hKq
          have HEQ := Lib.hid heq
          have HROW := Lib.hid hrow
          have hpl2 : pre.length ≤ 1000000 := by omega
          clear heq hc hrow hRG hKq hb
          go_wp2_with (first
            | (go_at_call 52; (with_reducible refine HCG.out.mono ?_); rintro e w2 ⟨rfl, h2, k2⟩; try dsimp only; have kN2 := k2.blk kN hne1 hne2; have kR2 := k2.blk kR hne3 hne4; have HROW2 := Lib.hid (k2.row HROW.out (by omega) (by omega)); have H2 := Lib.hid h2; have K2 := Lib.hid (HKQ.out.trans k2); have hw2 : w.heap.size + 2 ≤ w2.heap.size := Nat.le_trans hwl k2.size; have hCN : w2.heap.size ≠ w.heap.size + 1 := (by omega); have hCN' : w.heap.size + 1 ≠ w2.heap.size := (by omega); clear h2 k2 kN kR)
            | (go_at_call 43; obtain ⟨uA, hA, kc, gA, hzz⟩ := new1 w2 55 #[.string ck, .string cv, .int .i64 cf, .int .i64 co]; rw [← hA]; clear hA hzz; replace kN2 := kN2.keep0 gA; replace kR2 := kR2.keep0 gA; have HROWA := Lib.hid (RowC.keep0 (show RowC w2 _ _ pre from HROW2.out) gA); have n1 := kN2.cell 1 rfl; have e0 := kc.cell 0 rfl; have e1 := kc.cell 1 rfl; have e2 := kc.cell 2 rfl; have e3 := kc.cell 3 rfl; (with_reducible refine (must_ok _ _).mono ?_); rintro e wm ⟨rfl, rfl⟩)
            | (at_builtin; go_must (obtain ⟨uB, hB, kB, gB, hzz⟩ := new1 uA 55 #[.string ck, .string cv, .int .i64 cf, .int .i64 co]; obtain ⟨v', w', hr, hs', hg'⟩ := row_app_C (HROWA.out.keep0 gB) (ces_one kB) hpl2 (by simp) (Nat.le_trans hw2 (Nat.le_trans gA.size gB.size)) 22; obtain ⟨xo, xn, xc, rfl⟩ := shape' (RowC.sl hs'); rw [← hB]; clear hB hzz n1 e0 e1 e2 e3; have hfN := row_ne (HROWA.out.keep0 gB) (j := w.heap.size + 1) (.inl (by omega)); have hfR := row_ne (HROWA.out.keep0 gB) (j := w.heap.size) (.inl (by omega)); have hfC := row_ne HROW2.out (j := w2.heap.size) (.inr (Nat.le_refl _)); replace kN2 := (kN2.keep0 gB).keep hg' hfN; replace kR2 := (kR2.keep0 gB).keep hg' hfR; replace kc := (kc.keep0 gB).keep hg' hfC; have HROWV := Lib.hid hs'; have HV2 := Lib.hid (RG.keepR ((H2.out.keep0 gA).keep0 gB) hg' (row_ne (HROWA.out.keep0 gB) (.inl (by omega))) (row_ne (HROWA.out.keep0 gB) (.inl (by omega)))); have KV2 := Lib.hid (Kq.stepR ((K2.out.trans (Kq.of0 gA)).trans (Kq.of0 gB)) hg' (fun j e => by have := ((HROWA.out.keep0 gB).lt j e).1; omega)); have HR := Lib.hid hr; clear hr hs' hg' hfN hfR hfC gA gB kB; have n1 := kN2.cell 1 rfl; have f1 := kN2.free 1; have e0 := kc.cell 0 rfl; refine Lib.wpList_append_run _ rfl _ _ _ _ rfl _ _ rfl rfl _ _ HR.out ?_)))
          go_roundw
          case rel =>
            refine ⟨k + 1, ck, by omega, by go_num, rfl, pre ++ [⟨ck, cv, cf, co⟩], rest2, _, kN2.set 1 _, ?_, ?_, ?_, ?_, ?_, ?_⟩
            · exact World.ownsRow.kept HROWV.out (gb_set _ _ _ _ _) (.inr (row_ne HROWV.out (.inl (by omega))).symm)
            · exact HV2.out.keep (gb_set _ _ _ _ _) hne1 hne2
            · exact KV2.out.step (gb_set _ _ _ _ _) (by omega)
            · exact kR2.keep (gb_set _ _ _ _ _) (ne_some (by omega))
            · rw [List.length_append, hpl]; rfl
            · rw [HEQ.out, show n - (k + 1) = m by omega]
              cases cellsR ck m rest2 with
              | none => rfl
              | some x => simp
          case measure => simp [intOf]; omega
    · have hk2 : k = n := by omega
      subst hk2
      rw [Nat.sub_self] at heq
      have HQ : Hid (leafR k l = some (⟨true, pre, [], []⟩, rest)) := Lib.hid (by unfold leafR; rw [heq]; simp [cellsR])
      have n0 := kN.cell 0 rfl
      have n1 := kN.cell 1 rfl
      have n2 := kN.cell 2 rfl
      have n3 := kN.cell 3 rfl
      have HC := Lib.hid hrow.sl
      have HRG := Lib.hid hRG
      have HKQ := Lib.hid hKq
      clear heq hrow hRG hKq
      go_wp2_with ((with_reducible refine st_node rfl w.heap.size 26 ?_ ?_ ?_ ?_ ?_ ?_ ?_ ?_ ?_ ?_ ?_ ?_ _ _ _ _ kR ?_); rotate_left 10; (· rfl); (· rfl); intro w9 n9 g9)
      refine bodyPost_ret (results_c rfl _ _ _ _ _ _ _ rfl n9) rfl ?_
      rw [HQ.out]
      exact ⟨_, rfl, ⟨_, _, _, rfl, HC.out.keepN (Nbl.node kR) g9, Sl.nil _ _, Sl.nil _ _⟩, HRG.out.keep g9 (by omega) (by omega), HKQ.out.step g9 (Nat.le_refl _)⟩
end Go.Proofs.YthhimhjegodklaaGreat.N11

