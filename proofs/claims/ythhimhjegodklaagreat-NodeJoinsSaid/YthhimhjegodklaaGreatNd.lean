/-
  What rise and total of package node answer, at cells and keys, over this seat's translation; conditions: as many items as a machine's numbers tell, their bytes likewise.
-/
import Derived.Test.YthhimhjegodklaaGreatNc
import Derived.WalkSpells
namespace Go.Proofs.YthhimhjegodklaaGreat.N11
set_option linter.unusedSimpArgs false
set_option linter.unusedVariables false
open Go.RowKit
theorem rise_on {l : List ByteArray} {j : Nat} {a b : ByteArray} (h : riseF (l.take (j + 1)) = true) (ha : l[j]? = some a) (hb : l[j + 1]? = some b) (hlt : ltS a b = true) : riseF (l.take (j + 2)) = true := by
  rw [riseF_iff] at h ⊢
  intro i x y hx hy
  have hi : i + 1 < j + 2 := by
    have := (List.getElem?_eq_some_iff.1 hy).1
    rw [List.length_take] at this; omega
  rcases Nat.lt_or_ge i j with h1 | h1
  · refine h i x y ?_ ?_
    · rw [List.getElem?_take] at hx ⊢; rw [if_pos (by omega)] at hx ⊢; exact hx
    · rw [List.getElem?_take] at hy ⊢; rw [if_pos (by omega)] at hy ⊢; exact hy
  · have e : i = j := by omega
    subst e
    rw [List.getElem?_take, if_pos (by omega), ha] at hx
    rw [List.getElem?_take, if_pos (by omega), hb] at hy
    cases hx; cases hy; exact hlt
theorem rise_not {l : List ByteArray} {j : Nat} {a b : ByteArray} (ha : l[j]? = some a) (hb : l[j + 1]? = some b) (hlt : ltS a b = false) : riseF l = false := by
  rcases h : riseF l with _ | _
  · rfl
  · rw [(riseF_iff l).1 h j a b ha hb] at hlt; cases hlt
theorem rise_one (l : List ByteArray) (h : l.length ≤ 1) : riseF l = true := by
  match l, h with
  | [], _ => rfl
  | [_], _ => rfl
theorem leq_spell (a b : ByteArray) {c : Bool} (h : ltS a b = c) : (Op.bytesLess b.toList a.toList || b.toList == a.toList) = !c := by
  have := leS_not b a; rw [h] at this; exact this
set_option maxRecDepth 100000 in
set_option maxHeartbeats 1000000 in
theorem rise_C (v : Value) (l : List Ce) (w : World) (hv : Ces w v l) (hl : l.length ≤ 1000000000000000000) :
    Calls Tryz.prog 105 #[v, .func (.func 106) #[] #[]] w fun e w' => e = .returned (.bool (riseF (l.map Ce.key))) ∧ w.grownBy w' none := by
  obtain ⟨ao, cap, rfl, hcap, hlen, hnil, hcell⟩ := hv
  have HH := Lib.hid hcell
  have HN := Lib.hid hnil
  clear hcell hnil hlen
  go_enter Tryz.func105, Tryz.ntmps105
  go_wp2
  go_loopw [5] (fun i wr => ∃ j : Nat, i = .int .i64 ((j : Int) + 1) ∧ (j = 0 ∨ j + 1 ≤ l.length) ∧ Hid (riseF ((l.map Ce.key).take (j + 1)) = true) ∧ w.grownBy wr none) (fun i _ => l.length + 1 - (intOf i).toNat)
  case atStart => exact ⟨0, rfl, .inl rfl, Lib.hid (rise_one _ (by rw [List.length_take]; omega)), gb_refl _ _⟩
  case round =>
    obtain ⟨j, rfl, hj, hp, gr⟩ := hrel
    by_cases hlt : j + 1 < l.length
    · have hlt' : (j : Int) + 1 < (l.length : Int) := by omega
      obtain ⟨x, hx⟩ : ∃ x, l[j]? = some x := ⟨_, List.getElem?_eq_getElem (by omega)⟩
      obtain ⟨y, hy⟩ : ∃ y, l[j + 1]? = some y := ⟨_, List.getElem?_eq_getElem hlt⟩
      cases ao with
      | none => have := (HN.out rfl).1; omega
      | some a =>
        obtain ⟨c0, c1, c2, c3⟩ := cat_of (fun j u h => gr.cell (HH.out _ rfl j u h) (by simp)) hx
        obtain ⟨e0, e1, e2, e3⟩ := cat_of (fun j u h => gr.cell (HH.out _ rfl j u h) (by simp)) hy
        have HX := Lib.hid hx
        have HY := Lib.hid hy
        have w1 : IntKind.i64.wrap (j : Int) = (j : Int) := IntWalk.i64_in _ (by omega)
        have hj1 : (j : Int) < (l.length : Int) := by omega
        have hz0 : (0 : Int) ≤ (j : Int) + 1 := by omega
        clear hx hy hj
        rcases hb : ltS x.key y.key with _ | _
        all_goals
          have hq := leq_spell _ _ hb
          have HB := Lib.hid hb
          clear hb
          go_wp2
          refine wp_region_noPanic ?_
          refine wp_region_held_drew (S := fun w' => wr.grownBy w' none) (by kernel_rfl) (gb_drew _ _) (fun hHeld => ?_)
          refine wpAnyH_take (i := 0) (v := ?_) (List.getElem?_toArray.trans rfl) (by kernel_rfl) (by kernel_rfl) (by kernel_rfl) (fun _ _ _ h => h) (Or.inl ⟨by rfl, ?_⟩) hHeld ?_
          rotate_left
          · intro w' hSw; have d0 := hSw.cell c0 (by simp); have f0 := hSw.cell e0 (by simp); have d1 := hSw.cell c1 (by simp); have f1 := hSw.cell e1 (by simp); have d2 := hSw.cell c2 (by simp); have f2 := hSw.cell e2 (by simp); have d3 := hSw.cell c3 (by simp); have f3 := hSw.cell e3 (by simp); go_simp; try with_reducible rfl
          try simp only [Act.put, List.setIfInBounds_toArray, List.set_cons_zero, List.set_cons_succ]
          refine wpAnyH_take (i := 1) (v := ?_) (List.getElem?_toArray.trans rfl) (by kernel_rfl) (by kernel_rfl) (by kernel_rfl) (fun _ _ _ h => h) (Or.inl ⟨by rfl, ?_⟩) hHeld ?_
          rotate_left
          · intro w' hSw; have d0 := hSw.cell c0 (by simp); have f0 := hSw.cell e0 (by simp); have d1 := hSw.cell c1 (by simp); have f1 := hSw.cell e1 (by simp); have d2 := hSw.cell c2 (by simp); have f2 := hSw.cell e2 (by simp); have d3 := hSw.cell c3 (by simp); have f3 := hSw.cell e3 (by simp); go_simp; try with_reducible rfl
          try simp only [Act.put, List.setIfInBounds_toArray, List.set_cons_zero, List.set_cons_succ]
          refine wpAnyH_take (i := 2) (v := ?_) (List.getElem?_toArray.trans rfl) (by kernel_rfl) (by kernel_rfl) (by kernel_rfl) (fun _ _ _ h => h) (Or.inl ⟨by rfl, ?_⟩) hHeld ?_
          rotate_left
          · intro w' hSw; have d0 := hSw.cell c0 (by simp); have f0 := hSw.cell e0 (by simp); have d1 := hSw.cell c1 (by simp); have f1 := hSw.cell e1 (by simp); have d2 := hSw.cell c2 (by simp); have f2 := hSw.cell e2 (by simp); have d3 := hSw.cell c3 (by simp); have f3 := hSw.cell e3 (by simp); go_simp; try with_reducible rfl
          try simp only [Act.put, List.setIfInBounds_toArray, List.set_cons_zero, List.set_cons_succ]
          refine wpAnyH_take (i := 3) (v := ?_) (List.getElem?_toArray.trans rfl) (by kernel_rfl) (by kernel_rfl) (by kernel_rfl) (fun _ _ _ h => h) (Or.inl ⟨by rfl, ?_⟩) hHeld ?_
          rotate_left
          · intro w' hSw; have d0 := hSw.cell c0 (by simp); have f0 := hSw.cell e0 (by simp); have d1 := hSw.cell c1 (by simp); have f1 := hSw.cell e1 (by simp); have d2 := hSw.cell c2 (by simp); have f2 := hSw.cell e2 (by simp); have d3 := hSw.cell c3 (by simp); have f3 := hSw.cell e3 (by simp); go_simp; try with_reducible rfl
          try simp only [Act.put, List.setIfInBounds_toArray, List.set_cons_zero, List.set_cons_succ]
          refine wpAnyH_take (i := 4) (v := ?_) (List.getElem?_toArray.trans rfl) (by kernel_rfl) (by kernel_rfl) (by kernel_rfl) (fun _ _ _ h => h) (Or.inl ⟨by rfl, ?_⟩) hHeld ?_
          rotate_left
          · intro w' hSw; have d0 := hSw.cell c0 (by simp); have f0 := hSw.cell e0 (by simp); have d1 := hSw.cell c1 (by simp); have f1 := hSw.cell e1 (by simp); have d2 := hSw.cell c2 (by simp); have f2 := hSw.cell e2 (by simp); have d3 := hSw.cell c3 (by simp); have f3 := hSw.cell e3 (by simp); go_simp; try with_reducible rfl
          try simp only [Act.put, List.setIfInBounds_toArray, List.set_cons_zero, List.set_cons_succ]
          refine wpAnyH_take (i := 6) (v := ?_) (List.getElem?_toArray.trans rfl) (by kernel_rfl) (by kernel_rfl) (by kernel_rfl) (fun _ _ _ h => h) (Or.inl ⟨by rfl, ?_⟩) hHeld ?_
          rotate_left
          · intro w' hSw; have d0 := hSw.cell c0 (by simp); have f0 := hSw.cell e0 (by simp); have d1 := hSw.cell c1 (by simp); have f1 := hSw.cell e1 (by simp); have d2 := hSw.cell c2 (by simp); have f2 := hSw.cell e2 (by simp); have d3 := hSw.cell c3 (by simp); have f3 := hSw.cell e3 (by simp); go_simp; try with_reducible rfl
          try simp only [Act.put, List.setIfInBounds_toArray, List.set_cons_zero, List.set_cons_succ]
          refine wpAnyH_take (i := 7) (v := ?_) (List.getElem?_toArray.trans rfl) (by kernel_rfl) (by kernel_rfl) (by kernel_rfl) (fun _ _ _ h => h) (Or.inl ⟨by rfl, ?_⟩) hHeld ?_
          rotate_left
          · intro w' hSw; have d0 := hSw.cell c0 (by simp); have f0 := hSw.cell e0 (by simp); have d1 := hSw.cell c1 (by simp); have f1 := hSw.cell e1 (by simp); have d2 := hSw.cell c2 (by simp); have f2 := hSw.cell e2 (by simp); have d3 := hSw.cell c3 (by simp); have f3 := hSw.cell e3 (by simp); go_simp; try with_reducible rfl
          try simp only [Act.put, List.setIfInBounds_toArray, List.set_cons_zero, List.set_cons_succ]
          refine wpAnyH_take (i := 8) (v := ?_) (List.getElem?_toArray.trans rfl) (by kernel_rfl) (by kernel_rfl) (by kernel_rfl) (fun _ _ _ h => h) (Or.inl ⟨by rfl, ?_⟩) hHeld ?_
          rotate_left
          · intro w' hSw; have d0 := hSw.cell c0 (by simp); have f0 := hSw.cell e0 (by simp); have d1 := hSw.cell c1 (by simp); have f1 := hSw.cell e1 (by simp); have d2 := hSw.cell c2 (by simp); have f2 := hSw.cell e2 (by simp); have d3 := hSw.cell c3 (by simp); have f3 := hSw.cell e3 (by simp); go_simp; try with_reducible rfl
          try simp only [Act.put, List.setIfInBounds_toArray, List.set_cons_zero, List.set_cons_succ]
          refine wpAnyH_take (i := 9) (v := ?_) (List.getElem?_toArray.trans rfl) (by kernel_rfl) (by kernel_rfl) (by kernel_rfl) (fun _ _ _ h => h) (Or.inl ⟨by rfl, ?_⟩) hHeld ?_
          rotate_left
          · intro w' hSw; have d0 := hSw.cell c0 (by simp); have f0 := hSw.cell e0 (by simp); have d1 := hSw.cell c1 (by simp); have f1 := hSw.cell e1 (by simp); have d2 := hSw.cell c2 (by simp); have f2 := hSw.cell e2 (by simp); have d3 := hSw.cell c3 (by simp); have f3 := hSw.cell e3 (by simp); go_simp; try with_reducible rfl
          try simp only [Act.put, List.setIfInBounds_toArray, List.set_cons_zero, List.set_cons_succ]
          refine wpAnyH_take (i := 10) (v := ?_) (List.getElem?_toArray.trans rfl) (by kernel_rfl) (by kernel_rfl) (by kernel_rfl) (fun _ _ _ h => h) (Or.inl ⟨by rfl, ?_⟩) hHeld ?_
          rotate_left
          · intro w' hSw; have d0 := hSw.cell c0 (by simp); have f0 := hSw.cell e0 (by simp); have d1 := hSw.cell c1 (by simp); have f1 := hSw.cell e1 (by simp); have d2 := hSw.cell c2 (by simp); have f2 := hSw.cell e2 (by simp); have d3 := hSw.cell c3 (by simp); have f3 := hSw.cell e3 (by simp); go_simp; try with_reducible rfl
          try simp only [Act.put, List.setIfInBounds_toArray, List.set_cons_zero, List.set_cons_succ]
          refine wpAnyH_take (i := 11) (v := ?_) (List.getElem?_toArray.trans rfl) (by kernel_rfl) (by kernel_rfl) (by kernel_rfl) (fun _ _ _ h => h) (Or.inl ⟨by rfl, ?_⟩) hHeld ?_
          rotate_left
          · intro w' hSw; have d0 := hSw.cell c0 (by simp); have f0 := hSw.cell e0 (by simp); have d1 := hSw.cell c1 (by simp); have f1 := hSw.cell e1 (by simp); have d2 := hSw.cell c2 (by simp); have f2 := hSw.cell e2 (by simp); have d3 := hSw.cell c3 (by simp); have f3 := hSw.cell e3 (by simp); go_simp; try with_reducible rfl
          try simp only [Act.put, List.setIfInBounds_toArray, List.set_cons_zero, List.set_cons_succ]
          refine wpAnyH_ready (rs := [5]) (by kernel_rfl) (by simp) ?_
          refine AllReadyH.cons (List.getElem?_toArray.trans rfl) (fun K hK => ?_) AllReadyH.nil
          go_simp
          go_at_call 106
          (with_reducible refine (keyOf_any _ _ _ _ _).mono ?_)
          rintro e w2 ⟨rfl, rfl⟩
          refine hK.out _ _ (gb_trans hHeld (gb_alloc _ _ _)) (fun hHeld => ?_)
          clear hK K
          try simp only [Act.put, List.setIfInBounds_toArray, List.set_cons_zero, List.set_cons_succ]
          refine wpAnyH_ready (rs := [12]) (by kernel_rfl) (by simp) ?_
          refine AllReadyH.cons (List.getElem?_toArray.trans rfl) (fun K hK => ?_) AllReadyH.nil
          go_simp
          go_at_call 106
          (with_reducible refine (keyOf_any _ _ _ _ _).mono ?_)
          rintro e w2 ⟨rfl, rfl⟩
          refine hK.out _ _ (gb_trans hHeld (gb_alloc _ _ _)) (fun hHeld => ?_)
          clear hK K
          try simp only [Act.put, List.setIfInBounds_toArray, List.set_cons_zero, List.set_cons_succ]
          refine wpAnyH_take (i := 13) (v := ?_) (List.getElem?_toArray.trans rfl) (by kernel_rfl) (by kernel_rfl) (by kernel_rfl) (fun _ _ _ h => h) (Or.inl ⟨by rfl, ?_⟩) hHeld ?_
          rotate_left
          · intro w' hSw; have d0 := hSw.cell c0 (by simp); have f0 := hSw.cell e0 (by simp); have d1 := hSw.cell c1 (by simp); have f1 := hSw.cell e1 (by simp); have d2 := hSw.cell c2 (by simp); have f2 := hSw.cell e2 (by simp); have d3 := hSw.cell c3 (by simp); have f3 := hSw.cell e3 (by simp); go_simp; try with_reducible rfl
          try simp only [Act.put, List.setIfInBounds_toArray, List.set_cons_zero, List.set_cons_succ]
          refine wpAnyH_done (by kernel_rfl) ?_ _
          refine NoPanic.normal ?_
          go_wp2
        · go_ret
          exact ⟨ret_b (rise_not (show (l.map Ce.key)[j]? = some (x.key) by simp [HX.out]) (show (l.map Ce.key)[j + 1]? = some (y.key) by simp [HY.out]) HB.out).symm, gb_trans gr hHeld⟩
        · go_roundw
          case rel => exact ⟨j + 1, by go_num, .inr (by omega), Lib.hid (rise_on hp.out (show (l.map Ce.key)[j]? = some (x.key) by simp [HX.out]) (show (l.map Ce.key)[j + 1]? = some (y.key) by simp [HY.out]) HB.out), gb_trans gr hHeld⟩
          case measure => simp [intOf]; omega
    · have hlt' : ¬ (j : Int) + 1 < (l.length : Int) := by omega
      go_wp2
      go_ret
      exact ⟨ret_b (by have h := hp.out; rw [List.take_of_length_le (by first | omega | (simp; omega))] at h; rw [h]), gr⟩
set_option maxRecDepth 100000 in
set_option maxHeartbeats 1000000 in
theorem rise_S (v : Value) (l : List ByteArray) (w : World) (hv : Sts w v l) (hl : l.length ≤ 1000000000000000000) :
    Calls Tryz.prog 126 #[v, .func (.func 127) #[] #[]] w fun e w' => e = .returned (.bool (riseF l)) ∧ w.grownBy w' none := by
  obtain ⟨ao, cap, rfl, hcap, hlen, hnil, hcell⟩ := hv
  have HH := Lib.hid hcell
  have HN := Lib.hid hnil
  clear hcell hnil hlen
  go_enter Tryz.func126, Tryz.ntmps126
  go_wp2
  go_loopw [5] (fun i wr => ∃ j : Nat, i = .int .i64 ((j : Int) + 1) ∧ (j = 0 ∨ j + 1 ≤ l.length) ∧ Hid (riseF (l.take (j + 1)) = true) ∧ w.grownBy wr none) (fun i _ => l.length + 1 - (intOf i).toNat)
  case atStart => exact ⟨0, rfl, .inl rfl, Lib.hid (rise_one _ (by rw [List.length_take]; omega)), gb_refl _ _⟩
  case round =>
    obtain ⟨j, rfl, hj, hp, gr⟩ := hrel
    by_cases hlt : j + 1 < l.length
    · have hlt' : (j : Int) + 1 < (l.length : Int) := by omega
      obtain ⟨x, hx⟩ : ∃ x, l[j]? = some x := ⟨_, List.getElem?_eq_getElem (by omega)⟩
      obtain ⟨y, hy⟩ : ∃ y, l[j + 1]? = some y := ⟨_, List.getElem?_eq_getElem hlt⟩
      cases ao with
      | none => have := (HN.out rfl).1; omega
      | some a =>
        have c0 := gr.cell (HH.out _ rfl j _ (show _ = some (.string x) by simp [strsC, hx])) (by simp)
        have e0 := gr.cell (HH.out _ rfl (j + 1) _ (show _ = some (.string y) by simp [strsC, hy])) (by simp)
        replace e0 : wr.cell? ⟨a.block, a.off + (j + 1), none⟩ = some (.string y) := e0
        have HX := Lib.hid hx
        have HY := Lib.hid hy
        have w1 : IntKind.i64.wrap (j : Int) = (j : Int) := IntWalk.i64_in _ (by omega)
        have hj1 : (j : Int) < (l.length : Int) := by omega
        have hz0 : (0 : Int) ≤ (j : Int) + 1 := by omega
        clear hx hy hj
        rcases hb : ltS x y with _ | _
        all_goals
          have hq := leq_spell _ _ hb
          have HB := Lib.hid hb
          clear hb
          go_wp2
          refine wp_region_noPanic ?_
          refine wp_region_held_drew (S := fun w' => wr.grownBy w' none) (by kernel_rfl) (gb_drew _ _) (fun hHeld => ?_)
          refine wpAnyH_take (i := 0) (v := ?_) (List.getElem?_toArray.trans rfl) (by kernel_rfl) (by kernel_rfl) (by kernel_rfl) (fun _ _ _ h => h) (Or.inl ⟨by rfl, ?_⟩) hHeld ?_
          rotate_left
          · intro w' hSw; have d0 := hSw.cell c0 (by simp); have f0 := hSw.cell e0 (by simp); go_simp; try with_reducible rfl
          try simp only [Act.put, List.setIfInBounds_toArray, List.set_cons_zero, List.set_cons_succ]
          refine wpAnyH_take (i := 1) (v := ?_) (List.getElem?_toArray.trans rfl) (by kernel_rfl) (by kernel_rfl) (by kernel_rfl) (fun _ _ _ h => h) (Or.inl ⟨by rfl, ?_⟩) hHeld ?_
          rotate_left
          · intro w' hSw; have d0 := hSw.cell c0 (by simp); have f0 := hSw.cell e0 (by simp); go_simp; try with_reducible rfl
          try simp only [Act.put, List.setIfInBounds_toArray, List.set_cons_zero, List.set_cons_succ]
          refine wpAnyH_take (i := 2) (v := ?_) (List.getElem?_toArray.trans rfl) (by kernel_rfl) (by kernel_rfl) (by kernel_rfl) (fun _ _ _ h => h) (Or.inl ⟨by rfl, ?_⟩) hHeld ?_
          rotate_left
          · intro w' hSw; have d0 := hSw.cell c0 (by simp); have f0 := hSw.cell e0 (by simp); go_simp; try with_reducible rfl
          try simp only [Act.put, List.setIfInBounds_toArray, List.set_cons_zero, List.set_cons_succ]
          refine wpAnyH_take (i := 3) (v := ?_) (List.getElem?_toArray.trans rfl) (by kernel_rfl) (by kernel_rfl) (by kernel_rfl) (fun _ _ _ h => h) (Or.inl ⟨by rfl, ?_⟩) hHeld ?_
          rotate_left
          · intro w' hSw; have d0 := hSw.cell c0 (by simp); have f0 := hSw.cell e0 (by simp); go_simp; try with_reducible rfl
          try simp only [Act.put, List.setIfInBounds_toArray, List.set_cons_zero, List.set_cons_succ]
          refine wpAnyH_take (i := 4) (v := ?_) (List.getElem?_toArray.trans rfl) (by kernel_rfl) (by kernel_rfl) (by kernel_rfl) (fun _ _ _ h => h) (Or.inl ⟨by rfl, ?_⟩) hHeld ?_
          rotate_left
          · intro w' hSw; have d0 := hSw.cell c0 (by simp); have f0 := hSw.cell e0 (by simp); go_simp; try with_reducible rfl
          try simp only [Act.put, List.setIfInBounds_toArray, List.set_cons_zero, List.set_cons_succ]
          refine wpAnyH_take (i := 6) (v := ?_) (List.getElem?_toArray.trans rfl) (by kernel_rfl) (by kernel_rfl) (by kernel_rfl) (fun _ _ _ h => h) (Or.inl ⟨by rfl, ?_⟩) hHeld ?_
          rotate_left
          · intro w' hSw; have d0 := hSw.cell c0 (by simp); have f0 := hSw.cell e0 (by simp); go_simp; try with_reducible rfl
          try simp only [Act.put, List.setIfInBounds_toArray, List.set_cons_zero, List.set_cons_succ]
          refine wpAnyH_take (i := 7) (v := ?_) (List.getElem?_toArray.trans rfl) (by kernel_rfl) (by kernel_rfl) (by kernel_rfl) (fun _ _ _ h => h) (Or.inl ⟨by rfl, ?_⟩) hHeld ?_
          rotate_left
          · intro w' hSw; have d0 := hSw.cell c0 (by simp); have f0 := hSw.cell e0 (by simp); go_simp; try with_reducible rfl
          try simp only [Act.put, List.setIfInBounds_toArray, List.set_cons_zero, List.set_cons_succ]
          refine wpAnyH_take (i := 8) (v := ?_) (List.getElem?_toArray.trans rfl) (by kernel_rfl) (by kernel_rfl) (by kernel_rfl) (fun _ _ _ h => h) (Or.inl ⟨by rfl, ?_⟩) hHeld ?_
          rotate_left
          · intro w' hSw; have d0 := hSw.cell c0 (by simp); have f0 := hSw.cell e0 (by simp); go_simp; try with_reducible rfl
          try simp only [Act.put, List.setIfInBounds_toArray, List.set_cons_zero, List.set_cons_succ]
          refine wpAnyH_take (i := 9) (v := ?_) (List.getElem?_toArray.trans rfl) (by kernel_rfl) (by kernel_rfl) (by kernel_rfl) (fun _ _ _ h => h) (Or.inl ⟨by rfl, ?_⟩) hHeld ?_
          rotate_left
          · intro w' hSw; have d0 := hSw.cell c0 (by simp); have f0 := hSw.cell e0 (by simp); go_simp; try with_reducible rfl
          try simp only [Act.put, List.setIfInBounds_toArray, List.set_cons_zero, List.set_cons_succ]
          refine wpAnyH_take (i := 10) (v := ?_) (List.getElem?_toArray.trans rfl) (by kernel_rfl) (by kernel_rfl) (by kernel_rfl) (fun _ _ _ h => h) (Or.inl ⟨by rfl, ?_⟩) hHeld ?_
          rotate_left
          · intro w' hSw; have d0 := hSw.cell c0 (by simp); have f0 := hSw.cell e0 (by simp); go_simp; try with_reducible rfl
          try simp only [Act.put, List.setIfInBounds_toArray, List.set_cons_zero, List.set_cons_succ]
          refine wpAnyH_take (i := 11) (v := ?_) (List.getElem?_toArray.trans rfl) (by kernel_rfl) (by kernel_rfl) (by kernel_rfl) (fun _ _ _ h => h) (Or.inl ⟨by rfl, ?_⟩) hHeld ?_
          rotate_left
          · intro w' hSw; have d0 := hSw.cell c0 (by simp); have f0 := hSw.cell e0 (by simp); go_simp; try with_reducible rfl
          try simp only [Act.put, List.setIfInBounds_toArray, List.set_cons_zero, List.set_cons_succ]
          refine wpAnyH_ready (rs := [5]) (by kernel_rfl) (by simp) ?_
          refine AllReadyH.cons (List.getElem?_toArray.trans rfl) (fun K hK => ?_) AllReadyH.nil
          go_simp
          go_at_call 127
          (with_reducible refine (itself_any _ _).mono ?_)
          rintro e w2 ⟨rfl, rfl⟩
          refine hK.out _ _ (hHeld) (fun hHeld => ?_)
          clear hK K
          try simp only [Act.put, List.setIfInBounds_toArray, List.set_cons_zero, List.set_cons_succ]
          refine wpAnyH_ready (rs := [12]) (by kernel_rfl) (by simp) ?_
          refine AllReadyH.cons (List.getElem?_toArray.trans rfl) (fun K hK => ?_) AllReadyH.nil
          go_simp
          go_at_call 127
          (with_reducible refine (itself_any _ _).mono ?_)
          rintro e w2 ⟨rfl, rfl⟩
          refine hK.out _ _ (hHeld) (fun hHeld => ?_)
          clear hK K
          try simp only [Act.put, List.setIfInBounds_toArray, List.set_cons_zero, List.set_cons_succ]
          refine wpAnyH_take (i := 13) (v := ?_) (List.getElem?_toArray.trans rfl) (by kernel_rfl) (by kernel_rfl) (by kernel_rfl) (fun _ _ _ h => h) (Or.inl ⟨by rfl, ?_⟩) hHeld ?_
          rotate_left
          · intro w' hSw; have d0 := hSw.cell c0 (by simp); have f0 := hSw.cell e0 (by simp); go_simp; try with_reducible rfl
          try simp only [Act.put, List.setIfInBounds_toArray, List.set_cons_zero, List.set_cons_succ]
          refine wpAnyH_done (by kernel_rfl) ?_ _
          refine NoPanic.normal ?_
          go_wp2
        · go_ret
          exact ⟨ret_b (rise_not HX.out HY.out HB.out).symm, gb_trans gr hHeld⟩
        · go_roundw
          case rel => exact ⟨j + 1, by go_num, .inr (by omega), Lib.hid (rise_on hp.out HX.out HY.out HB.out), gb_trans gr hHeld⟩
          case measure => simp [intOf]; omega
    · have hlt' : ¬ (j : Int) + 1 < (l.length : Int) := by omega
      go_wp2
      go_ret
      exact ⟨ret_b (by have h := hp.out; rw [List.take_of_length_le (by first | omega | (simp; omega))] at h; rw [h]), gr⟩
set_option maxRecDepth 100000 in
set_option maxHeartbeats 1000000 in
theorem total_C (v : Value) (l : List Ce) (w : World) (hv : Ces w v l) (hl : l.length ≤ 1000000000000000000) (hs : sumF cellSz l ≤ 1000000000000000000) (hz : ∀ x ∈ l, x.key.size ≤ 1000000000000000000 ∧ x.val.size ≤ 1000000000000000000) :
    Calls Tryz.prog 107 #[v, .func (.func 97) #[] #[]] w fun e w' => e = .returned (.int .i64 (sumF cellSz l : Nat)) ∧ w.grownBy w' none := by
  obtain ⟨ao, cap, rfl, hcap, hlen, hnil, hcell⟩ := hv
  have HH := Lib.hid hcell
  have HN := Lib.hid hnil
  have HZ := Lib.hid hz
  clear hcell hnil hlen hz
  go_enter Tryz.func107, Tryz.ntmps107
  go_wp2
  go_loopw [5, 10] (fun s i wr => ∃ k : Nat, k ≤ l.length ∧ i = .int .i64 k ∧ s = .int .i64 (sumF cellSz (l.take k) : Nat) ∧ w.grownBy wr none) (fun _ i _ => l.length - (intOf i).toNat)
  case atStart => exact ⟨0, Nat.zero_le _, rfl, rfl, gb_refl _ _⟩
  case round =>
    obtain ⟨k, hk, rfl, rfl, gr⟩ := hrel
    by_cases hlt : k < l.length
    · obtain ⟨x, hx⟩ : ∃ x, l[k]? = some x := ⟨_, List.getElem?_eq_getElem hlt⟩
      cases ao with
      | none => have := (HN.out rfl).1; omega
      | some a =>
        obtain ⟨c0, c1, c2, c3⟩ := cat_of (fun j u h => gr.cell (HH.out _ rfl j u h) (by simp)) hx
        have HS : Hid (∀ W, Calls Tryz.prog 97 #[.agg #[.string x.key, .string x.val, .int .i64 x.fi, .int .i64 x.lo]] W fun e w2 => e = .returned (.int .i64 (cellSz x : Nat)) ∧ W.grownBy w2 none) := Lib.hid (fun W => by
          have h := HZ.out x (List.mem_of_getElem? hx)
          exact cellSize_any x.key x.val x.fi x.lo W h.1 h.2)
        have HT := Lib.hid (sumF_take cellSz l k x hx)
        have hle : sumF cellSz (l.take k) + cellSz x ≤ 1000000000000000000 := by
          have h2 := sumF_append cellSz (l.take (k + 1)) (l.drop (k + 1))
          rw [List.take_append_drop, HT.out] at h2; omega
        clear hx
        generalize cellSz x = cs at HS HT hle
        generalize sumF cellSz (l.take k) = sm at HT hle ⊢
        go_wp2_with (go_at_call 97; (with_reducible refine (HS.out _).mono ?_); rintro e w1 ⟨rfl, g1⟩)
        go_roundw
        case rel => exact ⟨k + 1, by omega, by go_num, by rw [HT.out]; go_num, gb_trans (gb_trans gr (gb_alloc _ _ _)) g1⟩
        case measure => simp [intOf]; omega
    · go_wp2
      go_ret
      exact ⟨ret_i (by rw [List.take_of_length_le (by omega)]), gr⟩
set_option maxRecDepth 100000 in
set_option maxHeartbeats 1000000 in
theorem total_S (v : Value) (l : List ByteArray) (w : World) (hv : Sts w v l) (hl : l.length ≤ 1000000000000000000) (hs : sumF keySz l ≤ 1000000000000000000) (hz : ∀ x ∈ l, x.size ≤ 1000000000000000000) :
    Calls Tryz.prog 129 #[v, .func (.func 120) #[] #[]] w fun e w' => e = .returned (.int .i64 (sumF keySz l : Nat)) ∧ w.grownBy w' none := by
  obtain ⟨ao, cap, rfl, hcap, hlen, hnil, hcell⟩ := hv
  have HH := Lib.hid hcell
  have HN := Lib.hid hnil
  have HZ := Lib.hid hz
  clear hcell hnil hlen hz
  go_enter Tryz.func129, Tryz.ntmps129
  go_wp2
  go_loopw [5, 10] (fun s i wr => ∃ k : Nat, k ≤ l.length ∧ i = .int .i64 k ∧ s = .int .i64 (sumF keySz (l.take k) : Nat) ∧ w.grownBy wr none) (fun _ i _ => l.length - (intOf i).toNat)
  case atStart => exact ⟨0, Nat.zero_le _, rfl, rfl, gb_refl _ _⟩
  case round =>
    obtain ⟨k, hk, rfl, rfl, gr⟩ := hrel
    by_cases hlt : k < l.length
    · obtain ⟨x, hx⟩ : ∃ x, l[k]? = some x := ⟨_, List.getElem?_eq_getElem hlt⟩
      cases ao with
      | none => have := (HN.out rfl).1; omega
      | some a =>
        have c0 := gr.cell (HH.out _ rfl k _ (show _ = some (.string x) by simp [strsC, hx])) (by simp)
        have HS : Hid (∀ W, Calls Tryz.prog 120 #[.string x] W fun e w2 => e = .returned (.int .i64 (keySz x : Nat)) ∧ W = w2) := Lib.hid (fun W => by
          have h := HZ.out x (List.mem_of_getElem? hx)
          exact keySize_any x W h)
        have HT := Lib.hid (sumF_take keySz l k x hx)
        have hle : sumF keySz (l.take k) + keySz x ≤ 1000000000000000000 := by
          have h2 := sumF_append keySz (l.take (k + 1)) (l.drop (k + 1))
          rw [List.take_append_drop, HT.out] at h2; omega
        clear hx
        generalize keySz x = cs at HS HT hle
        generalize sumF keySz (l.take k) = sm at HT hle ⊢
        go_wp2_with (go_at_call 120; (with_reducible refine (HS.out _).mono ?_); rintro e w1 ⟨rfl, rfl⟩)
        go_roundw
        case rel => exact ⟨k + 1, by omega, by go_num, by rw [HT.out]; go_num, gr⟩
        case measure => simp [intOf]; omega
    · go_wp2
      go_ret
      exact ⟨ret_i (by rw [List.take_of_length_le (by omega)]), gr⟩
end Go.Proofs.YthhimhjegodklaaGreat.N11

